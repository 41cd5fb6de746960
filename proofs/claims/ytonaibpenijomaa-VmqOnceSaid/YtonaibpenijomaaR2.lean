/- The document's Next. -/
import Derived.Test.YtonaibpenijomaaR1
namespace Go.Proofs.Ytonaibpenijomaa
open Go.RowKit Go.Maps
set_option linter.unusedSimpArgs false
set_option linter.unusedVariables false
set_option maxRecDepth 100000


theorem own_not {w : World} {X base n size : Nat} {cs : Array Value} {t e : TypeId} {v : Value} {xs : List Value} (h : Blk w X cs t) (k : w.ownsRow base e size v n xs) (ht : e ≠ t) : ∀ q, v.ownBlock = some q → q ∉ [X] := fun q hq hm => by
  obtain ⟨cs2, hb⟩ := own_blk k q hq
  simp at hm
  exact ht (hb.type (hm ▸ h))
theorem RI.pop {w : World} {O : List Nat} {X b off off' c : Nat} {vs : Nat → Sl3} {e : En} {S : List En} (h : RI w O X (some ⟨b, off, none⟩) c vs (e :: S)) (ho : S.length = 0 ∨ off' = off + 3) :
    RI (w.setCell ⟨X, 0, none⟩ (.slice (some ⟨b, off', none⟩) S.length (c - 1))) O X (some ⟨b, off', none⟩) (c - 1) (fun j => vs (j + 1)) S := by
  have hc : Chg [X] w (w.setCell ⟨X, 0, none⟩ (.slice (some ⟨b, off', none⟩) S.length (c - 1))) := (Chg.refl _ _).set (p := ⟨X, 0, none⟩) (.inl (by simp)) _
  have hnc := h.nc
  have hcm := h.cm
  simp only [List.length_cons] at hnc
  refine ⟨h.x.set 0 _, by omega, by omega, ?_, fun j hj => ?_, fun j hj => h.wait (j + 1) (by simpa using hj), h.ox, fun k hk => Nat.lt_of_lt_of_le (h.lt k hk) hc.size⟩
  · rcases h.row with ⟨h1, h2⟩ | ⟨b2, off2, cs, h1, h2, h3, h4⟩
    · cases h1
    · cases h1
      refine .inr ⟨b, off', cs, rfl, h2.chg hc (fun q => ?_), ?_, h4⟩
      · simp at q; subst q; exact absurd (h2.type h.x) (by decide)
      · rcases ho with h0 | rfl
        · exact ⟨fun j hj => by omega, fun j hj => by omega, fun j hj => by omega⟩
        · refine ⟨fun j hj => ?_, fun j hj => ?_, fun j hj => ?_⟩
          · have := h3.k (j + 1) (by simpa using hj)
            rw [show off + 3 + j * 3 = off + (j + 1) * 3 by omega]; exact this
          · have := h3.o (j + 1) (by simpa using hj)
            rw [show off + 3 + j * 3 = off + (j + 1) * 3 by omega]; exact this
          · have := h3.v (j + 1) (by simpa using hj)
            rw [show off + 3 + j * 3 = off + (j + 1) * 3 by omega]; exact this
  · have := h.rows (j + 1) (by simpa using hj)
    exact own_chgB this hc (own_not h.x this (by decide))
theorem rnext_none {w : World} {O : List Nat} {X : Nat} (h : RT w O X []) : Calls Try.prog 10 #[.pointer (some ⟨X, 0, none⟩)] w fun e w' => e = .returned (.tuple #[(Value.agg #[.int .i64 0, .int .i64 0, .slice none 0 0]), .bool false]) ∧ Ext w w' := by
  obtain ⟨A, c, vs, h⟩ := h
  have hX0 := Ext.alloc w (.cells #[.int .i64 0, .int .i64 0, .slice none 0 0] 38)
  have rX := (h.x.ext hX0).cell
  have hb := Blk.new w #[.int .i64 0, .int .i64 0, .slice none 0 0] 38
  have rB := hb.cell
  have fB := hb.free
  simp only [List.length_nil] at rX
  go_enter Try.func10, Try.ntmps10
  go_wp2_with fail
  refine bodyPost_ret (v := .tuple #[(Value.agg #[.int .i64 0, .int .i64 0, .slice none 0 0]), .bool false]) (by simp [results, Try.results10, go_sem, *]) rfl ?_
  refine ⟨rfl, ?_⟩
  (repeat (with_reducible refine Ext.set ?_ (by simp) _))
  exact Ext.alloc _ _
theorem rnext_some {w : World} {O : List Nat} {X : Nat} {S : List En} {r : Rq} {l : List Int} (h : RT w O X ((r, l) :: S)) (hlen : S.length ≤ 70000) :
    Calls Try.prog 10 #[.pointer (some ⟨X, 0, none⟩)] w fun e w' => ∃ s, e = .returned (.tuple #[(Value.agg #[.int .i64 r.1, .int .i64 r.2, slV s]), .bool true]) ∧ RowI w' (slV s) l ∧ (∀ k, (slV s).ownBlock = some k → k ∈ O) ∧ RT w' O X S ∧ Chg O w w' := by
  obtain ⟨A, c, vs, h⟩ := h
  obtain ⟨b, off, rfl, hbO, hat⟩ := h.at_ (j := 0) (by simp)
  obtain ⟨k, o⟩ := r
  simp only [List.getElem_cons_zero, Nat.zero_mul, Nat.add_zero, List.length_cons] at hat ⊢
  have hrow := h.rows 0 (by simp)
  obtain ⟨B, cb, es⟩ := own_sl hrow
  simp only [List.getElem_cons_zero] at es hrow
  have ES := hide es
  rw [es] at hat
  have hX0 := Ext.alloc w (.cells #[.int .i64 0, .int .i64 0, .slice none 0 0] 38)
  have rX := h.x.ext hX0
  have hb := Blk.new w #[.int .i64 0, .int .i64 0, .slice none 0 0] 38
  have HI := hide h
  have c0 := fun w' x => (hat w' x).1
  have c1 := fun w' x => (hat w' x).2.1
  have c2 := fun w' x => (hat w' x).2.2
  have n0 : ((S.length : Int) + 1 == 0) = false := by simp; omega
  have hnc : S.length + 1 ≤ c := h.nc
  have hcm := h.cm
  unfold maxLen at hcm
  have hxl := h.x.lt
  simp only [List.length_cons] at rX
  have HRW := hide hrow
  have nX : ¬ X = w.heap.size := by omega
  clear hat h hrow es
  by_cases hc1 : c = 1
  · subst hc1
    go_enter Try.func10, Try.ntmps10
    have k0 := c0 _ hX0
    have k1 := c1 _ hX0
    have k2 := c2 _ hX0
    have kX := rX.cell
    have kf := rX.free
    go_wp2_with fail
    have hs0 : S.length = 0 := by omega
    have hp := HI.out.pop (off' := off) (.inl hs0)
    have hr := own_chgB HRW.out ((Chg.refl [X] w).set (p := ⟨X, 0, none⟩) (.inl (by simp)) (.slice (some ⟨b, off, none⟩) S.length (1 - 1))) (own_not HI.out.x HRW.out (by decide))
    rw [hs0] at hp hr
    have hw := HI.out.wait 0 (by simp)
    refine bodyPost_ret (v := .tuple #[(Value.agg #[.int .i64 k, .int .i64 o, .slice B l.length cb]), .bool true]) (by simp [results, Try.results10, go_sem, *]) rfl ?_
    have hx2 := (Ext.alloc (w.setCell ⟨X, 0, none⟩ (.slice (some ⟨b, off, none⟩) 0 0)) (.cells #[.int .i64 k, .int .i64 o, .slice B l.length cb] 38)).trans (Ext.alloc _ (.cells #[.int .i64 k, .int .i64 o, .slice B l.length cb] 38))
    exact ⟨vs 0, by rw [ES.out], own_ext hr hx2, hw, ⟨_, _, _, hp.ext hx2⟩, ((Chg.refl O w).set (p := ⟨X, 0, none⟩) (.inl HI.out.ox) _).trans (hx2.chg O)⟩
  · have hc2 : ¬ c = 1 := hc1
    go_enter Try.func10, Try.ntmps10
    have k0 := c0 _ hX0
    have k1 := c1 _ hX0
    have k2 := c2 _ hX0
    have kX := rX.cell
    have kf := rX.free
    go_wp2_with fail
    have hp := HI.out.pop (off' := off + 3) (.inr rfl)
    have hr := own_chgB HRW.out ((Chg.refl [X] w).set (p := ⟨X, 0, none⟩) (.inl (by simp)) (.slice (some ⟨b, off + 3, none⟩) S.length (c - 1))) (own_not HI.out.x HRW.out (by decide))
    have hw := HI.out.wait 0 (by simp)
    refine bodyPost_ret (v := .tuple #[(Value.agg #[.int .i64 k, .int .i64 o, .slice B l.length cb]), .bool true]) (by simp [results, Try.results10, go_sem, *]) rfl ?_
    have hx2 := (Ext.alloc (w.setCell ⟨X, 0, none⟩ (.slice (some ⟨b, off + 3, none⟩) S.length (c - 1))) (.cells #[.int .i64 k, .int .i64 o, .slice B l.length cb] 38)).trans (Ext.alloc _ (.cells #[.int .i64 k, .int .i64 o, .slice B l.length cb] 38))
    exact ⟨vs 0, by rw [ES.out], own_ext hr hx2, hw, ⟨_, _, _, hp.ext hx2⟩, ((Chg.refl O w).set (p := ⟨X, 0, none⟩) (.inl HI.out.ox) _).trans (hx2.chg O)⟩
end Go.Proofs.Ytonaibpenijomaa
