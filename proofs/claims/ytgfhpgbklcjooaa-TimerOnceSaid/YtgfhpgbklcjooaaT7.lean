/- What a clock's methods answer, and what they turn. -/
import Derived.Test.YtgfhpgbklcjooaaT6
import Derived.Test.YtgfhpgbklcjooaaTail
namespace Go.Proofs.Ytgfhpgbklcjooaa
open Go.RowKit Go.Maps
set_option linter.unusedSimpArgs false
set_option linter.unusedVariables false

/-- The least alarm; 0: there is none. -/
def NxA (f : Al) (v : Int) : Prop := (v = 0 ∧ ∀ t, f t = 0) ∨ (v ≠ 0 ∧ (∃ t, f t = v) ∧ ∀ t, f t ≠ 0 → v ≤ f t)
theorem NxA.one {f : Al} {v v' : Int} (h : NxA f v) (h' : NxA f v') : v = v' := by
  rcases h with ⟨rfl, h⟩ | ⟨h1, ⟨t, ht⟩, h2⟩ <;> rcases h' with ⟨rfl, h'⟩ | ⟨h1', ⟨t', ht'⟩, h2'⟩
  · rfl
  · exact absurd ((h t').symm.trans ht').symm h1'
  · exact absurd ((h' t).symm.trans ht).symm h1
  · have a := h2 t' (by rw [ht']; exact h1')
    have b := h2' t (by rw [ht]; exact h1)
    omega
def NxP (f : Al) (left : Lit → Bool) (v : Int) : Prop := (v = 0 ∧ ∀ t : Nat, f t ≠ 0 → left (ky (t : Int)) = true) ∨ (v ≠ 0 ∧ (∃ t, f t = v) ∧ ∀ t : Nat, f t ≠ 0 → left (ky (t : Int)) = false → v ≤ f t)
theorem NxP.start {f : Al} {D : DataW Unit} (ok : OkA f) (h : Rep D f) : NxP f (Maps.has D) 0 := by
  refine .inl ⟨rfl, fun t ht => ?_⟩
  have hx : t < 256 := by
    rcases Nat.lt_or_ge t 256 with h2 | h2
    · exact h2
    · exact absurd (ok.th t h2) ht
  rw [h.has t (ky_wf (by omega) (by omega)), ix_nat]
  simpa using ht
theorem NxP.fin {f : Al} {left : Lit → Bool} {v : Int} (h : NxP f left v) (hl : ∀ kl, left kl = false) : NxA f v := by
  rcases h with ⟨h0, h⟩ | ⟨h0, h1, h2⟩
  · refine .inl ⟨h0, fun t => ?_⟩
    by_cases e : f t = 0
    · exact e
    · have := h t e; rw [hl] at this; cases this
  · exact .inr ⟨h0, h1, fun t ht => h2 t ht (hl _)⟩
theorem left_iff (left : Lit → Bool) (t s : Nat) : (left (ky (s : Int)) && !(ky (s : Int)).sameKey (ky (t : Int))) = false ↔ left (ky (s : Int)) = false ∨ s = t := by
  simp only [Bool.and_eq_false_iff, Bool.not_eq_false', sameKy, decide_eq_true_iff]
  constructor
  · rintro (h | h)
    · exact .inl h
    · exact .inr (by omega)
  · rintro (h | h)
    · exact .inl h
    · exact .inr (by omega)
/-- The round's alarm is the least one so far. -/
theorem NxP.take {f : Al} {left : Lit → Bool} {v : Int} {t : Nat} (h : NxP f left v) (hl : left (ky (t : Int)) = true) (h0 : f t ≠ 0) (hlt : v = 0 ∨ f t < v) : NxP f (fun z => left z && !z.sameKey (ky (t : Int))) (f t) := by
  refine .inr ⟨h0, ⟨t, rfl⟩, fun s hs hls => ?_⟩
  rw [left_iff] at hls
  rcases hls with hls | rfl
  · rcases h with ⟨_, h⟩ | ⟨h0, h1, h2⟩
    · have := h s hs; rw [hls] at this; cases this
    · have := h2 s hs hls; omega
  · exact Int.le_refl _
theorem NxP.keep {f : Al} {left : Lit → Bool} {v : Int} {t : Nat} (h : NxP f left v) (hv : v ≠ 0) (hlt : ¬ f t < v) : NxP f (fun z => left z && !z.sameKey (ky (t : Int))) v := by
  rcases h with ⟨h, _⟩ | ⟨h0, h1, h2⟩
  · exact absurd h hv
  · refine .inr ⟨h0, h1, fun s hs hls => ?_⟩
    rw [left_iff] at hls
    rcases hls with hls | rfl
    · exact h2 s hs hls
    · omega
def nz (v : Int) : Bool := v != 0
set_option maxRecDepth 100000 in
theorem next_any {w : World} {C m : Nat} {now : Int} {f : Al} (h : ClkT w C m now f) :
    Calls Try.prog 17 #[.pointer (some ⟨C, 0, none⟩)] w fun e w' => ∃ v, e = .returned (.tuple #[.int .i64 v, .bool (nz v)]) ∧ NxA f v ∧ Ext w w' := by
  have H0 := hide h
  obtain ⟨D, hown, rep⟩ := h.mp
  have hml := hown.lt
  go_enter Try.func17, Try.ntmps17
  go_wp2_with (first
    | (go_at_call 23; refine (all_in H0.out).mono ?_; rintro e w1 ⟨rfl, rfl⟩)
    | (at_range; refine wpList_range_own _ rfl _ 45 rfl 3 2 kI Try.underlying45 (plainElem (H := Unit) Try.prog 2) m 256 D rfl hown ?_; intro w0 hrg0 hg0 hs0)
    | go_in)
  go_frame
  have HX := hide (Ext.grown (Ext.refl _) hg0 (by intro k hk; cases hk))
  clear hg0 hs0
  obtain ⟨r, hr⟩ : ∃ r, r = w.heap.size := ⟨_, rfl⟩
  rw [← hr] at hrg0 ⊢
  have HR := hide hr
  clear hr
  go_loopw [4, 5] (fun v i wr => ∃ (left : Lit → Bool) (cnt : Nat) (x : Int), v = .int .i64 x ∧ i = .bool (nz x) ∧ wr.ranges Try.prog 3 (plainElem (H := Unit) Try.prog 2) m r 256 D left cnt ∧ NxP f left x ∧ Ext w wr) (fun _ _ wr => wr.rangeLeft m r)
  case atStart => exact ⟨_, _, 0, rfl, rfl, hrg0, NxP.start H0.out.ok rep, HX.out⟩
  case round =>
    clear hrg0
    obtain ⟨left, cnt, v, rfl, rfl, hrg, hC, hX⟩ := hrel
    go_wp2_with (first
      | (at_next; refine wpList_next_ranges_ii _ rfl _ rfl 3 2 .i64 .i64 kI Try.underlying3 Try.underlying2 m r 256 D left cnt rfl hrg ?_ ?_)
      | go_in)
    · intro hc0 hl0
      go_wp2_with fail
      go_ret2
      exact ⟨v, by simp, hC.fin hl0, hX⟩
    · intro x c w2 cnt2 hwx hwc hlx hat hrg2 hlt hg2 hs2 hen
      have r1 := HR.out
      have hX2 := Ext.grown hX hg2 (by intro k hk; cases hk; omega)
      have hne0 : ix f x ≠ 0 := by
        have hh : Maps.has D (ky x) = true := Maps.has_true_of_atKey hat
        rw [rep.has x hwx] at hh
        simpa using hh
      have hc : c = ix f x := by
        have q := (rep.val x hwx hne0 .nil).symm.trans (hat .nil)
        simp only [DataW.lit.injEq, Lit.int.injEq, true_and] at q
        exact q.symm
      obtain ⟨t, rfl⟩ : ∃ t : Nat, x = (t : Int) := by
        rcases Int.lt_or_le x 0 with q | q
        · exact absurd (ix_neg f q) hne0
        · exact ⟨x.toNat, by omega⟩
      rw [ix_nat] at hne0 hc
      subst hc
      have HL := hide hlx
      have HG := hide hrg
      have HR2 := hide hrg2
      have HE := hide hne0
      have HT := hide (show nz (f t) = true by simpa [nz] using hne0)
      clear hs2 hg2 hat hrg hrg2 hlx hwc hwx hown r1 hne0
      by_cases hv : v = 0
      · have hb : nz v = false := by rw [hv]; rfl
        go_wp2_with fail
        go_roundw
        case rel => exact ⟨_, cnt2, f t, rfl, by rw [HT.out], HR2.out, hC.take HL.out HE.out (.inl hv), hX2⟩
        case measure => rw [HR2.out.left_eq, HG.out.left_eq]; exact hlt
      · have hb : nz v = true := by simpa [nz] using hv
        by_cases hlt2 : f t < v
        · go_wp2_with fail
          go_roundw
          case rel => exact ⟨_, cnt2, f t, rfl, by rw [HT.out], HR2.out, hC.take HL.out HE.out (.inr hlt2), hX2⟩
          case measure => rw [HR2.out.left_eq, HG.out.left_eq]; exact hlt
        · go_wp2_with fail
          go_roundw
          case rel => exact ⟨_, cnt2, v, rfl, by rw [hb], HR2.out, hC.keep hv hlt2, hX2⟩
          case measure => rw [HR2.out.left_eq, HG.out.left_eq]; exact hlt
/-- A nil map: no round. -/
theorem next_nob {p : Value} {w : World} (h : Nob w p) : Calls Try.prog 17 #[p] w fun e w' => e = .returned (.tuple #[.int .i64 0, .bool false]) ∧ Ext w w' := by
  have hrg := run_range_nilMap (P := Try.prog) w 45 3 2 Try.underlying45
  have hnx : ∀ ty, (Instr.next (.pointer (some ⟨w.heap.size, 0, none⟩)) false ty).run Try.prog (w.alloc (.mapIter none 0 #[] 0)) = _ := fun ty => run_next_nilMap w ty 0 0 #[]
  go_enter Try.func17, Try.ntmps17
  go_wp2_with fail
  refine (all_nob h).mono ?_
  rintro e w1 ⟨rfl, rfl⟩
  go_wp2_with fail
  refine wp_loop_rounds 1 ?_
  rw [rounds_succ]
  go_wp2
  go_ret2
  exact ⟨by simp, Ext.alloc _ _⟩
end Go.Proofs.Ytgfhpgbklcjooaa
