/- A table behind a pointer: Take, Free, Flush. -/
import Derived.Test.YtpadepamknbkoaaDoorB5
namespace Go.Proofs.YtpadepamknbkoaaDoor
open Go.RowKit
set_option linter.unusedSimpArgs false
set_option linter.unusedVariables false

theorem own_set {w : World} {base n size g cap j : Nat} {e : TypeId} {xs : List Value} (h : w.ownsRow base e size (.slice (some ⟨g, 0, none⟩) n cap) n xs) (hj : j < n * size) (u : Value) :
    (w.setCell ⟨g, j, none⟩ u).ownsRow base e size (.slice (some ⟨g, 0, none⟩) n cap) n (xs.set j u) := by
  obtain ⟨hl, hh | ⟨g', cap', cur, hv, hb, hh, h3, h4, h5, h6⟩⟩ := h
  · simp at hh
  · simp only [Value.slice.injEq, Option.some.injEq, Addr.mk.injEq, and_true, true_and] at hv
    obtain ⟨rfl, rfl⟩ := hv
    refine ⟨by simpa using hl, .inr ⟨g, cap, cur.setIfInBounds j u, rfl, hb, (Blk.set (show Blk w g cur e from hh) j u), h3, h4, by simpa using h5, ?_⟩⟩
    rw [Array.toList_setIfInBounds, ← h6]
    apply List.ext_getElem?
    intro i
    rw [List.getElem?_take, List.getElem?_set, List.getElem?_set]
    by_cases hi : i < n * size
    · rw [if_pos hi, List.getElem?_take, if_pos hi]
      by_cases e : j = i
      · subst e
        have : j < cur.size := by rw [h5]; exact Nat.lt_of_lt_of_le hj (Nat.mul_le_mul_right _ h3)
        rw [if_pos rfl, if_pos rfl, if_pos (by rw [Array.length_toList]; exact this), if_pos (by rw [List.length_take, Array.length_toList]; omega)]
      · simp [e]
    · rw [if_neg hi, if_neg (by omega), List.getElem?_take, if_neg hi]
section
variable {w w' : World} {B M n b : Nat} {vm : Value} {vo : Nat → Value} {c : Nat → Bool} {l : List (Int × Int)} {ow : Nat → List Nat}
theorem Mem.setCellM {g cap j : Nat} {u : Value} {l' : List (Int × Int)} (h : Mem w B M n b (.slice (some ⟨g, 0, none⟩) l.length cap) vo c l ow) (hj : j < l.length * 2) (he : (pcells l).set j u = pcells l') (hl : l'.length = l.length) :
    Mem (w.setCell ⟨g, j, none⟩ u) B M n b (.slice (some ⟨g, 0, none⟩) l.length cap) vo c l' ow ∧ Kp TP B w (w.setCell ⟨g, j, none⟩ u) := by
  have h1 := own_set h.row hj u
  rw [he] at h1
  rw [← hl] at h1 h ⊢
  have hne := h.offM g rfl
  exact h.putM h1 (h.blk.far (p := ⟨g, j, none⟩) (Ne.symm hne) u) ((Chg.refl _ w).set (p := ⟨g, j, none⟩) (.inl (by simp [Value.ownBlock])) u)
theorem Mem.set0 {g cap k : Nat} {x : Int} (h : Mem w B M n b (.slice (some ⟨g, 0, none⟩) l.length cap) vo c l ow) (hk : k < l.length) :
    Mem (w.setCell ⟨g, k * 2, none⟩ (.int .i64 x)) B M n b (.slice (some ⟨g, 0, none⟩) l.length cap) vo c (l.set k (x, (l[k]).2)) ow ∧ Kp TP B w (w.setCell ⟨g, k * 2, none⟩ (.int .i64 x)) :=
  h.setCellM (by omega) (pcells_set0 l k x hk) (by simp)
theorem Mem.set1 {g cap k : Nat} {x : Int} (h : Mem w B M n b (.slice (some ⟨g, 0, none⟩) l.length cap) vo c l ow) (hk : k < l.length) :
    Mem (w.setCell ⟨g, k * 2 + 1, none⟩ (.int .u32 x)) B M n b (.slice (some ⟨g, 0, none⟩) l.length cap) vo c (l.set k ((l[k]).1, x)) ow ∧ Kp TP B w (w.setCell ⟨g, k * 2 + 1, none⟩ (.int .u32 x)) :=
  h.setCellM (by omega) (pcells_set1 l k x hk) (by simp)
theorem pick_grow {t en : Nat} (h : Mem w B M n b vm vo c l ow) (ht : t < 256) (he : ow t = []) (hk : ∀ j, j < 4096 → c j = false) (hl : l.length < n) (hn : n ≤ 4096) (hb0 : 0 < b) (hb : b ≤ 64) (hen : en = min (l.length + b) n) :
    Calls Tryd.prog 30 #[.pointer (some ⟨M, 0, none⟩), .int .i64 (t : Int)] w fun e w' => ∃ vm' vo', e = .returned (.tuple #[.int .i64 (l.length : Int), .bool true]) ∧ Mem w' B M n b vm' vo' (cG c l.length en) (l ++ List.replicate (en - l.length) (0, 0)) ow ∧ Kp TP B w w' := by
  have r1 := (h.blk.cell (3 + t)).trans (tc_own ht)
  have ho := h.own t ht
  rw [he] at ho
  obtain ⟨A, cap, hv⟩ := own_sl ho
  rw [hv] at r1
  have hl0 : ([] : List Nat).length = 0 := rfl
  rw [hl0] at r1
  have H := hide h
  have HE := hide hen
  clear ho hv he hl0 h hen
  go_enter Tryd.func30, Tryd.ntmps30
  go_wp2_with fail
  refine (least_none H.out hk).mono ?_
  rintro e w1 ⟨rfl, hx⟩
  go_wp2_with fail
  refine (grow_some (H.out.ext hx) hl hn hb0 hb HE.out).mono ?_
  rintro e w2 ⟨vm', rfl, hm, hc⟩
  go_wp2_with fail
  go_ret2
  exact ⟨_, _, rfl, hm, (hx.kp _ _).trans hc⟩
theorem pick_out {t : Nat} (h : Mem w B M n b vm vo c l ow) (ht : t < 256) (he : ow t = []) (hk : ∀ j, j < 4096 → c j = false) (hl : l.length = n) (hn : n ≤ 4096) (hb0 : 0 < b) (hb : b ≤ 64) :
    Calls Tryd.prog 30 #[.pointer (some ⟨M, 0, none⟩), .int .i64 (t : Int)] w fun e w' => e = .returned (.tuple #[.int .i64 0, .bool false]) ∧ Ext w w' := by
  have r1 := (h.blk.cell (3 + t)).trans (tc_own ht)
  have ho := h.own t ht
  rw [he] at ho
  obtain ⟨A, cap, hv⟩ := own_sl ho
  rw [hv] at r1
  have hl0 : ([] : List Nat).length = 0 := rfl
  rw [hl0] at r1
  have H := hide h
  have HL := hide hl
  clear ho hv he hl0 h hl
  go_enter Tryd.func30, Tryd.ntmps30
  go_wp2_with fail
  refine (least_none H.out hk).mono ?_
  rintro e w1 ⟨rfl, hx⟩
  go_wp2_with fail
  refine (grow_none (H.out.ext hx) HL.out hn hb0 hb).mono ?_
  rintro e w2 ⟨rfl, hx2⟩
  go_wp2_with fail
  go_ret2
  exact ⟨rfl, hx.trans hx2⟩
theorem take_arg {z : Int} (h : Mem w B M n b vm vo c l ow) (hn : 0 < n) (hz : ¬ (0 ≤ z ∧ z < 256)) :
    Calls Tryd.prog 15 #[.pointer (some ⟨M, 0, none⟩), .int .i64 z] w fun e w' => e = .returned (.tuple #[.int .i64 0, .int .u32 0, .int .i64 1]) ∧ Ext w w' := by
  have E : mayE z = 1 := if_neg hz
  clear hz
  go_enter Tryd.func15, Tryd.ntmps15
  go_wp2_with fail
  refine (may_in _ h hn).mono ?_
  rw [E]
  rintro e w1 ⟨rfl, rfl⟩
  go_wp2_with fail
  refine bodyPost_ret (v := .tuple #[.int .i64 0, .int .u32 0, .int .i64 1]) (by simp [results, Tryd.results15, go_sem, *]) rfl ⟨rfl, ?_⟩
  exact Ext.refl _
theorem take_none {t : Nat} (h : Mem w B M n b vm vo c l ow) (hn : 0 < n) (ht : t < 256)
    (hp : Calls Tryd.prog 30 #[.pointer (some ⟨M, 0, none⟩), .int .i64 (t : Int)] w fun e w' => e = .returned (.tuple #[.int .i64 0, .bool false]) ∧ Ext w w') :
    Calls Tryd.prog 15 #[.pointer (some ⟨M, 0, none⟩), .int .i64 (t : Int)] w fun e w' => e = .returned (.tuple #[.int .i64 0, .int .u32 0, .int .i64 11]) ∧ Ext w w' := by
  have E : mayE (t : Int) = 0 := if_pos (by omega)
  go_enter Tryd.func15, Tryd.ntmps15
  go_wp2_with fail
  refine (may_in _ h hn).mono ?_
  rw [E]
  rintro e w1 ⟨rfl, rfl⟩
  go_wp2_with fail
  refine hp.mono ?_
  rintro e w2 ⟨rfl, hx⟩
  go_wp2_with fail
  refine bodyPost_ret (v := .tuple #[.int .i64 0, .int .u32 0, .int .i64 11]) (by simp [results, Tryd.results15, go_sem, *]) rfl ⟨rfl, ?_⟩
  exact hx
theorem take_via {t k : Nat} {c' : Nat → Bool} {l' : List (Int × Int)} {ow' : Nat → List Nat} {x : Int × Int} (h : Mem w B M n b vm vo c l ow) (hn : 0 < n) (ht : t < 256) (hx : l'[k]? = some x)
    (hp : Calls Tryd.prog 30 #[.pointer (some ⟨M, 0, none⟩), .int .i64 (t : Int)] w fun e w' => ∃ vm' vo', e = .returned (.tuple #[.int .i64 (k : Int), .bool true]) ∧ Mem w' B M n b vm' vo' c' l' ow' ∧ Kp TP B w w') :
    Calls Tryd.prog 15 #[.pointer (some ⟨M, 0, none⟩), .int .i64 (t : Int)] w fun e w' => ∃ vm' vo', e = .returned (.tuple #[.int .i64 (k : Int), .int .u32 x.2, .int .i64 0]) ∧ Mem w' B M n b vm' vo' c' (l'.set k (1, x.2)) ow' ∧ Kp TP B w w' := by
  have E : mayE (t : Int) = 0 := if_pos (by omega)
  obtain ⟨hk, hx2⟩ := List.getElem?_eq_some_iff.1 hx
  go_enter Tryd.func15, Tryd.ntmps15
  go_wp2_with fail
  refine (may_in _ h hn).mono ?_
  rw [E]
  rintro e w1 ⟨rfl, rfl⟩
  go_wp2_with fail
  refine hp.mono ?_
  rintro e w2 ⟨vm', vo', rfl, hm, hc⟩
  obtain ⟨g, cap, rfl, r⟩ := hm.slot hk
  rw [hx2] at r
  have c0 := (r w2 (Ext.refl w2)).1
  have f0 : w2.frozen? ⟨g, k * 2, none⟩ = false := by
    obtain ⟨cs, hb⟩ := own_blk hm.row g rfl
    exact hb.free _
  have r2 := (hm.blk.cell 2).trans tc_2
  have hs := hm.set0 (x := 1) hk
  rw [hx2] at hs
  have HS := hide hs
  have hlen := hide (show l'.length = (l'.set k (1, x.2)).length by simp)
  clear r hx hs hm hp hx2
  go_wp2_with fail
  generalize w2.setCell ⟨g, k * 2, none⟩ (.int .i64 1) = w3 at *
  obtain ⟨hm, hc3⟩ := HS.out
  have r3 := (hm.blk.cell 2).trans tc_2
  have r4 : w3.cell? ⟨g, k * 2 + 1, none⟩ = some (.int .u32 x.2) := by
    rw [hlen.out] at hm
    obtain ⟨g', cap', hv, r⟩ := hm.slot (k := k) (by simpa using hk)
    cases hv
    have := (r w3 (Ext.refl w3)).2
    rwa [List.getElem_set_self] at this
  have HM := hide hm
  clear c0 f0 r2 HS hm hlen
  go_region
  go_wp2_with fail
  refine bodyPost_ret (v := .tuple #[.int .i64 (k : Int), .int .u32 x.2, .int .i64 0]) (by simp [results, Tryd.results15, go_sem, *]) rfl ?_
  exact ⟨_, _, rfl, HM.out.ext (Ext.drew _), (hc.trans hc3).trans ((Ext.drew _).kp _ _)⟩

theorem free_arg {z y : Int} (h : Mem w B M n b vm vo c l ow) (hn : 0 < n) (hz : ¬ (0 ≤ z ∧ z < 256) ∨ stZ l y ≠ 1) :
    Calls Tryd.prog 11 #[.pointer (some ⟨M, 0, none⟩), .int .i64 z, .int .i64 y] w fun e w' => e = .returned (.int .i64 1) ∧ Ext w w' := by
  by_cases h0 : 0 ≤ z ∧ z < 256
  · have E : mayE z = 0 := if_pos h0
    have D : (stZ l y == 1) = false := by
      rcases hz with q | q
      · exact absurd h0 q
      · simpa using q
    clear hz
    go_enter Tryd.func11, Tryd.ntmps11
    go_wp2_with fail
    refine (may_in _ h hn).mono ?_
    rw [E]
    rintro e w1 ⟨rfl, rfl⟩
    go_wp2_with fail
    refine (used_in _ h).mono ?_
    rw [D]
    rintro e w1 ⟨rfl, rfl⟩
    go_wp2_with fail
    go_ret
    exact ⟨rfl, Ext.refl _⟩
  · have E : mayE z = 1 := if_neg h0
    clear hz h0
    go_enter Tryd.func11, Tryd.ntmps11
    go_wp2_with fail
    refine (may_in _ h hn).mono ?_
    rw [E]
    rintro e w1 ⟨rfl, rfl⟩
    go_wp2_with fail
    go_ret
    exact ⟨rfl, Ext.refl _⟩
theorem free_spent {t k : Nat} {x : Int × Int} (h : Mem w B M n b vm vo c l ow) (hn : 0 < n) (ht : t < 256) (hx : l[k]? = some x) (h1 : x.1 = 1) (h2 : x.2 = 16777215) :
    Calls Tryd.prog 11 #[.pointer (some ⟨M, 0, none⟩), .int .i64 (t : Int), .int .i64 (k : Int)] w fun e w' => e = .returned (.int .i64 0) ∧ Mem w' B M n b vm vo c (l.set k (2, x.2)) ow ∧ Kp TP B w w' := by
  have E : mayE (t : Int) = 0 := if_pos (by omega)
  obtain ⟨hk, hx2⟩ := List.getElem?_eq_some_iff.1 hx
  have D : (stZ l k == 1) = true := by rw [stZ_at hk, hx2, h1]; rfl
  obtain ⟨g, cap, rfl, r⟩ := h.slot hk
  rw [hx2] at r
  have c0 := (r w (Ext.refl w)).1
  have c1 := (r w (Ext.refl w)).2
  have f0 : w.frozen? ⟨g, k * 2, none⟩ = false := by
    obtain ⟨cs, hb⟩ := own_blk h.row g rfl
    exact hb.free _
  have r2 := (h.blk.cell 2).trans tc_2
  have hs := h.set0 (x := 2) hk
  rw [hx2] at hs
  have HS := hide hs
  have H2 := hide h2
  rw [h2] at c1
  clear r hx hs hx2 h1 h2
  go_enter Tryd.func11, Tryd.ntmps11
  go_wp2_with fail
  refine (may_in _ h hn).mono ?_
  rw [E]
  rintro e w1 ⟨rfl, rfl⟩
  go_wp2_with fail
  refine (used_in _ h).mono ?_
  rw [D]
  rintro e w1 ⟨rfl, rfl⟩
  go_wp2_with fail
  go_ret
  exact ⟨rfl, HS.out.1, HS.out.2⟩
set_option maxRecDepth 100000 in
theorem free_via {t k : Nat} {x : Int × Int} {c' : Nat → Bool} {ow' : Nat → List Nat} (h : Mem w B M n b vm vo c l ow) (hn : 0 < n) (ht : t < 256) (hx : l[k]? = some x) (h1 : x.1 = 1) (h0 : 0 ≤ x.2) (h2 : x.2 < 16777215)
    (hp : ∀ w' l', Mem w' B M n b vm vo c l' ow → Calls Tryd.prog 26 #[.pointer (some ⟨M, 0, none⟩), .int .i64 (t : Int), .int .i64 (k : Int)] w' fun e w2 => ∃ vo', e = .returned (.tuple #[]) ∧ Mem w2 B M n b vm vo' c' l' ow' ∧ Kp TP B w' w2) :
    Calls Tryd.prog 11 #[.pointer (some ⟨M, 0, none⟩), .int .i64 (t : Int), .int .i64 (k : Int)] w fun e w' => ∃ vo', e = .returned (.int .i64 0) ∧ Mem w' B M n b vm vo' c' (l.set k (0, x.2 + 1)) ow' ∧ Kp TP B w w' := by
  have E : mayE (t : Int) = 0 := if_pos (by omega)
  obtain ⟨hk, hx2⟩ := List.getElem?_eq_some_iff.1 hx
  have D : (stZ l k == 1) = true := by rw [stZ_at hk, hx2, h1]; rfl
  obtain ⟨g, cap, rfl, r⟩ := h.slot hk
  rw [hx2] at r
  have c0 := (r w (Ext.refl w)).1
  have c1 := (r w (Ext.refl w)).2
  obtain ⟨cs, hb⟩ := own_blk h.row g rfl
  have f0 := hb.free (k * 2)
  have f1 := hb.free (k * 2 + 1)
  have r2 := (h.blk.cell 2).trans tc_2
  have hs := h.set0 (x := 0) hk
  rw [hx2] at hs
  have hl2 : (l.set k (0, x.2)).length = l.length := by simp
  have hk2 : k < (l.set k (0, x.2)).length := by rw [hl2]; exact hk
  have hs1 := hs.1
  rw [← hl2] at hs1
  have hs2 := hs1.set1 (x := x.2 + 1) hk2
  rw [hl2, List.set_set, List.getElem_set_self] at hs2
  have HS := hide (And.intro hs2.1 (hs.2.trans hs2.2))
  have G : ¬ x.2 = 16777215 := by omega
  have W : IntKind.u32.wrap (x.2 + 1) = x.2 + 1 := by rw [IntKind.wrap_u32']; omega
  have W2 : (x.2 + 1) % 4294967296 = x.2 + 1 := by omega
  rw [h1] at c0
  clear r hx hs hx2 h1 hb hl2 hk2 hs1 hs2
  go_enter Tryd.func11, Tryd.ntmps11
  go_wp2_with fail
  refine (may_in _ h hn).mono ?_
  rw [E]
  rintro e w1 ⟨rfl, rfl⟩
  go_wp2_with fail
  refine (used_in _ h).mono ?_
  rw [D]
  rintro e w1 ⟨rfl, rfl⟩
  go_wp2_with fail
  refine (hp _ _ HS.out.1).mono ?_
  rintro e w2 ⟨vo', rfl, hm, hc⟩
  go_wp2_with fail
  go_ret
  exact ⟨_, rfl, hm, HS.out.2.trans hc⟩
theorem flush_arg {z : Int} (h : Mem w B M n b vm vo c l ow) (hn : 0 < n) (hz : ¬ (0 ≤ z ∧ z < 256)) :
    Calls Tryd.prog 13 #[.pointer (some ⟨M, 0, none⟩), .int .i64 z] w fun e w' => e = .returned (.int .i64 0) ∧ Ext w w' := by
  have E : mayE z = 1 := if_neg hz
  clear hz
  go_enter Tryd.func13, Tryd.ntmps13
  go_wp2_with fail
  refine (may_in _ h hn).mono ?_
  rw [E]
  rintro e w1 ⟨rfl, rfl⟩
  go_wp2_with fail
  go_ret
  exact ⟨rfl, Ext.refl _⟩
def cF (c : Nat → Bool) (l : List Nat) (k : Nat) : Bool := c k || decide (k ∈ l)
theorem cF_nil (c : Nat → Bool) : cF c [] = c := by funext k; unfold cF; simp
theorem cF_s (c : Nat → Bool) (l : List Nat) (j : Nat) (hj : j < l.length) : updB (cF c (l.take j)) l[j] true = cF c (l.take (j + 1)) := by
  funext k
  unfold updB cF
  rw [List.take_succ_eq_append_getElem hj]
  generalize l[j] = x
  generalize l.take j = r
  by_cases e : k = x
  · rw [if_pos e]; simp [e]
  · rw [if_neg e]; simp [e]
theorem flush_in {t : Nat} (h : Mem w B M n b vm vo c l ow) (hn : 0 < n) (ht : t < 256) (hl : (ow t).length ≤ 4096) (hlt : ∀ k, k ∈ ow t → k < 4096) :
    Calls Tryd.prog 13 #[.pointer (some ⟨M, 0, none⟩), .int .i64 (t : Int)] w fun e w' => ∃ vo', e = .returned (.int .i64 ((ow t).length : Int)) ∧ Mem w' B M n b vm vo' (cF c (ow t)) l (updO ow t []) ∧ Kp TP B w w' := by
  have E : mayE (t : Int) = 0 := if_pos (by omega)
  have r1 := (h.blk.cell (3 + t)).trans (tc_own ht)
  obtain ⟨A, cap, hv⟩ := own_sl (h.own t ht)
  rw [hv] at r1
  have HV := hide hv
  have H := hide h
  have HLT := hide hlt
  clear hv hlt
  go_enter Tryd.func13, Tryd.ntmps13
  go_wp2_with fail
  refine (may_in _ h hn).mono ?_
  clear h
  rw [E]
  rintro e w1 ⟨rfl, rfl⟩
  go_wp2_with fail
  clear r1
  go_loopw [20] (fun i wr => ∃ j : Nat, j ≤ (ow t).length ∧ i = .int .i64 (j : Int) ∧ Mem wr B M n b vm vo (cF c ((ow t).take j)) l ow ∧ Kp TP B w wr) (fun i _ => (ow t).length - (intOf i).toNat)
  case atStart => exact ⟨0, by omega, rfl, by rw [List.take_zero, cF_nil]; exact H.out, Kp.refl _ _ _⟩
  case round =>
    clear H
    obtain ⟨j, hj, rfl, hm, hc⟩ := hrel
    have HM := hide hm
    have HC := hide hc
    by_cases hlt : j < (ow t).length
    · have ho := hm.own t ht
      rw [HV.out] at ho
      obtain ⟨g, cap', hv2, _, r5⟩ := own_atN ho hlt
      cases hv2
      have hk4 := HLT.out _ (List.getElem_mem hlt)
      have hs := hide (cF_s c (ow t) j hlt)
      clear hm hc ho
      generalize (ow t)[j] = q at *
      go_wp2_with fail
      refine (add_in HM.out hk4).mono ?_
      rintro e w6 ⟨rfl, hm, hc⟩
      rw [hs.out] at hm
      go_wp2_with fail
      go_roundw
      case rel => exact ⟨j + 1, by omega, by go_num, hm, HC.out.trans hc⟩
      case measure => simp [intOf]; omega
    · obtain rfl : j = (ow t).length := by omega
      have r5 := (hm.blk.cell (3 + t)).trans (tc_own ht)
      rw [HV.out] at r5
      have f5 := hm.blk.free (3 + t)
      have hb := hm.blk.set (3 + t) (.slice none 0 0)
      rw [tc_seto ht] at hb
      have hp := hm.putO (xs := []) (v' := .slice none 0 0) ht (own_nil _ _ _ _) hb ((Chg.refl _ wr).set (p := ⟨M, 3 + t, none⟩) (.inl (by simp)) _) (fun k hk => by cases hk)
      rw [List.take_length] at hp
      have HP := hide hp
      clear hm hc hb hp
      go_wp2_with fail
      go_ret
      exact ⟨_, rfl, HP.out.1, HC.out.trans HP.out.2⟩
end
end Go.Proofs.YtpadepamknbkoaaDoor
