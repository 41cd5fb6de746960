/- What the laws of layer 7 share: a clock that is alive; steps that are not too many; the same lists. -/
import Derived.Test.YtgfhpgbklcjooaaT9
namespace Go.Proofs.Ytgfhpgbklcjooaa
open Go.RowKit Go.Maps
set_option linter.unusedSimpArgs false
set_option linter.unusedVariables false

def f2 : Al := upd (upd noA 1 5) 2 3
theorem f2_at (t : Nat) : f2 t = if t = 2 then 3 else if t = 1 then 5 else 0 := rfl
theorem f2_next : NxA f2 3 := .inr ⟨by decide, ⟨2, rfl⟩, fun t ht => by rw [f2_at] at ht ⊢; split <;> (try split at ht) <;> (try split) <;> simp_all⟩
theorem f2_due : DueL f2 5 [2, 1] := by
  refine ⟨fun x => ?_, ?_⟩
  · rw [f2_at]
    by_cases h2 : x = 2
    · simp [h2]
    · by_cases h1 : x = 1
      · simp [h1]
      · simp [h1, h2]
  · simp [ahd, f2_at]
theorem f2_rest : rest f2 5 = noA := by
  funext t
  unfold rest
  rw [f2_at]
  by_cases h2 : t = 2
  · simp [h2, noA]
  · by_cases h1 : t = 1
    · simp [h1, noA]
    · simp [h1, h2, noA]
set_option maxRecDepth 100000 in
theorem alive_any (w : World) : Calls Try.prog 22 #[] w fun e w' => e = .returned (.bool true) ∧ Ext w w' := by
  go_enter Try.func22, Try.ntmps22
  go_wp2_with fail
  refine (new_any _).mono ?_
  rintro e w1 ⟨C, m, rfl, hk, hC, hm, hx⟩
  have HT : Hid (∀ t, t ∈ [C, m] → w.heap.size ≤ t) := by unfold Hid; simp; omega
  have HT1 : Hid (∀ t, t ∈ [m] → w.heap.size ≤ t) := by unfold Hid; simp; omega
  clear hC hm
  go_wp2_with fail
  refine (set_any (z := 1) (k := 5) hk (by decide) (by decide)).mono ?_
  rintro e w2 ⟨rfl, hk, hc⟩
  rw [show setE 1 5 = 0 from rfl]
  have hX := hx.turn hc HT1.out
  clear hx hc
  go_wp2_with fail
  refine (set_any (z := 2) (k := 3) hk (by decide) (by decide)).mono ?_
  rintro e w3 ⟨rfl, hk, hc⟩
  rw [show setE 2 3 = 0 from rfl]
  rw [show setF (setF noA 0 1 5) 0 2 3 = f2 from rfl] at hk
  have hX := hX.turn hc HT1.out
  clear hc
  go_wp2_with fail
  refine (next_any hk).mono ?_
  rintro e w4 ⟨v, rfl, hv, hx⟩
  obtain rfl := hv.one f2_next
  rw [show nz 3 = true from rfl]
  have hk := hk.ext hx
  have hX := hX.trans hx
  clear hx hv
  go_wp2_with fail
  refine (tick_any (n := 5) hk (by decide)).mono ?_
  rintro e w5 ⟨v, l, rfl, hd, hrow, hk, hc⟩
  rw [show tkT 0 5 = 5 from rfl] at hd hk
  obtain rfl := hd.one f2_due
  rw [f2_rest] at hk
  have hX := hX.turn hc HT.out
  obtain ⟨g, c1, rfl, hg, c0⟩ := own_at hrow (j := 0) (by simp)
  obtain ⟨g', c1', e, hg', c2⟩ := own_at hrow (j := 1) (by simp)
  simp only [Value.slice.injEq, Option.some.injEq, Addr.mk.injEq, true_and, and_true] at e
  obtain ⟨rfl, rfl⟩ := e
  simp only [List.getElem_cons_zero, List.getElem_cons_succ, List.length_cons, List.length_nil] at c0 c2 ⊢
  clear hc hd hrow hg hg'
  go_wp2_with fail
  refine (len_any hk).mono ?_
  rintro e w6 ⟨rfl, rfl⟩
  rw [cnt_no]
  go_wp2_with fail
  refine (now_any hk).mono ?_
  rintro e w6 ⟨rfl, rfl⟩
  go_wp2_with fail
  go_ret
  exact ⟨by simp, hX⟩
theorem short_any (A : Option Addr) (n c : Nat) (w : World) (hn : n ≤ c) (hc : c ≤ maxLen) :
    Calls Try.prog 8 #[.slice A n c] w fun e w' => e = .returned (.slice A (min n 200) c) ∧ w = w' := by
  unfold maxLen at hc
  by_cases h : n ≤ 200
  · have h1 : (n : Int) ≤ 200 := by omega
    have E := hide (show min n 200 = n by omega)
    go_enter Try.func8, Try.ntmps8
    go_wp2
    go_ret
    exact ⟨by rw [E.out]; simp; omega, rfl⟩
  · have h1 : ¬ (n : Int) ≤ 200 := by omega
    have E := hide (show min n 200 = 200 by omega)
    have h2 : 200 ≤ c := by omega
    go_enter Try.func8, Try.ntmps8
    go_wp2
    go_ret
    exact ⟨by rw [E.out]; simp; omega, rfl⟩
theorem same_any {v v' : Value} {l : List Nat} {w : World} {b b' : Nat} (h : w.ownsRow b 3 1 v l.length (l.map enI)) (h' : w.ownsRow b' 3 1 v' l.length (l.map enI)) (hl : l.length ≤ 256) :
    Calls Try.prog 11 #[v, v'] w fun e w' => e = .returned (.bool true) ∧ Ext w w' := by
  have H := hide h
  have H' := hide h'
  obtain ⟨A, c, rfl⟩ := own_len h
  obtain ⟨A', c', rfl⟩ := own_len h'
  clear h h'
  have hX0 := Ext.refl w
  have hW := Ext.refl w
  go_enter Try.func11, Try.ntmps11
  go_wp2_with fail
  go_loopw [13] (fun i wr => ∃ j : Nat, j ≤ l.length ∧ i = .int .i64 j ∧ Ext w wr) (fun i _ => l.length - (intOf i).toNat)
  case atStart => exact ⟨0, by omega, rfl, hW⟩
  case round =>
    clear hW
    obtain ⟨j, hj, rfl, hW⟩ := hrel
    by_cases hlt : j < l.length
    · obtain ⟨g, c2, hv, hg, _⟩ := own_at H.out hlt
      obtain ⟨g', c2', hv', hg', _⟩ := own_at H'.out hlt
      simp only [Value.slice.injEq] at hv hv'
      obtain ⟨rfl, -, rfl⟩ := hv
      obtain ⟨rfl, -, rfl⟩ := hv'
      have r1 : ∀ wx, Ext wr wx → wx.cell? ⟨g, j, none⟩ = some (.int .i64 ((l[j] : Nat) : Int)) := fun wx hx => by
        obtain ⟨g2, c3, hv, hg2, hcell⟩ := own_at (own_ext H.out (hW.trans hx)) hlt
        simp only [Value.slice.injEq, Option.some.injEq, Addr.mk.injEq, and_true] at hv
        rw [hv.1]; exact hcell
      have r2 : ∀ wx, Ext wr wx → wx.cell? ⟨g', j, none⟩ = some (.int .i64 ((l[j] : Nat) : Int)) := fun wx hx => by
        obtain ⟨g2, c3, hv, hg2, hcell⟩ := own_at (own_ext H'.out (hW.trans hx)) hlt
        simp only [Value.slice.injEq, Option.some.injEq, Addr.mk.injEq, and_true] at hv
        rw [hv.1]; exact hcell
      have hV := Ext.refl wr
      generalize ((l[j] : Nat) : Int) = x at r1 r2
      go_wp2_with fail
      refine wp_region_ext (by kernel_rfl) (by kernel_rfl) ?_
      repeat
        with_reducible refine wpQuiet_step (fun K hK => ?_)
        go_simp
        first
        | (refine hK _ ?_; clear hK K)
        | (apply Exists.intro
           refine ⟨fun w1 h1 => ?_, hK _ ?_⟩
           (have hW := Ext.trans2 hW (by repeat (first | exact Ext.refl _ | exact Ext.alloc _ _ | exact Ext.drewN _ _ | assumption | refine Ext.trans ?_ (Ext.alloc _ _) | refine Ext.trans ?_ (Ext.drew _) | refine Ext.trans ?_ (by assumption))) h1; (try have hV := Ext.trans2 hV (by repeat (first | exact Ext.refl _ | exact Ext.alloc _ _ | exact Ext.drewN _ _ | assumption | refine Ext.trans ?_ (Ext.alloc _ _) | refine Ext.trans ?_ (Ext.drew _) | refine Ext.trans ?_ (by assumption))) h1); (first | rfl | (go_simp; done) | (go_simp; rfl) | fail))
           clear hK K)
      refine wpQuiet_nil (fun w' hw' => ?_)
      have hW := Ext.trans2 hW (by repeat (first | exact Ext.refl _ | exact Ext.alloc _ _ | exact Ext.drewN _ _ | assumption | refine Ext.trans ?_ (Ext.alloc _ _) | refine Ext.trans ?_ (Ext.drew _) | refine Ext.trans ?_ (by assumption))) hw'
      try have hV := Ext.trans2 hV (by repeat (first | exact Ext.refl _ | exact Ext.alloc _ _ | exact Ext.drewN _ _ | assumption | refine Ext.trans ?_ (Ext.alloc _ _) | refine Ext.trans ?_ (Ext.drew _) | refine Ext.trans ?_ (by assumption))) hw'
      clear hw'
      go_wp2_with fail
      go_roundw
      case rel => exact ⟨j + 1, by omega, by go_num, hW⟩
      case measure => simp [intOf]; omega
    · go_wp2_with fail
      go_ret
      exact ⟨by simp, hW⟩
end Go.Proofs.Ytgfhpgbklcjooaa
