/- May, mayBe, wrong; the document's May and all. -/
import Derived.Test.YtlgomkocalieeaaGreatDoorO1
import Derived.Test.YtlgomkocalieeaaGreatDoorLists
import Derived.BigRegion
namespace Go.Proofs.YtlgomkocalieeaaGreatDoor
open Go.RowKit
set_option linter.unusedSimpArgs false
set_option linter.unusedVariables false
set_option maxRecDepth 100000

theorem may_any (k o a t n : Int) (w : World) : Calls Tryz.prog 38 #[.agg #[.int .i64 k, .int .i64 o, .int .i64 a], .int .i64 t, .int .i64 n] w fun e w' => e = .returned (.bool (mayI k o a t n)) ∧ Ext w w' := by
  go_enter Tryz.func38, Tryz.ntmps38
  go_wp2
  all_goals
    go_ret
    refine ⟨?_, Ext.alloc _ _⟩
    congr 2
    simp_all [mayI, mayK]
    try omega
def mayR (k o a t n : Int) : Bool := decide (1 ≤ k ∧ k ≤ 9 ∧ 0 ≤ o ∧ o < n ∧ 0 ≤ a ∧ a ≤ 1000000) && (if k = 9 then decide (a < t) && (o == 0) else (k == 4) || (a == 0))
theorem mayR_eq (k o a t n : Int) : mayR k o a t n = mayI k o a t n := by
  by_cases h : 1 ≤ k ∧ k ≤ 9
  · have hk : k = 1 ∨ k = 2 ∨ k = 3 ∨ k = 4 ∨ k = 5 ∨ k = 6 ∨ k = 7 ∨ k = 8 ∨ k = 9 := by omega
    rcases hk with rfl | rfl | rfl | rfl | rfl | rfl | rfl | rfl | rfl <;> simp [mayR, mayI, mayK]
    rw [Bool.and_comm (decide (a < t))]
  · have hk : ¬ (k = 1 ∨ k = 2 ∨ k = 3 ∨ k = 5 ∨ k = 6 ∨ k = 7 ∨ k = 8) := by omega
    have e : mayK k o a t = false := by unfold mayK; rw [if_neg hk, if_neg (by omega), if_neg (by omega)]
    rw [mayI, e, Bool.and_false]
    unfold mayR
    rw [decide_eq_false (by omega), Bool.false_and]
theorem rmay_any (k o a t n : Int) (w : World) : Calls Tryz.prog 48 #[.agg #[.int .i64 k, .int .i64 o, .int .i64 a], .int .i64 t, .int .i64 n] w fun e w' => e = .returned (.bool (mayI k o a t n)) ∧ Ext w w' := by
  rw [← mayR_eq]
  go_enter Tryz.func48, Tryz.ntmps48
  go_wp2
  all_goals
    go_ret
    refine ⟨?_, Ext.alloc _ _⟩
    congr 2
    simp_all [mayR]
    try omega
theorem mayBe_any (x : Op3) (w : World) : Calls Tryz.prog 79 #[.agg #[.int .i64 x.1, .int .i64 x.2.1, .int .i64 x.2.2]] w fun e w' => e = .returned (.bool (mayO x)) ∧ Ext w w' := by
  obtain ⟨k, o, a⟩ := x
  go_enter Tryz.func79, Tryz.ntmps79
  go_wp2_with fail
  have hX := fun w' (h : Ext (w.alloc (Obj.cells #[.int .i64 k, .int .i64 o, .int .i64 a] 53)) w') => h.boxCell
  have hXf := fun w' (h : Ext (w.alloc (Obj.cells #[.int .i64 k, .int .i64 o, .int .i64 a] 53)) w') => h.boxFree
  have hX0 : Ext w (w.alloc (Obj.cells #[.int .i64 k, .int .i64 o, .int .i64 a] 53)) := Ext.alloc _ _
  generalize w.alloc (Obj.cells #[.int .i64 k, .int .i64 o, .int .i64 a] 53) = W0 at *
  have hW := Ext.refl W0
  go_wp2_with (go_at_call 38; (with_reducible refine (may_any _ _ _ _ _ _).mono ?_); rintro e w' ⟨rfl, hb⟩; have hW := Ext.trans2 hW (by repeat (first | exact Ext.refl _ | exact Ext.alloc _ _ | exact Ext.drewN _ _ | assumption | refine Ext.trans ?_ (Ext.alloc _ _) | refine Ext.trans ?_ (Ext.drew _) | refine Ext.trans ?_ (by assumption))) hb; (try have hV := Ext.trans2 hV (by repeat (first | exact Ext.refl _ | exact Ext.alloc _ _ | exact Ext.drewN _ _ | assumption | refine Ext.trans ?_ (Ext.alloc _ _) | refine Ext.trans ?_ (Ext.drew _) | refine Ext.trans ?_ (by assumption))) hb); clear hb)
  go_ret
  exact ⟨rfl, (hX0.trans (hW.trans (by repeat (first | exact Ext.refl _ | exact Ext.alloc _ _ | exact Ext.drewN _ _ | assumption | refine Ext.trans ?_ (Ext.alloc _ _) | refine Ext.trans ?_ (Ext.drew _) | refine Ext.trans ?_ (by assumption)))))⟩
end Go.Proofs.YtlgomkocalieeaaGreatDoor
