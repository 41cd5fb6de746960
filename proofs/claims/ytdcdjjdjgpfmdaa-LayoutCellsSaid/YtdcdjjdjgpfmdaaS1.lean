/- What the laws share: a cell that is alive. -/
import Derived.Test.YtdcdjjdjgpfmdaaR3
namespace Go.Proofs.Ytdcdjjdjgpfmdaa
open Go.RowKit
set_option linter.unusedSimpArgs false
set_option linter.unusedVariables false
set_option maxRecDepth 100000
set_option maxHeartbeats 8000000

theorem what_74 (w : World) : Calls Try.prog 7 #[.int .i64 74] w fun e w' => e = .returned (.tuple #[.int .i64 7, .int .i64 1, .int .i64 2]) ∧ Ext w w' := what_any 74 w
theorem at_74 (w : World) : Calls Try.prog 9 #[.int .i64 7, .int .i64 1, .int .i64 2] w fun e w' => e = .returned (.int .i64 74) ∧ Ext w w' := at_any 7 1 2 w
theorem at_none (w : World) : Calls Try.prog 9 #[.int .i64 2, .int .i64 4, .int .i64 0] w fun e w' => e = .returned (.int .i64 (-1)) ∧ Ext w w' := at_any 2 4 0 w
theorem alive_any (w : World) : Calls Try.prog 11 #[] w fun e w' => e = .returned (.bool true) ∧ Ext w w' := by
  have hX0 := Ext.refl w
  have hW := Ext.refl w
  go_enter Try.func11, Try.ntmps11
  go_wp2_with (first | (go_at_call 7; (with_reducible refine (what_74 _).mono ?_); rintro e w' ⟨rfl, hb⟩; have hW := Ext.trans2 hW (by repeat (first | exact Ext.refl _ | exact Ext.alloc _ _ | exact Ext.drewN _ _ | assumption | refine Ext.trans ?_ (Ext.alloc _ _) | refine Ext.trans ?_ (Ext.drew _) | refine Ext.trans ?_ (by assumption))) hb; (try have hV := Ext.trans2 hV (by repeat (first | exact Ext.refl _ | exact Ext.alloc _ _ | exact Ext.drewN _ _ | assumption | refine Ext.trans ?_ (Ext.alloc _ _) | refine Ext.trans ?_ (Ext.drew _) | refine Ext.trans ?_ (by assumption))) hb); clear hb) | (go_at_call 9; (with_reducible refine (at_74 _).mono ?_); rintro e w' ⟨rfl, hb⟩; have hW := Ext.trans2 hW (by repeat (first | exact Ext.refl _ | exact Ext.alloc _ _ | exact Ext.drewN _ _ | assumption | refine Ext.trans ?_ (Ext.alloc _ _) | refine Ext.trans ?_ (Ext.drew _) | refine Ext.trans ?_ (by assumption))) hb; (try have hV := Ext.trans2 hV (by repeat (first | exact Ext.refl _ | exact Ext.alloc _ _ | exact Ext.drewN _ _ | assumption | refine Ext.trans ?_ (Ext.alloc _ _) | refine Ext.trans ?_ (Ext.drew _) | refine Ext.trans ?_ (by assumption))) hb); clear hb) | (go_at_call 9; (with_reducible refine (at_none _).mono ?_); rintro e w' ⟨rfl, hb⟩; have hW := Ext.trans2 hW (by repeat (first | exact Ext.refl _ | exact Ext.alloc _ _ | exact Ext.drewN _ _ | assumption | refine Ext.trans ?_ (Ext.alloc _ _) | refine Ext.trans ?_ (Ext.drew _) | refine Ext.trans ?_ (by assumption))) hb; (try have hV := Ext.trans2 hV (by repeat (first | exact Ext.refl _ | exact Ext.alloc _ _ | exact Ext.drewN _ _ | assumption | refine Ext.trans ?_ (Ext.alloc _ _) | refine Ext.trans ?_ (Ext.drew _) | refine Ext.trans ?_ (by assumption))) hb); clear hb))
  go_ret
  exact ⟨rfl, hW⟩
end Go.Proofs.Ytdcdjjdjgpfmdaa
