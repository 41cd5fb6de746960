/- PlanOnes, PlanSaved: walked. -/
import Derived.Test.YtecopjehmpjniaaDoorD3
namespace Go.Proofs.YtecopjehmpjniaaDoor
open Go.RowKit
set_option linter.unusedSimpArgs false
set_option linter.unusedVariables false


set_option maxHeartbeats 1000000 in
theorem lones_any (o : Int) (x : Ob) (w : World) (hG : Glob w) (hx : OkO w x) : Calls Tryd.prog 3 #[.int .i64 o, .agg (sc x)] w fun e w' => e = .returned (.bool true) ∧ Ext w w' := by
  have one := fun w h k => one_any o x w h k
  have rone := fun w k => rone_any o x w k
  have sam := same_any (oneV o x)
  have hv := hx.w
  obtain ⟨v, k, A, cp, l⟩ := x
  simp only [sc] at one rone hv ⊢
  generalize oneV o ⟨v, k, A, cp, l⟩ = cg at *
  obtain ⟨c1, c2, c3, c4⟩ := cg
  generalize oneB o ⟨v, k, A, cp, l⟩ = ok at *
  simp only [gc] at one rone sam
  by_cases hn : 1000 < (l.length : Int)
  · go_enter Tryd.func3, Tryd.ntmps3
    go_wp2_with fail
    have hX := fun w' (h : Ext (w.alloc (Obj.cells #[.int .u64 v, .int .i64 k, .slice A l.length cp] 25)) w') => h.boxCell
    have hXf := fun w' (h : Ext (w.alloc (Obj.cells #[.int .u64 v, .int .i64 k, .slice A l.length cp] 25)) w') => h.boxFree
    have hX0 : Ext w (w.alloc (Obj.cells #[.int .u64 v, .int .i64 k, .slice A l.length cp] 25)) := Ext.alloc _ _
    generalize w.alloc (Obj.cells #[.int .u64 v, .int .i64 k, .slice A l.length cp] 25) = W0 at *
    have hW := Ext.refl W0
    go_wp2_with (go_at_call 6; (with_reducible refine (alive_any _ (hG.ext (hX0.trans hW))).mono ?_); rintro e w' ⟨rfl, hb⟩; have hW := Ext.trans2 hW (by repeat (first | exact Ext.refl _ | exact Ext.alloc _ _ | exact Ext.drewN _ _ | assumption | refine Ext.trans ?_ (Ext.alloc _ _) | refine Ext.trans ?_ (Ext.drew _) | refine Ext.trans ?_ (by assumption))) hb; (try have hV := Ext.trans2 hV (by repeat (first | exact Ext.refl _ | exact Ext.alloc _ _ | exact Ext.drewN _ _ | assumption | refine Ext.trans ?_ (Ext.alloc _ _) | refine Ext.trans ?_ (Ext.drew _) | refine Ext.trans ?_ (by assumption))) hb); clear hb)
    go_ret
    exact ⟨rfl, (hX0.trans (hW.trans (by repeat (first | exact Ext.refl _ | exact Ext.alloc _ _ | exact Ext.drewN _ _ | assumption | refine Ext.trans ?_ (Ext.alloc _ _) | refine Ext.trans ?_ (Ext.drew _) | refine Ext.trans ?_ (by assumption)))))⟩
  · go_enter Tryd.func3, Tryd.ntmps3
    go_wp2_with fail
    have hX := fun w' (h : Ext (w.alloc (Obj.cells #[.int .u64 v, .int .i64 k, .slice A l.length cp] 25)) w') => h.boxCell
    have hXf := fun w' (h : Ext (w.alloc (Obj.cells #[.int .u64 v, .int .i64 k, .slice A l.length cp] 25)) w') => h.boxFree
    have hX0 : Ext w (w.alloc (Obj.cells #[.int .u64 v, .int .i64 k, .slice A l.length cp] 25)) := Ext.alloc _ _
    generalize w.alloc (Obj.cells #[.int .u64 v, .int .i64 k, .slice A l.length cp] 25) = W0 at *
    have hW := Ext.refl W0
    go_wp2_with ((go_at_call 7; (with_reducible refine (one _ (hG.ext (hX0.trans hW)) (hx.ext (hX0.trans hW))).mono ?_); rintro e w' ⟨rfl, hb⟩; have hW := Ext.trans2 hW (by repeat (first | exact Ext.refl _ | exact Ext.alloc _ _ | exact Ext.drewN _ _ | assumption | refine Ext.trans ?_ (Ext.alloc _ _) | refine Ext.trans ?_ (Ext.drew _) | refine Ext.trans ?_ (by assumption))) hb; (try have hV := Ext.trans2 hV (by repeat (first | exact Ext.refl _ | exact Ext.alloc _ _ | exact Ext.drewN _ _ | assumption | refine Ext.trans ?_ (Ext.alloc _ _) | refine Ext.trans ?_ (Ext.drew _) | refine Ext.trans ?_ (by assumption))) hb); clear hb); (try have hWA := fun o => hW.trans (Ext.alloc w' o)); (try have hVA := fun o => hV.trans (Ext.alloc w' o)))
    have hXX := hX
    have hX := fun wx (h : Ext (w'.alloc (Obj.cells #[.int .i64 c1, .int .u64 c2, .int .i64 c3, .int .u64 c4] 28)) wx) => h.boxCell
    have hXf := fun wx (h : Ext (w'.alloc (Obj.cells #[.int .i64 c1, .int .u64 c2, .int .i64 c3, .int .u64 c4] 28)) wx) => h.boxFree
    have hW := hW.trans (Ext.alloc w' (Obj.cells #[.int .i64 c1, .int .u64 c2, .int .i64 c3, .int .u64 c4] 28))
    generalize w'.alloc (Obj.cells #[.int .i64 c1, .int .u64 c2, .int .i64 c3, .int .u64 c4] 28) = W1 at *
    have hV := Ext.refl W1
    have hZ := fun wx (h : Ext W0 wx) => hXX wx h
    clear hXX
    go_wp2_with ((go_at_call 8; (with_reducible refine (rone _ (hx.ext (hX0.trans hW))).mono ?_); rintro e w' ⟨rfl, hb⟩; have hW := Ext.trans2 hW (by repeat (first | exact Ext.refl _ | exact Ext.alloc _ _ | exact Ext.drewN _ _ | assumption | refine Ext.trans ?_ (Ext.alloc _ _) | refine Ext.trans ?_ (Ext.drew _) | refine Ext.trans ?_ (by assumption))) hb; (try have hV := Ext.trans2 hV (by repeat (first | exact Ext.refl _ | exact Ext.alloc _ _ | exact Ext.drewN _ _ | assumption | refine Ext.trans ?_ (Ext.alloc _ _) | refine Ext.trans ?_ (Ext.drew _) | refine Ext.trans ?_ (by assumption))) hb); clear hb); (try have hWA := fun o => hW.trans (Ext.alloc w' o)); (try have hVA := fun o => hV.trans (Ext.alloc w' o)))
    have hY := fun wx (h : Ext (w'.alloc (Obj.cells #[.int .i64 c1, .int .u64 c2, .int .i64 c3, .int .u64 c4] 32)) wx) => h.boxCell
    have hYf := fun wx (h : Ext (w'.alloc (Obj.cells #[.int .i64 c1, .int .u64 c2, .int .i64 c3, .int .u64 c4] 32)) wx) => h.boxFree
    have hV := hV.trans (Ext.alloc w' (Obj.cells #[.int .i64 c1, .int .u64 c2, .int .i64 c3, .int .u64 c4] 32))
    have hW := hW.trans (Ext.alloc w' (Obj.cells #[.int .i64 c1, .int .u64 c2, .int .i64 c3, .int .u64 c4] 32))
    generalize w'.alloc (Obj.cells #[.int .i64 c1, .int .u64 c2, .int .i64 c3, .int .u64 c4] 32) = W2 at *
    have hZ := fun wx (h : Ext W2 wx) => hX wx (hV.trans h)
    have hZf := fun wx (h : Ext W2 wx) => hXf wx (hV.trans h)
    clear hX hXf
    have hV := Ext.refl W2
    refine wp_region_ext (by kernel_rfl) (by kernel_rfl) ?_
    repeat
      with_reducible refine wpQuiet_step (fun K hK => ?_)
      go_simp
      first
      | (refine hK _ ?_; clear hK K)
      | (apply Exists.intro
         refine ⟨fun w1 h1 => ?_, hK _ ?_⟩
         (have hW := Ext.trans2 hW (by repeat (first | exact Ext.refl _ | exact Ext.alloc _ _ | exact Ext.drewN _ _ | assumption | refine Ext.trans ?_ (Ext.alloc _ _) | refine Ext.trans ?_ (Ext.drew _) | refine Ext.trans ?_ (by assumption))) h1; (try have hV := Ext.trans2 hV (by repeat (first | exact Ext.refl _ | exact Ext.alloc _ _ | exact Ext.drewN _ _ | assumption | refine Ext.trans ?_ (Ext.alloc _ _) | refine Ext.trans ?_ (Ext.drew _) | refine Ext.trans ?_ (by assumption))) h1); (first | rfl | (go_simp; done) | (go_simp; rfl) | (first | (go_at_call 9; (with_reducible refine (sam _).mono ?_); rintro e w2 ⟨rfl, hb⟩; exact ⟨rfl, h1.trans hb⟩) | (go_at_call 10; (with_reducible refine (owner_any _ _ (hG.ext (hX0.trans hW)) hv).mono ?_); rintro e w2 ⟨rfl, hb⟩; exact ⟨rfl, h1.trans hb⟩) | (go_at_call 11; (with_reducible refine (rowner_any _ _ hv).mono ?_); rintro e w2 ⟨rfl, hb⟩; exact ⟨rfl, h1.trans hb⟩) | (go_at_call 6; (with_reducible refine (alive_any _ (hG.ext (hX0.trans hW))).mono ?_); rintro e w2 ⟨rfl, hb⟩; exact ⟨rfl, h1.trans hb⟩))))
         clear hK K)
    refine wpQuiet_nil (fun w' hw' => ?_)
    have hW := Ext.trans2 hW (by repeat (first | exact Ext.refl _ | exact Ext.alloc _ _ | exact Ext.drewN _ _ | assumption | refine Ext.trans ?_ (Ext.alloc _ _) | refine Ext.trans ?_ (Ext.drew _) | refine Ext.trans ?_ (by assumption))) hw'
    try have hV := Ext.trans2 hV (by repeat (first | exact Ext.refl _ | exact Ext.alloc _ _ | exact Ext.drewN _ _ | assumption | refine Ext.trans ?_ (Ext.alloc _ _) | refine Ext.trans ?_ (Ext.drew _) | refine Ext.trans ?_ (by assumption))) hw'
    clear hw'
    go_wp2
    go_ret
    exact ⟨rfl, (hX0.trans (hW.trans (by repeat (first | exact Ext.refl _ | exact Ext.alloc _ _ | exact Ext.drewN _ _ | assumption | refine Ext.trans ?_ (Ext.alloc _ _) | refine Ext.trans ?_ (Ext.drew _) | refine Ext.trans ?_ (by assumption)))))⟩
end Go.Proofs.YtecopjehmpjniaaDoor
