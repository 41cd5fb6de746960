/- PlanSaved: walked. -/
import Derived.Test.YtecopjehmpjniaaDoorD3
namespace Go.Proofs.YtecopjehmpjniaaDoor
open Go.RowKit
set_option linter.unusedSimpArgs false
set_option linter.unusedVariables false


theorem rr_neu {v : Int} (w : World) (hv : InW v) (h : isB v = true) : Calls Tryd.prog 18 #[.int .u64 (neuI (uA v))] w fun x w' => x = .returned (.tuple #[Value.agg #[.int .i64 (2), .int .u8 (uA v), .int .u8 (0), .int .u32 (0), .int .u16 (0), .int .u16 (0), .int .u16 (0), .int .u32 (0)], .int .i64 0]) ∧ Ext w w' := by
  obtain ⟨g, q1, _⟩ := neu_kd hv h
  obtain ⟨q2, q3, q4, q5, q6, q7, q8⟩ := neu_back hv h
  have R := rread_yes (neuI (uA v)) w (neu_in hv h) g
  rw [q1, q2, q3, q4, q5, q6, q7, q8] at R
  exact R
set_option maxHeartbeats 2000000 in
theorem lsaved_any (o : Int) (x : Ob) (w : World) (hG : Glob w) (hx : OkO w x) : Calls Tryd.prog 5 #[.int .i64 o, .agg (sc x)] w fun e w' => e = .returned (.bool true) ∧ Ext w w' := by
  have one := fun w h k => one_any o x w h k
  have hv := hx.w
  cases hb : oneB o x
  · rw [one_no hb, hb] at one
    clear hb
    obtain ⟨v, k, A, cp, l⟩ := x
    simp only [sc, gc] at one hv ⊢
    go_enter Tryd.func5, Tryd.ntmps5
    go_wp2_with fail
    have hX := fun w' (h : Ext (w.alloc (Obj.cells #[.int .u64 v, .int .i64 k, .slice A l.length cp] 25)) w') => h.boxCell
    have hXf := fun w' (h : Ext (w.alloc (Obj.cells #[.int .u64 v, .int .i64 k, .slice A l.length cp] 25)) w') => h.boxFree
    have hX0 : Ext w (w.alloc (Obj.cells #[.int .u64 v, .int .i64 k, .slice A l.length cp] 25)) := Ext.alloc _ _
    generalize w.alloc (Obj.cells #[.int .u64 v, .int .i64 k, .slice A l.length cp] 25) = W0 at *
    have hW := Ext.refl W0
    go_wp2_with ((go_at_call 7; (with_reducible refine (one _ (hG.ext (hX0.trans hW)) (hx.ext (hX0.trans hW))).mono ?_); rintro e w' ⟨rfl, hb⟩; have hW := Ext.trans2 hW (by repeat (first | exact Ext.refl _ | exact Ext.alloc _ _ | exact Ext.drewN _ _ | assumption | refine Ext.trans ?_ (Ext.alloc _ _) | refine Ext.trans ?_ (Ext.drew _) | refine Ext.trans ?_ (by assumption))) hb; (try have hV := Ext.trans2 hV (by repeat (first | exact Ext.refl _ | exact Ext.alloc _ _ | exact Ext.drewN _ _ | assumption | refine Ext.trans ?_ (Ext.alloc _ _) | refine Ext.trans ?_ (Ext.drew _) | refine Ext.trans ?_ (by assumption))) hb); clear hb); (try have hWA := fun o => hW.trans (Ext.alloc w' o)); (try have hVA := fun o => hV.trans (Ext.alloc w' o)))
    have hX := fun wx (h : Ext (w'.alloc (Obj.cells #[.int .i64 0, .int .u64 0, .int .i64 0, .int .u64 0] 28)) wx) => h.boxCell
    have hXf := fun wx (h : Ext (w'.alloc (Obj.cells #[.int .i64 0, .int .u64 0, .int .i64 0, .int .u64 0] 28)) wx) => h.boxFree
    have hW := hW.trans (Ext.alloc w' (Obj.cells #[.int .i64 0, .int .u64 0, .int .i64 0, .int .u64 0] 28))
    generalize w'.alloc (Obj.cells #[.int .i64 0, .int .u64 0, .int .i64 0, .int .u64 0] 28) = W1 at *
    have hV := Ext.refl W1
    go_wp2_with (go_at_call 6; (with_reducible refine (alive_any _ (hG.ext (hX0.trans hW))).mono ?_); rintro e w' ⟨rfl, hb⟩; have hW := Ext.trans2 hW (by repeat (first | exact Ext.refl _ | exact Ext.alloc _ _ | exact Ext.drewN _ _ | assumption | refine Ext.trans ?_ (Ext.alloc _ _) | refine Ext.trans ?_ (Ext.drew _) | refine Ext.trans ?_ (by assumption))) hb; (try have hV := Ext.trans2 hV (by repeat (first | exact Ext.refl _ | exact Ext.alloc _ _ | exact Ext.drewN _ _ | assumption | refine Ext.trans ?_ (Ext.alloc _ _) | refine Ext.trans ?_ (Ext.drew _) | refine Ext.trans ?_ (by assumption))) hb); clear hb)
    go_ret
    exact ⟨rfl, (hX0.trans (hW.trans (by repeat (first | exact Ext.refl _ | exact Ext.alloc _ _ | exact Ext.drewN _ _ | assumption | refine Ext.trans ?_ (Ext.alloc _ _) | refine Ext.trans ?_ (Ext.drew _) | refine Ext.trans ?_ (by assumption)))))⟩
  · have hi : isB x.w = true := by
      cases q : isB x.w
      · rw [one_kind q] at hb; cases hb
      · rfl
    have ho : 0 ≤ o ∧ o ≤ 65535 := by
      simp only [oneB, Bool.and_eq_true, decide_eq_true_eq] at hb
      exact hb.2
    have R := rread_yes x.w
    have hg := (isB_4 hi).1
    have rn := fun w => rr_neu w hv hi
    cases hh : hasB (ownW x.w) x.l
    · rw [one_free hb hh, hb] at one
      clear hb hh
      obtain ⟨v, k, A, cp, l⟩ := x
      simp only [sc, gc] at one hv hg R rn ⊢
      generalize uK v = q1 at *
      generalize uE v = q3 at *
      generalize uH v = q4 at *
      generalize uO v = q5 at *
      generalize uR v = q6 at *
      generalize uS v = q7 at *
      generalize uG v = q8 at *
      generalize neuI (uA v) = nn at *
      generalize uA v = q2 at *
      go_enter Tryd.func5, Tryd.ntmps5
      go_wp2_with fail
      have hX := fun w' (h : Ext (w.alloc (Obj.cells #[.int .u64 v, .int .i64 k, .slice A l.length cp] 25)) w') => h.boxCell
      have hXf := fun w' (h : Ext (w.alloc (Obj.cells #[.int .u64 v, .int .i64 k, .slice A l.length cp] 25)) w') => h.boxFree
      have hX0 : Ext w (w.alloc (Obj.cells #[.int .u64 v, .int .i64 k, .slice A l.length cp] 25)) := Ext.alloc _ _
      generalize w.alloc (Obj.cells #[.int .u64 v, .int .i64 k, .slice A l.length cp] 25) = W0 at *
      have hW := Ext.refl W0
      go_wp2_with ((go_at_call 7; (with_reducible refine (one _ (hG.ext (hX0.trans hW)) (hx.ext (hX0.trans hW))).mono ?_); rintro e w' ⟨rfl, hb⟩; have hW := Ext.trans2 hW (by repeat (first | exact Ext.refl _ | exact Ext.alloc _ _ | exact Ext.drewN _ _ | assumption | refine Ext.trans ?_ (Ext.alloc _ _) | refine Ext.trans ?_ (Ext.drew _) | refine Ext.trans ?_ (by assumption))) hb; (try have hV := Ext.trans2 hV (by repeat (first | exact Ext.refl _ | exact Ext.alloc _ _ | exact Ext.drewN _ _ | assumption | refine Ext.trans ?_ (Ext.alloc _ _) | refine Ext.trans ?_ (Ext.drew _) | refine Ext.trans ?_ (by assumption))) hb); clear hb); (try have hWA := fun o => hW.trans (Ext.alloc w' o)); (try have hVA := fun o => hV.trans (Ext.alloc w' o)))
      have hX := fun wx (h : Ext (w'.alloc (Obj.cells #[.int .i64 o, .int .u64 nn, .int .i64 (-1), .int .u64 0] 28)) wx) => h.boxCell
      have hXf := fun wx (h : Ext (w'.alloc (Obj.cells #[.int .i64 o, .int .u64 nn, .int .i64 (-1), .int .u64 0] 28)) wx) => h.boxFree
      have hW := hW.trans (Ext.alloc w' (Obj.cells #[.int .i64 o, .int .u64 nn, .int .i64 (-1), .int .u64 0] 28))
      generalize w'.alloc (Obj.cells #[.int .i64 o, .int .u64 nn, .int .i64 (-1), .int .u64 0] 28) = W1 at *
      have hV := Ext.refl W1
      go_wp2_with ((go_at_call 18; (with_reducible refine (R _ hv hg).mono ?_); rintro e w' ⟨rfl, hb⟩; have hW := Ext.trans2 hW (by repeat (first | exact Ext.refl _ | exact Ext.alloc _ _ | exact Ext.drewN _ _ | assumption | refine Ext.trans ?_ (Ext.alloc _ _) | refine Ext.trans ?_ (Ext.drew _) | refine Ext.trans ?_ (by assumption))) hb; (try have hV := Ext.trans2 hV (by repeat (first | exact Ext.refl _ | exact Ext.alloc _ _ | exact Ext.drewN _ _ | assumption | refine Ext.trans ?_ (Ext.alloc _ _) | refine Ext.trans ?_ (Ext.drew _) | refine Ext.trans ?_ (by assumption))) hb); clear hb); (try have hWA := fun o => hW.trans (Ext.alloc w' o)); (try have hVA := fun o => hV.trans (Ext.alloc w' o)))
      have hY := fun wx (h : Ext (w'.alloc (Obj.cells #[.int .i64 (q1), .int .u8 (q2), .int .u8 (q3), .int .u32 (q4), .int .u16 (q5), .int .u16 (q6), .int .u16 (q7), .int .u32 (q8)] 57)) wx) => h.boxCell
      have hYf := fun wx (h : Ext (w'.alloc (Obj.cells #[.int .i64 (q1), .int .u8 (q2), .int .u8 (q3), .int .u32 (q4), .int .u16 (q5), .int .u16 (q6), .int .u16 (q7), .int .u32 (q8)] 57)) wx) => h.boxFree
      have hV := hV.trans (Ext.alloc w' (Obj.cells #[.int .i64 (q1), .int .u8 (q2), .int .u8 (q3), .int .u32 (q4), .int .u16 (q5), .int .u16 (q6), .int .u16 (q7), .int .u32 (q8)] 57))
      have hW := hW.trans (Ext.alloc w' (Obj.cells #[.int .i64 (q1), .int .u8 (q2), .int .u8 (q3), .int .u32 (q4), .int .u16 (q5), .int .u16 (q6), .int .u16 (q7), .int .u32 (q8)] 57))
      generalize w'.alloc (Obj.cells #[.int .i64 (q1), .int .u8 (q2), .int .u8 (q3), .int .u32 (q4), .int .u16 (q5), .int .u16 (q6), .int .u16 (q7), .int .u32 (q8)] 57) = W2 at *
      have hZ := fun wx (h : Ext W2 wx) => hX wx (hV.trans h)
      have hZf := fun wx (h : Ext W2 wx) => hXf wx (hV.trans h)
      clear hX hXf
      have hV := Ext.refl W2
      go_wp2_with (first | ((go_at_call 18; (with_reducible refine (rn _).mono ?_); rintro e w' ⟨rfl, hb⟩; have hW := Ext.trans2 hW (by repeat (first | exact Ext.refl _ | exact Ext.alloc _ _ | exact Ext.drewN _ _ | assumption | refine Ext.trans ?_ (Ext.alloc _ _) | refine Ext.trans ?_ (Ext.drew _) | refine Ext.trans ?_ (by assumption))) hb; (try have hV := Ext.trans2 hV (by repeat (first | exact Ext.refl _ | exact Ext.alloc _ _ | exact Ext.drewN _ _ | assumption | refine Ext.trans ?_ (Ext.alloc _ _) | refine Ext.trans ?_ (Ext.drew _) | refine Ext.trans ?_ (by assumption))) hb); clear hb); (try have hWA := fun o => hW.trans (Ext.alloc w' o)); (try have hVA := fun o => hV.trans (Ext.alloc w' o))) | (go_at_call 6; (with_reducible refine (alive_any _ (hG.ext (hX0.trans (hWA _)))).mono ?_); rintro e w' ⟨rfl, hb⟩; have hW := Ext.trans2 hW (by repeat (first | exact Ext.refl _ | exact Ext.alloc _ _ | exact Ext.drewN _ _ | assumption | refine Ext.trans ?_ (Ext.alloc _ _) | refine Ext.trans ?_ (Ext.drew _) | refine Ext.trans ?_ (by assumption))) hb; (try have hV := Ext.trans2 hV (by repeat (first | exact Ext.refl _ | exact Ext.alloc _ _ | exact Ext.drewN _ _ | assumption | refine Ext.trans ?_ (Ext.alloc _ _) | refine Ext.trans ?_ (Ext.drew _) | refine Ext.trans ?_ (by assumption))) hb); clear hb))
      go_ret
      exact ⟨rfl, (hX0.trans (hW.trans (by repeat (first | exact Ext.refl _ | exact Ext.alloc _ _ | exact Ext.drewN _ _ | assumption | refine Ext.trans ?_ (Ext.alloc _ _) | refine Ext.trans ?_ (Ext.drew _) | refine Ext.trans ?_ (by assumption)))))⟩
    · obtain ⟨u0, u1⟩ := held_o hi hh
      rw [one_held hb hh, hb] at one
      have tk := thi_kd hv u0 ho.1 ho.2
      have RT := rread_yes (thiI (uO x.w) o) 
      have ti := thi_in hv u0 ho.1 ho.2
      have tg := tk.1
      have nz : (neuI (uA x.w) != 0) = true := by simpa using neu_ne hv hi
      have nw : decide (0 ≤ ownW x.w) = true := by simpa using u1
      clear hb hh tk u0
      obtain ⟨v, k, A, cp, l⟩ := x
      simp only [sc, gc] at one hv hg R rn RT ti tg nz nw u1 ⊢
      generalize thiI (uO v) o = tt at *
      generalize uK tt = p1 at *
      generalize uA tt = p2 at *
      generalize uE tt = p3 at *
      generalize uH tt = p4 at *
      generalize uO tt = p5 at *
      generalize uR tt = p6 at *
      generalize uS tt = p7 at *
      generalize uG tt = p8 at *
      generalize uK v = q1 at *
      generalize uE v = q3 at *
      generalize uH v = q4 at *
      generalize uO v = q5 at *
      generalize uR v = q6 at *
      generalize uS v = q7 at *
      generalize uG v = q8 at *
      generalize neuI (uA v) = nn at *
      generalize uA v = q2 at *
      generalize ownW v = uu at *
      go_enter Tryd.func5, Tryd.ntmps5
      go_wp2_with fail
      have hX := fun w' (h : Ext (w.alloc (Obj.cells #[.int .u64 v, .int .i64 k, .slice A l.length cp] 25)) w') => h.boxCell
      have hXf := fun w' (h : Ext (w.alloc (Obj.cells #[.int .u64 v, .int .i64 k, .slice A l.length cp] 25)) w') => h.boxFree
      have hX0 : Ext w (w.alloc (Obj.cells #[.int .u64 v, .int .i64 k, .slice A l.length cp] 25)) := Ext.alloc _ _
      generalize w.alloc (Obj.cells #[.int .u64 v, .int .i64 k, .slice A l.length cp] 25) = W0 at *
      have hW := Ext.refl W0
      go_wp2_with ((go_at_call 7; (with_reducible refine (one _ (hG.ext (hX0.trans hW)) (hx.ext (hX0.trans hW))).mono ?_); rintro e w' ⟨rfl, hb⟩; have hW := Ext.trans2 hW (by repeat (first | exact Ext.refl _ | exact Ext.alloc _ _ | exact Ext.drewN _ _ | assumption | refine Ext.trans ?_ (Ext.alloc _ _) | refine Ext.trans ?_ (Ext.drew _) | refine Ext.trans ?_ (by assumption))) hb; (try have hV := Ext.trans2 hV (by repeat (first | exact Ext.refl _ | exact Ext.alloc _ _ | exact Ext.drewN _ _ | assumption | refine Ext.trans ?_ (Ext.alloc _ _) | refine Ext.trans ?_ (Ext.drew _) | refine Ext.trans ?_ (by assumption))) hb); clear hb); (try have hWA := fun o => hW.trans (Ext.alloc w' o)); (try have hVA := fun o => hV.trans (Ext.alloc w' o)))
      have z1 : (w'.alloc (Obj.cells #[.int .i64 o, .int .u64 tt, .int .i64 uu, .int .u64 nn] 28)).heap.size = w'.heap.size + 1 := by simp
      have hX := fun wx (h : Ext (w'.alloc (Obj.cells #[.int .i64 o, .int .u64 tt, .int .i64 uu, .int .u64 nn] 28)) wx) => h.boxCell
      have hXf := fun wx (h : Ext (w'.alloc (Obj.cells #[.int .i64 o, .int .u64 tt, .int .i64 uu, .int .u64 nn] 28)) wx) => h.boxFree
      have hW := hW.trans (Ext.alloc w' (Obj.cells #[.int .i64 o, .int .u64 tt, .int .i64 uu, .int .u64 nn] 28))
      generalize w'.alloc (Obj.cells #[.int .i64 o, .int .u64 tt, .int .i64 uu, .int .u64 nn] 28) = W1 at *
      have hV := Ext.refl W1
      generalize w'.heap.size = g1 at *
      go_wp2_with ((go_at_call 18; (with_reducible refine (R _ hv hg).mono ?_); rintro e w' ⟨rfl, hb⟩; have hW := Ext.trans2 hW (by repeat (first | exact Ext.refl _ | exact Ext.alloc _ _ | exact Ext.drewN _ _ | assumption | refine Ext.trans ?_ (Ext.alloc _ _) | refine Ext.trans ?_ (Ext.drew _) | refine Ext.trans ?_ (by assumption))) hb; (try have hV := Ext.trans2 hV (by repeat (first | exact Ext.refl _ | exact Ext.alloc _ _ | exact Ext.drewN _ _ | assumption | refine Ext.trans ?_ (Ext.alloc _ _) | refine Ext.trans ?_ (Ext.drew _) | refine Ext.trans ?_ (by assumption))) hb); clear hb); (try have hWA := fun o => hW.trans (Ext.alloc w' o)); (try have hVA := fun o => hV.trans (Ext.alloc w' o)))
      have y2 := hV.facts.2.2
      have z2 : (w'.alloc (Obj.cells #[.int .i64 (q1), .int .u8 (q2), .int .u8 (q3), .int .u32 (q4), .int .u16 (q5), .int .u16 (q6), .int .u16 (q7), .int .u32 (q8)] 57)).heap.size = w'.heap.size + 1 := by simp
      have hY := fun wx (h : Ext (w'.alloc (Obj.cells #[.int .i64 (q1), .int .u8 (q2), .int .u8 (q3), .int .u32 (q4), .int .u16 (q5), .int .u16 (q6), .int .u16 (q7), .int .u32 (q8)] 57)) wx) => h.boxCell
      have hYf := fun wx (h : Ext (w'.alloc (Obj.cells #[.int .i64 (q1), .int .u8 (q2), .int .u8 (q3), .int .u32 (q4), .int .u16 (q5), .int .u16 (q6), .int .u16 (q7), .int .u32 (q8)] 57)) wx) => h.boxFree
      have hV := hV.trans (Ext.alloc w' (Obj.cells #[.int .i64 (q1), .int .u8 (q2), .int .u8 (q3), .int .u32 (q4), .int .u16 (q5), .int .u16 (q6), .int .u16 (q7), .int .u32 (q8)] 57))
      have hW := hW.trans (Ext.alloc w' (Obj.cells #[.int .i64 (q1), .int .u8 (q2), .int .u8 (q3), .int .u32 (q4), .int .u16 (q5), .int .u16 (q6), .int .u16 (q7), .int .u32 (q8)] 57))
      generalize w'.alloc (Obj.cells #[.int .i64 (q1), .int .u8 (q2), .int .u8 (q3), .int .u32 (q4), .int .u16 (q5), .int .u16 (q6), .int .u16 (q7), .int .u32 (q8)] 57) = W2 at *
      have hZ := fun wx (h : Ext W2 wx) => hX wx (hV.trans h)
      have hZf := fun wx (h : Ext W2 wx) => hXf wx (hV.trans h)
      clear hX hXf
      have hV := Ext.refl W2
      generalize w'.heap.size = g2 at *
      go_wp2_with ((go_at_call 18; (with_reducible refine (RT _ ti tg).mono ?_); rintro e w' ⟨rfl, hb⟩; have hW := Ext.trans2 hW (by repeat (first | exact Ext.refl _ | exact Ext.alloc _ _ | exact Ext.drewN _ _ | assumption | refine Ext.trans ?_ (Ext.alloc _ _) | refine Ext.trans ?_ (Ext.drew _) | refine Ext.trans ?_ (by assumption))) hb; (try have hV := Ext.trans2 hV (by repeat (first | exact Ext.refl _ | exact Ext.alloc _ _ | exact Ext.drewN _ _ | assumption | refine Ext.trans ?_ (Ext.alloc _ _) | refine Ext.trans ?_ (Ext.drew _) | refine Ext.trans ?_ (by assumption))) hb); clear hb); (try have hWA := fun o => hW.trans (Ext.alloc w' o)); (try have hVA := fun o => hV.trans (Ext.alloc w' o)))
      have y3 := hV.facts.2.2
      have y4 := hW.facts.2.2
      have hT := fun wx (h : Ext (w'.alloc (Obj.cells #[.int .i64 (p1), .int .u8 (p2), .int .u8 (p3), .int .u32 (p4), .int .u16 (p5), .int .u16 (p6), .int .u16 (p7), .int .u32 (p8)] 57)) wx) => h.boxCell
      have hTf := fun wx (h : Ext (w'.alloc (Obj.cells #[.int .i64 (p1), .int .u8 (p2), .int .u8 (p3), .int .u32 (p4), .int .u16 (p5), .int .u16 (p6), .int .u16 (p7), .int .u32 (p8)] 57)) wx) => h.boxFree
      have hV := hV.trans (Ext.alloc w' (Obj.cells #[.int .i64 (p1), .int .u8 (p2), .int .u8 (p3), .int .u32 (p4), .int .u16 (p5), .int .u16 (p6), .int .u16 (p7), .int .u32 (p8)] 57))
      have hW := hW.trans (Ext.alloc w' (Obj.cells #[.int .i64 (p1), .int .u8 (p2), .int .u8 (p3), .int .u32 (p4), .int .u16 (p5), .int .u16 (p6), .int .u16 (p7), .int .u32 (p8)] 57))
      generalize w'.alloc (Obj.cells #[.int .i64 (p1), .int .u8 (p2), .int .u8 (p3), .int .u32 (p4), .int .u16 (p5), .int .u16 (p6), .int .u16 (p7), .int .u32 (p8)] 57) = W3 at *
      generalize w'.heap.size = g3 at *
      have hM := fun wx (h : Ext W3 wx) => hZ wx (hV.trans h)
      have hN := fun wx (h : Ext W3 wx) => hY wx (hV.trans h)
      clear hZ hY hZf hYf
      have hV := Ext.refl W3
      have n1 : ¬ g1 = g3 := by omega
      have n2 : ¬ g3 = g1 := by omega
      have n3 : ¬ g2 = g3 := by omega
      have n4 : ¬ g3 = g2 := by omega
      clear z1 z2 y2 y3
      go_wp2_with (first | (go_at_call 18; (with_reducible refine (rn _).mono ?_); rintro e w' ⟨rfl, hb⟩; have hW := Ext.trans2 hW (by repeat (first | exact Ext.refl _ | exact Ext.alloc _ _ | exact Ext.drewN _ _ | assumption | refine Ext.trans ?_ (Ext.alloc _ _) | refine Ext.trans ?_ (Ext.drew _) | refine Ext.trans ?_ (by assumption))) hb; (try have hV := Ext.trans2 hV (by repeat (first | exact Ext.refl _ | exact Ext.alloc _ _ | exact Ext.drewN _ _ | assumption | refine Ext.trans ?_ (Ext.alloc _ _) | refine Ext.trans ?_ (Ext.drew _) | refine Ext.trans ?_ (by assumption))) hb); clear hb) | (go_at_call 6; refine (alive_any _ (hG.ext (hX0.trans (by (repeat (with_reducible refine Ext.set ?_ y4 _)); exact hW)))).mono ?_; rintro e w6 ⟨rfl, hb⟩))
      go_ret
      refine ⟨rfl, hX0.trans (Ext.trans ?_ hb)⟩
      (repeat (with_reducible refine Ext.set ?_ y4 _))
      exact hW
end Go.Proofs.YtecopjehmpjniaaDoor
