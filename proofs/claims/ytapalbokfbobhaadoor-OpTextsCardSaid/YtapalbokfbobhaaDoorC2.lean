/- part: an operation's text. -/
import Derived.Test.YtapalbokfbobhaaDoorC1
import Derived.Test.YtapalbokfbobhaaDoorB2
namespace Go.Proofs.YtapalbokfbobhaaDoor
open Go.RowKit Go.Sort
set_option linter.unusedSimpArgs false
set_option linter.unusedVariables false
set_option maxRecDepth 100000

theorem add_lists (w : World) (x y : List UInt8) (hx : (x.length : Int) ≤ 8388608) (hy : (y.length : Int) ≤ 8388608) :
    (Op.stringOp .add ⟨x.toArray⟩ ⟨y.toArray⟩).run Tryd.prog w = .ok (Value.string ⟨List.toArray (x ++ y)⟩) w := run_string_add_lists w x y hx hy
theorem part_plain (k : Nat) (o a : Int) (hk : 1 ≤ k) (hk9 : k < 9) (ha : k = 4 → a = 0) (h0 : 0 ≤ o) (h1 : o < 8) (w : World) (hG : Glob w) :
    Calls Tryd.prog 21 #[.agg #[.int .i64 (k : Int), .int .i64 o, .int .i64 a]] w fun e w' => e = .returned (Value.string ⟨List.toArray (wd k ++ 32 :: Lib.itoa o)⟩) ∧ Ext w w' := by
  have l1 := wd_len k
  have l2 := itoa_len h0 (by omega)
  have HW := hide hG
  have n9 : ¬ (k : Int) = 9 := by omega
  have r1 := fun w' (x : Ext w w') => (HW.out.ext x).words k (by omega)
  have e1 := fun w => add_lists w (wd k) [32] (by omega) (by decide)
  have e2 := fun w => add_lists w (wd k ++ [32]) (Lib.itoa o) (by simp; omega) (by omega)
  go_enter Tryd.func21, Tryd.ntmps21
  go_wp2_with fail
  have hX := fun w' (h : Ext (w.alloc (Obj.cells #[.int .i64 (k : Int), .int .i64 o, .int .i64 a] 24)) w') => h.boxCell
  have hXf := fun w' (h : Ext (w.alloc (Obj.cells #[.int .i64 (k : Int), .int .i64 o, .int .i64 a] 24)) w') => h.boxFree
  have hX0 : Ext w (w.alloc (Obj.cells #[.int .i64 (k : Int), .int .i64 o, .int .i64 a] 24)) := Ext.alloc _ _
  generalize w.alloc (Obj.cells #[.int .i64 (k : Int), .int .i64 o, .int .i64 a] 24) = W0 at *
  have hW := Ext.refl W0
  have r1 := fun w' (x : Ext W0 w') => r1 w' (hX0.trans x)
  have hk10 : (k : Int) < 10 := by omega
  refine wp_region_ext (by kernel_rfl) (by kernel_rfl) ?_
  repeat
    with_reducible refine wpQuiet_step (fun K hK => ?_)
    go_simp
    first
    | (refine hK _ ?_; clear hK K)
    | (apply Exists.intro
       refine ⟨fun w1 h1 => ?_, hK _ ?_⟩
       (have hW := Ext.trans2 hW (by repeat (first | exact Ext.refl _ | exact Ext.alloc _ _ | exact Ext.drewN _ _ | assumption | refine Ext.trans ?_ (Ext.alloc _ _) | refine Ext.trans ?_ (Ext.drew _) | refine Ext.trans ?_ (by assumption))) h1; (try have hV := Ext.trans2 hV (by repeat (first | exact Ext.refl _ | exact Ext.alloc _ _ | exact Ext.drewN _ _ | assumption | refine Ext.trans ?_ (Ext.alloc _ _) | refine Ext.trans ?_ (Ext.drew _) | refine Ext.trans ?_ (by assumption))) h1); (first | rfl | (go_simp; done) | (go_simp; rfl) | (go_at_call 30; (with_reducible refine (itoa_any _ _ (HW.out.ext (hX0.trans hW)) (by omega) (by omega)).mono ?_); rintro e w2 ⟨rfl, hb⟩; exact ⟨rfl, h1.trans hb⟩)))
       clear hK K)
  refine wpQuiet_nil (fun w' hw' => ?_)
  have hW := Ext.trans2 hW (by repeat (first | exact Ext.refl _ | exact Ext.alloc _ _ | exact Ext.drewN _ _ | assumption | refine Ext.trans ?_ (Ext.alloc _ _) | refine Ext.trans ?_ (Ext.drew _) | refine Ext.trans ?_ (by assumption))) hw'
  try have hV := Ext.trans2 hV (by repeat (first | exact Ext.refl _ | exact Ext.alloc _ _ | exact Ext.drewN _ _ | assumption | refine Ext.trans ?_ (Ext.alloc _ _) | refine Ext.trans ?_ (Ext.drew _) | refine Ext.trans ?_ (by assumption))) hw'
  clear hw'
  go_wp2_with fail
  all_goals
    go_ret
    exact ⟨rfl, (hX0.trans (hW.trans (by repeat (first | exact Ext.refl _ | exact Ext.alloc _ _ | exact Ext.drewN _ _ | assumption | refine Ext.trans ?_ (Ext.alloc _ _) | refine Ext.trans ?_ (Ext.drew _) | refine Ext.trans ?_ (by assumption)))))⟩
theorem part_nine (o a : Int) (h0 : 0 ≤ a) (h1 : a ≤ 1000000) (w : World) (hG : Glob w) :
    Calls Tryd.prog 21 #[.agg #[.int .i64 9, .int .i64 o, .int .i64 a]] w fun e w' => e = .returned (Value.string ⟨List.toArray (wd 9 ++ 32 :: Lib.itoa a)⟩) ∧ Ext w w' := by
  have l1 := wd_len 9
  have l2 := itoa_len h0 (by omega)
  have HW := hide hG
  have r1 := fun w' (x : Ext w w') => (HW.out.ext x).words 9 (by omega)
  have e1 := fun w => add_lists w (wd 9) [32] (by omega) (by decide)
  have e2 := fun w => add_lists w (wd 9 ++ [32]) (Lib.itoa a) (by simp; omega) (by omega)
  generalize wd 9 = wk at *
  go_enter Tryd.func21, Tryd.ntmps21
  go_wp2_with fail
  have hX := fun w' (h : Ext (w.alloc (Obj.cells #[.int .i64 9, .int .i64 o, .int .i64 a] 24)) w') => h.boxCell
  have hXf := fun w' (h : Ext (w.alloc (Obj.cells #[.int .i64 9, .int .i64 o, .int .i64 a] 24)) w') => h.boxFree
  have hX0 : Ext w (w.alloc (Obj.cells #[.int .i64 9, .int .i64 o, .int .i64 a] 24)) := Ext.alloc _ _
  generalize w.alloc (Obj.cells #[.int .i64 9, .int .i64 o, .int .i64 a] 24) = W0 at *
  have hW := Ext.refl W0
  have r1 := fun w' (x : Ext W0 w') => r1 w' (hX0.trans x)
  refine wp_region_ext (by kernel_rfl) (by kernel_rfl) ?_
  repeat
    with_reducible refine wpQuiet_step (fun K hK => ?_)
    go_simp
    first
    | (refine hK _ ?_; clear hK K)
    | (apply Exists.intro
       refine ⟨fun w1 h1 => ?_, hK _ ?_⟩
       (have hW := Ext.trans2 hW (by repeat (first | exact Ext.refl _ | exact Ext.alloc _ _ | exact Ext.drewN _ _ | assumption | refine Ext.trans ?_ (Ext.alloc _ _) | refine Ext.trans ?_ (Ext.drew _) | refine Ext.trans ?_ (by assumption))) h1; (try have hV := Ext.trans2 hV (by repeat (first | exact Ext.refl _ | exact Ext.alloc _ _ | exact Ext.drewN _ _ | assumption | refine Ext.trans ?_ (Ext.alloc _ _) | refine Ext.trans ?_ (Ext.drew _) | refine Ext.trans ?_ (by assumption))) h1); (first | rfl | (go_simp; done) | (go_simp; rfl) | (go_at_call 30; (with_reducible refine (itoa_any _ _ (HW.out.ext (hX0.trans hW)) (by omega) (by omega)).mono ?_); rintro e w2 ⟨rfl, hb⟩; exact ⟨rfl, h1.trans hb⟩)))
       clear hK K)
  refine wpQuiet_nil (fun w' hw' => ?_)
  have hW := Ext.trans2 hW (by repeat (first | exact Ext.refl _ | exact Ext.alloc _ _ | exact Ext.drewN _ _ | assumption | refine Ext.trans ?_ (Ext.alloc _ _) | refine Ext.trans ?_ (Ext.drew _) | refine Ext.trans ?_ (by assumption))) hw'
  try have hV := Ext.trans2 hV (by repeat (first | exact Ext.refl _ | exact Ext.alloc _ _ | exact Ext.drewN _ _ | assumption | refine Ext.trans ?_ (Ext.alloc _ _) | refine Ext.trans ?_ (Ext.drew _) | refine Ext.trans ?_ (by assumption))) hw'
  clear hw'
  go_wp2_with fail
  all_goals
    go_ret
    exact ⟨rfl, (hX0.trans (hW.trans (by repeat (first | exact Ext.refl _ | exact Ext.alloc _ _ | exact Ext.drewN _ _ | assumption | refine Ext.trans ?_ (Ext.alloc _ _) | refine Ext.trans ?_ (Ext.drew _) | refine Ext.trans ?_ (by assumption)))))⟩
theorem part_four (o a : Int) (h0 : 0 ≤ o) (h1 : o < 8) (ha0 : 0 < a) (ha1 : a ≤ 1000000) (w : World) (hG : Glob w) :
    Calls Tryd.prog 21 #[.agg #[.int .i64 4, .int .i64 o, .int .i64 a]] w fun e w' => e = .returned (Value.string ⟨List.toArray (wd 4 ++ 32 :: (Lib.itoa o ++ 32 :: Lib.itoa a))⟩) ∧ Ext w w' := by
  have l1 := wd_len 4
  have l2 := itoa_len h0 (by omega)
  have l3 := itoa_len (n := a) (by omega) (by omega)
  have HW := hide hG
  have r1 := fun w' (x : Ext w w') => (HW.out.ext x).words 4 (by omega)
  have e1 := fun w => add_lists w (wd 4) [32] (by omega) (by decide)
  have e2 := fun w => add_lists w (wd 4 ++ [32]) (Lib.itoa o) (by simp; omega) (by omega)
  have e3 := fun w => add_lists w [32] (Lib.itoa a) (by decide) (by omega)
  have e4 := fun w => add_lists w (wd 4 ++ 32 :: Lib.itoa o) (32 :: Lib.itoa a) (by simp; omega) (by simp; omega)
  generalize wd 4 = wk at *
  go_enter Tryd.func21, Tryd.ntmps21
  go_wp2_with fail
  have hX := fun w' (h : Ext (w.alloc (Obj.cells #[.int .i64 4, .int .i64 o, .int .i64 a] 24)) w') => h.boxCell
  have hXf := fun w' (h : Ext (w.alloc (Obj.cells #[.int .i64 4, .int .i64 o, .int .i64 a] 24)) w') => h.boxFree
  have hX0 : Ext w (w.alloc (Obj.cells #[.int .i64 4, .int .i64 o, .int .i64 a] 24)) := Ext.alloc _ _
  generalize w.alloc (Obj.cells #[.int .i64 4, .int .i64 o, .int .i64 a] 24) = W0 at *
  have hW := Ext.refl W0
  have r1 := fun w' (x : Ext W0 w') => r1 w' (hX0.trans x)
  refine wp_region_ext (by kernel_rfl) (by kernel_rfl) ?_
  repeat
    with_reducible refine wpQuiet_step (fun K hK => ?_)
    go_simp
    first
    | (refine hK _ ?_; clear hK K)
    | (apply Exists.intro
       refine ⟨fun w1 h1 => ?_, hK _ ?_⟩
       (have hW := Ext.trans2 hW (by repeat (first | exact Ext.refl _ | exact Ext.alloc _ _ | exact Ext.drewN _ _ | assumption | refine Ext.trans ?_ (Ext.alloc _ _) | refine Ext.trans ?_ (Ext.drew _) | refine Ext.trans ?_ (by assumption))) h1; (try have hV := Ext.trans2 hV (by repeat (first | exact Ext.refl _ | exact Ext.alloc _ _ | exact Ext.drewN _ _ | assumption | refine Ext.trans ?_ (Ext.alloc _ _) | refine Ext.trans ?_ (Ext.drew _) | refine Ext.trans ?_ (by assumption))) h1); (first | rfl | (go_simp; done) | (go_simp; rfl) | (go_at_call 30; (with_reducible refine (itoa_any _ _ (HW.out.ext (hX0.trans hW)) (by omega) (by omega)).mono ?_); rintro e w2 ⟨rfl, hb⟩; exact ⟨rfl, h1.trans hb⟩)))
       clear hK K)
  refine wpQuiet_nil (fun w' hw' => ?_)
  have hW := Ext.trans2 hW (by repeat (first | exact Ext.refl _ | exact Ext.alloc _ _ | exact Ext.drewN _ _ | assumption | refine Ext.trans ?_ (Ext.alloc _ _) | refine Ext.trans ?_ (Ext.drew _) | refine Ext.trans ?_ (by assumption))) hw'
  try have hV := Ext.trans2 hV (by repeat (first | exact Ext.refl _ | exact Ext.alloc _ _ | exact Ext.drewN _ _ | assumption | refine Ext.trans ?_ (Ext.alloc _ _) | refine Ext.trans ?_ (Ext.drew _) | refine Ext.trans ?_ (by assumption))) hw'
  clear hw'
  go_wp2_with (go_at_call 30; (with_reducible refine (itoa_any _ _ (HW.out.ext (hX0.trans hW)) (by omega) (by omega)).mono ?_); rintro e w' ⟨rfl, hb⟩; have hW := Ext.trans2 hW (by repeat (first | exact Ext.refl _ | exact Ext.alloc _ _ | exact Ext.drewN _ _ | assumption | refine Ext.trans ?_ (Ext.alloc _ _) | refine Ext.trans ?_ (Ext.drew _) | refine Ext.trans ?_ (by assumption))) hb; (try have hV := Ext.trans2 hV (by repeat (first | exact Ext.refl _ | exact Ext.alloc _ _ | exact Ext.drewN _ _ | assumption | refine Ext.trans ?_ (Ext.alloc _ _) | refine Ext.trans ?_ (Ext.drew _) | refine Ext.trans ?_ (by assumption))) hb); clear hb)
  all_goals
    go_ret
    exact ⟨by simp, (hX0.trans (hW.trans (by repeat (first | exact Ext.refl _ | exact Ext.alloc _ _ | exact Ext.drewN _ _ | assumption | refine Ext.trans ?_ (Ext.alloc _ _) | refine Ext.trans ?_ (Ext.drew _) | refine Ext.trans ?_ (by assumption)))))⟩
theorem part_any (x : Op3) (hx : mayO x = true) (w : World) (hG : Glob w) :
    Calls Tryd.prog 21 #[.agg #[.int .i64 x.1, .int .i64 x.2.1, .int .i64 x.2.2]] w fun e w' => e = .returned (Value.string ⟨List.toArray (partO x)⟩) ∧ Ext w w' := by
  obtain ⟨h1, h2, h3, h4, h5, h6, h7⟩ := may_out hx
  obtain ⟨k, o, a⟩ := x
  simp only at h1 h2 h3 h4 h5 h6 h7
  by_cases k9 : k = 9
  · subst k9
    rw [show partO (9, o, a) = wd 9 ++ 32 :: Lib.itoa a from if_pos rfl]
    exact part_nine o a h3 h4 w hG
  · by_cases k4 : k = 4 ∧ 0 < a
    · obtain ⟨rfl, k5⟩ := k4
      rw [show partO (4, o, a) = wd 4 ++ 32 :: (Lib.itoa o ++ 32 :: Lib.itoa a) by unfold partO; rw [if_neg k9, if_pos ⟨rfl, k5⟩]]
      exact part_four o a h1 h2 k5 h4 w hG
    · rw [show partO (k, o, a) = wd k.toNat ++ 32 :: Lib.itoa o by unfold partO; rw [if_neg k9, if_neg k4]]
      obtain ⟨m, rfl⟩ : ∃ m : Nat, k = m := ⟨k.toNat, by omega⟩
      exact part_plain m o a (by omega) (by omega) (fun e => by subst e; have := h6; simp at k4; omega) h1 h2 w hG
end Go.Proofs.YtapalbokfbobhaaDoor
