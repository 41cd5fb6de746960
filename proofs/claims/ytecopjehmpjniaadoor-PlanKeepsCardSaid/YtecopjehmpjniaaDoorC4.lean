/- What is gathered; a clone of classes. -/
import Derived.Test.YtecopjehmpjniaaDoorC3
namespace Go.Proofs.YtecopjehmpjniaaDoor
open Go.RowKit
set_option linter.unusedSimpArgs false
set_option linter.unusedVariables false
set_option maxRecDepth 100000


theorem kp_grown {base : Nat} {a b : World} {row : Option Nat} (hg : a.grownBy b row) (hr : ∀ k, row = some k → base ≤ k ∧ ∃ cs, Blk a k cs 28) : Kp [43, 28] base a b := by
  refine (Chg.grow1 (T := row.toList) hg (fun k e => by simp [e])).kp fun k hk => ?_
  have e : row = some k := by simpa using hk
  obtain ⟨h1, cs, h2⟩ := hr k e
  exact ⟨h1, fun _ => ⟨cs, _, h2, by simp⟩⟩
/-- Not told. -/
theorem gather_no (x : Cg) (P C : Nat) (w : World) : Calls Tryd.prog 26 #[.agg (gc x), .bool false, (.pointer (some ⟨P, 0, none⟩)), (.pointer (some ⟨C, 0, none⟩))] w fun e w' => e = .returned (.tuple #[]) ∧ Ext w w' := by
  obtain ⟨c1, c2, c3, c4⟩ := x
  simp only [gc]
  go_enter Tryd.func26, Tryd.ntmps26
  go_wp2_with fail
  have hX := fun w' (h : Ext (w.alloc (Obj.cells #[.int .i64 (c1), .int .u64 c2, .int .i64 c3, .int .u64 c4] 28)) w') => h.boxCell
  have hXf := fun w' (h : Ext (w.alloc (Obj.cells #[.int .i64 (c1), .int .u64 c2, .int .i64 c3, .int .u64 c4] 28)) w') => h.boxFree
  have hX0 : Ext w (w.alloc (Obj.cells #[.int .i64 (c1), .int .u64 c2, .int .i64 c3, .int .u64 c4] 28)) := Ext.alloc _ _
  generalize w.alloc (Obj.cells #[.int .i64 (c1), .int .u64 c2, .int .i64 c3, .int .u64 c4] 28) = W0 at *
  have hW := Ext.refl W0
  refine wp_region_ext (by kernel_rfl) (by kernel_rfl) ?_
  repeat
    with_reducible refine wpQuiet_step (fun K hK => ?_)
    go_simp
    first
    | (refine hK _ ?_; clear hK K)
    | (apply Exists.intro
       refine ⟨fun w1 h1 => ?_, hK _ ?_⟩
       (have hW := Ext.trans2 hW (by repeat (first | exact Ext.refl _ | exact Ext.alloc _ _ | exact Ext.drewN _ _ | assumption | refine Ext.trans ?_ (Ext.alloc _ _) | refine Ext.trans ?_ (Ext.drew _) | refine Ext.trans ?_ (by assumption))) h1; (try have hV := Ext.trans2 hV (by repeat (first | exact Ext.refl _ | exact Ext.alloc _ _ | exact Ext.drewN _ _ | assumption | refine Ext.trans ?_ (Ext.alloc _ _) | refine Ext.trans ?_ (Ext.drew _) | refine Ext.trans ?_ (by assumption))) h1); (first | rfl | (go_simp; done) | (go_simp; rfl) | fail))
       clear hK K)
  refine wpQuiet_nil (fun w' hw' => ?_)
  have hW := Ext.trans2 hW (by repeat (first | exact Ext.refl _ | exact Ext.alloc _ _ | exact Ext.drewN _ _ | assumption | refine Ext.trans ?_ (Ext.alloc _ _) | refine Ext.trans ?_ (Ext.drew _) | refine Ext.trans ?_ (by assumption))) hw'
  try have hV := Ext.trans2 hV (by repeat (first | exact Ext.refl _ | exact Ext.alloc _ _ | exact Ext.drewN _ _ | assumption | refine Ext.trans ?_ (Ext.alloc _ _) | refine Ext.trans ?_ (Ext.drew _) | refine Ext.trans ?_ (by assumption))) hw'
  clear hw'
  go_wp2_with fail
  go_end0
  exact ⟨rfl, (hX0.trans (hW.trans (by repeat (first | exact Ext.refl _ | exact Ext.alloc _ _ | exact Ext.drewN _ _ | assumption | refine Ext.trans ?_ (Ext.alloc _ _) | refine Ext.trans ?_ (Ext.drew _) | refine Ext.trans ?_ (by assumption)))))⟩
/-- Told already. -/
theorem gather_same (x : Cg) {j n cap P C b off : Nat} (w : World) (hj : x.o = (j : Int)) (hn : j < n) (r0 : ∀ w', Ext w w' → w'.cell? ⟨P, 0, none⟩ = some (.slice (some ⟨b, off, none⟩) n cap)) (r1 : ∀ w', Ext w w' → w'.cell? ⟨b, off + j * 3, none⟩ = some (.int .u64 x.w)) :
    Calls Tryd.prog 26 #[.agg (gc x), .bool true, (.pointer (some ⟨P, 0, none⟩)), (.pointer (some ⟨C, 0, none⟩))] w fun e w' => e = .returned (.tuple #[]) ∧ Ext w w' := by
  obtain ⟨c1, c2, c3, c4⟩ := x
  simp only [gc] at hj r1 ⊢
  subst hj
  have n1 : (c2 != c2) = false := by simp
  go_enter Tryd.func26, Tryd.ntmps26
  go_wp2_with fail
  have hX := fun w' (h : Ext (w.alloc (Obj.cells #[.int .i64 ((j : Int)), .int .u64 c2, .int .i64 c3, .int .u64 c4] 28)) w') => h.boxCell
  have hXf := fun w' (h : Ext (w.alloc (Obj.cells #[.int .i64 ((j : Int)), .int .u64 c2, .int .i64 c3, .int .u64 c4] 28)) w') => h.boxFree
  have hX0 : Ext w (w.alloc (Obj.cells #[.int .i64 ((j : Int)), .int .u64 c2, .int .i64 c3, .int .u64 c4] 28)) := Ext.alloc _ _
  generalize w.alloc (Obj.cells #[.int .i64 ((j : Int)), .int .u64 c2, .int .i64 c3, .int .u64 c4] 28) = W0 at *
  have hW := Ext.refl W0
  have r0 := fun wx (h : Ext W0 wx) => r0 wx (hX0.trans h)
  have r1 := fun wx (h : Ext W0 wx) => r1 wx (hX0.trans h)
  refine wp_region_ext (by kernel_rfl) (by kernel_rfl) ?_
  repeat
    with_reducible refine wpQuiet_step (fun K hK => ?_)
    go_simp
    first
    | (refine hK _ ?_; clear hK K)
    | (apply Exists.intro
       refine ⟨fun w1 h1 => ?_, hK _ ?_⟩
       (have hW := Ext.trans2 hW (by repeat (first | exact Ext.refl _ | exact Ext.alloc _ _ | exact Ext.drewN _ _ | assumption | refine Ext.trans ?_ (Ext.alloc _ _) | refine Ext.trans ?_ (Ext.drew _) | refine Ext.trans ?_ (by assumption))) h1; (try have hV := Ext.trans2 hV (by repeat (first | exact Ext.refl _ | exact Ext.alloc _ _ | exact Ext.drewN _ _ | assumption | refine Ext.trans ?_ (Ext.alloc _ _) | refine Ext.trans ?_ (Ext.drew _) | refine Ext.trans ?_ (by assumption))) h1); (first | rfl | (go_simp; done) | (go_simp; rfl) | fail))
       clear hK K)
  refine wpQuiet_nil (fun w' hw' => ?_)
  have hW := Ext.trans2 hW (by repeat (first | exact Ext.refl _ | exact Ext.alloc _ _ | exact Ext.drewN _ _ | assumption | refine Ext.trans ?_ (Ext.alloc _ _) | refine Ext.trans ?_ (Ext.drew _) | refine Ext.trans ?_ (by assumption))) hw'
  try have hV := Ext.trans2 hV (by repeat (first | exact Ext.refl _ | exact Ext.alloc _ _ | exact Ext.drewN _ _ | assumption | refine Ext.trans ?_ (Ext.alloc _ _) | refine Ext.trans ?_ (Ext.drew _) | refine Ext.trans ?_ (by assumption))) hw'
  clear hw'
  go_wp2_with fail
  go_end0
  exact ⟨rfl, (hX0.trans (hW.trans (by repeat (first | exact Ext.refl _ | exact Ext.alloc _ _ | exact Ext.drewN _ _ | assumption | refine Ext.trans ?_ (Ext.alloc _ _) | refine Ext.trans ?_ (Ext.drew _) | refine Ext.trans ?_ (by assumption)))))⟩
/-- Told anew. -/
theorem gather_put (x : Cg) {v : Int} {base m j n cap P C b off : Nat} {vr : Value} {L : List Cg} (w : World) (hj : x.o = (j : Int)) (hn : j < n) (r0 : ∀ w', Ext w w' → w'.cell? ⟨P, 0, none⟩ = some (.slice (some ⟨b, off, none⟩) n cap)) (r1 : ∀ w', Ext w w' → w'.cell? ⟨b, off + j * 3, none⟩ = some (.int .u64 v))
    (hv : ¬ x.w = v) (hb : Blk w C #[vr] 43) (hown : w.ownsRow base 28 4 vr m (fl gc L)) (hl : m ≤ 1000) (hC : base ≤ C) :
    Calls Tryd.prog 26 #[.agg (gc x), .bool true, (.pointer (some ⟨P, 0, none⟩)), (.pointer (some ⟨C, 0, none⟩))] w fun e w' => e = .returned (.tuple #[]) ∧ ∃ v', Blk w' C #[v'] 43 ∧ w'.ownsRow base 28 4 v' (m + 1) (fl gc (L ++ [x])) ∧ Kp [43, 28] base w w' := by
  have HE := hide (fl_snoc (enc := gc) L x)
  obtain ⟨c1, c2, c3, c4⟩ := x
  simp only [gc] at hj hv HE ⊢
  subst hj
  have n1 : (c2 != v) = true := by simpa using hv
  obtain ⟨A, c, rfl⟩ := own_sl hown
  have HR := hide (own_row hown)
  have HN := hide (fun k e => (own_blk hown k e : ∃ cs, Blk w k cs 28))
  have hbl := hb.lt
  have HB0 := hide hb
  have HO0 := hide hown
  have HV := hide hv
  clear hb hown hv
  go_enter Tryd.func26, Tryd.ntmps26
  go_wp2_with fail
  have hX := fun w' (h : Ext (w.alloc (Obj.cells #[.int .i64 ((j : Int)), .int .u64 c2, .int .i64 c3, .int .u64 c4] 28)) w') => h.boxCell
  have hXf := fun w' (h : Ext (w.alloc (Obj.cells #[.int .i64 ((j : Int)), .int .u64 c2, .int .i64 c3, .int .u64 c4] 28)) w') => h.boxFree
  have hX0 : Ext w (w.alloc (Obj.cells #[.int .i64 ((j : Int)), .int .u64 c2, .int .i64 c3, .int .u64 c4] 28)) := Ext.alloc _ _
  generalize w.alloc (Obj.cells #[.int .i64 ((j : Int)), .int .u64 c2, .int .i64 c3, .int .u64 c4] 28) = W0 at *
  have hW := Ext.refl W0
  have r0 := fun wx (h : Ext W0 wx) => r0 wx (hX0.trans h)
  have r1 := fun wx (h : Ext W0 wx) => r1 wx (hX0.trans h)
  refine wp_region_ext (by kernel_rfl) (by kernel_rfl) ?_
  repeat
    with_reducible refine wpQuiet_step (fun K hK => ?_)
    go_simp
    first
    | (refine hK _ ?_; clear hK K)
    | (apply Exists.intro
       refine ⟨fun w1 h1 => ?_, hK _ ?_⟩
       (have hW := Ext.trans2 hW (by repeat (first | exact Ext.refl _ | exact Ext.alloc _ _ | exact Ext.drewN _ _ | assumption | refine Ext.trans ?_ (Ext.alloc _ _) | refine Ext.trans ?_ (Ext.drew _) | refine Ext.trans ?_ (by assumption))) h1; (try have hV := Ext.trans2 hV (by repeat (first | exact Ext.refl _ | exact Ext.alloc _ _ | exact Ext.drewN _ _ | assumption | refine Ext.trans ?_ (Ext.alloc _ _) | refine Ext.trans ?_ (Ext.drew _) | refine Ext.trans ?_ (by assumption))) h1); (first | rfl | (go_simp; done) | (go_simp; rfl) | fail))
       clear hK K)
  refine wpQuiet_nil (fun w' hw' => ?_)
  have hW := Ext.trans2 hW (by repeat (first | exact Ext.refl _ | exact Ext.alloc _ _ | exact Ext.drewN _ _ | assumption | refine Ext.trans ?_ (Ext.alloc _ _) | refine Ext.trans ?_ (Ext.drew _) | refine Ext.trans ?_ (by assumption))) hw'
  try have hV := Ext.trans2 hV (by repeat (first | exact Ext.refl _ | exact Ext.alloc _ _ | exact Ext.drewN _ _ | assumption | refine Ext.trans ?_ (Ext.alloc _ _) | refine Ext.trans ?_ (Ext.drew _) | refine Ext.trans ?_ (by assumption))) hw'
  clear hw'
  have HX := hide (hX0.trans hW)
  have rC := fun wx (h : Ext w' wx) => ((HB0.out.ext HX.out).ext h).cell 0
  have hxx := Ext.refl w'
  have HS := hide (show base ≤ w'.heap.size by have := HX.out.size; omega)
  have HB := hide ((HB0.out.ext HX.out).ext (Ext.alloc w' (.cells #[.int .i64 ((j : Int)), .int .u64 c2, .int .i64 c3, .int .u64 c4] 28)))
  have HOW := hide (own_ext HO0.out HX.out)
  have HNE : Hid (∀ k, (Value.slice A m c).ownBlock = some k → k ≠ C) := by
    intro k e q
    subst q
    obtain ⟨cs, hk⟩ := HN.out k e
    exact absurd (Blk.type hk HB0.out) (by decide)
  go_wp2_with (at_builtin; (refine wpList_app2 (g := w'.heap.size) (v := .slice A m c) (n := m) (xs := fl gc L) rfl rfl Tryd.underlying43 inf_chg rfl (by omega) rfl HOW.out HS.out rfl rfl rfl (by simp [Value.oneCell']) (by unfold maxLen; omega) (by omega) ?_; intro v' w3 hown' hg3; obtain ⟨A3, c5, rfl⟩ := own_sl hown'; have HO := hide hown'; have HG := hide hg3; have HB3 := hide (HB.out.grown hg3 HNE.out); have q1 := HB3.out.cell; have q2 := HB3.out.free; clear hown' hg3; go_frame))
  go_end0
  have hb := HB3.out.set 0 (.slice A3 (m + 1) c5)
  have hKp : Kp [43, 28] base w (w3.setCell ⟨C, 0, none⟩ (.slice A3 (m + 1) c5)) := by
    refine ((HX.out.trans (Ext.alloc _ _)).kp _ _).trans ((kp_grown HG.out fun k e => ⟨HR.out k e, ?_⟩).trans (Kp.cell HB3.out hC (by simp)))
    obtain ⟨cs, hk⟩ := HN.out k e
    exact ⟨cs, (hk.ext HX.out).ext (Ext.alloc _ _)⟩
  refine ⟨rfl, _, by simpa using hb, ?_, hKp⟩
  rw [HE.out]
  refine own_chgB HO.out ((Chg.refl [C] w3).set (p := ⟨C, 0, none⟩) (.inl (by simp)) _) fun k e q => ?_
  obtain ⟨cs, hk⟩ := own_blk HO.out k e
  rw [List.mem_singleton.1 q] at hk
  exact absurd (Blk.type hk HB3.out) (by decide)
end Go.Proofs.YtecopjehmpjniaaDoor
