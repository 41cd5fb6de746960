/- What unpack answers. -/
import Derived.Test.YtlgomkocalieeaaGreatDoorWdP1
namespace Go.Proofs.YtlgomkocalieeaaGreatDoor.Wd
set_option maxRecDepth 100000
open Go.RowKit
set_option linter.unusedVariables false
set_option linter.unusedSimpArgs false



theorem u_z : Value.agg #[.int .i64 (5), .int .u8 (0), .int .u8 (0), .int .u32 (0), .int .u16 (0), .int .u16 (0), .int .u16 (0), .int .u32 (0)] = Value.agg #[.int .i64 (uK 0), .int .u8 (uA 0), .int .u8 (uE 0), .int .u32 (uH 0), .int .u16 (uO 0), .int .u16 (uR 0), .int .u16 (uS 0), .int .u32 (uG 0)] := by
  simp [uK, uA, uE, uH, uO, uR, uS, uG]
theorem u_none {v : Int} (h0 : ¬ v = 0) (ht : ¬ v % 8 = 0) (h1 : ¬ v % 8 = 1) (h2 : ¬ v % 8 = 2) (h5 : ¬ v % 8 = 5) : Value.agg #[.int .i64 (0), .int .u8 (0), .int .u8 (0), .int .u32 (0), .int .u16 (0), .int .u16 (0), .int .u16 (0), .int .u32 (0)] = Value.agg #[.int .i64 (uK v), .int .u8 (uA v), .int .u8 (uE v), .int .u32 (uH v), .int .u16 (uO v), .int .u16 (uR v), .int .u16 (uS v), .int .u32 (uG v)] := by
  simp [uK, uA, uE, uH, uO, uR, uS, uG, h0, ht, h1, h2, h5]
theorem u_no {v : Int} (h0 : ¬ v = 0) (ht : v % 8 = 0) (ho : v / 16777216 % 65536 = 0) : Value.agg #[.int .i64 (0), .int .u8 (0), .int .u8 (0), .int .u32 (0), .int .u16 (0), .int .u16 (0), .int .u16 (0), .int .u32 (0)] = Value.agg #[.int .i64 (uK v), .int .u8 (uA v), .int .u8 (uE v), .int .u32 (uH v), .int .u16 (uO v), .int .u16 (uR v), .int .u16 (uS v), .int .u32 (uG v)] := by
  simp [uK, uA, uE, uH, uO, uR, uS, uG, h0, ht, ho]
theorem u_t {v : Int} (h0 : ¬ v = 0) (ht : v % 8 = 0) (ho : ¬ v / 16777216 % 65536 = 0) : Value.agg #[.int .i64 (1), .int .u8 (0), .int .u8 (0), .int .u32 (0), .int .u16 ((v / 16777216 % 65536)), .int .u16 ((v / 256 % 65536)), .int .u16 (0), .int .u32 (0)] = Value.agg #[.int .i64 (uK v), .int .u8 (uA v), .int .u8 (uE v), .int .u32 (uH v), .int .u16 (uO v), .int .u16 (uR v), .int .u16 (uS v), .int .u32 (uG v)] := by
  simp [uK, uA, uE, uH, uO, uR, uS, uG, h0, ht, ho]
theorem u_n {v : Int} (ht : v % 8 = 1) : Value.agg #[.int .i64 (2), .int .u8 ((v / 8 % 16)), .int .u8 (0), .int .u32 ((v / 256 % 2147483648)), .int .u16 (0), .int .u16 (0), .int .u16 (0), .int .u32 (0)] = Value.agg #[.int .i64 (uK v), .int .u8 (uA v), .int .u8 (uE v), .int .u32 (uH v), .int .u16 (uO v), .int .u16 (uR v), .int .u16 (uS v), .int .u32 (uG v)] := by
  have h0 : ¬ v = 0 := by omega
  simp [uK, uA, uE, uH, uO, uR, uS, uG, ht, h0]
theorem u_f {v : Int} (ht : v % 8 = 2) : Value.agg #[.int .i64 (3), .int .u8 (0), .int .u8 (0), .int .u32 (0), .int .u16 (0), .int .u16 (0), .int .u16 ((v / 256 % 65536)), .int .u32 ((v / 16777216 % 16777216))] = Value.agg #[.int .i64 (uK v), .int .u8 (uA v), .int .u8 (uE v), .int .u32 (uH v), .int .u16 (uO v), .int .u16 (uR v), .int .u16 (uS v), .int .u32 (uG v)] := by
  have h0 : ¬ v = 0 := by omega
  simp [uK, uA, uE, uH, uO, uR, uS, uG, ht, h0]
theorem u_b {v : Int} (ht : v % 8 = 5) : Value.agg #[.int .i64 (4), .int .u8 ((v / 8 % 16)), .int .u8 ((v / 256 % 256)), .int .u32 (0), .int .u16 ((v / 16777216 % 65536)), .int .u16 (0), .int .u16 (0), .int .u32 (0)] = Value.agg #[.int .i64 (uK v), .int .u8 (uA v), .int .u8 (uE v), .int .u32 (uH v), .int .u16 (uO v), .int .u16 (uR v), .int .u16 (uS v), .int .u32 (uG v)] := by
  have h0 : ¬ v = 0 := by omega
  simp [uK, uA, uE, uH, uO, uR, uS, uG, ht, h0]

theorem unpack_z (w : World) : Calls Tryz.prog 100 #[.int .u64 0] w fun x w' => x = .returned (Value.agg #[.int .i64 (5), .int .u8 (0), .int .u8 (0), .int .u32 (0), .int .u16 (0), .int .u16 (0), .int .u16 (0), .int .u32 (0)]) ∧ Ext w w' := by
  go_enter Tryz.func100, Tryz.ntmps100
  go_wp2
  refine bodyPost_ret (v := Value.agg #[.int .i64 (5), .int .u8 (0), .int .u8 (0), .int .u32 (0), .int .u16 (0), .int .u16 (0), .int .u16 (0), .int .u32 (0)]) (by simp [results, Tryz.results100, go_sem, *]) rfl ⟨rfl, ?_⟩
  exact Ext.alloc _ _

theorem u16_in {x : Int} (h0 : 0 ≤ x) (h1 : x < 65536) : IntKind.u16.wrap x = x := by
  rw [IntKind.wrap_u16]; omega
theorem u8_in {x : Int} (h0 : 0 ≤ x) (h1 : x < 256) : IntKind.u8.wrap x = x := by
  rw [IntKind.wrap_u8]; omega
theorem u32_in {x : Int} (h0 : 0 ≤ x) (h1 : x < 4294967296) : IntKind.u32.wrap x = x := by
  rw [IntKind.wrap_u32]; omega

set_option maxHeartbeats 1000000 in
theorem unpack_none (v : Int) (w : World) (hG : Glob w) (hv : InW v) (h0 : ¬ v = 0) (ht : ¬ v % 8 = 0) (h1 : ¬ v % 8 = 1) (h2 : ¬ v % 8 = 2) (h5 : ¬ v % 8 = 5) : Calls Tryz.prog 100 #[.int .u64 v] w fun x w' => x = .returned (Value.agg #[.int .i64 (0), .int .u8 (0), .int .u8 (0), .int .u32 (0), .int .u16 (0), .int .u16 (0), .int .u16 (0), .int .u32 (0)]) ∧ Ext w w' := by
  have eo := get_owner hv
  have ea := get_age hv
  have et := get_tag hv
  have wo : IntKind.u16.wrap (v / 16777216 % 65536) = v / 16777216 % 65536 := u16_in (by omega) (by omega)
  have wa : IntKind.u8.wrap (v / 8 % 16) = v / 8 % 16 := u8_in (by omega) (by omega)
  clear hv
  have hq0_owner := fun o => ((hG.ext (Ext.alloc w o)).owner).2.1
  have hq1_owner := fun o => ((hG.ext (Ext.alloc w o)).owner).2.2
  go_enter Tryz.func100, Tryz.ntmps100
  go_wp2_with fail
  have hX := fun w' (h : Ext (w.alloc (Obj.cells #[.int .i64 (0), .int .u8 (0), .int .u8 (0), .int .u32 (0), .int .u16 (0), .int .u16 (0), .int .u16 (0), .int .u32 (0)] 204)) w') => h.boxCell
  have hXf := fun w' (h : Ext (w.alloc (Obj.cells #[.int .i64 (0), .int .u8 (0), .int .u8 (0), .int .u32 (0), .int .u16 (0), .int .u16 (0), .int .u16 (0), .int .u32 (0)] 204)) w') => h.boxFree
  have hX0 : Ext w (w.alloc (Obj.cells #[.int .i64 (0), .int .u8 (0), .int .u8 (0), .int .u32 (0), .int .u16 (0), .int .u16 (0), .int .u16 (0), .int .u32 (0)] 204)) := Ext.alloc _ _
  generalize w.alloc (Obj.cells #[.int .i64 (0), .int .u8 (0), .int .u8 (0), .int .u32 (0), .int .u16 (0), .int .u16 (0), .int .u16 (0), .int .u32 (0)] 204) = W0 at *
  have hW := Ext.refl W0
  clear hq0_owner hq1_owner
  have hg0_age := fun w' (h : Ext W0 w') => ((hG.ext (hX0.trans h)).age).2.1
  have hg1_age := fun w' (h : Ext W0 w') => ((hG.ext (hX0.trans h)).age).2.2
  have hg0_tag := fun w' (h : Ext W0 w') => ((hG.ext (hX0.trans h)).tag).2.1
  have hg1_tag := fun w' (h : Ext W0 w') => ((hG.ext (hX0.trans h)).tag).2.2
  go_wp2_with (go_at_call 102; (with_reducible refine (get_any _ _ _ _ (by decide) (by decide) (by decide) (by decide)).mono ?_); rintro e w' ⟨rfl, hb⟩; have hW := Ext.trans2 hW (by repeat (first | exact Ext.refl _ | exact Ext.alloc _ _ | exact Ext.drewN _ _ | assumption | refine Ext.trans ?_ (Ext.alloc _ _) | refine Ext.trans ?_ (Ext.drew _) | refine Ext.trans ?_ (by assumption))) hb; (try have hV := Ext.trans2 hV (by repeat (first | exact Ext.refl _ | exact Ext.alloc _ _ | exact Ext.drewN _ _ | assumption | refine Ext.trans ?_ (Ext.alloc _ _) | refine Ext.trans ?_ (Ext.drew _) | refine Ext.trans ?_ (by assumption))) hb); clear hb)
  refine bodyPost_ret (v := Value.agg #[.int .i64 (0), .int .u8 (0), .int .u8 (0), .int .u32 (0), .int .u16 (0), .int .u16 (0), .int .u16 (0), .int .u32 (0)]) (by simp [results, Tryz.results100, go_sem, *]) rfl ⟨rfl, ?_⟩
  ((repeat (with_reducible refine Ext.set ?_ (by simp) _)); exact (hX0.trans (hW.trans (by repeat (first | exact Ext.refl _ | exact Ext.alloc _ _ | exact Ext.drewN _ _ | assumption | refine Ext.trans ?_ (Ext.alloc _ _) | refine Ext.trans ?_ (Ext.drew _) | refine Ext.trans ?_ (by assumption))))))

set_option maxHeartbeats 1000000 in
theorem unpack_no (v : Int) (w : World) (hG : Glob w) (hv : InW v) (h0 : ¬ v = 0) (ht : v % 8 = 0) (ho : v / 16777216 % 65536 = 0) : Calls Tryz.prog 100 #[.int .u64 v] w fun x w' => x = .returned (Value.agg #[.int .i64 (0), .int .u8 (0), .int .u8 (0), .int .u32 (0), .int .u16 (0), .int .u16 (0), .int .u16 (0), .int .u32 (0)]) ∧ Ext w w' := by
  have eo := get_owner hv
  have ea := get_age hv
  have et := get_tag hv
  have wo : IntKind.u16.wrap 0 = 0 := by decide
  have wa : IntKind.u8.wrap (v / 8 % 16) = v / 8 % 16 := u8_in (by omega) (by omega)
  clear hv
  have hq0_owner := fun o => ((hG.ext (Ext.alloc w o)).owner).2.1
  have hq1_owner := fun o => ((hG.ext (Ext.alloc w o)).owner).2.2
  go_enter Tryz.func100, Tryz.ntmps100
  go_wp2_with fail
  have hX := fun w' (h : Ext (w.alloc (Obj.cells #[.int .i64 (0), .int .u8 (0), .int .u8 (0), .int .u32 (0), .int .u16 (0), .int .u16 (0), .int .u16 (0), .int .u32 (0)] 204)) w') => h.boxCell
  have hXf := fun w' (h : Ext (w.alloc (Obj.cells #[.int .i64 (0), .int .u8 (0), .int .u8 (0), .int .u32 (0), .int .u16 (0), .int .u16 (0), .int .u16 (0), .int .u32 (0)] 204)) w') => h.boxFree
  have hX0 : Ext w (w.alloc (Obj.cells #[.int .i64 (0), .int .u8 (0), .int .u8 (0), .int .u32 (0), .int .u16 (0), .int .u16 (0), .int .u16 (0), .int .u32 (0)] 204)) := Ext.alloc _ _
  generalize w.alloc (Obj.cells #[.int .i64 (0), .int .u8 (0), .int .u8 (0), .int .u32 (0), .int .u16 (0), .int .u16 (0), .int .u16 (0), .int .u32 (0)] 204) = W0 at *
  have hW := Ext.refl W0
  clear hq0_owner hq1_owner
  have hg0_age := fun w' (h : Ext W0 w') => ((hG.ext (hX0.trans h)).age).2.1
  have hg1_age := fun w' (h : Ext W0 w') => ((hG.ext (hX0.trans h)).age).2.2
  have hg0_tag := fun w' (h : Ext W0 w') => ((hG.ext (hX0.trans h)).tag).2.1
  have hg1_tag := fun w' (h : Ext W0 w') => ((hG.ext (hX0.trans h)).tag).2.2
  go_wp2_with (go_at_call 102; (with_reducible refine (get_any _ _ _ _ (by decide) (by decide) (by decide) (by decide)).mono ?_); rintro e w' ⟨rfl, hb⟩; have hW := Ext.trans2 hW (by repeat (first | exact Ext.refl _ | exact Ext.alloc _ _ | exact Ext.drewN _ _ | assumption | refine Ext.trans ?_ (Ext.alloc _ _) | refine Ext.trans ?_ (Ext.drew _) | refine Ext.trans ?_ (by assumption))) hb; (try have hV := Ext.trans2 hV (by repeat (first | exact Ext.refl _ | exact Ext.alloc _ _ | exact Ext.drewN _ _ | assumption | refine Ext.trans ?_ (Ext.alloc _ _) | refine Ext.trans ?_ (Ext.drew _) | refine Ext.trans ?_ (by assumption))) hb); clear hb)
  refine bodyPost_ret (v := Value.agg #[.int .i64 (0), .int .u8 (0), .int .u8 (0), .int .u32 (0), .int .u16 (0), .int .u16 (0), .int .u16 (0), .int .u32 (0)]) (by simp [results, Tryz.results100, go_sem, *]) rfl ⟨rfl, ?_⟩
  ((repeat (with_reducible refine Ext.set ?_ (by simp) _)); exact (hX0.trans (hW.trans (by repeat (first | exact Ext.refl _ | exact Ext.alloc _ _ | exact Ext.drewN _ _ | assumption | refine Ext.trans ?_ (Ext.alloc _ _) | refine Ext.trans ?_ (Ext.drew _) | refine Ext.trans ?_ (by assumption))))))

set_option maxHeartbeats 1000000 in
theorem unpack_t (v : Int) (w : World) (hG : Glob w) (hv : InW v) (h0 : ¬ v = 0) (ht : v % 8 = 0) (ho : ¬ v / 16777216 % 65536 = 0) : Calls Tryz.prog 100 #[.int .u64 v] w fun x w' => x = .returned (Value.agg #[.int .i64 (1), .int .u8 (0), .int .u8 (0), .int .u32 (0), .int .u16 ((v / 16777216 % 65536)), .int .u16 ((v / 256 % 65536)), .int .u16 (0), .int .u32 (0)]) ∧ Ext w w' := by
  have eo := get_owner hv
  have ea := get_age hv
  have et := get_tag hv
  have wo : IntKind.u16.wrap (v / 16777216 % 65536) = v / 16777216 % 65536 := u16_in (by omega) (by omega)
  have wa : IntKind.u8.wrap (v / 8 % 16) = v / 8 % 16 := u8_in (by omega) (by omega)
  have er := get_rec hv
  have wr : IntKind.u16.wrap (v / 256 % 65536) = v / 256 % 65536 := u16_in (by omega) (by omega)
  clear hv
  have hq0_owner := fun o => ((hG.ext (Ext.alloc w o)).owner).2.1
  have hq1_owner := fun o => ((hG.ext (Ext.alloc w o)).owner).2.2
  go_enter Tryz.func100, Tryz.ntmps100
  go_wp2_with fail
  have hX := fun w' (h : Ext (w.alloc (Obj.cells #[.int .i64 (0), .int .u8 (0), .int .u8 (0), .int .u32 (0), .int .u16 (0), .int .u16 (0), .int .u16 (0), .int .u32 (0)] 204)) w') => h.boxCell
  have hXf := fun w' (h : Ext (w.alloc (Obj.cells #[.int .i64 (0), .int .u8 (0), .int .u8 (0), .int .u32 (0), .int .u16 (0), .int .u16 (0), .int .u16 (0), .int .u32 (0)] 204)) w') => h.boxFree
  have hX0 : Ext w (w.alloc (Obj.cells #[.int .i64 (0), .int .u8 (0), .int .u8 (0), .int .u32 (0), .int .u16 (0), .int .u16 (0), .int .u16 (0), .int .u32 (0)] 204)) := Ext.alloc _ _
  generalize w.alloc (Obj.cells #[.int .i64 (0), .int .u8 (0), .int .u8 (0), .int .u32 (0), .int .u16 (0), .int .u16 (0), .int .u16 (0), .int .u32 (0)] 204) = W0 at *
  have hW := Ext.refl W0
  clear hq0_owner hq1_owner
  have hg0_age := fun w' (h : Ext W0 w') => ((hG.ext (hX0.trans h)).age).2.1
  have hg1_age := fun w' (h : Ext W0 w') => ((hG.ext (hX0.trans h)).age).2.2
  have hg0_tag := fun w' (h : Ext W0 w') => ((hG.ext (hX0.trans h)).tag).2.1
  have hg1_tag := fun w' (h : Ext W0 w') => ((hG.ext (hX0.trans h)).tag).2.2
  have hg0_rec_ := fun w' (h : Ext W0 w') => ((hG.ext (hX0.trans h)).rec_).2.1
  have hg1_rec_ := fun w' (h : Ext W0 w') => ((hG.ext (hX0.trans h)).rec_).2.2
  go_wp2_with (go_at_call 102; (with_reducible refine (get_any _ _ _ _ (by decide) (by decide) (by decide) (by decide)).mono ?_); rintro e w' ⟨rfl, hb⟩; have hW := Ext.trans2 hW (by repeat (first | exact Ext.refl _ | exact Ext.alloc _ _ | exact Ext.drewN _ _ | assumption | refine Ext.trans ?_ (Ext.alloc _ _) | refine Ext.trans ?_ (Ext.drew _) | refine Ext.trans ?_ (by assumption))) hb; (try have hV := Ext.trans2 hV (by repeat (first | exact Ext.refl _ | exact Ext.alloc _ _ | exact Ext.drewN _ _ | assumption | refine Ext.trans ?_ (Ext.alloc _ _) | refine Ext.trans ?_ (Ext.drew _) | refine Ext.trans ?_ (by assumption))) hb); clear hb)
  refine bodyPost_ret (v := Value.agg #[.int .i64 (1), .int .u8 (0), .int .u8 (0), .int .u32 (0), .int .u16 ((v / 16777216 % 65536)), .int .u16 ((v / 256 % 65536)), .int .u16 (0), .int .u32 (0)]) (by simp [results, Tryz.results100, go_sem, *]) rfl ⟨rfl, ?_⟩
  ((repeat (with_reducible refine Ext.set ?_ (by simp) _)); exact (hX0.trans (hW.trans (by repeat (first | exact Ext.refl _ | exact Ext.alloc _ _ | exact Ext.drewN _ _ | assumption | refine Ext.trans ?_ (Ext.alloc _ _) | refine Ext.trans ?_ (Ext.drew _) | refine Ext.trans ?_ (by assumption))))))

set_option maxHeartbeats 1000000 in
theorem unpack_n (v : Int) (w : World) (hG : Glob w) (hv : InW v) (ht : v % 8 = 1) : Calls Tryz.prog 100 #[.int .u64 v] w fun x w' => x = .returned (Value.agg #[.int .i64 (2), .int .u8 ((v / 8 % 16)), .int .u8 (0), .int .u32 ((v / 256 % 2147483648)), .int .u16 (0), .int .u16 (0), .int .u16 (0), .int .u32 (0)]) ∧ Ext w w' := by
  have h0 : ¬ v = 0 := by omega
  have eo := get_owner hv
  have ea := get_age hv
  have et := get_tag hv
  have wo : IntKind.u16.wrap (v / 16777216 % 65536) = v / 16777216 % 65536 := u16_in (by omega) (by omega)
  have wa : IntKind.u8.wrap (v / 8 % 16) = v / 8 % 16 := u8_in (by omega) (by omega)
  have eh := get_hash hv
  have wh : IntKind.u32.wrap (v / 256 % 2147483648) = v / 256 % 2147483648 := u32_in (by omega) (by omega)
  clear hv
  have hq0_owner := fun o => ((hG.ext (Ext.alloc w o)).owner).2.1
  have hq1_owner := fun o => ((hG.ext (Ext.alloc w o)).owner).2.2
  go_enter Tryz.func100, Tryz.ntmps100
  go_wp2_with fail
  have hX := fun w' (h : Ext (w.alloc (Obj.cells #[.int .i64 (0), .int .u8 (0), .int .u8 (0), .int .u32 (0), .int .u16 (0), .int .u16 (0), .int .u16 (0), .int .u32 (0)] 204)) w') => h.boxCell
  have hXf := fun w' (h : Ext (w.alloc (Obj.cells #[.int .i64 (0), .int .u8 (0), .int .u8 (0), .int .u32 (0), .int .u16 (0), .int .u16 (0), .int .u16 (0), .int .u32 (0)] 204)) w') => h.boxFree
  have hX0 : Ext w (w.alloc (Obj.cells #[.int .i64 (0), .int .u8 (0), .int .u8 (0), .int .u32 (0), .int .u16 (0), .int .u16 (0), .int .u16 (0), .int .u32 (0)] 204)) := Ext.alloc _ _
  generalize w.alloc (Obj.cells #[.int .i64 (0), .int .u8 (0), .int .u8 (0), .int .u32 (0), .int .u16 (0), .int .u16 (0), .int .u16 (0), .int .u32 (0)] 204) = W0 at *
  have hW := Ext.refl W0
  clear hq0_owner hq1_owner
  have hg0_age := fun w' (h : Ext W0 w') => ((hG.ext (hX0.trans h)).age).2.1
  have hg1_age := fun w' (h : Ext W0 w') => ((hG.ext (hX0.trans h)).age).2.2
  have hg0_tag := fun w' (h : Ext W0 w') => ((hG.ext (hX0.trans h)).tag).2.1
  have hg1_tag := fun w' (h : Ext W0 w') => ((hG.ext (hX0.trans h)).tag).2.2
  have hg0_hash := fun w' (h : Ext W0 w') => ((hG.ext (hX0.trans h)).hash).2.1
  have hg1_hash := fun w' (h : Ext W0 w') => ((hG.ext (hX0.trans h)).hash).2.2
  go_wp2_with (go_at_call 102; (with_reducible refine (get_any _ _ _ _ (by decide) (by decide) (by decide) (by decide)).mono ?_); rintro e w' ⟨rfl, hb⟩; have hW := Ext.trans2 hW (by repeat (first | exact Ext.refl _ | exact Ext.alloc _ _ | exact Ext.drewN _ _ | assumption | refine Ext.trans ?_ (Ext.alloc _ _) | refine Ext.trans ?_ (Ext.drew _) | refine Ext.trans ?_ (by assumption))) hb; (try have hV := Ext.trans2 hV (by repeat (first | exact Ext.refl _ | exact Ext.alloc _ _ | exact Ext.drewN _ _ | assumption | refine Ext.trans ?_ (Ext.alloc _ _) | refine Ext.trans ?_ (Ext.drew _) | refine Ext.trans ?_ (by assumption))) hb); clear hb)
  refine bodyPost_ret (v := Value.agg #[.int .i64 (2), .int .u8 ((v / 8 % 16)), .int .u8 (0), .int .u32 ((v / 256 % 2147483648)), .int .u16 (0), .int .u16 (0), .int .u16 (0), .int .u32 (0)]) (by simp [results, Tryz.results100, go_sem, *]) rfl ⟨rfl, ?_⟩
  ((repeat (with_reducible refine Ext.set ?_ (by simp) _)); exact (hX0.trans (hW.trans (by repeat (first | exact Ext.refl _ | exact Ext.alloc _ _ | exact Ext.drewN _ _ | assumption | refine Ext.trans ?_ (Ext.alloc _ _) | refine Ext.trans ?_ (Ext.drew _) | refine Ext.trans ?_ (by assumption))))))

set_option maxHeartbeats 1000000 in
theorem unpack_b (v : Int) (w : World) (hG : Glob w) (hv : InW v) (ht : v % 8 = 5) : Calls Tryz.prog 100 #[.int .u64 v] w fun x w' => x = .returned (Value.agg #[.int .i64 (4), .int .u8 ((v / 8 % 16)), .int .u8 ((v / 256 % 256)), .int .u32 (0), .int .u16 ((v / 16777216 % 65536)), .int .u16 (0), .int .u16 (0), .int .u32 (0)]) ∧ Ext w w' := by
  have h0 : ¬ v = 0 := by omega
  have eo := get_owner hv
  have ea := get_age hv
  have et := get_tag hv
  have wo : IntKind.u16.wrap (v / 16777216 % 65536) = v / 16777216 % 65536 := u16_in (by omega) (by omega)
  have wa : IntKind.u8.wrap (v / 8 % 16) = v / 8 % 16 := u8_in (by omega) (by omega)
  have ee := get_epoch hv
  have we : IntKind.u8.wrap (v / 256 % 256) = v / 256 % 256 := u8_in (by omega) (by omega)
  clear hv
  have hq0_owner := fun o => ((hG.ext (Ext.alloc w o)).owner).2.1
  have hq1_owner := fun o => ((hG.ext (Ext.alloc w o)).owner).2.2
  go_enter Tryz.func100, Tryz.ntmps100
  go_wp2_with fail
  have hX := fun w' (h : Ext (w.alloc (Obj.cells #[.int .i64 (0), .int .u8 (0), .int .u8 (0), .int .u32 (0), .int .u16 (0), .int .u16 (0), .int .u16 (0), .int .u32 (0)] 204)) w') => h.boxCell
  have hXf := fun w' (h : Ext (w.alloc (Obj.cells #[.int .i64 (0), .int .u8 (0), .int .u8 (0), .int .u32 (0), .int .u16 (0), .int .u16 (0), .int .u16 (0), .int .u32 (0)] 204)) w') => h.boxFree
  have hX0 : Ext w (w.alloc (Obj.cells #[.int .i64 (0), .int .u8 (0), .int .u8 (0), .int .u32 (0), .int .u16 (0), .int .u16 (0), .int .u16 (0), .int .u32 (0)] 204)) := Ext.alloc _ _
  generalize w.alloc (Obj.cells #[.int .i64 (0), .int .u8 (0), .int .u8 (0), .int .u32 (0), .int .u16 (0), .int .u16 (0), .int .u16 (0), .int .u32 (0)] 204) = W0 at *
  have hW := Ext.refl W0
  clear hq0_owner hq1_owner
  have hg0_age := fun w' (h : Ext W0 w') => ((hG.ext (hX0.trans h)).age).2.1
  have hg1_age := fun w' (h : Ext W0 w') => ((hG.ext (hX0.trans h)).age).2.2
  have hg0_tag := fun w' (h : Ext W0 w') => ((hG.ext (hX0.trans h)).tag).2.1
  have hg1_tag := fun w' (h : Ext W0 w') => ((hG.ext (hX0.trans h)).tag).2.2
  have hg0_epoch := fun w' (h : Ext W0 w') => ((hG.ext (hX0.trans h)).epoch).2.1
  have hg1_epoch := fun w' (h : Ext W0 w') => ((hG.ext (hX0.trans h)).epoch).2.2
  go_wp2_with (go_at_call 102; (with_reducible refine (get_any _ _ _ _ (by decide) (by decide) (by decide) (by decide)).mono ?_); rintro e w' ⟨rfl, hb⟩; have hW := Ext.trans2 hW (by repeat (first | exact Ext.refl _ | exact Ext.alloc _ _ | exact Ext.drewN _ _ | assumption | refine Ext.trans ?_ (Ext.alloc _ _) | refine Ext.trans ?_ (Ext.drew _) | refine Ext.trans ?_ (by assumption))) hb; (try have hV := Ext.trans2 hV (by repeat (first | exact Ext.refl _ | exact Ext.alloc _ _ | exact Ext.drewN _ _ | assumption | refine Ext.trans ?_ (Ext.alloc _ _) | refine Ext.trans ?_ (Ext.drew _) | refine Ext.trans ?_ (by assumption))) hb); clear hb)
  refine bodyPost_ret (v := Value.agg #[.int .i64 (4), .int .u8 ((v / 8 % 16)), .int .u8 ((v / 256 % 256)), .int .u32 (0), .int .u16 ((v / 16777216 % 65536)), .int .u16 (0), .int .u16 (0), .int .u32 (0)]) (by simp [results, Tryz.results100, go_sem, *]) rfl ⟨rfl, ?_⟩
  ((repeat (with_reducible refine Ext.set ?_ (by simp) _)); exact (hX0.trans (hW.trans (by repeat (first | exact Ext.refl _ | exact Ext.alloc _ _ | exact Ext.drewN _ _ | assumption | refine Ext.trans ?_ (Ext.alloc _ _) | refine Ext.trans ?_ (Ext.drew _) | refine Ext.trans ?_ (by assumption))))))

set_option maxHeartbeats 1000000 in
theorem unpack_f (v : Int) (w : World) (hG : Glob w) (hv : InW v) (ht : v % 8 = 2) : Calls Tryz.prog 100 #[.int .u64 v] w fun x w' => x = .returned (Value.agg #[.int .i64 (3), .int .u8 (0), .int .u8 (0), .int .u32 (0), .int .u16 (0), .int .u16 (0), .int .u16 ((v / 256 % 65536)), .int .u32 ((v / 16777216 % 16777216))]) ∧ Ext w w' := by
  have h0 : ¬ v = 0 := by omega
  have eo := get_owner hv
  have ea := get_age hv
  have et := get_tag hv
  have wo : IntKind.u16.wrap (v / 16777216 % 65536) = v / 16777216 % 65536 := u16_in (by omega) (by omega)
  have wa : IntKind.u8.wrap (v / 8 % 16) = v / 8 % 16 := u8_in (by omega) (by omega)
  have er := get_rec hv
  have wr : IntKind.u16.wrap (v / 256 % 65536) = v / 256 % 65536 := u16_in (by omega) (by omega)
  have eg := get_gen hv
  have wg : IntKind.u32.wrap (v / 16777216 % 16777216) = v / 16777216 % 16777216 := u32_in (by omega) (by omega)
  clear hv
  have hq0_owner := fun o => ((hG.ext (Ext.alloc w o)).owner).2.1
  have hq1_owner := fun o => ((hG.ext (Ext.alloc w o)).owner).2.2
  go_enter Tryz.func100, Tryz.ntmps100
  go_wp2_with fail
  have hX := fun w' (h : Ext (w.alloc (Obj.cells #[.int .i64 (0), .int .u8 (0), .int .u8 (0), .int .u32 (0), .int .u16 (0), .int .u16 (0), .int .u16 (0), .int .u32 (0)] 204)) w') => h.boxCell
  have hXf := fun w' (h : Ext (w.alloc (Obj.cells #[.int .i64 (0), .int .u8 (0), .int .u8 (0), .int .u32 (0), .int .u16 (0), .int .u16 (0), .int .u16 (0), .int .u32 (0)] 204)) w') => h.boxFree
  have hX0 : Ext w (w.alloc (Obj.cells #[.int .i64 (0), .int .u8 (0), .int .u8 (0), .int .u32 (0), .int .u16 (0), .int .u16 (0), .int .u16 (0), .int .u32 (0)] 204)) := Ext.alloc _ _
  generalize w.alloc (Obj.cells #[.int .i64 (0), .int .u8 (0), .int .u8 (0), .int .u32 (0), .int .u16 (0), .int .u16 (0), .int .u16 (0), .int .u32 (0)] 204) = W0 at *
  have hW := Ext.refl W0
  clear hq0_owner hq1_owner
  have hg0_age := fun w' (h : Ext W0 w') => ((hG.ext (hX0.trans h)).age).2.1
  have hg1_age := fun w' (h : Ext W0 w') => ((hG.ext (hX0.trans h)).age).2.2
  have hg0_tag := fun w' (h : Ext W0 w') => ((hG.ext (hX0.trans h)).tag).2.1
  have hg1_tag := fun w' (h : Ext W0 w') => ((hG.ext (hX0.trans h)).tag).2.2
  have hg0_slot := fun w' (h : Ext W0 w') => ((hG.ext (hX0.trans h)).slot).2.1
  have hg1_slot := fun w' (h : Ext W0 w') => ((hG.ext (hX0.trans h)).slot).2.2
  have hg0_gen := fun w' (h : Ext W0 w') => ((hG.ext (hX0.trans h)).gen).2.1
  have hg1_gen := fun w' (h : Ext W0 w') => ((hG.ext (hX0.trans h)).gen).2.2
  go_wp2_with (go_at_call 102; (with_reducible refine (get_any _ _ _ _ (by decide) (by decide) (by decide) (by decide)).mono ?_); rintro e w' ⟨rfl, hb⟩; have hW := Ext.trans2 hW (by repeat (first | exact Ext.refl _ | exact Ext.alloc _ _ | exact Ext.drewN _ _ | assumption | refine Ext.trans ?_ (Ext.alloc _ _) | refine Ext.trans ?_ (Ext.drew _) | refine Ext.trans ?_ (by assumption))) hb; (try have hV := Ext.trans2 hV (by repeat (first | exact Ext.refl _ | exact Ext.alloc _ _ | exact Ext.drewN _ _ | assumption | refine Ext.trans ?_ (Ext.alloc _ _) | refine Ext.trans ?_ (Ext.drew _) | refine Ext.trans ?_ (by assumption))) hb); clear hb)
  refine wp_region_tail 9 (by kernel_rfl) (by kernel_rfl) ?_
  simp only [List.take_succ_cons, List.take_zero, List.drop_succ_cons, List.drop_zero]
  repeat
    with_reducible refine wpQuiet_step (fun K hK => ?_)
    go_simp
    first
    | (refine hK _ ?_; clear hK K)
    | (apply Exists.intro
       refine ⟨fun w1 h1 => ?_, hK _ ?_⟩
       (have hW := Ext.trans2 hW (by repeat (first | exact Ext.refl _ | exact Ext.alloc _ _ | exact Ext.drewN _ _ | assumption | refine Ext.trans ?_ (Ext.alloc _ _) | refine Ext.trans ?_ (Ext.drew _) | refine Ext.trans ?_ (by assumption))) h1; (try have hV := Ext.trans2 hV (by repeat (first | exact Ext.refl _ | exact Ext.alloc _ _ | exact Ext.drewN _ _ | assumption | refine Ext.trans ?_ (Ext.alloc _ _) | refine Ext.trans ?_ (Ext.drew _) | refine Ext.trans ?_ (by assumption))) h1); (first | rfl | (go_simp; done) | (go_simp; rfl) | (go_at_call 102; refine (get_any _ _ _ _ (by decide) (by decide) (by decide) (by decide)).mono ?_; rintro e w2 ⟨rfl, hb⟩; exact ⟨rfl, h1.trans hb⟩)))
       clear hK K)
  refine wpQuiet_nil (fun w' hw' => ?_)
  have hW := Ext.trans2 hW (by repeat (first | exact Ext.refl _ | exact Ext.alloc _ _ | exact Ext.drewN _ _ | assumption | refine Ext.trans ?_ (Ext.alloc _ _) | refine Ext.trans ?_ (Ext.drew _) | refine Ext.trans ?_ (by assumption))) hw'
  try have hV := Ext.trans2 hV (by repeat (first | exact Ext.refl _ | exact Ext.alloc _ _ | exact Ext.drewN _ _ | assumption | refine Ext.trans ?_ (Ext.alloc _ _) | refine Ext.trans ?_ (Ext.drew _) | refine Ext.trans ?_ (by assumption))) hw'
  clear hw'
  go_wp2
  refine bodyPost_ret (v := Value.agg #[.int .i64 (3), .int .u8 (0), .int .u8 (0), .int .u32 (0), .int .u16 (0), .int .u16 (0), .int .u16 ((v / 256 % 65536)), .int .u32 ((v / 16777216 % 16777216))]) (by simp [results, Tryz.results100, go_sem, *]) rfl ⟨rfl, ?_⟩
  ((repeat (with_reducible refine Ext.set ?_ (by simp) _)); exact (hX0.trans (hW.trans (by repeat (first | exact Ext.refl _ | exact Ext.alloc _ _ | exact Ext.drewN _ _ | assumption | refine Ext.trans ?_ (Ext.alloc _ _) | refine Ext.trans ?_ (Ext.drew _) | refine Ext.trans ?_ (by assumption))))))

theorem unpack_any (v : Int) (w : World) (hG : Glob w) (hv : InW v) : Calls Tryz.prog 100 #[.int .u64 v] w fun x w' => x = .returned (Value.agg #[.int .i64 (uK v), .int .u8 (uA v), .int .u8 (uE v), .int .u32 (uH v), .int .u16 (uO v), .int .u16 (uR v), .int .u16 (uS v), .int .u32 (uG v)]) ∧ Ext w w' := by
  by_cases h0 : v = 0
  · subst h0
    rw [← u_z]
    exact unpack_z w
  by_cases ht : v % 8 = 0
  · by_cases ho : v / 16777216 % 65536 = 0
    · rw [← u_no h0 ht ho]
      exact unpack_no v w hG hv h0 ht ho
    · rw [← u_t h0 ht ho]
      exact unpack_t v w hG hv h0 ht ho
  by_cases h1 : v % 8 = 1
  · rw [← u_n h1]
    exact unpack_n v w hG hv h1
  by_cases h2 : v % 8 = 2
  · rw [← u_f h2]
    exact unpack_f v w hG hv h2
  by_cases h5 : v % 8 = 5
  · rw [← u_b h5]
    exact unpack_b v w hG hv h5
  · rw [← u_none h0 ht h1 h2 h5]
    exact unpack_none v w hG hv h0 ht h1 h2 h5
end Go.Proofs.YtlgomkocalieeaaGreatDoor.Wd
