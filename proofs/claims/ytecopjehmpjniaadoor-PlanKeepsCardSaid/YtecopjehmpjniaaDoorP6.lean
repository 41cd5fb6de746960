/- What the reference's Read answers of every word. -/
import Derived.Test.YtecopjehmpjniaaDoorP5
namespace Go.Proofs.YtecopjehmpjniaaDoor
open Go.RowKit
set_option linter.unusedSimpArgs false
set_option linter.unusedVariables false



theorem okZ (k : Int) : OkH k 0 0 0 0 0 0 0 := by constructor <;> decide
theorem rread_z (w : World) : Calls Tryd.prog 18 #[.int .u64 0] w fun x w' => x = .returned (.tuple #[Value.agg #[.int .i64 (5), .int .u8 (0), .int .u8 (0), .int .u32 (0), .int .u16 (0), .int .u16 (0), .int .u16 (0), .int .u32 (0)], .int .i64 0]) ∧ Ext w w' := by
  have b := okZ 5
  have c1 : codeE 5 0 0 0 0 0 0 0 = 0 := by decide
  have c2 : codeW 5 0 0 0 0 0 0 0 = 0 := by decide
  go_enter Tryd.func18, Tryd.ntmps18
  go_wp2_with fail
  have hY := fun w' (h : Ext ((w.alloc (Obj.cells #[.int .i64 (0), .int .u8 (0), .int .u8 (0), .int .u32 (0), .int .u16 (0), .int .u16 (0), .int .u16 (0), .int .u32 (0)] 57)).alloc (Obj.cells #[.int .i64 (5), .int .u8 (0), .int .u8 (0), .int .u32 (0), .int .u16 (0), .int .u16 (0), .int .u16 (0), .int .u32 (0)] 57)) w') => h.boxCell
  have hYf := fun w' (h : Ext ((w.alloc (Obj.cells #[.int .i64 (0), .int .u8 (0), .int .u8 (0), .int .u32 (0), .int .u16 (0), .int .u16 (0), .int .u16 (0), .int .u32 (0)] 57)).alloc (Obj.cells #[.int .i64 (5), .int .u8 (0), .int .u8 (0), .int .u32 (0), .int .u16 (0), .int .u16 (0), .int .u16 (0), .int .u32 (0)] 57)) w') => h.boxFree
  simp only [World.size_alloc] at hY hYf
  have hX := fun w' (h : Ext ((w.alloc (Obj.cells #[.int .i64 (0), .int .u8 (0), .int .u8 (0), .int .u32 (0), .int .u16 (0), .int .u16 (0), .int .u16 (0), .int .u32 (0)] 57)).alloc (Obj.cells #[.int .i64 (5), .int .u8 (0), .int .u8 (0), .int .u32 (0), .int .u16 (0), .int .u16 (0), .int .u16 (0), .int .u32 (0)] 57)) w') => ((Ext.alloc (w.alloc (Obj.cells #[.int .i64 (0), .int .u8 (0), .int .u8 (0), .int .u32 (0), .int .u16 (0), .int .u16 (0), .int .u16 (0), .int .u32 (0)] 57)) (Obj.cells #[.int .i64 (5), .int .u8 (0), .int .u8 (0), .int .u32 (0), .int .u16 (0), .int .u16 (0), .int .u16 (0), .int .u32 (0)] 57)).trans h).boxCell
  have hXf := fun w' (h : Ext ((w.alloc (Obj.cells #[.int .i64 (0), .int .u8 (0), .int .u8 (0), .int .u32 (0), .int .u16 (0), .int .u16 (0), .int .u16 (0), .int .u32 (0)] 57)).alloc (Obj.cells #[.int .i64 (5), .int .u8 (0), .int .u8 (0), .int .u32 (0), .int .u16 (0), .int .u16 (0), .int .u16 (0), .int .u32 (0)] 57)) w') => ((Ext.alloc (w.alloc (Obj.cells #[.int .i64 (0), .int .u8 (0), .int .u8 (0), .int .u32 (0), .int .u16 (0), .int .u16 (0), .int .u16 (0), .int .u32 (0)] 57)) (Obj.cells #[.int .i64 (5), .int .u8 (0), .int .u8 (0), .int .u32 (0), .int .u16 (0), .int .u16 (0), .int .u16 (0), .int .u32 (0)] 57)).trans h).boxFree
  have hX0 : Ext w ((w.alloc (Obj.cells #[.int .i64 (0), .int .u8 (0), .int .u8 (0), .int .u32 (0), .int .u16 (0), .int .u16 (0), .int .u16 (0), .int .u32 (0)] 57)).alloc (Obj.cells #[.int .i64 (5), .int .u8 (0), .int .u8 (0), .int .u32 (0), .int .u16 (0), .int .u16 (0), .int .u16 (0), .int .u32 (0)] 57)) := (Ext.alloc _ _).trans (Ext.alloc _ _)
  generalize (w.alloc (Obj.cells #[.int .i64 (0), .int .u8 (0), .int .u8 (0), .int .u32 (0), .int .u16 (0), .int .u16 (0), .int .u16 (0), .int .u32 (0)] 57)).alloc (Obj.cells #[.int .i64 (5), .int .u8 (0), .int .u8 (0), .int .u32 (0), .int .u16 (0), .int .u16 (0), .int .u16 (0), .int .u32 (0)] 57) = W0 at *
  have hW := Ext.refl W0
  go_wp2_with (go_at_call 23; (with_reducible refine (rcode_any _ _ _ _ _ _ _ _ _ b).mono ?_); rintro e w' ⟨rfl, hb⟩; have hW := Ext.trans2 hW (by repeat (first | exact Ext.refl _ | exact Ext.alloc _ _ | exact Ext.drewN _ _ | assumption | refine Ext.trans ?_ (Ext.alloc _ _) | refine Ext.trans ?_ (Ext.drew _) | refine Ext.trans ?_ (by assumption))) hb; (try have hV := Ext.trans2 hV (by repeat (first | exact Ext.refl _ | exact Ext.alloc _ _ | exact Ext.drewN _ _ | assumption | refine Ext.trans ?_ (Ext.alloc _ _) | refine Ext.trans ?_ (Ext.drew _) | refine Ext.trans ?_ (by assumption))) hb); clear hb)
  refine bodyPost_ret (v := .tuple #[Value.agg #[.int .i64 (5), .int .u8 (0), .int .u8 (0), .int .u32 (0), .int .u16 (0), .int .u16 (0), .int .u16 (0), .int .u32 (0)], .int .i64 0]) (by simp [results, Tryd.results18, go_sem, *]) rfl ⟨rfl, ?_⟩
  ((repeat (with_reducible refine Ext.set ?_ (by simp) _)); exact (hX0.trans (hW.trans (by repeat (first | exact Ext.refl _ | exact Ext.alloc _ _ | exact Ext.drewN _ _ | assumption | refine Ext.trans ?_ (Ext.alloc _ _) | refine Ext.trans ?_ (Ext.drew _) | refine Ext.trans ?_ (by assumption))))))
theorem rread_q (v : Int) (w : World) (hv : InW v) (h0 : ¬ v = 0) (ht : v % 8 = 0) (ho : v / 16777216 % 65536 = 0) :
    Calls Tryd.prog 18 #[.int .u64 v] w fun x w' => x = .returned (.tuple #[Value.agg #[.int .i64 (0), .int .u8 (0), .int .u8 (0), .int .u32 (0), .int .u16 (0), .int .u16 (0), .int .u16 (0), .int .u32 (0)], .int .i64 3]) ∧ Ext w w' := by
  have hv0 := hv.1
  have b : OkH 1 0 0 0 0 (v / 256 % 65536) 0 0 := by constructor <;> first | decide | omega
  have c1 : codeE 1 0 0 0 0 (v / 256 % 65536) 0 0 = 1 := by simp [codeE, hMayB, hMay]
  have qr : IntKind.u16.wrap ((IntKind.u64.wrap (v.tdiv 256)).tmod 65536) = v / 256 % 65536 := (IntKind.wrap_u16 _).trans (q_eq hv 256 65536 65536 (by decide) (by decide) (by decide) (by decide))
  have qo : IntKind.u16.wrap ((IntKind.u64.wrap (v.tdiv 16777216)).tmod 65536) = 0 := ((IntKind.wrap_u16 _).trans (q_eq hv 16777216 65536 65536 (by decide) (by decide) (by decide) (by decide))).trans ho
  go_enter Tryd.func18, Tryd.ntmps18
  go_wp2_with fail
  have hY := fun w' (h : Ext ((w.alloc (Obj.cells #[.int .i64 (0), .int .u8 (0), .int .u8 (0), .int .u32 (0), .int .u16 (0), .int .u16 (0), .int .u16 (0), .int .u32 (0)] 57)).alloc (Obj.cells #[.int .i64 (1), .int .u8 (0), .int .u8 (0), .int .u32 (0), .int .u16 (0), .int .u16 (v / 256 % 65536), .int .u16 (0), .int .u32 (0)] 57)) w') => h.boxCell
  have hYf := fun w' (h : Ext ((w.alloc (Obj.cells #[.int .i64 (0), .int .u8 (0), .int .u8 (0), .int .u32 (0), .int .u16 (0), .int .u16 (0), .int .u16 (0), .int .u32 (0)] 57)).alloc (Obj.cells #[.int .i64 (1), .int .u8 (0), .int .u8 (0), .int .u32 (0), .int .u16 (0), .int .u16 (v / 256 % 65536), .int .u16 (0), .int .u32 (0)] 57)) w') => h.boxFree
  simp only [World.size_alloc] at hY hYf
  have hX := fun w' (h : Ext ((w.alloc (Obj.cells #[.int .i64 (0), .int .u8 (0), .int .u8 (0), .int .u32 (0), .int .u16 (0), .int .u16 (0), .int .u16 (0), .int .u32 (0)] 57)).alloc (Obj.cells #[.int .i64 (1), .int .u8 (0), .int .u8 (0), .int .u32 (0), .int .u16 (0), .int .u16 (v / 256 % 65536), .int .u16 (0), .int .u32 (0)] 57)) w') => ((Ext.alloc (w.alloc (Obj.cells #[.int .i64 (0), .int .u8 (0), .int .u8 (0), .int .u32 (0), .int .u16 (0), .int .u16 (0), .int .u16 (0), .int .u32 (0)] 57)) (Obj.cells #[.int .i64 (1), .int .u8 (0), .int .u8 (0), .int .u32 (0), .int .u16 (0), .int .u16 (v / 256 % 65536), .int .u16 (0), .int .u32 (0)] 57)).trans h).boxCell
  have hXf := fun w' (h : Ext ((w.alloc (Obj.cells #[.int .i64 (0), .int .u8 (0), .int .u8 (0), .int .u32 (0), .int .u16 (0), .int .u16 (0), .int .u16 (0), .int .u32 (0)] 57)).alloc (Obj.cells #[.int .i64 (1), .int .u8 (0), .int .u8 (0), .int .u32 (0), .int .u16 (0), .int .u16 (v / 256 % 65536), .int .u16 (0), .int .u32 (0)] 57)) w') => ((Ext.alloc (w.alloc (Obj.cells #[.int .i64 (0), .int .u8 (0), .int .u8 (0), .int .u32 (0), .int .u16 (0), .int .u16 (0), .int .u16 (0), .int .u32 (0)] 57)) (Obj.cells #[.int .i64 (1), .int .u8 (0), .int .u8 (0), .int .u32 (0), .int .u16 (0), .int .u16 (v / 256 % 65536), .int .u16 (0), .int .u32 (0)] 57)).trans h).boxFree
  have hX0 : Ext w ((w.alloc (Obj.cells #[.int .i64 (0), .int .u8 (0), .int .u8 (0), .int .u32 (0), .int .u16 (0), .int .u16 (0), .int .u16 (0), .int .u32 (0)] 57)).alloc (Obj.cells #[.int .i64 (1), .int .u8 (0), .int .u8 (0), .int .u32 (0), .int .u16 (0), .int .u16 (v / 256 % 65536), .int .u16 (0), .int .u32 (0)] 57)) := (Ext.alloc _ _).trans (Ext.alloc _ _)
  generalize (w.alloc (Obj.cells #[.int .i64 (0), .int .u8 (0), .int .u8 (0), .int .u32 (0), .int .u16 (0), .int .u16 (0), .int .u16 (0), .int .u32 (0)] 57)).alloc (Obj.cells #[.int .i64 (1), .int .u8 (0), .int .u8 (0), .int .u32 (0), .int .u16 (0), .int .u16 (v / 256 % 65536), .int .u16 (0), .int .u32 (0)] 57) = W0 at *
  have hW := Ext.refl W0
  go_wp2_with (go_at_call 23; (with_reducible refine (rcode_any _ _ _ _ _ _ _ _ _ b).mono ?_); rintro e w' ⟨rfl, hb⟩; have hW := Ext.trans2 hW (by repeat (first | exact Ext.refl _ | exact Ext.alloc _ _ | exact Ext.drewN _ _ | assumption | refine Ext.trans ?_ (Ext.alloc _ _) | refine Ext.trans ?_ (Ext.drew _) | refine Ext.trans ?_ (by assumption))) hb; (try have hV := Ext.trans2 hV (by repeat (first | exact Ext.refl _ | exact Ext.alloc _ _ | exact Ext.drewN _ _ | assumption | refine Ext.trans ?_ (Ext.alloc _ _) | refine Ext.trans ?_ (Ext.drew _) | refine Ext.trans ?_ (by assumption))) hb); clear hb)
  refine bodyPost_ret (v := .tuple #[Value.agg #[.int .i64 (0), .int .u8 (0), .int .u8 (0), .int .u32 (0), .int .u16 (0), .int .u16 (0), .int .u16 (0), .int .u32 (0)], .int .i64 3]) (by simp [results, Tryd.results18, go_sem, *]) rfl ⟨rfl, ?_⟩
  ((repeat (with_reducible refine Ext.set ?_ (by simp) _)); exact (hX0.trans (hW.trans (by repeat (first | exact Ext.refl _ | exact Ext.alloc _ _ | exact Ext.drewN _ _ | assumption | refine Ext.trans ?_ (Ext.alloc _ _) | refine Ext.trans ?_ (Ext.drew _) | refine Ext.trans ?_ (by assumption))))))
theorem rread_d (v : Int) (w : World) (hv : InW v) (h0 : ¬ v = 0) (ht : ¬ v % 8 = 0) (h1 : ¬ v % 8 = 1) (h2 : ¬ v % 8 = 2) (h5 : ¬ v % 8 = 5) :
    Calls Tryd.prog 18 #[.int .u64 v] w fun x w' => x = .returned (.tuple #[Value.agg #[.int .i64 (0), .int .u8 (0), .int .u8 (0), .int .u32 (0), .int .u16 (0), .int .u16 (0), .int .u16 (0), .int .u32 (0)], .int .i64 3]) ∧ Ext w w' := by
  have hv0 := hv.1
  go_enter Tryd.func18, Tryd.ntmps18
  go_wp2
  refine bodyPost_ret (v := .tuple #[Value.agg #[.int .i64 (0), .int .u8 (0), .int .u8 (0), .int .u32 (0), .int .u16 (0), .int .u16 (0), .int .u16 (0), .int .u32 (0)], .int .i64 3]) (by simp [results, Tryd.results18, go_sem, *]) rfl ⟨rfl, ?_⟩
  ((repeat (with_reducible refine Ext.set ?_ (by simp) _)); exact (Ext.alloc _ _).trans (Ext.alloc _ _))
theorem gW_0 : gW 0 := by decide
theorem inW_0 : InW 0 := ⟨by decide, by decide⟩
theorem rread_yes (v : Int) (w : World) (hv : InW v) (hg : gW v) :
    Calls Tryd.prog 18 #[.int .u64 v] w fun x w' => x = .returned (.tuple #[Value.agg #[.int .i64 (uK (v)), .int .u8 (uA (v)), .int .u8 (uE (v)), .int .u32 (uH (v)), .int .u16 (uO (v)), .int .u16 (uR (v)), .int .u16 (uS (v)), .int .u32 (uG (v))], .int .i64 0]) ∧ Ext w w' := by
  by_cases h0 : v = 0
  · subst h0
    rw [← u_z]
    exact rread_z w
  by_cases ht : v % 8 = 0
  · by_cases ho : v / 16777216 % 65536 = 0
    · exact absurd (by simp [uK, h0, ht, ho]) (gW_kind hg)
    · exact rread_t_yes v w hv h0 ht ho hg
  by_cases h1 : v % 8 = 1
  · exact rread_n_yes v w hv h1 hg
  by_cases h2 : v % 8 = 2
  · exact rread_f_yes v w hv h2 hg
  by_cases h5 : v % 8 = 5
  · exact rread_b_yes v w hv h5 hg
  · exact absurd (by simp [uK, h0, ht, h1, h2, h5]) (gW_kind hg)
theorem rread_no (v : Int) (w : World) (hv : InW v) (hg : ¬ gW v) :
    Calls Tryd.prog 18 #[.int .u64 v] w fun x w' => x = .returned (.tuple #[Value.agg #[.int .i64 (0), .int .u8 (0), .int .u8 (0), .int .u32 (0), .int .u16 (0), .int .u16 (0), .int .u16 (0), .int .u32 (0)], .int .i64 3]) ∧ Ext w w' := by
  by_cases h0 : v = 0
  · subst h0
    exact absurd gW_0 hg
  by_cases ht : v % 8 = 0
  · by_cases ho : v / 16777216 % 65536 = 0
    · exact rread_q v w hv h0 ht ho
    · exact rread_t_no v w hv h0 ht ho hg
  by_cases h1 : v % 8 = 1
  · exact rread_n_no v w hv h1 hg
  by_cases h2 : v % 8 = 2
  · exact rread_f_no v w hv h2 hg
  by_cases h5 : v % 8 = 5
  · exact rread_b_no v w hv h5 hg
  · exact rread_d v w hv h0 ht h1 h2 h5

theorem uK_2 {v : Int} (k : uK v = 2) : v % 8 = 1 := by
  unfold uK at k
  (repeat' split at k) <;> first | assumption | (exfalso; omega)
theorem uK_4 {v : Int} (k : uK v = 4) : v % 8 = 5 := by
  unfold uK at k
  (repeat' split at k) <;> first | assumption | (exfalso; omega)
end Go.Proofs.YtecopjehmpjniaaDoor
