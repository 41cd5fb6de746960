/- What the reference's Read and Older answer of every word. -/
import Derived.Test.YtdnfedhecigepaaDoorP5
namespace Go.Proofs.YtdnfedhecigepaaDoor
open Go.RowKit
set_option linter.unusedSimpArgs false
set_option linter.unusedVariables false



theorem okZ (k : Int) : OkH k 0 0 0 0 0 0 0 := by constructor <;> decide
theorem rread_z (w : World) : Calls Tryd.prog 15 #[.int .u64 0] w fun x w' => x = .returned (.tuple #[Value.agg #[.int .i64 (5), .int .u8 (0), .int .u8 (0), .int .u32 (0), .int .u16 (0), .int .u16 (0), .int .u16 (0), .int .u32 (0)], .int .i64 0]) ∧ Ext w w' := by
  have b := okZ 5
  have c1 : codeE 5 0 0 0 0 0 0 0 = 0 := by decide
  have c2 : codeW 5 0 0 0 0 0 0 0 = 0 := by decide
  go_enter Tryd.func15, Tryd.ntmps15
  go_wp2_with fail
  have hY := fun w' (h : Ext ((w.alloc (Obj.cells #[.int .i64 (0), .int .u8 (0), .int .u8 (0), .int .u32 (0), .int .u16 (0), .int .u16 (0), .int .u16 (0), .int .u32 (0)] 25)).alloc (Obj.cells #[.int .i64 (5), .int .u8 (0), .int .u8 (0), .int .u32 (0), .int .u16 (0), .int .u16 (0), .int .u16 (0), .int .u32 (0)] 25)) w') => h.boxCell
  have hYf := fun w' (h : Ext ((w.alloc (Obj.cells #[.int .i64 (0), .int .u8 (0), .int .u8 (0), .int .u32 (0), .int .u16 (0), .int .u16 (0), .int .u16 (0), .int .u32 (0)] 25)).alloc (Obj.cells #[.int .i64 (5), .int .u8 (0), .int .u8 (0), .int .u32 (0), .int .u16 (0), .int .u16 (0), .int .u16 (0), .int .u32 (0)] 25)) w') => h.boxFree
  simp only [World.size_alloc] at hY hYf
  have hX := fun w' (h : Ext ((w.alloc (Obj.cells #[.int .i64 (0), .int .u8 (0), .int .u8 (0), .int .u32 (0), .int .u16 (0), .int .u16 (0), .int .u16 (0), .int .u32 (0)] 25)).alloc (Obj.cells #[.int .i64 (5), .int .u8 (0), .int .u8 (0), .int .u32 (0), .int .u16 (0), .int .u16 (0), .int .u16 (0), .int .u32 (0)] 25)) w') => ((Ext.alloc (w.alloc (Obj.cells #[.int .i64 (0), .int .u8 (0), .int .u8 (0), .int .u32 (0), .int .u16 (0), .int .u16 (0), .int .u16 (0), .int .u32 (0)] 25)) (Obj.cells #[.int .i64 (5), .int .u8 (0), .int .u8 (0), .int .u32 (0), .int .u16 (0), .int .u16 (0), .int .u16 (0), .int .u32 (0)] 25)).trans h).boxCell
  have hXf := fun w' (h : Ext ((w.alloc (Obj.cells #[.int .i64 (0), .int .u8 (0), .int .u8 (0), .int .u32 (0), .int .u16 (0), .int .u16 (0), .int .u16 (0), .int .u32 (0)] 25)).alloc (Obj.cells #[.int .i64 (5), .int .u8 (0), .int .u8 (0), .int .u32 (0), .int .u16 (0), .int .u16 (0), .int .u16 (0), .int .u32 (0)] 25)) w') => ((Ext.alloc (w.alloc (Obj.cells #[.int .i64 (0), .int .u8 (0), .int .u8 (0), .int .u32 (0), .int .u16 (0), .int .u16 (0), .int .u16 (0), .int .u32 (0)] 25)) (Obj.cells #[.int .i64 (5), .int .u8 (0), .int .u8 (0), .int .u32 (0), .int .u16 (0), .int .u16 (0), .int .u16 (0), .int .u32 (0)] 25)).trans h).boxFree
  have hX0 : Ext w ((w.alloc (Obj.cells #[.int .i64 (0), .int .u8 (0), .int .u8 (0), .int .u32 (0), .int .u16 (0), .int .u16 (0), .int .u16 (0), .int .u32 (0)] 25)).alloc (Obj.cells #[.int .i64 (5), .int .u8 (0), .int .u8 (0), .int .u32 (0), .int .u16 (0), .int .u16 (0), .int .u16 (0), .int .u32 (0)] 25)) := (Ext.alloc _ _).trans (Ext.alloc _ _)
  generalize (w.alloc (Obj.cells #[.int .i64 (0), .int .u8 (0), .int .u8 (0), .int .u32 (0), .int .u16 (0), .int .u16 (0), .int .u16 (0), .int .u32 (0)] 25)).alloc (Obj.cells #[.int .i64 (5), .int .u8 (0), .int .u8 (0), .int .u32 (0), .int .u16 (0), .int .u16 (0), .int .u16 (0), .int .u32 (0)] 25) = W0 at *
  have hW := Ext.refl W0
  go_wp2_with (go_at_call 10; (with_reducible refine (rcode_any _ _ _ _ _ _ _ _ _ b).mono ?_); rintro e w' ⟨rfl, hb⟩; have hW := Ext.trans2 hW (by repeat (first | exact Ext.refl _ | exact Ext.alloc _ _ | exact Ext.drewN _ _ | assumption | refine Ext.trans ?_ (Ext.alloc _ _) | refine Ext.trans ?_ (Ext.drew _) | refine Ext.trans ?_ (by assumption))) hb; (try have hV := Ext.trans2 hV (by repeat (first | exact Ext.refl _ | exact Ext.alloc _ _ | exact Ext.drewN _ _ | assumption | refine Ext.trans ?_ (Ext.alloc _ _) | refine Ext.trans ?_ (Ext.drew _) | refine Ext.trans ?_ (by assumption))) hb); clear hb)
  refine bodyPost_ret (v := .tuple #[Value.agg #[.int .i64 (5), .int .u8 (0), .int .u8 (0), .int .u32 (0), .int .u16 (0), .int .u16 (0), .int .u16 (0), .int .u32 (0)], .int .i64 0]) (by simp [results, Tryd.results15, go_sem, *]) rfl ⟨rfl, ?_⟩
  ((repeat (with_reducible refine Ext.set ?_ (by simp) _)); exact (hX0.trans (hW.trans (by repeat (first | exact Ext.refl _ | exact Ext.alloc _ _ | exact Ext.drewN _ _ | assumption | refine Ext.trans ?_ (Ext.alloc _ _) | refine Ext.trans ?_ (Ext.drew _) | refine Ext.trans ?_ (by assumption))))))
theorem rread_q (v : Int) (w : World) (hv : InW v) (h0 : ¬ v = 0) (ht : v % 8 = 0) (ho : v / 16777216 % 65536 = 0) :
    Calls Tryd.prog 15 #[.int .u64 v] w fun x w' => x = .returned (.tuple #[Value.agg #[.int .i64 (0), .int .u8 (0), .int .u8 (0), .int .u32 (0), .int .u16 (0), .int .u16 (0), .int .u16 (0), .int .u32 (0)], .int .i64 3]) ∧ Ext w w' := by
  have hv0 := hv.1
  have b : OkH 1 0 0 0 0 (v / 256 % 65536) 0 0 := by constructor <;> first | decide | omega
  have c1 : codeE 1 0 0 0 0 (v / 256 % 65536) 0 0 = 1 := by simp [codeE, hMayB, hMay]
  have qr : IntKind.u16.wrap ((IntKind.u64.wrap (v.tdiv 256)).tmod 65536) = v / 256 % 65536 := (IntKind.wrap_u16 _).trans (q_eq hv 256 65536 65536 (by decide) (by decide) (by decide) (by decide))
  have qo : IntKind.u16.wrap ((IntKind.u64.wrap (v.tdiv 16777216)).tmod 65536) = 0 := ((IntKind.wrap_u16 _).trans (q_eq hv 16777216 65536 65536 (by decide) (by decide) (by decide) (by decide))).trans ho
  go_enter Tryd.func15, Tryd.ntmps15
  go_wp2_with fail
  have hY := fun w' (h : Ext ((w.alloc (Obj.cells #[.int .i64 (0), .int .u8 (0), .int .u8 (0), .int .u32 (0), .int .u16 (0), .int .u16 (0), .int .u16 (0), .int .u32 (0)] 25)).alloc (Obj.cells #[.int .i64 (1), .int .u8 (0), .int .u8 (0), .int .u32 (0), .int .u16 (0), .int .u16 (v / 256 % 65536), .int .u16 (0), .int .u32 (0)] 25)) w') => h.boxCell
  have hYf := fun w' (h : Ext ((w.alloc (Obj.cells #[.int .i64 (0), .int .u8 (0), .int .u8 (0), .int .u32 (0), .int .u16 (0), .int .u16 (0), .int .u16 (0), .int .u32 (0)] 25)).alloc (Obj.cells #[.int .i64 (1), .int .u8 (0), .int .u8 (0), .int .u32 (0), .int .u16 (0), .int .u16 (v / 256 % 65536), .int .u16 (0), .int .u32 (0)] 25)) w') => h.boxFree
  simp only [World.size_alloc] at hY hYf
  have hX := fun w' (h : Ext ((w.alloc (Obj.cells #[.int .i64 (0), .int .u8 (0), .int .u8 (0), .int .u32 (0), .int .u16 (0), .int .u16 (0), .int .u16 (0), .int .u32 (0)] 25)).alloc (Obj.cells #[.int .i64 (1), .int .u8 (0), .int .u8 (0), .int .u32 (0), .int .u16 (0), .int .u16 (v / 256 % 65536), .int .u16 (0), .int .u32 (0)] 25)) w') => ((Ext.alloc (w.alloc (Obj.cells #[.int .i64 (0), .int .u8 (0), .int .u8 (0), .int .u32 (0), .int .u16 (0), .int .u16 (0), .int .u16 (0), .int .u32 (0)] 25)) (Obj.cells #[.int .i64 (1), .int .u8 (0), .int .u8 (0), .int .u32 (0), .int .u16 (0), .int .u16 (v / 256 % 65536), .int .u16 (0), .int .u32 (0)] 25)).trans h).boxCell
  have hXf := fun w' (h : Ext ((w.alloc (Obj.cells #[.int .i64 (0), .int .u8 (0), .int .u8 (0), .int .u32 (0), .int .u16 (0), .int .u16 (0), .int .u16 (0), .int .u32 (0)] 25)).alloc (Obj.cells #[.int .i64 (1), .int .u8 (0), .int .u8 (0), .int .u32 (0), .int .u16 (0), .int .u16 (v / 256 % 65536), .int .u16 (0), .int .u32 (0)] 25)) w') => ((Ext.alloc (w.alloc (Obj.cells #[.int .i64 (0), .int .u8 (0), .int .u8 (0), .int .u32 (0), .int .u16 (0), .int .u16 (0), .int .u16 (0), .int .u32 (0)] 25)) (Obj.cells #[.int .i64 (1), .int .u8 (0), .int .u8 (0), .int .u32 (0), .int .u16 (0), .int .u16 (v / 256 % 65536), .int .u16 (0), .int .u32 (0)] 25)).trans h).boxFree
  have hX0 : Ext w ((w.alloc (Obj.cells #[.int .i64 (0), .int .u8 (0), .int .u8 (0), .int .u32 (0), .int .u16 (0), .int .u16 (0), .int .u16 (0), .int .u32 (0)] 25)).alloc (Obj.cells #[.int .i64 (1), .int .u8 (0), .int .u8 (0), .int .u32 (0), .int .u16 (0), .int .u16 (v / 256 % 65536), .int .u16 (0), .int .u32 (0)] 25)) := (Ext.alloc _ _).trans (Ext.alloc _ _)
  generalize (w.alloc (Obj.cells #[.int .i64 (0), .int .u8 (0), .int .u8 (0), .int .u32 (0), .int .u16 (0), .int .u16 (0), .int .u16 (0), .int .u32 (0)] 25)).alloc (Obj.cells #[.int .i64 (1), .int .u8 (0), .int .u8 (0), .int .u32 (0), .int .u16 (0), .int .u16 (v / 256 % 65536), .int .u16 (0), .int .u32 (0)] 25) = W0 at *
  have hW := Ext.refl W0
  go_wp2_with (go_at_call 10; (with_reducible refine (rcode_any _ _ _ _ _ _ _ _ _ b).mono ?_); rintro e w' ⟨rfl, hb⟩; have hW := Ext.trans2 hW (by repeat (first | exact Ext.refl _ | exact Ext.alloc _ _ | exact Ext.drewN _ _ | assumption | refine Ext.trans ?_ (Ext.alloc _ _) | refine Ext.trans ?_ (Ext.drew _) | refine Ext.trans ?_ (by assumption))) hb; (try have hV := Ext.trans2 hV (by repeat (first | exact Ext.refl _ | exact Ext.alloc _ _ | exact Ext.drewN _ _ | assumption | refine Ext.trans ?_ (Ext.alloc _ _) | refine Ext.trans ?_ (Ext.drew _) | refine Ext.trans ?_ (by assumption))) hb); clear hb)
  refine bodyPost_ret (v := .tuple #[Value.agg #[.int .i64 (0), .int .u8 (0), .int .u8 (0), .int .u32 (0), .int .u16 (0), .int .u16 (0), .int .u16 (0), .int .u32 (0)], .int .i64 3]) (by simp [results, Tryd.results15, go_sem, *]) rfl ⟨rfl, ?_⟩
  ((repeat (with_reducible refine Ext.set ?_ (by simp) _)); exact (hX0.trans (hW.trans (by repeat (first | exact Ext.refl _ | exact Ext.alloc _ _ | exact Ext.drewN _ _ | assumption | refine Ext.trans ?_ (Ext.alloc _ _) | refine Ext.trans ?_ (Ext.drew _) | refine Ext.trans ?_ (by assumption))))))
theorem rread_d (v : Int) (w : World) (hv : InW v) (h0 : ¬ v = 0) (ht : ¬ v % 8 = 0) (h1 : ¬ v % 8 = 1) (h2 : ¬ v % 8 = 2) (h5 : ¬ v % 8 = 5) :
    Calls Tryd.prog 15 #[.int .u64 v] w fun x w' => x = .returned (.tuple #[Value.agg #[.int .i64 (0), .int .u8 (0), .int .u8 (0), .int .u32 (0), .int .u16 (0), .int .u16 (0), .int .u16 (0), .int .u32 (0)], .int .i64 3]) ∧ Ext w w' := by
  have hv0 := hv.1
  go_enter Tryd.func15, Tryd.ntmps15
  go_wp2
  refine bodyPost_ret (v := .tuple #[Value.agg #[.int .i64 (0), .int .u8 (0), .int .u8 (0), .int .u32 (0), .int .u16 (0), .int .u16 (0), .int .u16 (0), .int .u32 (0)], .int .i64 3]) (by simp [results, Tryd.results15, go_sem, *]) rfl ⟨rfl, ?_⟩
  ((repeat (with_reducible refine Ext.set ?_ (by simp) _)); exact (Ext.alloc _ _).trans (Ext.alloc _ _))
theorem gW_0 : gW 0 := by decide
theorem inW_0 : InW 0 := ⟨by decide, by decide⟩
theorem rread_yes (v : Int) (w : World) (hv : InW v) (hg : gW v) :
    Calls Tryd.prog 15 #[.int .u64 v] w fun x w' => x = .returned (.tuple #[Value.agg #[.int .i64 (uK (v)), .int .u8 (uA (v)), .int .u8 (uE (v)), .int .u32 (uH (v)), .int .u16 (uO (v)), .int .u16 (uR (v)), .int .u16 (uS (v)), .int .u32 (uG (v))], .int .i64 0]) ∧ Ext w w' := by
  by_cases h0 : v = 0
  · subst h0
    rw [← u_z]
    exact rread_z w
  by_cases ht : v % 8 = 0
  · by_cases ho : v / 16777216 % 65536 = 0
    · exact absurd (by simp [uK, h0, ht, ho]) (gW_kind hg)
    · exact rread_t_yes v w hv h0 ht ho hg
  by_cases h1 : v % 8 = 1
  · exact rread_n_yes v w hv h1 hg
  by_cases h2 : v % 8 = 2
  · exact rread_f_yes v w hv h2 hg
  by_cases h5 : v % 8 = 5
  · exact rread_b_yes v w hv h5 hg
  · exact absurd (by simp [uK, h0, ht, h1, h2, h5]) (gW_kind hg)
theorem rread_no (v : Int) (w : World) (hv : InW v) (hg : ¬ gW v) :
    Calls Tryd.prog 15 #[.int .u64 v] w fun x w' => x = .returned (.tuple #[Value.agg #[.int .i64 (0), .int .u8 (0), .int .u8 (0), .int .u32 (0), .int .u16 (0), .int .u16 (0), .int .u16 (0), .int .u32 (0)], .int .i64 3]) ∧ Ext w w' := by
  by_cases h0 : v = 0
  · subst h0
    exact absurd gW_0 hg
  by_cases ht : v % 8 = 0
  · by_cases ho : v / 16777216 % 65536 = 0
    · exact rread_q v w hv h0 ht ho
    · exact rread_t_no v w hv h0 ht ho hg
  by_cases h1 : v % 8 = 1
  · exact rread_n_no v w hv h1 hg
  by_cases h2 : v % 8 = 2
  · exact rread_f_no v w hv h2 hg
  by_cases h5 : v % 8 = 5
  · exact rread_b_no v w hv h5 hg
  · exact rread_d v w hv h0 ht h1 h2 h5

/-- The word one older, as the reference codes it. -/
def upA (a : Int) : Int := if a < 15 then a + 1 else 15
theorem upA_le {a : Int} (h0 : 0 ≤ a) : 0 ≤ upA a ∧ upA a < 16 := by unfold upA; split <;> omega
theorem uA_le (v : Int) : uA v < 16 := by unfold uA; split <;> omega
theorem older_ok {v : Int} (hv : InW v) : OkH (uK v) (upA (uA v)) (uE v) (uH v) (uO v) (uR v) (uS v) (uG v) := by
  obtain ⟨a0, a1, e0, e1, h0, h1, o0, o1, r0, r1, s0, s1, g0, g1⟩ := u_ok hv
  have := upA_le a0
  exact ⟨by omega, by omega, e0, e1, h0, h1, o0, o1, r0, r1, s0, s1, g0, g1⟩
theorem uK_2 {v : Int} (k : uK v = 2) : v % 8 = 1 := by
  unfold uK at k
  (repeat' split at k) <;> first | assumption | (exfalso; omega)
theorem uK_4 {v : Int} (k : uK v = 4) : v % 8 = 5 := by
  unfold uK at k
  (repeat' split at k) <;> first | assumption | (exfalso; omega)
/-- Of a header that may be and has an age. -/
theorem older_may {v : Int} (hv : InW v) (k : uK v = 2 ∨ uK v = 4) : hMayB (uK v) (upA (uA v)) (uE v) (uH v) (uO v) (uR v) (uS v) (uG v) = true := by
  have b := u_ok hv
  have hu := upA_le b.a0
  have hm : hMay (uK v) (uA v) (uE v) (uH v) (uO v) (uR v) (uS v) (uG v) := of_decide_eq_true (u_may hv (by rcases k with k | k <;> rw [k] <;> decide))
  refine decide_eq_true ?_
  unfold hMay at hm ⊢
  rcases k with k | k
  · rw [k] at hm ⊢; simp at hm ⊢; omega
  · rw [k] at hm ⊢; simp at hm ⊢; omega
theorem older_word {v : Int} (hv : InW v) (hg : gW v) (k : uK v = 2 ∨ uK v = 4) : pI (uK v) (upA (uA v)) (uH v) (uO v) (uR v) (uS v) (uG v) (uE v) = oI v := by
  have b := u_ok hv
  have hu := upA_le b.a0
  have h2 := hg
  unfold gW at h2
  have ha : uA v = v / 8 % 16 := by
    unfold uA
    rcases k with k | k
    · rw [if_pos (Or.inl (uK_2 k))]
    · rw [if_pos (Or.inr (uK_4 k))]
  unfold oI
  rw [← ha]
  have e : (if uA v < 15 then uA v + 1 else 15) = upA (uA v) := rfl
  rw [e]
  generalize upA (uA v) = n at *
  have a16 : 0 ≤ uA v ∧ uA v < 16 := by rw [ha]; omega
  rcases k with k | k
  · rw [k] at h2 ⊢; simp [pI] at h2 ⊢; omega
  · rw [k] at h2 ⊢; simp [pI] at h2 ⊢; omega
theorem older_code {v : Int} (hv : InW v) (hg : gW v) (k : uK v = 2 ∨ uK v = 4) :
    codeE (uK v) (upA (uA v)) (uE v) (uH v) (uO v) (uR v) (uS v) (uG v) = 0 ∧ codeW (uK v) (upA (uA v)) (uE v) (uH v) (uO v) (uR v) (uS v) (uG v) = oI v := by
  unfold codeE codeW
  rw [older_may hv k]
  exact ⟨rfl, older_word hv hg k⟩

theorem rolder_no (v : Int) (w : World) (hv : InW v) (hg : ¬ gW v) :
    Calls Tryd.prog 17 #[.int .u64 v] w fun x w' => x = .returned (.tuple #[.int .u64 0, .int .i64 3]) ∧ Ext w w' := by
  have hX0 := Ext.refl w
  have hW := Ext.refl w
  go_enter Tryd.func17, Tryd.ntmps17
  go_wp2_with (go_at_call 15; (with_reducible refine (rread_no _ _ hv hg).mono ?_); rintro e w' ⟨rfl, hb⟩; have hW := Ext.trans2 hW (by repeat (first | exact Ext.refl _ | exact Ext.alloc _ _ | exact Ext.drewN _ _ | assumption | refine Ext.trans ?_ (Ext.alloc _ _) | refine Ext.trans ?_ (Ext.drew _) | refine Ext.trans ?_ (by assumption))) hb; (try have hV := Ext.trans2 hV (by repeat (first | exact Ext.refl _ | exact Ext.alloc _ _ | exact Ext.drewN _ _ | assumption | refine Ext.trans ?_ (Ext.alloc _ _) | refine Ext.trans ?_ (Ext.drew _) | refine Ext.trans ?_ (by assumption))) hb); clear hb)
  go_ret2
  exact ⟨rfl, (hX0.trans (hW.trans (by repeat (first | exact Ext.refl _ | exact Ext.alloc _ _ | exact Ext.drewN _ _ | assumption | refine Ext.trans ?_ (Ext.alloc _ _) | refine Ext.trans ?_ (Ext.drew _) | refine Ext.trans ?_ (by assumption)))))⟩
theorem rolder_arg (v : Int) (w : World) (hv : InW v) (hg : gW v) (k2 : ¬ uK v = 2) (k4 : ¬ uK v = 4) :
    Calls Tryd.prog 17 #[.int .u64 v] w fun x w' => x = .returned (.tuple #[.int .u64 0, .int .i64 1]) ∧ Ext w w' := by
  have hX0 := Ext.refl w
  have hW := Ext.refl w
  have n2 : (uK v != 2) = true := by simpa using k2
  have n4 : (uK v != 4) = true := by simpa using k4
  go_enter Tryd.func17, Tryd.ntmps17
  go_wp2_with (go_at_call 15; (with_reducible refine (rread_yes _ _ hv hg).mono ?_); rintro e w' ⟨rfl, hb⟩; have hW := Ext.trans2 hW (by repeat (first | exact Ext.refl _ | exact Ext.alloc _ _ | exact Ext.drewN _ _ | assumption | refine Ext.trans ?_ (Ext.alloc _ _) | refine Ext.trans ?_ (Ext.drew _) | refine Ext.trans ?_ (by assumption))) hb; (try have hV := Ext.trans2 hV (by repeat (first | exact Ext.refl _ | exact Ext.alloc _ _ | exact Ext.drewN _ _ | assumption | refine Ext.trans ?_ (Ext.alloc _ _) | refine Ext.trans ?_ (Ext.drew _) | refine Ext.trans ?_ (by assumption))) hb); clear hb)
  go_ret2
  exact ⟨rfl, (hX0.trans (hW.trans (by repeat (first | exact Ext.refl _ | exact Ext.alloc _ _ | exact Ext.drewN _ _ | assumption | refine Ext.trans ?_ (Ext.alloc _ _) | refine Ext.trans ?_ (Ext.drew _) | refine Ext.trans ?_ (by assumption)))))⟩
theorem rolder_yes (v : Int) (w : World) (hv : InW v) (hg : gW v) (k24 : uK v = 2 ∨ uK v = 4) :
    Calls Tryd.prog 17 #[.int .u64 v] w fun x w' => x = .returned (.tuple #[.int .u64 (oI v), .int .i64 0]) ∧ Ext w w' := by
  have hX0 := Ext.refl w
  have hW := Ext.refl w
  obtain ⟨c1, c2⟩ := older_code hv hg k24
  have b := older_ok hv
  have a0 := (u_ok hv).a0
  by_cases c : uA v < 15
  · have e : upA (uA v) = uA v + 1 := by unfold upA; rw [if_pos c]
    have E1 : IntKind.u8.wrap (uA v + 1) = uA v + 1 := u8_in (by omega) (by omega)
    rw [e] at c1 c2 b
    clear e
    rcases k24 with k | k
    all_goals
      rw [k] at c1 c2 b
      go_enter Tryd.func17, Tryd.ntmps17
      go_wp2_with (first | (go_at_call 15; (with_reducible refine (rread_yes _ _ hv hg).mono ?_); rintro e w' ⟨rfl, hb⟩; have hW := Ext.trans2 hW (by repeat (first | exact Ext.refl _ | exact Ext.alloc _ _ | exact Ext.drewN _ _ | assumption | refine Ext.trans ?_ (Ext.alloc _ _) | refine Ext.trans ?_ (Ext.drew _) | refine Ext.trans ?_ (by assumption))) hb; (try have hV := Ext.trans2 hV (by repeat (first | exact Ext.refl _ | exact Ext.alloc _ _ | exact Ext.drewN _ _ | assumption | refine Ext.trans ?_ (Ext.alloc _ _) | refine Ext.trans ?_ (Ext.drew _) | refine Ext.trans ?_ (by assumption))) hb); clear hb) | (go_at_call 10; (with_reducible refine (rcode_any _ _ _ _ _ _ _ _ _ b).mono ?_); rintro e w' ⟨rfl, hb⟩; have hW := Ext.trans2 hW (by repeat (first | exact Ext.refl _ | exact Ext.alloc _ _ | exact Ext.drewN _ _ | assumption | refine Ext.trans ?_ (Ext.alloc _ _) | refine Ext.trans ?_ (Ext.drew _) | refine Ext.trans ?_ (by assumption))) hb; (try have hV := Ext.trans2 hV (by repeat (first | exact Ext.refl _ | exact Ext.alloc _ _ | exact Ext.drewN _ _ | assumption | refine Ext.trans ?_ (Ext.alloc _ _) | refine Ext.trans ?_ (Ext.drew _) | refine Ext.trans ?_ (by assumption))) hb); clear hb))
      go_ret2
      exact ⟨rfl, (hX0.trans (hW.trans (by repeat (first | exact Ext.refl _ | exact Ext.alloc _ _ | exact Ext.drewN _ _ | assumption | refine Ext.trans ?_ (Ext.alloc _ _) | refine Ext.trans ?_ (Ext.drew _) | refine Ext.trans ?_ (by assumption)))))⟩
  · have e : upA (uA v) = uA v := by have := (uA_le v); unfold upA; rw [if_neg c]; omega
    rw [e] at c1 c2 b
    clear e
    rcases k24 with k | k
    all_goals
      rw [k] at c1 c2 b
      go_enter Tryd.func17, Tryd.ntmps17
      go_wp2_with (first | (go_at_call 15; (with_reducible refine (rread_yes _ _ hv hg).mono ?_); rintro e w' ⟨rfl, hb⟩; have hW := Ext.trans2 hW (by repeat (first | exact Ext.refl _ | exact Ext.alloc _ _ | exact Ext.drewN _ _ | assumption | refine Ext.trans ?_ (Ext.alloc _ _) | refine Ext.trans ?_ (Ext.drew _) | refine Ext.trans ?_ (by assumption))) hb; (try have hV := Ext.trans2 hV (by repeat (first | exact Ext.refl _ | exact Ext.alloc _ _ | exact Ext.drewN _ _ | assumption | refine Ext.trans ?_ (Ext.alloc _ _) | refine Ext.trans ?_ (Ext.drew _) | refine Ext.trans ?_ (by assumption))) hb); clear hb) | (go_at_call 10; (with_reducible refine (rcode_any _ _ _ _ _ _ _ _ _ b).mono ?_); rintro e w' ⟨rfl, hb⟩; have hW := Ext.trans2 hW (by repeat (first | exact Ext.refl _ | exact Ext.alloc _ _ | exact Ext.drewN _ _ | assumption | refine Ext.trans ?_ (Ext.alloc _ _) | refine Ext.trans ?_ (Ext.drew _) | refine Ext.trans ?_ (by assumption))) hb; (try have hV := Ext.trans2 hV (by repeat (first | exact Ext.refl _ | exact Ext.alloc _ _ | exact Ext.drewN _ _ | assumption | refine Ext.trans ?_ (Ext.alloc _ _) | refine Ext.trans ?_ (Ext.drew _) | refine Ext.trans ?_ (by assumption))) hb); clear hb))
      go_ret2
      exact ⟨rfl, (hX0.trans (hW.trans (by repeat (first | exact Ext.refl _ | exact Ext.alloc _ _ | exact Ext.drewN _ _ | assumption | refine Ext.trans ?_ (Ext.alloc _ _) | refine Ext.trans ?_ (Ext.drew _) | refine Ext.trans ?_ (by assumption)))))⟩
end Go.Proofs.YtdnfedhecigepaaDoor
