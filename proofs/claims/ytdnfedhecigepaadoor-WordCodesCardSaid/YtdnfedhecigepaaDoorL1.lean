/- The laws of layer 2, walked. -/
import Derived.Test.YtdnfedhecigepaaDoorP6
namespace Go.Proofs.YtdnfedhecigepaaDoor
open Go.RowKit
set_option linter.unusedSimpArgs false
set_option linter.unusedVariables false



theorem run_eqR (k a e h o r s g k' a' e' h' o' r' s' g' : Int) (w : World) :
    Sem.run Tryd.prog (binOp .eql 25 (Value.agg #[.int .i64 (k), .int .u8 (a), .int .u8 (e), .int .u32 (h), .int .u16 (o), .int .u16 (r), .int .u16 (s), .int .u32 (g)]) (Value.agg #[.int .i64 (k'), .int .u8 (a'), .int .u8 (e'), .int .u32 (h'), .int .u16 (o'), .int .u16 (r'), .int .u16 (s'), .int .u32 (g')])) w = .ok (.bool (eqB k a e h o r s g k' a' e' h' o' r' s' g')) w := by
  unfold eqB
  go_simp
  by_cases c1 : k = k'
  · by_cases c2 : a = a'
    · by_cases c3 : e = e'
      · by_cases c4 : h = h'
        · by_cases c5 : o = o'
          · by_cases c6 : r = r'
            · by_cases c7 : s = s'
              · by_cases c8 : g = g' <;> simp [c1, c2, c3, c4, c5, c6, c7, c8]
              · simp [c1, c2, c3, c4, c5, c6, c7]
            · simp [c1, c2, c3, c4, c5, c6]
          · simp [c1, c2, c3, c4, c5]
        · simp [c1, c2, c3, c4]
      · simp [c1, c2, c3]
    · simp [c1, c2]
  · simp [c1]
theorem eqB_refl (k a e h o r s g : Int) : eqB k a e h o r s g k a e h o r s g = true := by simp [eqB]
theorem run_sameR (k a e h o r s g : Int) (w : World) : Sem.run Tryd.prog (binOp .eql 25 (Value.agg #[.int .i64 (k), .int .u8 (a), .int .u8 (e), .int .u32 (h), .int .u16 (o), .int .u16 (r), .int .u16 (s), .int .u32 (g)]) (Value.agg #[.int .i64 (k), .int .u8 (a), .int .u8 (e), .int .u32 (h), .int .u16 (o), .int .u16 (r), .int .u16 (s), .int .u32 (g)])) w = .ok (.bool true) w := by rw [run_eqR, eqB_refl]
theorem run_sameH (k a e h o r s g : Int) (w : World) : Sem.run Tryd.prog (binOp .eql 30 (Value.agg #[.int .i64 (k), .int .u8 (a), .int .u8 (e), .int .u32 (h), .int .u16 (o), .int .u16 (r), .int .u16 (s), .int .u32 (g)]) (Value.agg #[.int .i64 (k), .int .u8 (a), .int .u8 (e), .int .u32 (h), .int .u16 (o), .int .u16 (r), .int .u16 (s), .int .u32 (g)])) w = .ok (.bool true) w := by rw [run_eqH, eqB_refl]

theorem theirs_any (k a e h o r s g : Int) (w : World) : Calls Tryd.prog 9 #[Value.agg #[.int .i64 (k), .int .u8 (a), .int .u8 (e), .int .u32 (h), .int .u16 (o), .int .u16 (r), .int .u16 (s), .int .u32 (g)]] w fun x w' => x = .returned (Value.agg #[.int .i64 (k), .int .u8 (a), .int .u8 (e), .int .u32 (h), .int .u16 (o), .int .u16 (r), .int .u16 (s), .int .u32 (g)]) ∧ Ext w w' := by
  go_enter Tryd.func9, Tryd.ntmps9
  go_wp2
  refine bodyPost_ret (v := Value.agg #[.int .i64 (k), .int .u8 (a), .int .u8 (e), .int .u32 (h), .int .u16 (o), .int .u16 (r), .int .u16 (s), .int .u32 (g)]) (by simp [results, Tryd.results9, go_sem, *]) rfl ⟨rfl, ?_⟩
  ((repeat (with_reducible refine Ext.set ?_ (by simp) _)); exact (Ext.alloc _ _).trans (Ext.alloc _ _))
theorem ours_any (k a e h o r s g : Int) (w : World) : Calls Tryd.prog 18 #[Value.agg #[.int .i64 (k), .int .u8 (a), .int .u8 (e), .int .u32 (h), .int .u16 (o), .int .u16 (r), .int .u16 (s), .int .u32 (g)]] w fun x w' => x = .returned (Value.agg #[.int .i64 (k), .int .u8 (a), .int .u8 (e), .int .u32 (h), .int .u16 (o), .int .u16 (r), .int .u16 (s), .int .u32 (g)]) ∧ Ext w w' := by
  go_enter Tryd.func18, Tryd.ntmps18
  go_wp2
  refine bodyPost_ret (v := Value.agg #[.int .i64 (k), .int .u8 (a), .int .u8 (e), .int .u32 (h), .int .u16 (o), .int .u16 (r), .int .u16 (s), .int .u32 (g)]) (by simp [results, Tryd.results18, go_sem, *]) rfl ⟨rfl, ?_⟩
  ((repeat (with_reducible refine Ext.set ?_ (by simp) _)); exact (Ext.alloc _ _).trans (Ext.alloc _ _))
theorem ok_n : OkH 2 0 0 0 0 0 0 0 := okZ 2
theorem ok_t : OkH 1 0 0 0 1 0 0 0 := by constructor <;> decide
theorem alive_any (w : World) (hG : Glob w) : Calls Tryd.prog 13 #[] w fun e w' => e = .returned (.bool true) ∧ Ext w w' := by
  have f1 : codeW 2 0 0 0 0 0 0 0 = 1 := by decide
  have f2 : codeE 2 0 0 0 0 0 0 0 = 0 := by decide
  have f3 : codeW 1 0 0 0 1 0 0 0 = 16777216 := by decide
  have f4 : codeE 1 0 0 0 1 0 0 0 = 0 := by decide
  have f5 : uK 0 = 5 := by decide
  have hX0 := Ext.refl w
  have hW := Ext.refl w
  go_enter Tryd.func13, Tryd.ntmps13
  go_wp2_with fail
  (go_at_call 8; (with_reducible refine (code_any _ _ _ _ _ _ _ _ _ (hG.ext (hX0.trans hW)) ok_n).mono ?_); rintro e w' ⟨rfl, hb⟩; have hW := Ext.trans2 hW (by repeat (first | exact Ext.refl _ | exact Ext.alloc _ _ | exact Ext.drewN _ _ | assumption | refine Ext.trans ?_ (Ext.alloc _ _) | refine Ext.trans ?_ (Ext.drew _) | refine Ext.trans ?_ (by assumption))) hb; (try have hV := Ext.trans2 hV (by repeat (first | exact Ext.refl _ | exact Ext.alloc _ _ | exact Ext.drewN _ _ | assumption | refine Ext.trans ?_ (Ext.alloc _ _) | refine Ext.trans ?_ (Ext.drew _) | refine Ext.trans ?_ (by assumption))) hb); clear hb)
  go_wp2_with fail
  (go_at_call 8; (with_reducible refine (code_any _ _ _ _ _ _ _ _ _ (hG.ext (hX0.trans hW)) ok_t).mono ?_); rintro e w' ⟨rfl, hb⟩; have hW := Ext.trans2 hW (by repeat (first | exact Ext.refl _ | exact Ext.alloc _ _ | exact Ext.drewN _ _ | assumption | refine Ext.trans ?_ (Ext.alloc _ _) | refine Ext.trans ?_ (Ext.drew _) | refine Ext.trans ?_ (by assumption))) hb; (try have hV := Ext.trans2 hV (by repeat (first | exact Ext.refl _ | exact Ext.alloc _ _ | exact Ext.drewN _ _ | assumption | refine Ext.trans ?_ (Ext.alloc _ _) | refine Ext.trans ?_ (Ext.drew _) | refine Ext.trans ?_ (by assumption))) hb); clear hb)
  go_wp2_with (go_at_call 19; (with_reducible refine (kind_yes _ _ (hG.ext (hX0.trans hW)) inW_0 gW_0).mono ?_); rintro e w' ⟨rfl, hb⟩; have hW := Ext.trans2 hW (by repeat (first | exact Ext.refl _ | exact Ext.alloc _ _ | exact Ext.drewN _ _ | assumption | refine Ext.trans ?_ (Ext.alloc _ _) | refine Ext.trans ?_ (Ext.drew _) | refine Ext.trans ?_ (by assumption))) hb; (try have hV := Ext.trans2 hV (by repeat (first | exact Ext.refl _ | exact Ext.alloc _ _ | exact Ext.drewN _ _ | assumption | refine Ext.trans ?_ (Ext.alloc _ _) | refine Ext.trans ?_ (Ext.drew _) | refine Ext.trans ?_ (by assumption))) hb); clear hb)
  go_ret
  exact ⟨rfl, (hX0.trans (hW.trans (by repeat (first | exact Ext.refl _ | exact Ext.alloc _ _ | exact Ext.drewN _ _ | assumption | refine Ext.trans ?_ (Ext.alloc _ _) | refine Ext.trans ?_ (Ext.drew _) | refine Ext.trans ?_ (by assumption)))))⟩

theorem lcodes_any (k a e h o r s g : Int) (w : World) (hG : Glob w) (b : OkH k a e h o r s g) :
    Calls Tryd.prog 3 #[Value.agg #[.int .i64 (k), .int .u8 (a), .int .u8 (e), .int .u32 (h), .int .u16 (o), .int .u16 (r), .int .u16 (s), .int .u32 (g)]] w fun x w' => x = .returned (.bool true) ∧ Ext w w' := by
  go_enter Tryd.func3, Tryd.ntmps3
  go_wp2_with fail
  have hX := fun w' (h : Ext (w.alloc (Obj.cells #[.int .i64 (k), .int .u8 (a), .int .u8 (e), .int .u32 (h), .int .u16 (o), .int .u16 (r), .int .u16 (s), .int .u32 (g)] 25)) w') => h.boxCell
  have hXf := fun w' (h : Ext (w.alloc (Obj.cells #[.int .i64 (k), .int .u8 (a), .int .u8 (e), .int .u32 (h), .int .u16 (o), .int .u16 (r), .int .u16 (s), .int .u32 (g)] 25)) w') => h.boxFree
  have hX0 : Ext w (w.alloc (Obj.cells #[.int .i64 (k), .int .u8 (a), .int .u8 (e), .int .u32 (h), .int .u16 (o), .int .u16 (r), .int .u16 (s), .int .u32 (g)] 25)) := Ext.alloc _ _
  generalize w.alloc (Obj.cells #[.int .i64 (k), .int .u8 (a), .int .u8 (e), .int .u32 (h), .int .u16 (o), .int .u16 (r), .int .u16 (s), .int .u32 (g)] 25) = W0 at *
  have hW := Ext.refl W0
  go_wp2_with (first | (go_at_call 9; (with_reducible refine (theirs_any _ _ _ _ _ _ _ _ _).mono ?_); rintro e w' ⟨rfl, hb⟩; have hW := Ext.trans2 hW (by repeat (first | exact Ext.refl _ | exact Ext.alloc _ _ | exact Ext.drewN _ _ | assumption | refine Ext.trans ?_ (Ext.alloc _ _) | refine Ext.trans ?_ (Ext.drew _) | refine Ext.trans ?_ (by assumption))) hb; (try have hV := Ext.trans2 hV (by repeat (first | exact Ext.refl _ | exact Ext.alloc _ _ | exact Ext.drewN _ _ | assumption | refine Ext.trans ?_ (Ext.alloc _ _) | refine Ext.trans ?_ (Ext.drew _) | refine Ext.trans ?_ (by assumption))) hb); clear hb) | (go_at_call 8; (with_reducible refine (code_any _ _ _ _ _ _ _ _ _ (hG.ext (hX0.trans hW)) b).mono ?_); rintro e w' ⟨rfl, hb⟩; have hW := Ext.trans2 hW (by repeat (first | exact Ext.refl _ | exact Ext.alloc _ _ | exact Ext.drewN _ _ | assumption | refine Ext.trans ?_ (Ext.alloc _ _) | refine Ext.trans ?_ (Ext.drew _) | refine Ext.trans ?_ (by assumption))) hb; (try have hV := Ext.trans2 hV (by repeat (first | exact Ext.refl _ | exact Ext.alloc _ _ | exact Ext.drewN _ _ | assumption | refine Ext.trans ?_ (Ext.alloc _ _) | refine Ext.trans ?_ (Ext.drew _) | refine Ext.trans ?_ (by assumption))) hb); clear hb) | (go_at_call 10; (with_reducible refine (rcode_any _ _ _ _ _ _ _ _ _ b).mono ?_); rintro e w' ⟨rfl, hb⟩; have hW := Ext.trans2 hW (by repeat (first | exact Ext.refl _ | exact Ext.alloc _ _ | exact Ext.drewN _ _ | assumption | refine Ext.trans ?_ (Ext.alloc _ _) | refine Ext.trans ?_ (Ext.drew _) | refine Ext.trans ?_ (by assumption))) hb; (try have hV := Ext.trans2 hV (by repeat (first | exact Ext.refl _ | exact Ext.alloc _ _ | exact Ext.drewN _ _ | assumption | refine Ext.trans ?_ (Ext.alloc _ _) | refine Ext.trans ?_ (Ext.drew _) | refine Ext.trans ?_ (by assumption))) hb); clear hb))
  refine wp_region_ext (by kernel_rfl) (by kernel_rfl) ?_
  repeat
    with_reducible refine wpQuiet_step (fun K hK => ?_)
    go_simp
    first
    | (refine hK _ ?_; clear hK K)
    | (apply Exists.intro
       refine ⟨fun w1 h1 => ?_, hK _ ?_⟩
       (have hW := Ext.trans2 hW (by repeat (first | exact Ext.refl _ | exact Ext.alloc _ _ | exact Ext.drewN _ _ | assumption | refine Ext.trans ?_ (Ext.alloc _ _) | refine Ext.trans ?_ (Ext.drew _) | refine Ext.trans ?_ (by assumption))) h1; (try have hV := Ext.trans2 hV (by repeat (first | exact Ext.refl _ | exact Ext.alloc _ _ | exact Ext.drewN _ _ | assumption | refine Ext.trans ?_ (Ext.alloc _ _) | refine Ext.trans ?_ (Ext.drew _) | refine Ext.trans ?_ (by assumption))) h1); (first | rfl | (go_simp; done) | (go_simp; rfl) | (first | (go_at_call 9; (with_reducible refine (theirs_any _ _ _ _ _ _ _ _ _).mono ?_); rintro e w2 ⟨rfl, hb⟩; exact ⟨rfl, h1.trans hb⟩) | (go_at_call 11; (with_reducible refine (may_h _ _ _ _ _ _ _ _ _ (hG.ext (hX0.trans hW)) b).mono ?_); rintro e w2 ⟨rfl, hb⟩; exact ⟨rfl, h1.trans hb⟩) | (go_at_call 12; (with_reducible refine (rmay_any _ _ _ _ _ _ _ _ _ b).mono ?_); rintro e w2 ⟨rfl, hb⟩; exact ⟨rfl, h1.trans hb⟩) | (go_at_call 13; (with_reducible refine (alive_any _ (hG.ext (hX0.trans hW))).mono ?_); rintro e w2 ⟨rfl, hb⟩; exact ⟨rfl, h1.trans hb⟩))))
       clear hK K)
  refine wpQuiet_nil (fun w' hw' => ?_)
  have hW := Ext.trans2 hW (by repeat (first | exact Ext.refl _ | exact Ext.alloc _ _ | exact Ext.drewN _ _ | assumption | refine Ext.trans ?_ (Ext.alloc _ _) | refine Ext.trans ?_ (Ext.drew _) | refine Ext.trans ?_ (by assumption))) hw'
  try have hV := Ext.trans2 hV (by repeat (first | exact Ext.refl _ | exact Ext.alloc _ _ | exact Ext.drewN _ _ | assumption | refine Ext.trans ?_ (Ext.alloc _ _) | refine Ext.trans ?_ (Ext.drew _) | refine Ext.trans ?_ (by assumption))) hw'
  clear hw'
  go_wp2
  go_ret
  exact ⟨rfl, (hX0.trans (hW.trans (by repeat (first | exact Ext.refl _ | exact Ext.alloc _ _ | exact Ext.drewN _ _ | assumption | refine Ext.trans ?_ (Ext.alloc _ _) | refine Ext.trans ?_ (Ext.drew _) | refine Ext.trans ?_ (by assumption)))))⟩

theorem back_eq {k a e h o r s g : Int} (b : OkH k a e h o r s g) (hm : hMayB k a e h o r s g = true) :
    uK (pI k a h o r s g e) = k ∧ uA (pI k a h o r s g e) = a ∧ uE (pI k a h o r s g e) = e ∧ uH (pI k a h o r s g e) = h ∧ uO (pI k a h o r s g e) = o ∧ uR (pI k a h o r s g e) = r ∧ uS (pI k a h o r s g e) = s ∧ uG (pI k a h o r s g e) = g := by
  have H := back_may b
  rw [hm] at H
  simpa only [eqB, Bool.and_eq_true, beq_iff_eq] using H
theorem back_g {k a e h o r s g : Int} (b : OkH k a e h o r s g) (hm : hMayB k a e h o r s g = true) : gW (pI k a h o r s g e) := by
  obtain ⟨q1, q2, q3, q4, q5, q6, q7, q8⟩ := back_eq b hm
  unfold gW
  rw [q1, q2, q3, q4, q5, q6, q7, q8]
theorem read_back (k a e h o r s g : Int) (w : World) (hG : Glob w) (b : OkH k a e h o r s g) (hm : hMayB k a e h o r s g = true) :
    Calls Tryd.prog 14 #[.int .u64 (pI k a h o r s g e)] w fun x w' => x = .returned (.tuple #[Value.agg #[.int .i64 (k), .int .u8 (a), .int .u8 (e), .int .u32 (h), .int .u16 (o), .int .u16 (r), .int .u16 (s), .int .u32 (g)], .int .i64 0]) ∧ Ext w w' := by
  obtain ⟨q1, q2, q3, q4, q5, q6, q7, q8⟩ := back_eq b hm
  have H := read_yes (pI k a h o r s g e) w hG (p_inW b) (back_g b hm)
  rw [q1, q2, q3, q4, q5, q6, q7, q8] at H
  exact H
theorem kind_back (k a e h o r s g : Int) (w : World) (hG : Glob w) (b : OkH k a e h o r s g) (hm : hMayB k a e h o r s g = true) :
    Calls Tryd.prog 19 #[.int .u64 (pI k a h o r s g e)] w fun x w' => x = .returned (.int .i64 k) ∧ Ext w w' := by
  obtain ⟨q1, q2, q3, q4, q5, q6, q7, q8⟩ := back_eq b hm
  have H := kind_yes (pI k a h o r s g e) w hG (p_inW b) (back_g b hm)
  rw [q1] at H
  exact H

set_option maxHeartbeats 2000000 in
theorem lreads_any (v : Int) (w : World) (hG : Glob w) (hv : InW v) :
    Calls Tryd.prog 4 #[.int .u64 v] w fun x w' => x = .returned (.bool true) ∧ Ext w w' := by
  have hX0 := Ext.refl w
  have hW := Ext.refl w
  by_cases hg : gW v
  · have hE := fun w => run_sameR (uK v) (uA v) (uE v) (uH v) (uO v) (uR v) (uS v) (uG v) w
    by_cases k24 : uK v = 2 ∨ uK v = 4
    · have K := hide k24
      clear k24
      go_enter Tryd.func4, Tryd.ntmps4
      go_wp2_with (go_at_call 14; (with_reducible refine (read_yes _ _ (hG.ext (hX0.trans hW)) hv hg).mono ?_); rintro e w' ⟨rfl, hb⟩; have hW := Ext.trans2 hW (by repeat (first | exact Ext.refl _ | exact Ext.alloc _ _ | exact Ext.drewN _ _ | assumption | refine Ext.trans ?_ (Ext.alloc _ _) | refine Ext.trans ?_ (Ext.drew _) | refine Ext.trans ?_ (by assumption))) hb; (try have hV := Ext.trans2 hV (by repeat (first | exact Ext.refl _ | exact Ext.alloc _ _ | exact Ext.drewN _ _ | assumption | refine Ext.trans ?_ (Ext.alloc _ _) | refine Ext.trans ?_ (Ext.drew _) | refine Ext.trans ?_ (by assumption))) hb); clear hb)
      have hX := fun wx (h : Ext (w'.alloc (Obj.cells #[.int .i64 (uK (v)), .int .u8 (uA (v)), .int .u8 (uE (v)), .int .u32 (uH (v)), .int .u16 (uO (v)), .int .u16 (uR (v)), .int .u16 (uS (v)), .int .u32 (uG (v))] 30)) wx) => h.boxCell
      have hXf := fun wx (h : Ext (w'.alloc (Obj.cells #[.int .i64 (uK (v)), .int .u8 (uA (v)), .int .u8 (uE (v)), .int .u32 (uH (v)), .int .u16 (uO (v)), .int .u16 (uR (v)), .int .u16 (uS (v)), .int .u32 (uG (v))] 30)) wx) => h.boxFree
      have hW := hW.trans (Ext.alloc w' (Obj.cells #[.int .i64 (uK (v)), .int .u8 (uA (v)), .int .u8 (uE (v)), .int .u32 (uH (v)), .int .u16 (uO (v)), .int .u16 (uR (v)), .int .u16 (uS (v)), .int .u32 (uG (v))] 30))
      generalize w'.alloc (Obj.cells #[.int .i64 (uK (v)), .int .u8 (uA (v)), .int .u8 (uE (v)), .int .u32 (uH (v)), .int .u16 (uO (v)), .int .u16 (uR (v)), .int .u16 (uS (v)), .int .u32 (uG (v))] 30) = W1 at *
      have hV := Ext.refl W1
      go_wp2_with (go_at_call 15; (with_reducible refine (rread_yes _ _ hv hg).mono ?_); rintro e w' ⟨rfl, hb⟩; have hW := Ext.trans2 hW (by repeat (first | exact Ext.refl _ | exact Ext.alloc _ _ | exact Ext.drewN _ _ | assumption | refine Ext.trans ?_ (Ext.alloc _ _) | refine Ext.trans ?_ (Ext.drew _) | refine Ext.trans ?_ (by assumption))) hb; (try have hV := Ext.trans2 hV (by repeat (first | exact Ext.refl _ | exact Ext.alloc _ _ | exact Ext.drewN _ _ | assumption | refine Ext.trans ?_ (Ext.alloc _ _) | refine Ext.trans ?_ (Ext.drew _) | refine Ext.trans ?_ (by assumption))) hb); clear hb)
      have hY := fun wx (h : Ext (w'.alloc (Obj.cells #[.int .i64 (uK (v)), .int .u8 (uA (v)), .int .u8 (uE (v)), .int .u32 (uH (v)), .int .u16 (uO (v)), .int .u16 (uR (v)), .int .u16 (uS (v)), .int .u32 (uG (v))] 25)) wx) => h.boxCell
      have hYf := fun wx (h : Ext (w'.alloc (Obj.cells #[.int .i64 (uK (v)), .int .u8 (uA (v)), .int .u8 (uE (v)), .int .u32 (uH (v)), .int .u16 (uO (v)), .int .u16 (uR (v)), .int .u16 (uS (v)), .int .u32 (uG (v))] 25)) wx) => h.boxFree
      have hV := hV.trans (Ext.alloc w' (Obj.cells #[.int .i64 (uK (v)), .int .u8 (uA (v)), .int .u8 (uE (v)), .int .u32 (uH (v)), .int .u16 (uO (v)), .int .u16 (uR (v)), .int .u16 (uS (v)), .int .u32 (uG (v))] 25))
      have hW := hW.trans (Ext.alloc w' (Obj.cells #[.int .i64 (uK (v)), .int .u8 (uA (v)), .int .u8 (uE (v)), .int .u32 (uH (v)), .int .u16 (uO (v)), .int .u16 (uR (v)), .int .u16 (uS (v)), .int .u32 (uG (v))] 25))
      generalize w'.alloc (Obj.cells #[.int .i64 (uK (v)), .int .u8 (uA (v)), .int .u8 (uE (v)), .int .u32 (uH (v)), .int .u16 (uO (v)), .int .u16 (uR (v)), .int .u16 (uS (v)), .int .u32 (uG (v))] 25) = W2 at *
      have hZ := fun wx (h : Ext W2 wx) => hX wx (hV.trans h)
      have hZf := fun wx (h : Ext W2 wx) => hXf wx (hV.trans h)
      clear hX hXf
      have hV := Ext.refl W2
      go_wp2_with (first | (go_at_call 16; (with_reducible refine (older_yes _ _ (hG.ext (hX0.trans hW)) hv hg K.out).mono ?_); rintro e w' ⟨rfl, hb⟩; have hW := Ext.trans2 hW (by repeat (first | exact Ext.refl _ | exact Ext.alloc _ _ | exact Ext.drewN _ _ | assumption | refine Ext.trans ?_ (Ext.alloc _ _) | refine Ext.trans ?_ (Ext.drew _) | refine Ext.trans ?_ (by assumption))) hb; (try have hV := Ext.trans2 hV (by repeat (first | exact Ext.refl _ | exact Ext.alloc _ _ | exact Ext.drewN _ _ | assumption | refine Ext.trans ?_ (Ext.alloc _ _) | refine Ext.trans ?_ (Ext.drew _) | refine Ext.trans ?_ (by assumption))) hb); clear hb) | (go_at_call 17; (with_reducible refine (rolder_yes _ _ hv hg K.out).mono ?_); rintro e w' ⟨rfl, hb⟩; have hW := Ext.trans2 hW (by repeat (first | exact Ext.refl _ | exact Ext.alloc _ _ | exact Ext.drewN _ _ | assumption | refine Ext.trans ?_ (Ext.alloc _ _) | refine Ext.trans ?_ (Ext.drew _) | refine Ext.trans ?_ (by assumption))) hb; (try have hV := Ext.trans2 hV (by repeat (first | exact Ext.refl _ | exact Ext.alloc _ _ | exact Ext.drewN _ _ | assumption | refine Ext.trans ?_ (Ext.alloc _ _) | refine Ext.trans ?_ (Ext.drew _) | refine Ext.trans ?_ (by assumption))) hb); clear hb))
      refine wp_region_ext (by kernel_rfl) (by kernel_rfl) ?_
      repeat
        with_reducible refine wpQuiet_step (fun K hK => ?_)
        go_simp
        first
        | (refine hK _ ?_; clear hK K)
        | (apply Exists.intro
           refine ⟨fun w1 h1 => ?_, hK _ ?_⟩
           (have hW := Ext.trans2 hW (by repeat (first | exact Ext.refl _ | exact Ext.alloc _ _ | exact Ext.drewN _ _ | assumption | refine Ext.trans ?_ (Ext.alloc _ _) | refine Ext.trans ?_ (Ext.drew _) | refine Ext.trans ?_ (by assumption))) h1; (try have hV := Ext.trans2 hV (by repeat (first | exact Ext.refl _ | exact Ext.alloc _ _ | exact Ext.drewN _ _ | assumption | refine Ext.trans ?_ (Ext.alloc _ _) | refine Ext.trans ?_ (Ext.drew _) | refine Ext.trans ?_ (by assumption))) h1); (first | rfl | (go_simp; done) | (go_simp; rfl) | (first | (go_at_call 18; (with_reducible refine (ours_any _ _ _ _ _ _ _ _ _).mono ?_); rintro e w2 ⟨rfl, hb⟩; exact ⟨rfl, h1.trans hb⟩) | (go_at_call 19; (with_reducible refine (kind_yes _ _ (hG.ext (hX0.trans hW)) hv hg).mono ?_); rintro e w2 ⟨rfl, hb⟩; exact ⟨rfl, h1.trans hb⟩) | (go_at_call 13; (with_reducible refine (alive_any _ (hG.ext (hX0.trans hW))).mono ?_); rintro e w2 ⟨rfl, hb⟩; exact ⟨rfl, h1.trans hb⟩))))
           clear hK K)
      refine wpQuiet_nil (fun w' hw' => ?_)
      have hW := Ext.trans2 hW (by repeat (first | exact Ext.refl _ | exact Ext.alloc _ _ | exact Ext.drewN _ _ | assumption | refine Ext.trans ?_ (Ext.alloc _ _) | refine Ext.trans ?_ (Ext.drew _) | refine Ext.trans ?_ (by assumption))) hw'
      try have hV := Ext.trans2 hV (by repeat (first | exact Ext.refl _ | exact Ext.alloc _ _ | exact Ext.drewN _ _ | assumption | refine Ext.trans ?_ (Ext.alloc _ _) | refine Ext.trans ?_ (Ext.drew _) | refine Ext.trans ?_ (by assumption))) hw'
      clear hw'
      go_wp2
      go_ret
      exact ⟨rfl, (hX0.trans (hW.trans (by repeat (first | exact Ext.refl _ | exact Ext.alloc _ _ | exact Ext.drewN _ _ | assumption | refine Ext.trans ?_ (Ext.alloc _ _) | refine Ext.trans ?_ (Ext.drew _) | refine Ext.trans ?_ (by assumption)))))⟩
    · have K2 := hide (fun q => k24 (Or.inl q))
      have K4 := hide (fun q => k24 (Or.inr q))
      clear k24
      go_enter Tryd.func4, Tryd.ntmps4
      go_wp2_with (go_at_call 14; (with_reducible refine (read_yes _ _ (hG.ext (hX0.trans hW)) hv hg).mono ?_); rintro e w' ⟨rfl, hb⟩; have hW := Ext.trans2 hW (by repeat (first | exact Ext.refl _ | exact Ext.alloc _ _ | exact Ext.drewN _ _ | assumption | refine Ext.trans ?_ (Ext.alloc _ _) | refine Ext.trans ?_ (Ext.drew _) | refine Ext.trans ?_ (by assumption))) hb; (try have hV := Ext.trans2 hV (by repeat (first | exact Ext.refl _ | exact Ext.alloc _ _ | exact Ext.drewN _ _ | assumption | refine Ext.trans ?_ (Ext.alloc _ _) | refine Ext.trans ?_ (Ext.drew _) | refine Ext.trans ?_ (by assumption))) hb); clear hb)
      have hX := fun wx (h : Ext (w'.alloc (Obj.cells #[.int .i64 (uK (v)), .int .u8 (uA (v)), .int .u8 (uE (v)), .int .u32 (uH (v)), .int .u16 (uO (v)), .int .u16 (uR (v)), .int .u16 (uS (v)), .int .u32 (uG (v))] 30)) wx) => h.boxCell
      have hXf := fun wx (h : Ext (w'.alloc (Obj.cells #[.int .i64 (uK (v)), .int .u8 (uA (v)), .int .u8 (uE (v)), .int .u32 (uH (v)), .int .u16 (uO (v)), .int .u16 (uR (v)), .int .u16 (uS (v)), .int .u32 (uG (v))] 30)) wx) => h.boxFree
      have hW := hW.trans (Ext.alloc w' (Obj.cells #[.int .i64 (uK (v)), .int .u8 (uA (v)), .int .u8 (uE (v)), .int .u32 (uH (v)), .int .u16 (uO (v)), .int .u16 (uR (v)), .int .u16 (uS (v)), .int .u32 (uG (v))] 30))
      generalize w'.alloc (Obj.cells #[.int .i64 (uK (v)), .int .u8 (uA (v)), .int .u8 (uE (v)), .int .u32 (uH (v)), .int .u16 (uO (v)), .int .u16 (uR (v)), .int .u16 (uS (v)), .int .u32 (uG (v))] 30) = W1 at *
      have hV := Ext.refl W1
      go_wp2_with (go_at_call 15; (with_reducible refine (rread_yes _ _ hv hg).mono ?_); rintro e w' ⟨rfl, hb⟩; have hW := Ext.trans2 hW (by repeat (first | exact Ext.refl _ | exact Ext.alloc _ _ | exact Ext.drewN _ _ | assumption | refine Ext.trans ?_ (Ext.alloc _ _) | refine Ext.trans ?_ (Ext.drew _) | refine Ext.trans ?_ (by assumption))) hb; (try have hV := Ext.trans2 hV (by repeat (first | exact Ext.refl _ | exact Ext.alloc _ _ | exact Ext.drewN _ _ | assumption | refine Ext.trans ?_ (Ext.alloc _ _) | refine Ext.trans ?_ (Ext.drew _) | refine Ext.trans ?_ (by assumption))) hb); clear hb)
      have hY := fun wx (h : Ext (w'.alloc (Obj.cells #[.int .i64 (uK (v)), .int .u8 (uA (v)), .int .u8 (uE (v)), .int .u32 (uH (v)), .int .u16 (uO (v)), .int .u16 (uR (v)), .int .u16 (uS (v)), .int .u32 (uG (v))] 25)) wx) => h.boxCell
      have hYf := fun wx (h : Ext (w'.alloc (Obj.cells #[.int .i64 (uK (v)), .int .u8 (uA (v)), .int .u8 (uE (v)), .int .u32 (uH (v)), .int .u16 (uO (v)), .int .u16 (uR (v)), .int .u16 (uS (v)), .int .u32 (uG (v))] 25)) wx) => h.boxFree
      have hV := hV.trans (Ext.alloc w' (Obj.cells #[.int .i64 (uK (v)), .int .u8 (uA (v)), .int .u8 (uE (v)), .int .u32 (uH (v)), .int .u16 (uO (v)), .int .u16 (uR (v)), .int .u16 (uS (v)), .int .u32 (uG (v))] 25))
      have hW := hW.trans (Ext.alloc w' (Obj.cells #[.int .i64 (uK (v)), .int .u8 (uA (v)), .int .u8 (uE (v)), .int .u32 (uH (v)), .int .u16 (uO (v)), .int .u16 (uR (v)), .int .u16 (uS (v)), .int .u32 (uG (v))] 25))
      generalize w'.alloc (Obj.cells #[.int .i64 (uK (v)), .int .u8 (uA (v)), .int .u8 (uE (v)), .int .u32 (uH (v)), .int .u16 (uO (v)), .int .u16 (uR (v)), .int .u16 (uS (v)), .int .u32 (uG (v))] 25) = W2 at *
      have hZ := fun wx (h : Ext W2 wx) => hX wx (hV.trans h)
      have hZf := fun wx (h : Ext W2 wx) => hXf wx (hV.trans h)
      clear hX hXf
      have hV := Ext.refl W2
      go_wp2_with (first | (go_at_call 16; (with_reducible refine (older_arg _ _ (hG.ext (hX0.trans hW)) hv hg K2.out K4.out).mono ?_); rintro e w' ⟨rfl, hb⟩; have hW := Ext.trans2 hW (by repeat (first | exact Ext.refl _ | exact Ext.alloc _ _ | exact Ext.drewN _ _ | assumption | refine Ext.trans ?_ (Ext.alloc _ _) | refine Ext.trans ?_ (Ext.drew _) | refine Ext.trans ?_ (by assumption))) hb; (try have hV := Ext.trans2 hV (by repeat (first | exact Ext.refl _ | exact Ext.alloc _ _ | exact Ext.drewN _ _ | assumption | refine Ext.trans ?_ (Ext.alloc _ _) | refine Ext.trans ?_ (Ext.drew _) | refine Ext.trans ?_ (by assumption))) hb); clear hb) | (go_at_call 17; (with_reducible refine (rolder_arg _ _ hv hg K2.out K4.out).mono ?_); rintro e w' ⟨rfl, hb⟩; have hW := Ext.trans2 hW (by repeat (first | exact Ext.refl _ | exact Ext.alloc _ _ | exact Ext.drewN _ _ | assumption | refine Ext.trans ?_ (Ext.alloc _ _) | refine Ext.trans ?_ (Ext.drew _) | refine Ext.trans ?_ (by assumption))) hb; (try have hV := Ext.trans2 hV (by repeat (first | exact Ext.refl _ | exact Ext.alloc _ _ | exact Ext.drewN _ _ | assumption | refine Ext.trans ?_ (Ext.alloc _ _) | refine Ext.trans ?_ (Ext.drew _) | refine Ext.trans ?_ (by assumption))) hb); clear hb))
      refine wp_region_ext (by kernel_rfl) (by kernel_rfl) ?_
      repeat
        with_reducible refine wpQuiet_step (fun K hK => ?_)
        go_simp
        first
        | (refine hK _ ?_; clear hK K)
        | (apply Exists.intro
           refine ⟨fun w1 h1 => ?_, hK _ ?_⟩
           (have hW := Ext.trans2 hW (by repeat (first | exact Ext.refl _ | exact Ext.alloc _ _ | exact Ext.drewN _ _ | assumption | refine Ext.trans ?_ (Ext.alloc _ _) | refine Ext.trans ?_ (Ext.drew _) | refine Ext.trans ?_ (by assumption))) h1; (try have hV := Ext.trans2 hV (by repeat (first | exact Ext.refl _ | exact Ext.alloc _ _ | exact Ext.drewN _ _ | assumption | refine Ext.trans ?_ (Ext.alloc _ _) | refine Ext.trans ?_ (Ext.drew _) | refine Ext.trans ?_ (by assumption))) h1); (first | rfl | (go_simp; done) | (go_simp; rfl) | (first | (go_at_call 18; (with_reducible refine (ours_any _ _ _ _ _ _ _ _ _).mono ?_); rintro e w2 ⟨rfl, hb⟩; exact ⟨rfl, h1.trans hb⟩) | (go_at_call 19; (with_reducible refine (kind_yes _ _ (hG.ext (hX0.trans hW)) hv hg).mono ?_); rintro e w2 ⟨rfl, hb⟩; exact ⟨rfl, h1.trans hb⟩) | (go_at_call 13; (with_reducible refine (alive_any _ (hG.ext (hX0.trans hW))).mono ?_); rintro e w2 ⟨rfl, hb⟩; exact ⟨rfl, h1.trans hb⟩))))
           clear hK K)
      refine wpQuiet_nil (fun w' hw' => ?_)
      have hW := Ext.trans2 hW (by repeat (first | exact Ext.refl _ | exact Ext.alloc _ _ | exact Ext.drewN _ _ | assumption | refine Ext.trans ?_ (Ext.alloc _ _) | refine Ext.trans ?_ (Ext.drew _) | refine Ext.trans ?_ (by assumption))) hw'
      try have hV := Ext.trans2 hV (by repeat (first | exact Ext.refl _ | exact Ext.alloc _ _ | exact Ext.drewN _ _ | assumption | refine Ext.trans ?_ (Ext.alloc _ _) | refine Ext.trans ?_ (Ext.drew _) | refine Ext.trans ?_ (by assumption))) hw'
      clear hw'
      go_wp2
      go_ret
      exact ⟨rfl, (hX0.trans (hW.trans (by repeat (first | exact Ext.refl _ | exact Ext.alloc _ _ | exact Ext.drewN _ _ | assumption | refine Ext.trans ?_ (Ext.alloc _ _) | refine Ext.trans ?_ (Ext.drew _) | refine Ext.trans ?_ (by assumption)))))⟩
  · have hE := fun w => run_sameR 0 0 0 0 0 0 0 0 w
    go_enter Tryd.func4, Tryd.ntmps4
    go_wp2_with (go_at_call 14; (with_reducible refine (read_no _ _ (hG.ext (hX0.trans hW)) hv hg).mono ?_); rintro e w' ⟨rfl, hb⟩; have hW := Ext.trans2 hW (by repeat (first | exact Ext.refl _ | exact Ext.alloc _ _ | exact Ext.drewN _ _ | assumption | refine Ext.trans ?_ (Ext.alloc _ _) | refine Ext.trans ?_ (Ext.drew _) | refine Ext.trans ?_ (by assumption))) hb; (try have hV := Ext.trans2 hV (by repeat (first | exact Ext.refl _ | exact Ext.alloc _ _ | exact Ext.drewN _ _ | assumption | refine Ext.trans ?_ (Ext.alloc _ _) | refine Ext.trans ?_ (Ext.drew _) | refine Ext.trans ?_ (by assumption))) hb); clear hb)
    have hX := fun wx (h : Ext (w'.alloc (Obj.cells #[.int .i64 (0), .int .u8 (0), .int .u8 (0), .int .u32 (0), .int .u16 (0), .int .u16 (0), .int .u16 (0), .int .u32 (0)] 30)) wx) => h.boxCell
    have hXf := fun wx (h : Ext (w'.alloc (Obj.cells #[.int .i64 (0), .int .u8 (0), .int .u8 (0), .int .u32 (0), .int .u16 (0), .int .u16 (0), .int .u16 (0), .int .u32 (0)] 30)) wx) => h.boxFree
    have hW := hW.trans (Ext.alloc w' (Obj.cells #[.int .i64 (0), .int .u8 (0), .int .u8 (0), .int .u32 (0), .int .u16 (0), .int .u16 (0), .int .u16 (0), .int .u32 (0)] 30))
    generalize w'.alloc (Obj.cells #[.int .i64 (0), .int .u8 (0), .int .u8 (0), .int .u32 (0), .int .u16 (0), .int .u16 (0), .int .u16 (0), .int .u32 (0)] 30) = W1 at *
    have hV := Ext.refl W1
    go_wp2_with (go_at_call 15; (with_reducible refine (rread_no _ _ hv hg).mono ?_); rintro e w' ⟨rfl, hb⟩; have hW := Ext.trans2 hW (by repeat (first | exact Ext.refl _ | exact Ext.alloc _ _ | exact Ext.drewN _ _ | assumption | refine Ext.trans ?_ (Ext.alloc _ _) | refine Ext.trans ?_ (Ext.drew _) | refine Ext.trans ?_ (by assumption))) hb; (try have hV := Ext.trans2 hV (by repeat (first | exact Ext.refl _ | exact Ext.alloc _ _ | exact Ext.drewN _ _ | assumption | refine Ext.trans ?_ (Ext.alloc _ _) | refine Ext.trans ?_ (Ext.drew _) | refine Ext.trans ?_ (by assumption))) hb); clear hb)
    have hY := fun wx (h : Ext (w'.alloc (Obj.cells #[.int .i64 (0), .int .u8 (0), .int .u8 (0), .int .u32 (0), .int .u16 (0), .int .u16 (0), .int .u16 (0), .int .u32 (0)] 25)) wx) => h.boxCell
    have hYf := fun wx (h : Ext (w'.alloc (Obj.cells #[.int .i64 (0), .int .u8 (0), .int .u8 (0), .int .u32 (0), .int .u16 (0), .int .u16 (0), .int .u16 (0), .int .u32 (0)] 25)) wx) => h.boxFree
    have hV := hV.trans (Ext.alloc w' (Obj.cells #[.int .i64 (0), .int .u8 (0), .int .u8 (0), .int .u32 (0), .int .u16 (0), .int .u16 (0), .int .u16 (0), .int .u32 (0)] 25))
    have hW := hW.trans (Ext.alloc w' (Obj.cells #[.int .i64 (0), .int .u8 (0), .int .u8 (0), .int .u32 (0), .int .u16 (0), .int .u16 (0), .int .u16 (0), .int .u32 (0)] 25))
    generalize w'.alloc (Obj.cells #[.int .i64 (0), .int .u8 (0), .int .u8 (0), .int .u32 (0), .int .u16 (0), .int .u16 (0), .int .u16 (0), .int .u32 (0)] 25) = W2 at *
    have hZ := fun wx (h : Ext W2 wx) => hX wx (hV.trans h)
    have hZf := fun wx (h : Ext W2 wx) => hXf wx (hV.trans h)
    clear hX hXf
    have hV := Ext.refl W2
    go_wp2_with (first | (go_at_call 16; (with_reducible refine (older_no _ _ (hG.ext (hX0.trans hW)) hv hg).mono ?_); rintro e w' ⟨rfl, hb⟩; have hW := Ext.trans2 hW (by repeat (first | exact Ext.refl _ | exact Ext.alloc _ _ | exact Ext.drewN _ _ | assumption | refine Ext.trans ?_ (Ext.alloc _ _) | refine Ext.trans ?_ (Ext.drew _) | refine Ext.trans ?_ (by assumption))) hb; (try have hV := Ext.trans2 hV (by repeat (first | exact Ext.refl _ | exact Ext.alloc _ _ | exact Ext.drewN _ _ | assumption | refine Ext.trans ?_ (Ext.alloc _ _) | refine Ext.trans ?_ (Ext.drew _) | refine Ext.trans ?_ (by assumption))) hb); clear hb) | (go_at_call 17; (with_reducible refine (rolder_no _ _ hv hg).mono ?_); rintro e w' ⟨rfl, hb⟩; have hW := Ext.trans2 hW (by repeat (first | exact Ext.refl _ | exact Ext.alloc _ _ | exact Ext.drewN _ _ | assumption | refine Ext.trans ?_ (Ext.alloc _ _) | refine Ext.trans ?_ (Ext.drew _) | refine Ext.trans ?_ (by assumption))) hb; (try have hV := Ext.trans2 hV (by repeat (first | exact Ext.refl _ | exact Ext.alloc _ _ | exact Ext.drewN _ _ | assumption | refine Ext.trans ?_ (Ext.alloc _ _) | refine Ext.trans ?_ (Ext.drew _) | refine Ext.trans ?_ (by assumption))) hb); clear hb))
    refine wp_region_ext (by kernel_rfl) (by kernel_rfl) ?_
    repeat
      with_reducible refine wpQuiet_step (fun K hK => ?_)
      go_simp
      first
      | (refine hK _ ?_; clear hK K)
      | (apply Exists.intro
         refine ⟨fun w1 h1 => ?_, hK _ ?_⟩
         (have hW := Ext.trans2 hW (by repeat (first | exact Ext.refl _ | exact Ext.alloc _ _ | exact Ext.drewN _ _ | assumption | refine Ext.trans ?_ (Ext.alloc _ _) | refine Ext.trans ?_ (Ext.drew _) | refine Ext.trans ?_ (by assumption))) h1; (try have hV := Ext.trans2 hV (by repeat (first | exact Ext.refl _ | exact Ext.alloc _ _ | exact Ext.drewN _ _ | assumption | refine Ext.trans ?_ (Ext.alloc _ _) | refine Ext.trans ?_ (Ext.drew _) | refine Ext.trans ?_ (by assumption))) h1); (first | rfl | (go_simp; done) | (go_simp; rfl) | (first | (go_at_call 18; (with_reducible refine (ours_any _ _ _ _ _ _ _ _ _).mono ?_); rintro e w2 ⟨rfl, hb⟩; exact ⟨rfl, h1.trans hb⟩) | (go_at_call 19; (with_reducible refine (kind_no _ _ (hG.ext (hX0.trans hW)) hv hg).mono ?_); rintro e w2 ⟨rfl, hb⟩; exact ⟨rfl, h1.trans hb⟩) | (go_at_call 13; (with_reducible refine (alive_any _ (hG.ext (hX0.trans hW))).mono ?_); rintro e w2 ⟨rfl, hb⟩; exact ⟨rfl, h1.trans hb⟩))))
         clear hK K)
    refine wpQuiet_nil (fun w' hw' => ?_)
    have hW := Ext.trans2 hW (by repeat (first | exact Ext.refl _ | exact Ext.alloc _ _ | exact Ext.drewN _ _ | assumption | refine Ext.trans ?_ (Ext.alloc _ _) | refine Ext.trans ?_ (Ext.drew _) | refine Ext.trans ?_ (by assumption))) hw'
    try have hV := Ext.trans2 hV (by repeat (first | exact Ext.refl _ | exact Ext.alloc _ _ | exact Ext.drewN _ _ | assumption | refine Ext.trans ?_ (Ext.alloc _ _) | refine Ext.trans ?_ (Ext.drew _) | refine Ext.trans ?_ (by assumption))) hw'
    clear hw'
    go_wp2
    go_ret
    exact ⟨rfl, (hX0.trans (hW.trans (by repeat (first | exact Ext.refl _ | exact Ext.alloc _ _ | exact Ext.drewN _ _ | assumption | refine Ext.trans ?_ (Ext.alloc _ _) | refine Ext.trans ?_ (Ext.drew _) | refine Ext.trans ?_ (by assumption)))))⟩
end Go.Proofs.YtdnfedhecigepaaDoor
