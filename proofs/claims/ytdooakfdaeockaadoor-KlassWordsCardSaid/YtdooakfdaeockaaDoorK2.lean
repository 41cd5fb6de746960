/- What the reference of package klass answers; a class carried over; what alive answers. -/
import Derived.Test.YtdooakfdaeockaaDoorK1
namespace Go.Proofs.YtdooakfdaeockaaDoor
open Go.RowKit
set_option linter.unusedSimpArgs false
set_option linter.unusedVariables false



theorem rheader_any (b : Bool) (e c : Int) (w : World) (h0 : 0 ≤ e) (h1 : e ≤ 255) :
    Calls Tryd.prog 10 #[Value.agg #[.bool (b), .int .u8 (e), .int .i64 (c)]] w fun x w' => x = .returned (.int .u64 (hdI b e)) ∧ Ext w w' := by
  cases b
  · obtain ⟨c1, c2⟩ := code_n
    have b := okZ 2
    go_enter Tryd.func10, Tryd.ntmps10
    go_wp2_with fail
    have hX := fun w' (h : Ext (w.alloc (Obj.cells #[.bool (false), .int .u8 (e), .int .i64 (c)] 23)) w') => h.boxCell
    have hXf := fun w' (h : Ext (w.alloc (Obj.cells #[.bool (false), .int .u8 (e), .int .i64 (c)] 23)) w') => h.boxFree
    have hX0 : Ext w (w.alloc (Obj.cells #[.bool (false), .int .u8 (e), .int .i64 (c)] 23)) := Ext.alloc _ _
    generalize w.alloc (Obj.cells #[.bool (false), .int .u8 (e), .int .i64 (c)] 23) = W0 at *
    have hW := Ext.refl W0
    go_wp2_with ((go_at_call 20; (with_reducible refine (rcode_any _ _ _ _ _ _ _ _ _ b).mono ?_); rintro e w' ⟨rfl, hb⟩; have hW := Ext.trans2 hW (by repeat (first | exact Ext.refl _ | exact Ext.alloc _ _ | exact Ext.drewN _ _ | assumption | refine Ext.trans ?_ (Ext.alloc _ _) | refine Ext.trans ?_ (Ext.drew _) | refine Ext.trans ?_ (by assumption))) hb; (try have hV := Ext.trans2 hV (by repeat (first | exact Ext.refl _ | exact Ext.alloc _ _ | exact Ext.drewN _ _ | assumption | refine Ext.trans ?_ (Ext.alloc _ _) | refine Ext.trans ?_ (Ext.drew _) | refine Ext.trans ?_ (by assumption))) hb); clear hb))
    go_ret
    exact ⟨rfl, (hX0.trans (hW.trans (by repeat (first | exact Ext.refl _ | exact Ext.alloc _ _ | exact Ext.drewN _ _ | assumption | refine Ext.trans ?_ (Ext.alloc _ _) | refine Ext.trans ?_ (Ext.drew _) | refine Ext.trans ?_ (by assumption)))))⟩
  · obtain ⟨c1, c2⟩ := code_b h0 h1
    have b := ok_b h0 h1
    go_enter Tryd.func10, Tryd.ntmps10
    go_wp2_with fail
    have hX := fun w' (h : Ext (w.alloc (Obj.cells #[.bool (true), .int .u8 (e), .int .i64 (c)] 23)) w') => h.boxCell
    have hXf := fun w' (h : Ext (w.alloc (Obj.cells #[.bool (true), .int .u8 (e), .int .i64 (c)] 23)) w') => h.boxFree
    have hX0 : Ext w (w.alloc (Obj.cells #[.bool (true), .int .u8 (e), .int .i64 (c)] 23)) := Ext.alloc _ _
    generalize w.alloc (Obj.cells #[.bool (true), .int .u8 (e), .int .i64 (c)] 23) = W0 at *
    have hW := Ext.refl W0
    go_wp2_with ((go_at_call 20; (with_reducible refine (rcode_any _ _ _ _ _ _ _ _ _ b).mono ?_); rintro e w' ⟨rfl, hb⟩; have hW := Ext.trans2 hW (by repeat (first | exact Ext.refl _ | exact Ext.alloc _ _ | exact Ext.drewN _ _ | assumption | refine Ext.trans ?_ (Ext.alloc _ _) | refine Ext.trans ?_ (Ext.drew _) | refine Ext.trans ?_ (by assumption))) hb; (try have hV := Ext.trans2 hV (by repeat (first | exact Ext.refl _ | exact Ext.alloc _ _ | exact Ext.drewN _ _ | assumption | refine Ext.trans ?_ (Ext.alloc _ _) | refine Ext.trans ?_ (Ext.drew _) | refine Ext.trans ?_ (by assumption))) hb); clear hb))
    go_ret
    exact ⟨rfl, (hX0.trans (hW.trans (by repeat (first | exact Ext.refl _ | exact Ext.alloc _ _ | exact Ext.drewN _ _ | assumption | refine Ext.trans ?_ (Ext.alloc _ _) | refine Ext.trans ?_ (Ext.drew _) | refine Ext.trans ?_ (by assumption)))))⟩

theorem rvalid_any (b : Bool) (e c v : Int) (w : World) (hv : InW v) :
    Calls Tryd.prog 12 #[Value.agg #[.bool (b), .int .u8 (e), .int .i64 (c)], .int .u64 v] w fun x w' => x = .returned (.bool (valB b e v)) ∧ Ext w w' := by
  by_cases hg : gW v
  · have hi : isB v = (uK v == 4) := by simp [isB, hg]
    unfold valB
    rw [hi]
    clear hi
    cases hb : (uK v == 4)
    · go_enter Tryd.func12, Tryd.ntmps12
      go_wp2_with fail
      have hX := fun w' (h : Ext (w.alloc (Obj.cells #[.bool (b), .int .u8 (e), .int .i64 (c)] 23)) w') => h.boxCell
      have hXf := fun w' (h : Ext (w.alloc (Obj.cells #[.bool (b), .int .u8 (e), .int .i64 (c)] 23)) w') => h.boxFree
      have hX0 : Ext w (w.alloc (Obj.cells #[.bool (b), .int .u8 (e), .int .i64 (c)] 23)) := Ext.alloc _ _
      generalize w.alloc (Obj.cells #[.bool (b), .int .u8 (e), .int .i64 (c)] 23) = W0 at *
      have hW := Ext.refl W0
      go_wp2_with ((go_at_call 19; (with_reducible refine (rread_yes _ _ hv hg).mono ?_); rintro e w' ⟨rfl, hb⟩; have hW := Ext.trans2 hW (by repeat (first | exact Ext.refl _ | exact Ext.alloc _ _ | exact Ext.drewN _ _ | assumption | refine Ext.trans ?_ (Ext.alloc _ _) | refine Ext.trans ?_ (Ext.drew _) | refine Ext.trans ?_ (by assumption))) hb; (try have hV := Ext.trans2 hV (by repeat (first | exact Ext.refl _ | exact Ext.alloc _ _ | exact Ext.drewN _ _ | assumption | refine Ext.trans ?_ (Ext.alloc _ _) | refine Ext.trans ?_ (Ext.drew _) | refine Ext.trans ?_ (by assumption))) hb); clear hb); have hWA := fun o => hW.trans (Ext.alloc w' o))
      go_ret
      exact ⟨by cases b <;> rfl, (hX0.trans (hW.trans (by repeat (first | exact Ext.refl _ | exact Ext.alloc _ _ | exact Ext.drewN _ _ | assumption | refine Ext.trans ?_ (Ext.alloc _ _) | refine Ext.trans ?_ (Ext.drew _) | refine Ext.trans ?_ (by assumption)))))⟩
    · cases b
      · go_enter Tryd.func12, Tryd.ntmps12
        go_wp2_with fail
        have hX := fun w' (h : Ext (w.alloc (Obj.cells #[.bool (false), .int .u8 (e), .int .i64 (c)] 23)) w') => h.boxCell
        have hXf := fun w' (h : Ext (w.alloc (Obj.cells #[.bool (false), .int .u8 (e), .int .i64 (c)] 23)) w') => h.boxFree
        have hX0 : Ext w (w.alloc (Obj.cells #[.bool (false), .int .u8 (e), .int .i64 (c)] 23)) := Ext.alloc _ _
        generalize w.alloc (Obj.cells #[.bool (false), .int .u8 (e), .int .i64 (c)] 23) = W0 at *
        have hW := Ext.refl W0
        go_wp2_with ((go_at_call 19; (with_reducible refine (rread_yes _ _ hv hg).mono ?_); rintro e w' ⟨rfl, hb⟩; have hW := Ext.trans2 hW (by repeat (first | exact Ext.refl _ | exact Ext.alloc _ _ | exact Ext.drewN _ _ | assumption | refine Ext.trans ?_ (Ext.alloc _ _) | refine Ext.trans ?_ (Ext.drew _) | refine Ext.trans ?_ (by assumption))) hb; (try have hV := Ext.trans2 hV (by repeat (first | exact Ext.refl _ | exact Ext.alloc _ _ | exact Ext.drewN _ _ | assumption | refine Ext.trans ?_ (Ext.alloc _ _) | refine Ext.trans ?_ (Ext.drew _) | refine Ext.trans ?_ (by assumption))) hb); clear hb); have hWA := fun o => hW.trans (Ext.alloc w' o))
        go_ret
        exact ⟨rfl, (hX0.trans (hW.trans (by repeat (first | exact Ext.refl _ | exact Ext.alloc _ _ | exact Ext.drewN _ _ | assumption | refine Ext.trans ?_ (Ext.alloc _ _) | refine Ext.trans ?_ (Ext.drew _) | refine Ext.trans ?_ (by assumption)))))⟩
      · go_enter Tryd.func12, Tryd.ntmps12
        go_wp2_with fail
        have hX := fun w' (h : Ext (w.alloc (Obj.cells #[.bool (true), .int .u8 (e), .int .i64 (c)] 23)) w') => h.boxCell
        have hXf := fun w' (h : Ext (w.alloc (Obj.cells #[.bool (true), .int .u8 (e), .int .i64 (c)] 23)) w') => h.boxFree
        have hX0 : Ext w (w.alloc (Obj.cells #[.bool (true), .int .u8 (e), .int .i64 (c)] 23)) := Ext.alloc _ _
        generalize w.alloc (Obj.cells #[.bool (true), .int .u8 (e), .int .i64 (c)] 23) = W0 at *
        have hW := Ext.refl W0
        go_wp2_with ((go_at_call 19; (with_reducible refine (rread_yes _ _ hv hg).mono ?_); rintro e w' ⟨rfl, hb⟩; have hW := Ext.trans2 hW (by repeat (first | exact Ext.refl _ | exact Ext.alloc _ _ | exact Ext.drewN _ _ | assumption | refine Ext.trans ?_ (Ext.alloc _ _) | refine Ext.trans ?_ (Ext.drew _) | refine Ext.trans ?_ (by assumption))) hb; (try have hV := Ext.trans2 hV (by repeat (first | exact Ext.refl _ | exact Ext.alloc _ _ | exact Ext.drewN _ _ | assumption | refine Ext.trans ?_ (Ext.alloc _ _) | refine Ext.trans ?_ (Ext.drew _) | refine Ext.trans ?_ (by assumption))) hb); clear hb); have hWA := fun o => hW.trans (Ext.alloc w' o))
        go_ret
        exact ⟨rfl, (hX0.trans (hW.trans (by repeat (first | exact Ext.refl _ | exact Ext.alloc _ _ | exact Ext.drewN _ _ | assumption | refine Ext.trans ?_ (Ext.alloc _ _) | refine Ext.trans ?_ (Ext.drew _) | refine Ext.trans ?_ (by assumption)))))⟩
  · have hb := isB_no hg
    unfold valB
    rw [hb]
    go_enter Tryd.func12, Tryd.ntmps12
    go_wp2_with fail
    have hX := fun w' (h : Ext (w.alloc (Obj.cells #[.bool (b), .int .u8 (e), .int .i64 (c)] 23)) w') => h.boxCell
    have hXf := fun w' (h : Ext (w.alloc (Obj.cells #[.bool (b), .int .u8 (e), .int .i64 (c)] 23)) w') => h.boxFree
    have hX0 : Ext w (w.alloc (Obj.cells #[.bool (b), .int .u8 (e), .int .i64 (c)] 23)) := Ext.alloc _ _
    generalize w.alloc (Obj.cells #[.bool (b), .int .u8 (e), .int .i64 (c)] 23) = W0 at *
    have hW := Ext.refl W0
    go_wp2_with ((go_at_call 19; (with_reducible refine (rread_no _ _ hv hg).mono ?_); rintro e w' ⟨rfl, hb⟩; have hW := Ext.trans2 hW (by repeat (first | exact Ext.refl _ | exact Ext.alloc _ _ | exact Ext.drewN _ _ | assumption | refine Ext.trans ?_ (Ext.alloc _ _) | refine Ext.trans ?_ (Ext.drew _) | refine Ext.trans ?_ (by assumption))) hb; (try have hV := Ext.trans2 hV (by repeat (first | exact Ext.refl _ | exact Ext.alloc _ _ | exact Ext.drewN _ _ | assumption | refine Ext.trans ?_ (Ext.alloc _ _) | refine Ext.trans ?_ (Ext.drew _) | refine Ext.trans ?_ (by assumption))) hb); clear hb); have hWA := fun o => hW.trans (Ext.alloc w' o))
    go_ret
    exact ⟨by cases b <;> rfl, (hX0.trans (hW.trans (by repeat (first | exact Ext.refl _ | exact Ext.alloc _ _ | exact Ext.drewN _ _ | assumption | refine Ext.trans ?_ (Ext.alloc _ _) | refine Ext.trans ?_ (Ext.drew _) | refine Ext.trans ?_ (by assumption)))))⟩

theorem rfresh_any (q : Bool) (e c v : Int) (w : World) (hv : InW v) (h0 : 0 ≤ e) (h1 : e ≤ 255) :
    Calls Tryd.prog 8 #[.int .u64 v, Value.agg #[.bool (q), .int .u8 (e), .int .i64 (c)]] w fun x w' => x = .returned (.tuple #[.int .u64 (frI e v), .bool (isB v)]) ∧ Ext w w' := by
  by_cases hg : gW v
  · cases hb : isB v
    · have hf : frI e v = 0 := by simp [frI, hb]
      have k : (uK v != 4) = true := by
        have : isB v = (uK v == 4) := by simp [isB, hg]
        rw [this] at hb
        simpa [bne] using hb
      rw [hf]
      go_enter Tryd.func8, Tryd.ntmps8
      go_wp2_with fail
      have hX := fun w' (h : Ext (w.alloc (Obj.cells #[.bool (q), .int .u8 (e), .int .i64 (c)] 23)) w') => h.boxCell
      have hXf := fun w' (h : Ext (w.alloc (Obj.cells #[.bool (q), .int .u8 (e), .int .i64 (c)] 23)) w') => h.boxFree
      have hX0 : Ext w (w.alloc (Obj.cells #[.bool (q), .int .u8 (e), .int .i64 (c)] 23)) := Ext.alloc _ _
      generalize w.alloc (Obj.cells #[.bool (q), .int .u8 (e), .int .i64 (c)] 23) = W0 at *
      have hW := Ext.refl W0
      go_wp2_with (go_at_call 19; (with_reducible refine (rread_yes _ _ hv hg).mono ?_); rintro e w' ⟨rfl, hb⟩; have hW := Ext.trans2 hW (by repeat (first | exact Ext.refl _ | exact Ext.alloc _ _ | exact Ext.drewN _ _ | assumption | refine Ext.trans ?_ (Ext.alloc _ _) | refine Ext.trans ?_ (Ext.drew _) | refine Ext.trans ?_ (by assumption))) hb; (try have hV := Ext.trans2 hV (by repeat (first | exact Ext.refl _ | exact Ext.alloc _ _ | exact Ext.drewN _ _ | assumption | refine Ext.trans ?_ (Ext.alloc _ _) | refine Ext.trans ?_ (Ext.drew _) | refine Ext.trans ?_ (by assumption))) hb); clear hb)
      go_ret2
      exact ⟨rfl, (hX0.trans (hW.trans (by repeat (first | exact Ext.refl _ | exact Ext.alloc _ _ | exact Ext.drewN _ _ | assumption | refine Ext.trans ?_ (Ext.alloc _ _) | refine Ext.trans ?_ (Ext.drew _) | refine Ext.trans ?_ (by assumption)))))⟩
    · have k := (isB_4 hb).2
      have hf : frI e v = pI 4 (uA v) 0 (uO v) 0 0 0 e := by simp [frI, hb]
      obtain ⟨z1, z2, z3, z4, _⟩ := u4_z k
      obtain ⟨c1, c2⟩ := fr_code (e := e) k
      rw [← c1] at hf
      have b := fr_ok hv h0 h1
      rw [hf]
      have B := rread_yes v
      rw [k, z1, z2, z3, z4] at B
      clear hf c1
      go_enter Tryd.func8, Tryd.ntmps8
      go_wp2_with fail
      have hX := fun w' (h : Ext (w.alloc (Obj.cells #[.bool (q), .int .u8 (e), .int .i64 (c)] 23)) w') => h.boxCell
      have hXf := fun w' (h : Ext (w.alloc (Obj.cells #[.bool (q), .int .u8 (e), .int .i64 (c)] 23)) w') => h.boxFree
      have hX0 : Ext w (w.alloc (Obj.cells #[.bool (q), .int .u8 (e), .int .i64 (c)] 23)) := Ext.alloc _ _
      generalize w.alloc (Obj.cells #[.bool (q), .int .u8 (e), .int .i64 (c)] 23) = W0 at *
      have hW := Ext.refl W0
      go_wp2_with (first | ((go_at_call 19; (with_reducible refine (B _ hv hg).mono ?_); rintro e w' ⟨rfl, hb⟩; have hW := Ext.trans2 hW (by repeat (first | exact Ext.refl _ | exact Ext.alloc _ _ | exact Ext.drewN _ _ | assumption | refine Ext.trans ?_ (Ext.alloc _ _) | refine Ext.trans ?_ (Ext.drew _) | refine Ext.trans ?_ (by assumption))) hb; (try have hV := Ext.trans2 hV (by repeat (first | exact Ext.refl _ | exact Ext.alloc _ _ | exact Ext.drewN _ _ | assumption | refine Ext.trans ?_ (Ext.alloc _ _) | refine Ext.trans ?_ (Ext.drew _) | refine Ext.trans ?_ (by assumption))) hb); clear hb); have hWA := fun o => hW.trans (Ext.alloc w' o)) | (go_at_call 20; (with_reducible refine (rcode_any _ _ _ _ _ _ _ _ _ b).mono ?_); rintro e w' ⟨rfl, hb⟩; have hW := Ext.trans2 hW (by repeat (first | exact Ext.refl _ | exact Ext.alloc _ _ | exact Ext.drewN _ _ | assumption | refine Ext.trans ?_ (Ext.alloc _ _) | refine Ext.trans ?_ (Ext.drew _) | refine Ext.trans ?_ (by assumption))) hb; (try have hV := Ext.trans2 hV (by repeat (first | exact Ext.refl _ | exact Ext.alloc _ _ | exact Ext.drewN _ _ | assumption | refine Ext.trans ?_ (Ext.alloc _ _) | refine Ext.trans ?_ (Ext.drew _) | refine Ext.trans ?_ (by assumption))) hb); clear hb))
      go_ret2
      exact ⟨rfl, (hX0.trans (hW.trans (by repeat (first | exact Ext.refl _ | exact Ext.alloc _ _ | exact Ext.drewN _ _ | assumption | refine Ext.trans ?_ (Ext.alloc _ _) | refine Ext.trans ?_ (Ext.drew _) | refine Ext.trans ?_ (by assumption)))))⟩
  · have hb := isB_no hg
    have hf : frI e v = 0 := by simp [frI, hb]
    rw [hf, hb]
    go_enter Tryd.func8, Tryd.ntmps8
    go_wp2_with fail
    have hX := fun w' (h : Ext (w.alloc (Obj.cells #[.bool (q), .int .u8 (e), .int .i64 (c)] 23)) w') => h.boxCell
    have hXf := fun w' (h : Ext (w.alloc (Obj.cells #[.bool (q), .int .u8 (e), .int .i64 (c)] 23)) w') => h.boxFree
    have hX0 : Ext w (w.alloc (Obj.cells #[.bool (q), .int .u8 (e), .int .i64 (c)] 23)) := Ext.alloc _ _
    generalize w.alloc (Obj.cells #[.bool (q), .int .u8 (e), .int .i64 (c)] 23) = W0 at *
    have hW := Ext.refl W0
    go_wp2_with (go_at_call 19; (with_reducible refine (rread_no _ _ hv hg).mono ?_); rintro e w' ⟨rfl, hb⟩; have hW := Ext.trans2 hW (by repeat (first | exact Ext.refl _ | exact Ext.alloc _ _ | exact Ext.drewN _ _ | assumption | refine Ext.trans ?_ (Ext.alloc _ _) | refine Ext.trans ?_ (Ext.drew _) | refine Ext.trans ?_ (by assumption))) hb; (try have hV := Ext.trans2 hV (by repeat (first | exact Ext.refl _ | exact Ext.alloc _ _ | exact Ext.drewN _ _ | assumption | refine Ext.trans ?_ (Ext.alloc _ _) | refine Ext.trans ?_ (Ext.drew _) | refine Ext.trans ?_ (by assumption))) hb); clear hb)
    go_ret2
    exact ⟨rfl, (hX0.trans (hW.trans (by repeat (first | exact Ext.refl _ | exact Ext.alloc _ _ | exact Ext.drewN _ _ | assumption | refine Ext.trans ?_ (Ext.alloc _ _) | refine Ext.trans ?_ (Ext.drew _) | refine Ext.trans ?_ (by assumption)))))⟩

theorem theirs_any (b : Bool) (e c : Int) (w : World) : Calls Tryd.prog 7 #[Value.agg #[.bool (b), .int .u8 (e), .int .i64 (c)]] w fun x w' => x = .returned (Value.agg #[.bool (b), .int .u8 (e), .int .i64 (c)]) ∧ Ext w w' := by
  go_enter Tryd.func7, Tryd.ntmps7
  go_wp2
  refine bodyPost_ret (v := Value.agg #[.bool (b), .int .u8 (e), .int .i64 (c)]) (by simp [results, Tryd.results7, go_sem, *]) rfl ⟨rfl, ?_⟩
  ((repeat (with_reducible refine Ext.set ?_ (by simp) _)); exact (Ext.alloc _ _).trans (Ext.alloc _ _))
/-- A field of a class that lies in no memory. -/
theorem run_f0 (b : Bool) (e c : Int) (w : World) : Sem.run Tryd.prog (Instr.field 27 (Value.agg #[.bool (b), .int .u8 (e), .int .i64 (c)]) 0) w = .ok (.bool b) w := rfl
theorem run_f1 (b : Bool) (e c : Int) (w : World) : Sem.run Tryd.prog (Instr.field 27 (Value.agg #[.bool (b), .int .u8 (e), .int .i64 (c)]) 1) w = .ok (.int .u8 e) w := rfl
theorem inW_5 : InW 5 := ⟨by decide, by decide⟩
theorem val_05 : valB true 0 5 = true := by decide
theorem val_15 : valB true 1 5 = false := by decide
theorem alive_any (w : World) (hG : Glob w) : Calls Tryd.prog 13 #[] w fun e w' => e = .returned (.bool true) ∧ Ext w w' := by
  have f1 : hdI true 0 = 5 := by decide
  have f2 := val_05
  have f3 := val_15
  have i5 := inW_5
  have hF0 := run_f0
  have hF1 := run_f1
  go_enter Tryd.func13, Tryd.ntmps13
  go_wp2_with fail
  have hX := fun w' (h : Ext (w.alloc (Obj.cells #[.bool (true), .int .u8 (0), .int .i64 (0)] 27)) w') => h.boxCell
  have hXf := fun w' (h : Ext (w.alloc (Obj.cells #[.bool (true), .int .u8 (0), .int .i64 (0)] 27)) w') => h.boxFree
  have hX0 : Ext w (w.alloc (Obj.cells #[.bool (true), .int .u8 (0), .int .i64 (0)] 27)) := Ext.alloc _ _
  generalize w.alloc (Obj.cells #[.bool (true), .int .u8 (0), .int .i64 (0)] 27) = W0 at *
  have hW := Ext.refl W0
  go_wp2_with (first | (go_at_call 9; (with_reducible refine (kheader_any _ _ _ _ (hG.ext (hX0.trans hW)) (by decide) (by decide)).mono ?_); rintro e w' ⟨rfl, hb⟩; have hW := Ext.trans2 hW (by repeat (first | exact Ext.refl _ | exact Ext.alloc _ _ | exact Ext.drewN _ _ | assumption | refine Ext.trans ?_ (Ext.alloc _ _) | refine Ext.trans ?_ (Ext.drew _) | refine Ext.trans ?_ (by assumption))) hb; (try have hV := Ext.trans2 hV (by repeat (first | exact Ext.refl _ | exact Ext.alloc _ _ | exact Ext.drewN _ _ | assumption | refine Ext.trans ?_ (Ext.alloc _ _) | refine Ext.trans ?_ (Ext.drew _) | refine Ext.trans ?_ (by assumption))) hb); clear hb) | (go_at_call 14; (with_reducible refine (kanew_any _ _ _ _).mono ?_); rintro e w' ⟨rfl, hb⟩; have hW := Ext.trans2 hW (by repeat (first | exact Ext.refl _ | exact Ext.alloc _ _ | exact Ext.drewN _ _ | assumption | refine Ext.trans ?_ (Ext.alloc _ _) | refine Ext.trans ?_ (Ext.drew _) | refine Ext.trans ?_ (by assumption))) hb; (try have hV := Ext.trans2 hV (by repeat (first | exact Ext.refl _ | exact Ext.alloc _ _ | exact Ext.drewN _ _ | assumption | refine Ext.trans ?_ (Ext.alloc _ _) | refine Ext.trans ?_ (Ext.drew _) | refine Ext.trans ?_ (by assumption))) hb); clear hb) | (go_at_call 11; (with_reducible refine (kvalid_any _ _ _ _ _ (hG.ext (hX0.trans hW)) i5).mono ?_); rintro e w' ⟨rfl, hb⟩; have hW := Ext.trans2 hW (by repeat (first | exact Ext.refl _ | exact Ext.alloc _ _ | exact Ext.drewN _ _ | assumption | refine Ext.trans ?_ (Ext.alloc _ _) | refine Ext.trans ?_ (Ext.drew _) | refine Ext.trans ?_ (by assumption))) hb; (try have hV := Ext.trans2 hV (by repeat (first | exact Ext.refl _ | exact Ext.alloc _ _ | exact Ext.drewN _ _ | assumption | refine Ext.trans ?_ (Ext.alloc _ _) | refine Ext.trans ?_ (Ext.drew _) | refine Ext.trans ?_ (by assumption))) hb); clear hb) | (go_at_call 15; (with_reducible refine (knever_any _ _ _ _).mono ?_); rintro e w' ⟨rfl, hb⟩; have hW := Ext.trans2 hW (by repeat (first | exact Ext.refl _ | exact Ext.alloc _ _ | exact Ext.drewN _ _ | assumption | refine Ext.trans ?_ (Ext.alloc _ _) | refine Ext.trans ?_ (Ext.drew _) | refine Ext.trans ?_ (by assumption))) hb; (try have hV := Ext.trans2 hV (by repeat (first | exact Ext.refl _ | exact Ext.alloc _ _ | exact Ext.drewN _ _ | assumption | refine Ext.trans ?_ (Ext.alloc _ _) | refine Ext.trans ?_ (Ext.drew _) | refine Ext.trans ?_ (by assumption))) hb); clear hb))
  go_ret
  exact ⟨rfl, (hX0.trans (hW.trans (by repeat (first | exact Ext.refl _ | exact Ext.alloc _ _ | exact Ext.drewN _ _ | assumption | refine Ext.trans ?_ (Ext.alloc _ _) | refine Ext.trans ?_ (Ext.drew _) | refine Ext.trans ?_ (by assumption)))))⟩
end Go.Proofs.YtdooakfdaeockaaDoor
