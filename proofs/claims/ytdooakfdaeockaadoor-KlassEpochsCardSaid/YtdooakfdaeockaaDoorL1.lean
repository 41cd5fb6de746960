/- The laws of layer 6, walked. -/
import Derived.Test.YtdooakfdaeockaaDoorK3
namespace Go.Proofs.YtdooakfdaeockaaDoor
open Go.RowKit
set_option linter.unusedSimpArgs false
set_option linter.unusedVariables false



set_option maxHeartbeats 2000000 in
theorem lwords_any (b : Bool) (e c v : Int) (w : World) (hG : Glob w) (hv : InW v) (he0 : 0 ≤ e) (he1 : e ≤ 255) :
    Calls Tryd.prog 3 #[Value.agg #[.bool (b), .int .u8 (e), .int .i64 (c)], .int .u64 v] w fun x w' => x = .returned (.bool true) ∧ Ext w w' := by
  go_enter Tryd.func3, Tryd.ntmps3
  go_wp2_with fail
  have hX := fun w' (h : Ext (w.alloc (Obj.cells #[.bool (b), .int .u8 (e), .int .i64 (c)] 23)) w') => h.boxCell
  have hXf := fun w' (h : Ext (w.alloc (Obj.cells #[.bool (b), .int .u8 (e), .int .i64 (c)] 23)) w') => h.boxFree
  have hX0 : Ext w (w.alloc (Obj.cells #[.bool (b), .int .u8 (e), .int .i64 (c)] 23)) := Ext.alloc _ _
  generalize w.alloc (Obj.cells #[.bool (b), .int .u8 (e), .int .i64 (c)] 23) = W0 at *
  have hW := Ext.refl W0
  go_wp2_with (first | (go_at_call 7; (with_reducible refine (theirs_any _ _ _ _).mono ?_); rintro e w' ⟨rfl, hb⟩; have hW := Ext.trans2 hW (by repeat (first | exact Ext.refl _ | exact Ext.alloc _ _ | exact Ext.drewN _ _ | assumption | refine Ext.trans ?_ (Ext.alloc _ _) | refine Ext.trans ?_ (Ext.drew _) | refine Ext.trans ?_ (by assumption))) hb; (try have hV := Ext.trans2 hV (by repeat (first | exact Ext.refl _ | exact Ext.alloc _ _ | exact Ext.drewN _ _ | assumption | refine Ext.trans ?_ (Ext.alloc _ _) | refine Ext.trans ?_ (Ext.drew _) | refine Ext.trans ?_ (by assumption))) hb); clear hb) | (go_at_call 6; (with_reducible refine (kfresh_any _ _ _ _ _ (hG.ext (hX0.trans hW)) hv he0 he1).mono ?_); rintro e w' ⟨rfl, hb⟩; have hW := Ext.trans2 hW (by repeat (first | exact Ext.refl _ | exact Ext.alloc _ _ | exact Ext.drewN _ _ | assumption | refine Ext.trans ?_ (Ext.alloc _ _) | refine Ext.trans ?_ (Ext.drew _) | refine Ext.trans ?_ (by assumption))) hb; (try have hV := Ext.trans2 hV (by repeat (first | exact Ext.refl _ | exact Ext.alloc _ _ | exact Ext.drewN _ _ | assumption | refine Ext.trans ?_ (Ext.alloc _ _) | refine Ext.trans ?_ (Ext.drew _) | refine Ext.trans ?_ (by assumption))) hb); clear hb) | (go_at_call 8; (with_reducible refine (rfresh_any _ _ _ _ _ hv he0 he1).mono ?_); rintro e w' ⟨rfl, hb⟩; have hW := Ext.trans2 hW (by repeat (first | exact Ext.refl _ | exact Ext.alloc _ _ | exact Ext.drewN _ _ | assumption | refine Ext.trans ?_ (Ext.alloc _ _) | refine Ext.trans ?_ (Ext.drew _) | refine Ext.trans ?_ (by assumption))) hb; (try have hV := Ext.trans2 hV (by repeat (first | exact Ext.refl _ | exact Ext.alloc _ _ | exact Ext.drewN _ _ | assumption | refine Ext.trans ?_ (Ext.alloc _ _) | refine Ext.trans ?_ (Ext.drew _) | refine Ext.trans ?_ (by assumption))) hb); clear hb))
  refine wp_region_ext (by kernel_rfl) (by kernel_rfl) ?_
  repeat
    with_reducible refine wpQuiet_step (fun K hK => ?_)
    go_simp
    first
    | (refine hK _ ?_; clear hK K)
    | (apply Exists.intro
       refine ⟨fun w1 h1 => ?_, hK _ ?_⟩
       (have hW := Ext.trans2 hW (by repeat (first | exact Ext.refl _ | exact Ext.alloc _ _ | exact Ext.drewN _ _ | assumption | refine Ext.trans ?_ (Ext.alloc _ _) | refine Ext.trans ?_ (Ext.drew _) | refine Ext.trans ?_ (by assumption))) h1; (try have hV := Ext.trans2 hV (by repeat (first | exact Ext.refl _ | exact Ext.alloc _ _ | exact Ext.drewN _ _ | assumption | refine Ext.trans ?_ (Ext.alloc _ _) | refine Ext.trans ?_ (Ext.drew _) | refine Ext.trans ?_ (by assumption))) h1); (first | rfl | (go_simp; done) | (go_simp; rfl) | (first | (go_at_call 7; (with_reducible refine (theirs_any _ _ _ _).mono ?_); rintro e w2 ⟨rfl, hb⟩; exact ⟨rfl, h1.trans hb⟩) | (go_at_call 9; (with_reducible refine (kheader_any _ _ _ _ (hG.ext (hX0.trans hW)) he0 he1).mono ?_); rintro e w2 ⟨rfl, hb⟩; exact ⟨rfl, h1.trans hb⟩) | (go_at_call 10; (with_reducible refine (rheader_any _ _ _ _ he0 he1).mono ?_); rintro e w2 ⟨rfl, hb⟩; exact ⟨rfl, h1.trans hb⟩) | (go_at_call 11; (with_reducible refine (kvalid_any _ _ _ _ _ (hG.ext (hX0.trans hW)) hv).mono ?_); rintro e w2 ⟨rfl, hb⟩; exact ⟨rfl, h1.trans hb⟩) | (go_at_call 12; (with_reducible refine (rvalid_any _ _ _ _ _ hv).mono ?_); rintro e w2 ⟨rfl, hb⟩; exact ⟨rfl, h1.trans hb⟩) | (go_at_call 13; (with_reducible refine (alive_any _ (hG.ext (hX0.trans hW))).mono ?_); rintro e w2 ⟨rfl, hb⟩; exact ⟨rfl, h1.trans hb⟩))))
       clear hK K)
  refine wpQuiet_nil (fun w' hw' => ?_)
  have hW := Ext.trans2 hW (by repeat (first | exact Ext.refl _ | exact Ext.alloc _ _ | exact Ext.drewN _ _ | assumption | refine Ext.trans ?_ (Ext.alloc _ _) | refine Ext.trans ?_ (Ext.drew _) | refine Ext.trans ?_ (by assumption))) hw'
  try have hV := Ext.trans2 hV (by repeat (first | exact Ext.refl _ | exact Ext.alloc _ _ | exact Ext.drewN _ _ | assumption | refine Ext.trans ?_ (Ext.alloc _ _) | refine Ext.trans ?_ (Ext.drew _) | refine Ext.trans ?_ (by assumption))) hw'
  clear hw'
  go_wp2
  go_ret
  exact ⟨rfl, (hX0.trans (hW.trans (by repeat (first | exact Ext.refl _ | exact Ext.alloc _ _ | exact Ext.drewN _ _ | assumption | refine Ext.trans ?_ (Ext.alloc _ _) | refine Ext.trans ?_ (Ext.drew _) | refine Ext.trans ?_ (by assumption)))))⟩

theorem back_eq {k a e h o r s g : Int} (b : OkH k a e h o r s g) (hm : hMayB k a e h o r s g = true) :
    uK (pI k a h o r s g e) = k ∧ uA (pI k a h o r s g e) = a ∧ uE (pI k a h o r s g e) = e ∧ uH (pI k a h o r s g e) = h ∧ uO (pI k a h o r s g e) = o ∧ uR (pI k a h o r s g e) = r ∧ uS (pI k a h o r s g e) = s ∧ uG (pI k a h o r s g e) = g := by
  have H := back_may b
  rw [hm] at H
  simpa only [eqB, Bool.and_eq_true, beq_iff_eq] using H
theorem back_g {k a e h o r s g : Int} (b : OkH k a e h o r s g) (hm : hMayB k a e h o r s g = true) : gW (pI k a h o r s g e) := by
  obtain ⟨q1, q2, q3, q4, q5, q6, q7, q8⟩ := back_eq b hm
  unfold gW
  rw [q1, q2, q3, q4, q5, q6, q7, q8]
theorem may4 {a e o : Int} (h : a < 16) : hMayB 4 a e 0 o 0 0 0 = true := by simp [hMayB, hMay, h]
/-- A Biased word is Valid in its epoch and in no other. -/
theorem val_4 {a e o : Int} (b : Bool) (e' : Int) (k : OkH 4 a e 0 o 0 0 0) (h : a < 16) : valB b e' (pI 4 a 0 o 0 0 0 e) = (b && (e == e')) := by
  obtain ⟨q1, _, q3, _⟩ := back_eq k (may4 h)
  have g := back_g k (may4 h)
  simp [valB, isB, q1, q3, g]
theorem hd_4 (e : Int) : hdI true e = pI 4 0 0 0 0 0 0 e := by simp [hdI, pI]
theorem hd_in (b : Bool) {e : Int} (h0 : 0 ≤ e) (h1 : e ≤ 255) : InW (hdI b e) := by
  unfold hdI InW two64
  cases b <;> simp <;> omega
theorem val_hd (b : Bool) {e : Int} (h0 : 0 ≤ e) (h1 : e ≤ 255) : valB b e (hdI b e) = b := by
  cases b
  · rfl
  · rw [hd_4, val_4 _ _ (ok_b h0 h1) (by decide)]
    simp
theorem fr_in {e v : Int} (hv : InW v) (h0 : 0 ≤ e) (h1 : e ≤ 255) : InW (frI e v) := by
  unfold frI
  split
  · exact p_inW (fr_ok hv h0 h1)
  · exact inW_0
theorem val_fr (b : Bool) {e v : Int} (hv : InW v) (h0 : 0 ≤ e) (h1 : e ≤ 255) : valB b e (frI e v) = (isB v && b) := by
  unfold frI
  cases hb : isB v
  · simp [valB, isB, uK]
  · simp only [if_true]
    rw [val_4 _ _ (fr_ok hv h0 h1) (u4_z (isB_4 hb).2).2.2.2.2]
    simp
theorem val_f (e v : Int) : valB false e v = false := rfl
theorem val_up {b : Bool} {e v : Int} (h0 : 0 ≤ e) (h1 : e ≤ 255) (h : valB b e v = true) : valB b ((e + 1) % 256) v = false := by
  have q : uE v = e := by
    simp only [valB, Bool.and_eq_true, beq_iff_eq] at h
    exact h.2.2
  have n : ¬ e = (e + 1) % 256 := by omega
  unfold valB
  rw [q]
  have : (e == (e + 1) % 256) = false := by simpa using n
  rw [this]
  simp

set_option maxHeartbeats 2000000 in
theorem lepochs_any (b : Bool) (e c v : Int) (w : World) (hG : Glob w) (hv : InW v) (he0 : 0 ≤ e) (he1 : e ≤ 255) :
    Calls Tryd.prog 4 #[Value.agg #[.bool (b), .int .u8 (e), .int .i64 (c)], .int .u64 v] w fun x w' => x = .returned (.bool true) ∧ Ext w w' := by
  have V1 := val_hd b he0 he1
  have i1 := hd_in b he0 he1
  have V2 := val_fr b hv he0 he1
  have i2 := fr_in hv he0 he1
  have N1 := val_f e v
  have hF0 := run_f0
  have hF1 := run_f1
  have hU : IntKind.u8.wrap (e + 1) = (e + 1) % 256 := IntKind.wrap_u8 _
  cases hq : valB b e v
  · cases hz : isB v
    · rw [hz] at V2
      go_enter Tryd.func4, Tryd.ntmps4
      go_wp2_with fail
      have hX := fun w' (h : Ext (w.alloc (Obj.cells #[.bool (b), .int .u8 (e), .int .i64 (c)] 23)) w') => h.boxCell
      have hXf := fun w' (h : Ext (w.alloc (Obj.cells #[.bool (b), .int .u8 (e), .int .i64 (c)] 23)) w') => h.boxFree
      have hX0 : Ext w (w.alloc (Obj.cells #[.bool (b), .int .u8 (e), .int .i64 (c)] 23)) := Ext.alloc _ _
      generalize w.alloc (Obj.cells #[.bool (b), .int .u8 (e), .int .i64 (c)] 23) = W0 at *
      have hW := Ext.refl W0
      go_wp2_with (go_at_call 7; (with_reducible refine (theirs_any _ _ _ _).mono ?_); rintro e w' ⟨rfl, hb⟩; have hW := Ext.trans2 hW (by repeat (first | exact Ext.refl _ | exact Ext.alloc _ _ | exact Ext.drewN _ _ | assumption | refine Ext.trans ?_ (Ext.alloc _ _) | refine Ext.trans ?_ (Ext.drew _) | refine Ext.trans ?_ (by assumption))) hb; (try have hV := Ext.trans2 hV (by repeat (first | exact Ext.refl _ | exact Ext.alloc _ _ | exact Ext.drewN _ _ | assumption | refine Ext.trans ?_ (Ext.alloc _ _) | refine Ext.trans ?_ (Ext.drew _) | refine Ext.trans ?_ (by assumption))) hb); clear hb)
      have hXX := hX
      have hX := fun wx (h : Ext (w'.alloc (Obj.cells #[.bool (b), .int .u8 (e), .int .i64 (c)] 27)) wx) => h.boxCell
      have hXf := fun wx (h : Ext (w'.alloc (Obj.cells #[.bool (b), .int .u8 (e), .int .i64 (c)] 27)) wx) => h.boxFree
      have hW := hW.trans (Ext.alloc w' (Obj.cells #[.bool (b), .int .u8 (e), .int .i64 (c)] 27))
      generalize w'.alloc (Obj.cells #[.bool (b), .int .u8 (e), .int .i64 (c)] 27) = W1 at *
      have hV := Ext.refl W1
      have hZ := fun wx (h : Ext W1 wx) => hXX wx (hW.trans h)
      clear hXX
      refine wp_region_ext (by kernel_rfl) (by kernel_rfl) ?_
      repeat
        with_reducible refine wpQuiet_step (fun K hK => ?_)
        go_simp
        first
        | (refine hK _ ?_; clear hK K)
        | (apply Exists.intro
           refine ⟨fun w1 h1 => ?_, hK _ ?_⟩
           (have hW := Ext.trans2 hW (by repeat (first | exact Ext.refl _ | exact Ext.alloc _ _ | exact Ext.drewN _ _ | assumption | refine Ext.trans ?_ (Ext.alloc _ _) | refine Ext.trans ?_ (Ext.drew _) | refine Ext.trans ?_ (by assumption))) h1; (try have hV := Ext.trans2 hV (by repeat (first | exact Ext.refl _ | exact Ext.alloc _ _ | exact Ext.drewN _ _ | assumption | refine Ext.trans ?_ (Ext.alloc _ _) | refine Ext.trans ?_ (Ext.drew _) | refine Ext.trans ?_ (by assumption))) h1); (first | rfl | (go_simp; done) | (go_simp; rfl) | (first | (go_at_call 9; (with_reducible refine (kheader_any _ _ _ _ (hG.ext (hX0.trans hW)) he0 he1).mono ?_); rintro e w2 ⟨rfl, hb⟩; exact ⟨rfl, h1.trans hb⟩) | (go_at_call 14; (with_reducible refine (kanew_any _ _ _ _).mono ?_); rintro e w2 ⟨rfl, hb⟩; exact ⟨rfl, h1.trans hb⟩) | (go_at_call 15; (with_reducible refine (knever_any _ _ _ _).mono ?_); rintro e w2 ⟨rfl, hb⟩; exact ⟨rfl, h1.trans hb⟩) | (go_at_call 11; (with_reducible refine (kvalid_any _ _ _ _ _ (hG.ext (hX0.trans hW)) i1).mono ?_); rintro e w2 ⟨rfl, hb⟩; exact ⟨rfl, h1.trans hb⟩) | (go_at_call 11; (with_reducible refine (kvalid_any _ _ _ _ _ (hG.ext (hX0.trans hW)) hv).mono ?_); rintro e w2 ⟨rfl, hb⟩; exact ⟨rfl, h1.trans hb⟩))))
           clear hK K)
      refine wpQuiet_nil (fun w' hw' => ?_)
      have hW := Ext.trans2 hW (by repeat (first | exact Ext.refl _ | exact Ext.alloc _ _ | exact Ext.drewN _ _ | assumption | refine Ext.trans ?_ (Ext.alloc _ _) | refine Ext.trans ?_ (Ext.drew _) | refine Ext.trans ?_ (by assumption))) hw'
      try have hV := Ext.trans2 hV (by repeat (first | exact Ext.refl _ | exact Ext.alloc _ _ | exact Ext.drewN _ _ | assumption | refine Ext.trans ?_ (Ext.alloc _ _) | refine Ext.trans ?_ (Ext.drew _) | refine Ext.trans ?_ (by assumption))) hw'
      clear hw'
      go_wp2_with (go_at_call 6; (with_reducible refine (kfresh_any _ _ _ _ _ (hG.ext (hX0.trans hW)) hv he0 he1).mono ?_); rintro e w' ⟨rfl, hb⟩; have hW := Ext.trans2 hW (by repeat (first | exact Ext.refl _ | exact Ext.alloc _ _ | exact Ext.drewN _ _ | assumption | refine Ext.trans ?_ (Ext.alloc _ _) | refine Ext.trans ?_ (Ext.drew _) | refine Ext.trans ?_ (by assumption))) hb; (try have hV := Ext.trans2 hV (by repeat (first | exact Ext.refl _ | exact Ext.alloc _ _ | exact Ext.drewN _ _ | assumption | refine Ext.trans ?_ (Ext.alloc _ _) | refine Ext.trans ?_ (Ext.drew _) | refine Ext.trans ?_ (by assumption))) hb); clear hb)
      refine wp_region_ext (by kernel_rfl) (by kernel_rfl) ?_
      repeat
        with_reducible refine wpQuiet_step (fun K hK => ?_)
        go_simp
        first
        | (refine hK _ ?_; clear hK K)
        | (apply Exists.intro
           refine ⟨fun w1 h1 => ?_, hK _ ?_⟩
           (have hW := Ext.trans2 hW (by repeat (first | exact Ext.refl _ | exact Ext.alloc _ _ | exact Ext.drewN _ _ | assumption | refine Ext.trans ?_ (Ext.alloc _ _) | refine Ext.trans ?_ (Ext.drew _) | refine Ext.trans ?_ (by assumption))) h1; (try have hV := Ext.trans2 hV (by repeat (first | exact Ext.refl _ | exact Ext.alloc _ _ | exact Ext.drewN _ _ | assumption | refine Ext.trans ?_ (Ext.alloc _ _) | refine Ext.trans ?_ (Ext.drew _) | refine Ext.trans ?_ (by assumption))) h1); (first | rfl | (go_simp; done) | (go_simp; rfl) | (first | (go_at_call 14; (with_reducible refine (kanew_any _ _ _ _).mono ?_); rintro e w2 ⟨rfl, hb⟩; exact ⟨rfl, h1.trans hb⟩) | (go_at_call 11; (with_reducible refine (kvalid_any _ _ _ _ _ (hG.ext (hX0.trans hW)) i2).mono ?_); rintro e w2 ⟨rfl, hb⟩; exact ⟨rfl, h1.trans hb⟩) | (go_at_call 13; (with_reducible refine (alive_any _ (hG.ext (hX0.trans hW))).mono ?_); rintro e w2 ⟨rfl, hb⟩; exact ⟨rfl, h1.trans hb⟩))))
           clear hK K)
      refine wpQuiet_nil (fun w' hw' => ?_)
      have hW := Ext.trans2 hW (by repeat (first | exact Ext.refl _ | exact Ext.alloc _ _ | exact Ext.drewN _ _ | assumption | refine Ext.trans ?_ (Ext.alloc _ _) | refine Ext.trans ?_ (Ext.drew _) | refine Ext.trans ?_ (by assumption))) hw'
      try have hV := Ext.trans2 hV (by repeat (first | exact Ext.refl _ | exact Ext.alloc _ _ | exact Ext.drewN _ _ | assumption | refine Ext.trans ?_ (Ext.alloc _ _) | refine Ext.trans ?_ (Ext.drew _) | refine Ext.trans ?_ (by assumption))) hw'
      clear hw'
      go_wp2
      go_ret
      exact ⟨rfl, (hX0.trans (hW.trans (by repeat (first | exact Ext.refl _ | exact Ext.alloc _ _ | exact Ext.drewN _ _ | assumption | refine Ext.trans ?_ (Ext.alloc _ _) | refine Ext.trans ?_ (Ext.drew _) | refine Ext.trans ?_ (by assumption)))))⟩
    · rw [hz] at V2
      go_enter Tryd.func4, Tryd.ntmps4
      go_wp2_with fail
      have hX := fun w' (h : Ext (w.alloc (Obj.cells #[.bool (b), .int .u8 (e), .int .i64 (c)] 23)) w') => h.boxCell
      have hXf := fun w' (h : Ext (w.alloc (Obj.cells #[.bool (b), .int .u8 (e), .int .i64 (c)] 23)) w') => h.boxFree
      have hX0 : Ext w (w.alloc (Obj.cells #[.bool (b), .int .u8 (e), .int .i64 (c)] 23)) := Ext.alloc _ _
      generalize w.alloc (Obj.cells #[.bool (b), .int .u8 (e), .int .i64 (c)] 23) = W0 at *
      have hW := Ext.refl W0
      go_wp2_with (go_at_call 7; (with_reducible refine (theirs_any _ _ _ _).mono ?_); rintro e w' ⟨rfl, hb⟩; have hW := Ext.trans2 hW (by repeat (first | exact Ext.refl _ | exact Ext.alloc _ _ | exact Ext.drewN _ _ | assumption | refine Ext.trans ?_ (Ext.alloc _ _) | refine Ext.trans ?_ (Ext.drew _) | refine Ext.trans ?_ (by assumption))) hb; (try have hV := Ext.trans2 hV (by repeat (first | exact Ext.refl _ | exact Ext.alloc _ _ | exact Ext.drewN _ _ | assumption | refine Ext.trans ?_ (Ext.alloc _ _) | refine Ext.trans ?_ (Ext.drew _) | refine Ext.trans ?_ (by assumption))) hb); clear hb)
      have hXX := hX
      have hX := fun wx (h : Ext (w'.alloc (Obj.cells #[.bool (b), .int .u8 (e), .int .i64 (c)] 27)) wx) => h.boxCell
      have hXf := fun wx (h : Ext (w'.alloc (Obj.cells #[.bool (b), .int .u8 (e), .int .i64 (c)] 27)) wx) => h.boxFree
      have hW := hW.trans (Ext.alloc w' (Obj.cells #[.bool (b), .int .u8 (e), .int .i64 (c)] 27))
      generalize w'.alloc (Obj.cells #[.bool (b), .int .u8 (e), .int .i64 (c)] 27) = W1 at *
      have hV := Ext.refl W1
      have hZ := fun wx (h : Ext W1 wx) => hXX wx (hW.trans h)
      clear hXX
      refine wp_region_ext (by kernel_rfl) (by kernel_rfl) ?_
      repeat
        with_reducible refine wpQuiet_step (fun K hK => ?_)
        go_simp
        first
        | (refine hK _ ?_; clear hK K)
        | (apply Exists.intro
           refine ⟨fun w1 h1 => ?_, hK _ ?_⟩
           (have hW := Ext.trans2 hW (by repeat (first | exact Ext.refl _ | exact Ext.alloc _ _ | exact Ext.drewN _ _ | assumption | refine Ext.trans ?_ (Ext.alloc _ _) | refine Ext.trans ?_ (Ext.drew _) | refine Ext.trans ?_ (by assumption))) h1; (try have hV := Ext.trans2 hV (by repeat (first | exact Ext.refl _ | exact Ext.alloc _ _ | exact Ext.drewN _ _ | assumption | refine Ext.trans ?_ (Ext.alloc _ _) | refine Ext.trans ?_ (Ext.drew _) | refine Ext.trans ?_ (by assumption))) h1); (first | rfl | (go_simp; done) | (go_simp; rfl) | (first | (go_at_call 9; (with_reducible refine (kheader_any _ _ _ _ (hG.ext (hX0.trans hW)) he0 he1).mono ?_); rintro e w2 ⟨rfl, hb⟩; exact ⟨rfl, h1.trans hb⟩) | (go_at_call 14; (with_reducible refine (kanew_any _ _ _ _).mono ?_); rintro e w2 ⟨rfl, hb⟩; exact ⟨rfl, h1.trans hb⟩) | (go_at_call 15; (with_reducible refine (knever_any _ _ _ _).mono ?_); rintro e w2 ⟨rfl, hb⟩; exact ⟨rfl, h1.trans hb⟩) | (go_at_call 11; (with_reducible refine (kvalid_any _ _ _ _ _ (hG.ext (hX0.trans hW)) i1).mono ?_); rintro e w2 ⟨rfl, hb⟩; exact ⟨rfl, h1.trans hb⟩) | (go_at_call 11; (with_reducible refine (kvalid_any _ _ _ _ _ (hG.ext (hX0.trans hW)) hv).mono ?_); rintro e w2 ⟨rfl, hb⟩; exact ⟨rfl, h1.trans hb⟩))))
           clear hK K)
      refine wpQuiet_nil (fun w' hw' => ?_)
      have hW := Ext.trans2 hW (by repeat (first | exact Ext.refl _ | exact Ext.alloc _ _ | exact Ext.drewN _ _ | assumption | refine Ext.trans ?_ (Ext.alloc _ _) | refine Ext.trans ?_ (Ext.drew _) | refine Ext.trans ?_ (by assumption))) hw'
      try have hV := Ext.trans2 hV (by repeat (first | exact Ext.refl _ | exact Ext.alloc _ _ | exact Ext.drewN _ _ | assumption | refine Ext.trans ?_ (Ext.alloc _ _) | refine Ext.trans ?_ (Ext.drew _) | refine Ext.trans ?_ (by assumption))) hw'
      clear hw'
      go_wp2_with (go_at_call 6; (with_reducible refine (kfresh_any _ _ _ _ _ (hG.ext (hX0.trans hW)) hv he0 he1).mono ?_); rintro e w' ⟨rfl, hb⟩; have hW := Ext.trans2 hW (by repeat (first | exact Ext.refl _ | exact Ext.alloc _ _ | exact Ext.drewN _ _ | assumption | refine Ext.trans ?_ (Ext.alloc _ _) | refine Ext.trans ?_ (Ext.drew _) | refine Ext.trans ?_ (by assumption))) hb; (try have hV := Ext.trans2 hV (by repeat (first | exact Ext.refl _ | exact Ext.alloc _ _ | exact Ext.drewN _ _ | assumption | refine Ext.trans ?_ (Ext.alloc _ _) | refine Ext.trans ?_ (Ext.drew _) | refine Ext.trans ?_ (by assumption))) hb); clear hb)
      refine wp_region_ext (by kernel_rfl) (by kernel_rfl) ?_
      repeat
        with_reducible refine wpQuiet_step (fun K hK => ?_)
        go_simp
        first
        | (refine hK _ ?_; clear hK K)
        | (apply Exists.intro
           refine ⟨fun w1 h1 => ?_, hK _ ?_⟩
           (have hW := Ext.trans2 hW (by repeat (first | exact Ext.refl _ | exact Ext.alloc _ _ | exact Ext.drewN _ _ | assumption | refine Ext.trans ?_ (Ext.alloc _ _) | refine Ext.trans ?_ (Ext.drew _) | refine Ext.trans ?_ (by assumption))) h1; (try have hV := Ext.trans2 hV (by repeat (first | exact Ext.refl _ | exact Ext.alloc _ _ | exact Ext.drewN _ _ | assumption | refine Ext.trans ?_ (Ext.alloc _ _) | refine Ext.trans ?_ (Ext.drew _) | refine Ext.trans ?_ (by assumption))) h1); (first | rfl | (go_simp; done) | (go_simp; rfl) | (first | (go_at_call 14; (with_reducible refine (kanew_any _ _ _ _).mono ?_); rintro e w2 ⟨rfl, hb⟩; exact ⟨rfl, h1.trans hb⟩) | (go_at_call 11; (with_reducible refine (kvalid_any _ _ _ _ _ (hG.ext (hX0.trans hW)) i2).mono ?_); rintro e w2 ⟨rfl, hb⟩; exact ⟨rfl, h1.trans hb⟩) | (go_at_call 13; (with_reducible refine (alive_any _ (hG.ext (hX0.trans hW))).mono ?_); rintro e w2 ⟨rfl, hb⟩; exact ⟨rfl, h1.trans hb⟩))))
           clear hK K)
      refine wpQuiet_nil (fun w' hw' => ?_)
      have hW := Ext.trans2 hW (by repeat (first | exact Ext.refl _ | exact Ext.alloc _ _ | exact Ext.drewN _ _ | assumption | refine Ext.trans ?_ (Ext.alloc _ _) | refine Ext.trans ?_ (Ext.drew _) | refine Ext.trans ?_ (by assumption))) hw'
      try have hV := Ext.trans2 hV (by repeat (first | exact Ext.refl _ | exact Ext.alloc _ _ | exact Ext.drewN _ _ | assumption | refine Ext.trans ?_ (Ext.alloc _ _) | refine Ext.trans ?_ (Ext.drew _) | refine Ext.trans ?_ (by assumption))) hw'
      clear hw'
      go_wp2
      go_ret
      exact ⟨rfl, (hX0.trans (hW.trans (by repeat (first | exact Ext.refl _ | exact Ext.alloc _ _ | exact Ext.drewN _ _ | assumption | refine Ext.trans ?_ (Ext.alloc _ _) | refine Ext.trans ?_ (Ext.drew _) | refine Ext.trans ?_ (by assumption)))))⟩
  · have A1 := val_up he0 he1 hq
    obtain rfl : b = true := by simp only [valB, Bool.and_eq_true] at hq; exact hq.1
    obtain hz : isB v = true := by simp only [valB, Bool.and_eq_true] at hq; exact hq.2.1
    rw [hz] at V2
    go_enter Tryd.func4, Tryd.ntmps4
    go_wp2_with fail
    have hX := fun w' (h : Ext (w.alloc (Obj.cells #[.bool (true), .int .u8 (e), .int .i64 (c)] 23)) w') => h.boxCell
    have hXf := fun w' (h : Ext (w.alloc (Obj.cells #[.bool (true), .int .u8 (e), .int .i64 (c)] 23)) w') => h.boxFree
    have hX0 : Ext w (w.alloc (Obj.cells #[.bool (true), .int .u8 (e), .int .i64 (c)] 23)) := Ext.alloc _ _
    generalize w.alloc (Obj.cells #[.bool (true), .int .u8 (e), .int .i64 (c)] 23) = W0 at *
    have hW := Ext.refl W0
    go_wp2_with (go_at_call 7; (with_reducible refine (theirs_any _ _ _ _).mono ?_); rintro e w' ⟨rfl, hb⟩; have hW := Ext.trans2 hW (by repeat (first | exact Ext.refl _ | exact Ext.alloc _ _ | exact Ext.drewN _ _ | assumption | refine Ext.trans ?_ (Ext.alloc _ _) | refine Ext.trans ?_ (Ext.drew _) | refine Ext.trans ?_ (by assumption))) hb; (try have hV := Ext.trans2 hV (by repeat (first | exact Ext.refl _ | exact Ext.alloc _ _ | exact Ext.drewN _ _ | assumption | refine Ext.trans ?_ (Ext.alloc _ _) | refine Ext.trans ?_ (Ext.drew _) | refine Ext.trans ?_ (by assumption))) hb); clear hb)
    have hXX := hX
    have hX := fun wx (h : Ext (w'.alloc (Obj.cells #[.bool (true), .int .u8 (e), .int .i64 (c)] 27)) wx) => h.boxCell
    have hXf := fun wx (h : Ext (w'.alloc (Obj.cells #[.bool (true), .int .u8 (e), .int .i64 (c)] 27)) wx) => h.boxFree
    have hW := hW.trans (Ext.alloc w' (Obj.cells #[.bool (true), .int .u8 (e), .int .i64 (c)] 27))
    generalize w'.alloc (Obj.cells #[.bool (true), .int .u8 (e), .int .i64 (c)] 27) = W1 at *
    have hV := Ext.refl W1
    have hZ := fun wx (h : Ext W1 wx) => hXX wx (hW.trans h)
    clear hXX
    refine wp_region_ext (by kernel_rfl) (by kernel_rfl) ?_
    repeat
      with_reducible refine wpQuiet_step (fun K hK => ?_)
      go_simp
      first
      | (refine hK _ ?_; clear hK K)
      | (apply Exists.intro
         refine ⟨fun w1 h1 => ?_, hK _ ?_⟩
         (have hW := Ext.trans2 hW (by repeat (first | exact Ext.refl _ | exact Ext.alloc _ _ | exact Ext.drewN _ _ | assumption | refine Ext.trans ?_ (Ext.alloc _ _) | refine Ext.trans ?_ (Ext.drew _) | refine Ext.trans ?_ (by assumption))) h1; (try have hV := Ext.trans2 hV (by repeat (first | exact Ext.refl _ | exact Ext.alloc _ _ | exact Ext.drewN _ _ | assumption | refine Ext.trans ?_ (Ext.alloc _ _) | refine Ext.trans ?_ (Ext.drew _) | refine Ext.trans ?_ (by assumption))) h1); (first | rfl | (go_simp; done) | (go_simp; rfl) | (first | (go_at_call 9; (with_reducible refine (kheader_any _ _ _ _ (hG.ext (hX0.trans hW)) he0 he1).mono ?_); rintro e w2 ⟨rfl, hb⟩; exact ⟨rfl, h1.trans hb⟩) | (go_at_call 14; (with_reducible refine (kanew_any _ _ _ _).mono ?_); rintro e w2 ⟨rfl, hb⟩; exact ⟨rfl, h1.trans hb⟩) | (go_at_call 15; (with_reducible refine (knever_any _ _ _ _).mono ?_); rintro e w2 ⟨rfl, hb⟩; exact ⟨rfl, h1.trans hb⟩) | (go_at_call 11; (with_reducible refine (kvalid_any _ _ _ _ _ (hG.ext (hX0.trans hW)) i1).mono ?_); rintro e w2 ⟨rfl, hb⟩; exact ⟨rfl, h1.trans hb⟩) | (go_at_call 11; (with_reducible refine (kvalid_any _ _ _ _ _ (hG.ext (hX0.trans hW)) hv).mono ?_); rintro e w2 ⟨rfl, hb⟩; exact ⟨rfl, h1.trans hb⟩))))
         clear hK K)
    refine wpQuiet_nil (fun w' hw' => ?_)
    have hW := Ext.trans2 hW (by repeat (first | exact Ext.refl _ | exact Ext.alloc _ _ | exact Ext.drewN _ _ | assumption | refine Ext.trans ?_ (Ext.alloc _ _) | refine Ext.trans ?_ (Ext.drew _) | refine Ext.trans ?_ (by assumption))) hw'
    try have hV := Ext.trans2 hV (by repeat (first | exact Ext.refl _ | exact Ext.alloc _ _ | exact Ext.drewN _ _ | assumption | refine Ext.trans ?_ (Ext.alloc _ _) | refine Ext.trans ?_ (Ext.drew _) | refine Ext.trans ?_ (by assumption))) hw'
    clear hw'
    go_wp2_with (go_at_call 6; (with_reducible refine (kfresh_any _ _ _ _ _ (hG.ext (hX0.trans hW)) hv he0 he1).mono ?_); rintro e w' ⟨rfl, hb⟩; have hW := Ext.trans2 hW (by repeat (first | exact Ext.refl _ | exact Ext.alloc _ _ | exact Ext.drewN _ _ | assumption | refine Ext.trans ?_ (Ext.alloc _ _) | refine Ext.trans ?_ (Ext.drew _) | refine Ext.trans ?_ (by assumption))) hb; (try have hV := Ext.trans2 hV (by repeat (first | exact Ext.refl _ | exact Ext.alloc _ _ | exact Ext.drewN _ _ | assumption | refine Ext.trans ?_ (Ext.alloc _ _) | refine Ext.trans ?_ (Ext.drew _) | refine Ext.trans ?_ (by assumption))) hb); clear hb)
    refine wp_region_ext (by kernel_rfl) (by kernel_rfl) ?_
    repeat
      with_reducible refine wpQuiet_step (fun K hK => ?_)
      go_simp
      first
      | (refine hK _ ?_; clear hK K)
      | (apply Exists.intro
         refine ⟨fun w1 h1 => ?_, hK _ ?_⟩
         (have hW := Ext.trans2 hW (by repeat (first | exact Ext.refl _ | exact Ext.alloc _ _ | exact Ext.drewN _ _ | assumption | refine Ext.trans ?_ (Ext.alloc _ _) | refine Ext.trans ?_ (Ext.drew _) | refine Ext.trans ?_ (by assumption))) h1; (try have hV := Ext.trans2 hV (by repeat (first | exact Ext.refl _ | exact Ext.alloc _ _ | exact Ext.drewN _ _ | assumption | refine Ext.trans ?_ (Ext.alloc _ _) | refine Ext.trans ?_ (Ext.drew _) | refine Ext.trans ?_ (by assumption))) h1); (first | rfl | (go_simp; done) | (go_simp; rfl) | (first | (go_at_call 14; (with_reducible refine (kanew_any _ _ _ _).mono ?_); rintro e w2 ⟨rfl, hb⟩; exact ⟨rfl, h1.trans hb⟩) | (go_at_call 11; (with_reducible refine (kvalid_any _ _ _ _ _ (hG.ext (hX0.trans hW)) i2).mono ?_); rintro e w2 ⟨rfl, hb⟩; exact ⟨rfl, h1.trans hb⟩) | (go_at_call 13; (with_reducible refine (alive_any _ (hG.ext (hX0.trans hW))).mono ?_); rintro e w2 ⟨rfl, hb⟩; exact ⟨rfl, h1.trans hb⟩))))
         clear hK K)
    refine wpQuiet_nil (fun w' hw' => ?_)
    have hW := Ext.trans2 hW (by repeat (first | exact Ext.refl _ | exact Ext.alloc _ _ | exact Ext.drewN _ _ | assumption | refine Ext.trans ?_ (Ext.alloc _ _) | refine Ext.trans ?_ (Ext.drew _) | refine Ext.trans ?_ (by assumption))) hw'
    try have hV := Ext.trans2 hV (by repeat (first | exact Ext.refl _ | exact Ext.alloc _ _ | exact Ext.drewN _ _ | assumption | refine Ext.trans ?_ (Ext.alloc _ _) | refine Ext.trans ?_ (Ext.drew _) | refine Ext.trans ?_ (by assumption))) hw'
    clear hw'
    go_wp2
    go_ret
    exact ⟨rfl, (hX0.trans (hW.trans (by repeat (first | exact Ext.refl _ | exact Ext.alloc _ _ | exact Ext.drewN _ _ | assumption | refine Ext.trans ?_ (Ext.alloc _ _) | refine Ext.trans ?_ (Ext.drew _) | refine Ext.trans ?_ (by assumption)))))⟩
end Go.Proofs.YtdooakfdaeockaaDoor
