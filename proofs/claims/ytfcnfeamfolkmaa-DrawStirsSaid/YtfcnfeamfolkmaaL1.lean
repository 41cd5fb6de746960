/- The laws of layer 5 that look at numbers alone, walked. -/
import Derived.Test.YtfcnfeamfolkmaaD2
namespace Go.Proofs.Ytfcnfeamfolkmaa
open Go.RowKit
set_option linter.unusedSimpArgs false
set_option linter.unusedVariables false

theorem alive_any (w : World) : Calls Try.prog 9 #[] w fun e w' => e = .returned (.bool true) ∧ Ext w w' := by
  have f1 : stN 1 = 1082269761 := by decide +kernel
  have f2 : ¬ ((hsh (beg 0) : Nat) : Int) = 0 := by have := nxt_up (beg_lt (s := 0) (by decide)) (beg_ne 0); unfold hsh; omega
  go_enter Try.func9, Try.ntmps9
  go_wp2_with fail
  refine (stir_any 1 _ (by decide)).mono ?_
  rintro e w1 ⟨rfl, hb⟩
  rw [f1]
  go_wp2_with fail
  refine (new_any 0 _ (by decide)).mono ?_
  rintro e w2 ⟨M, rfl, hs, hM, hx⟩
  go_wp2_with fail
  refine (hash_any M _ 0 _ (beg_lt (by decide)) (beg_ne _) (by decide) hs).mono ?_
  rintro e w3 ⟨rfl, hs, hc⟩
  generalize ((hsh (beg 0) : Nat) : Int) = q at *
  have hX := (hb.trans hx).turn hc (by have := hb.size; simp; omega)
  go_wp2_with fail
  go_ret
  exact ⟨by simp [f2], hX⟩
theorem lstirs_any (n : Nat) (w : World) (hn : n < two64) : Calls Try.prog 3 #[.int .u64 n] w fun e w' => e = .returned (.bool true) ∧ Ext w w' := by
  have hX0 := Ext.refl w
  have hW := Ext.refl w
  go_enter Try.func3, Try.ntmps3
  go_wp2_with (first | (go_at_call 7; (with_reducible refine (stir_any _ _ hn).mono ?_); rintro e w' ⟨rfl, hb⟩; have hW := Ext.trans2 hW (by repeat (first | exact Ext.refl _ | exact Ext.alloc _ _ | exact Ext.drewN _ _ | assumption | refine Ext.trans ?_ (Ext.alloc _ _) | refine Ext.trans ?_ (Ext.drew _) | refine Ext.trans ?_ (by assumption))) hb; (try have hV := Ext.trans2 hV (by repeat (first | exact Ext.refl _ | exact Ext.alloc _ _ | exact Ext.drewN _ _ | assumption | refine Ext.trans ?_ (Ext.alloc _ _) | refine Ext.trans ?_ (Ext.drew _) | refine Ext.trans ?_ (by assumption))) hb); clear hb) | (go_at_call 8; (with_reducible refine (rstir_any _ _ hn).mono ?_); rintro e w' ⟨rfl, hb⟩; have hW := Ext.trans2 hW (by repeat (first | exact Ext.refl _ | exact Ext.alloc _ _ | exact Ext.drewN _ _ | assumption | refine Ext.trans ?_ (Ext.alloc _ _) | refine Ext.trans ?_ (Ext.drew _) | refine Ext.trans ?_ (by assumption))) hb; (try have hV := Ext.trans2 hV (by repeat (first | exact Ext.refl _ | exact Ext.alloc _ _ | exact Ext.drewN _ _ | assumption | refine Ext.trans ?_ (Ext.alloc _ _) | refine Ext.trans ?_ (Ext.drew _) | refine Ext.trans ?_ (by assumption))) hb); clear hb) | (go_at_call 9; (with_reducible refine (alive_any _).mono ?_); rintro e w' ⟨rfl, hb⟩; have hW := Ext.trans2 hW (by repeat (first | exact Ext.refl _ | exact Ext.alloc _ _ | exact Ext.drewN _ _ | assumption | refine Ext.trans ?_ (Ext.alloc _ _) | refine Ext.trans ?_ (Ext.drew _) | refine Ext.trans ?_ (by assumption))) hb; (try have hV := Ext.trans2 hV (by repeat (first | exact Ext.refl _ | exact Ext.alloc _ _ | exact Ext.drewN _ _ | assumption | refine Ext.trans ?_ (Ext.alloc _ _) | refine Ext.trans ?_ (Ext.drew _) | refine Ext.trans ?_ (by assumption))) hb); clear hb))
  go_ret
  exact ⟨by simp, (hX0.trans (hW.trans (by repeat (first | exact Ext.refl _ | exact Ext.alloc _ _ | exact Ext.drewN _ _ | assumption | refine Ext.trans ?_ (Ext.alloc _ _) | refine Ext.trans ?_ (Ext.drew _) | refine Ext.trans ?_ (by assumption)))))⟩
theorem lone_any (a b : Nat) (w : World) (ha : a < two64) (hb' : b < two64) : Calls Try.prog 5 #[.int .u64 a, .int .u64 b] w fun e w' => e = .returned (.bool true) ∧ Ext w w' := by
  have hX0 := Ext.refl w
  have hW := Ext.refl w
  have B := back_st ha
  have hs := stN_lt ha
  have Q : (((stN a : Nat) : Int) == ((stN b : Nat) : Int)) = ((a : Int) == (b : Int)) := by
    by_cases h : a = b
    · subst h; simp
    · have h2 : ¬ stN a = stN b := fun e => h (st_inj ha hb' e)
      have h3 : ¬ ((stN a : Nat) : Int) = ((stN b : Nat) : Int) := by omega
      have h4 : ¬ (a : Int) = (b : Int) := by omega
      rw [beq_false_of_ne h3, beq_false_of_ne h4]
  go_enter Try.func5, Try.ntmps5
  go_wp2_with fail
  refine (stir_any a _ ha).mono ?_
  rintro e w1 ⟨rfl, hx⟩
  have hW := hW.trans hx
  clear hx
  go_wp2_with fail
  refine (stir_any b _ hb').mono ?_
  rintro e w2 ⟨rfl, hx⟩
  have hW := hW.trans hx
  clear hx
  generalize stN a = x at *
  generalize ((stN b : Nat) : Int) = y at *
  go_wp2_with fail
  refine (rback_any x _ hs).mono ?_
  rintro e w3 ⟨rfl, hx⟩
  rw [B]
  have hW := hW.trans hx
  clear hx
  go_wp2_with (go_at_call 9; refine (alive_any _).mono ?_; rintro e w4 ⟨rfl, hx⟩; have hW := hW.trans hx; clear hx)
  go_ret
  exact ⟨by simp [Q], (hX0.trans (hW.trans (by repeat (first | exact Ext.refl _ | exact Ext.alloc _ _ | exact Ext.drewN _ _ | assumption | refine Ext.trans ?_ (Ext.alloc _ _) | refine Ext.trans ?_ (Ext.drew _) | refine Ext.trans ?_ (by assumption)))))⟩
end Go.Proofs.Ytfcnfeamfolkmaa
