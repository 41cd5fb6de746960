/- Signed of the reference; what alive answers; the scalar laws' walks. -/
import Derived.Test.YtcofnmkemnmhaaaF2
namespace Go.Proofs.Ytcofnmkemnmhaaa
open Go.RowKit


/-- A value with all bits from d to k added. -/
def fS (g : Int) (d k : Nat) : Int := g + pw k - pw d
theorem fS_zero (g : Int) (d : Nat) : fS g d d = g := by unfold fS; omega
theorem fS_succ {g : Int} {d k : Nat} (h0 : 0 ≤ g) (hg : g < pw d) (hd : d ≤ k) (hk : k < 64) : IntKind.u64.wrap (fS g d k + pw k) = fS g d (k + 1) := by
  obtain ⟨G, rfl⟩ := Int.eq_ofNat_of_zero_le h0
  have e1 : 2 ^ d ≤ 2 ^ k := Nat.pow_le_pow_right (by decide) hd
  have e2 := two_pow_le (k + 1) (by omega)
  have e3 : 2 ^ (k + 1) = 2 ^ k * 2 := Nat.pow_succ 2 k
  unfold fS
  rw [pw_nat, pw_nat, pw_nat]
  rw [pw_nat] at hg
  have e7 : (G : Int) + (2 ^ k : Nat) - (2 ^ d : Nat) + (2 ^ k : Nat) = ((G + 2 ^ (k + 1) - 2 ^ d : Nat) : Int) := by omega
  rw [e7, wrap_nat _ (by omega)]
  omega
theorem get_lt {a d v : Int} (ha : 0 ≤ a) (hd : 0 ≤ d) (hv : InW v) (hm : mayB a d = true) : 0 ≤ getI a d v ∧ getI a d v < pw d.toNat := by
  obtain ⟨A, rfl⟩ := Int.eq_ofNat_of_zero_le ha
  obtain ⟨D, rfl⟩ := Int.eq_ofNat_of_zero_le hd
  obtain ⟨V, rfl, hV⟩ := hv.nat
  rw [get_nat hm hV, Int.toNat_natCast]
  have h1 := Nat.mod_lt (V / 2 ^ A) (Nat.pow_pos (n := D) (show 0 < 2 by decide))
  rw [pw_nat]; omega
theorem get_inW {a d v : Int} (ha : 0 ≤ a) (hd : 0 ≤ d) (hv : InW v) : InW (getI a d v) := by
  by_cases hm : mayB a d = true
  · obtain ⟨h1, h2⟩ := get_lt ha hd hv hm
    refine ⟨h1, ?_⟩
    obtain ⟨A, rfl⟩ := Int.eq_ofNat_of_zero_le ha
    obtain ⟨D, rfl⟩ := Int.eq_ofNat_of_zero_le hd
    have h3 := (mayB_iff A D).1 hm
    rw [Int.toNat_natCast, pw_nat] at h2
    have := two_pow_le D (by omega)
    omega
  · rw [get_no hm hv.1 hv.2]; exact inW_zero

theorem mod_pow_eq (G D : Nat) (hD : D ≤ 64) (h : G < 2 ^ D) : G * 2 ^ (64 - D) < two64 := by
  rw [← pow_split D hD]; exact Nat.mul_lt_mul_of_pos_right h (Nat.pow_pos (by decide))

/-- What Signed comes to, as the reference adds it. -/
theorem signed_eq {a d v : Int} (ha : 0 ≤ a) (hd : 0 ≤ d) (hv : InW v) (hm : mayB a d = true) :
    signedI a d v = wrap64 (if bitI (getI a d v) (d.toNat - 1) = 1 then fS (getI a d v) d.toNat 64 else getI a d v) := by
  obtain ⟨h1, h2⟩ := get_lt ha hd hv hm
  have hI := get_inW ha hd hv (a := a) (d := d)
  obtain ⟨G, hG⟩ := Int.eq_ofNat_of_zero_le h1
  obtain ⟨D, rfl⟩ := Int.eq_ofNat_of_zero_le hd
  obtain ⟨A, rfl⟩ := Int.eq_ofNat_of_zero_le ha
  obtain ⟨c1, c2⟩ := (mayB_iff A D).1 hm
  unfold signedI aboveI
  rw [hG] at h1 h2 hI ⊢
  rw [Int.toNat_natCast] at h2 ⊢
  rw [pw_nat] at h2
  have hg : G < 2 ^ D := by omega
  have e1 : min (((64 : Int) - (D : Int)) % 256).toNat 64 = 64 - D := by omega
  rw [e1]
  have e5 : (((2 : Nat) ^ (64 - D) : Nat) : Int) = 2 ^ (64 - D) := by simp
  rw [← e5, ← Int.natCast_mul, wrap_nat _ (mod_pow_eq G D (by omega) hg)]
  have hsp := pow_split D (by omega)
  have hsp2 : 2 ^ D = 2 ^ (D - 1) * 2 := by rw [← Nat.pow_succ]; congr 1; omega
  have hq : 0 < 2 ^ (64 - D) := Nat.pow_pos (by decide)
  have hbit : bitI (G : Int) (D - 1) = 1 ↔ 2 ^ (D - 1) ≤ G := by
    unfold bitI
    rw [Int.toNat_natCast]
    have hb : G.testBit (D - 1) = decide (2 ^ (D - 1) ≤ G) := by
      rw [Nat.testBit_eq_decide_div_mod_eq, decide_eq_decide]
      have hp : 0 < 2 ^ (D - 1) := Nat.pow_pos (by decide)
      constructor
      · intro h
        refine Nat.le_of_not_lt fun hlt => ?_
        rw [Nat.div_eq_of_lt hlt] at h; simp at h
      · intro h
        have : G / 2 ^ (D - 1) = 1 := by
          apply Nat.div_eq_of_lt_le
          · omega
          · omega
        rw [this]
    rw [hb]
    by_cases c : 2 ^ (D - 1) ≤ G <;> simp [c]
  -- the product's sign
  have hhalf : 2 ^ (D - 1) * 2 ^ (64 - D) = 9223372036854775808 := by
    rw [← Nat.pow_add]
    have : D - 1 + (64 - D) = 63 := by omega
    rw [this]
  generalize hX : G * 2 ^ (64 - D) = X
  have hXlt : X < two64 := by rw [← hX]; exact mod_pow_eq G D (by omega) hg
  by_cases hc : 2 ^ (D - 1) ≤ G
  · rw [if_pos (hbit.2 hc)]
    have hXge : 9223372036854775808 ≤ X := by rw [← hX, ← hhalf]; exact Nat.mul_le_mul_right _ hc
    have ew : wrap64 (X : Int) = (X : Int) - two64 := by unfold wrap64 two64 at *; omega
    have e6 : (X : Int) - two64 = ((G : Int) - (2 ^ D : Nat)) * (2 ^ (64 - D) : Nat) := by
      rw [Int.sub_mul, ← Int.natCast_mul, ← Int.natCast_mul, hX, hsp]
    rw [ew, e6, Int.mul_ediv_cancel _ (by omega)]
    have hD2 := two_pow_le D (by omega)
    unfold fS wrap64
    rw [pw_nat, pw_nat]
    unfold two64 at *
    have hp2 : 2 ^ (D - 1) ≤ 9223372036854775808 := by
      have : (9223372036854775808 : Nat) = 2 ^ 63 := by decide
      rw [this]; exact Nat.pow_le_pow_right (by decide) (by omega)
    omega
  · rw [if_neg (mt hbit.1 hc)]
    have hXge : X < 9223372036854775808 := by rw [← hX, ← hhalf]; exact Nat.mul_lt_mul_of_pos_right (by omega) hq
    have ew : wrap64 (X : Int) = (X : Int) := by unfold wrap64; omega
    rw [ew, ← hX, Int.natCast_mul, Int.mul_ediv_cancel _ (by omega)]
    have hp2 : 2 ^ (D - 1) ≤ 9223372036854775808 := by
      have : (9223372036854775808 : Nat) = 2 ^ 63 := by decide
      rw [this]; exact Nat.pow_le_pow_right (by decide) (by omega)
    unfold wrap64
    omega
theorem signed_no {a d v : Int} (hm : ¬ mayB a d = true) (hv : InW v) : signedI a d v = 0 := by
  unfold signedI
  rw [get_no hm hv.1 hv.2, Int.zero_mul]
  have e1 : IntKind.u64.wrap 0 = 0 := by decide
  have e2 : wrap64 0 = 0 := by unfold wrap64; omega
  rw [e1, e2, Int.zero_ediv]

set_option maxHeartbeats 400000 in
theorem rsigned_any (a d v : Int) (w : World) (ha : 0 ≤ a) (ha' : a ≤ 255) (hd : 0 ≤ d) (hd' : d ≤ 255) (hv : InW v) :
    Calls Try.prog 17 #[.agg #[.int .u8 a, .int .u8 d], .int .u64 v] w fun e w' => e = .returned (.int .i64 (signedI a d v)) ∧ Ext w w' := by
  by_cases hm : mayB a d = true
  · have h1 : 1 ≤ d := by simp [mayB] at hm; omega
    have h2 : d ≤ 64 := by simp [mayB] at hm; omega
    have S0 := signed_eq ha hd hv hm
    obtain ⟨g0, g1⟩ := get_lt ha hd hv hm
    have hI := get_inW (a := a) (d := d) ha hd hv
    have hp := pw_pos (d.toNat - 1)
    have E := bit_eq hI (d.toNat - 1)
    rcases bitI_or (getI a d v) (d.toNat - 1) with hb | hb
    · rw [hb, if_pos rfl] at S0
      rw [hb] at E
      have G0 := hide (fS_zero (getI a d v) d.toNat)
      have G1 := hide S0
      clear S0 hb
      go_enter Try.func17, Try.ntmps17
      go_wp2_with fail
      have hX := fun w' (h : Ext (w.alloc (Obj.cells #[.int .u8 a, .int .u8 d] 23)) w') => h.boxCell
      have hXf := fun w' (h : Ext (w.alloc (Obj.cells #[.int .u8 a, .int .u8 d] 23)) w') => h.boxFree
      have hX0 : Ext w (w.alloc (Obj.cells #[.int .u8 a, .int .u8 d] 23)) := Ext.alloc _ _
      generalize w.alloc (Obj.cells #[.int .u8 a, .int .u8 d] 23) = W0 at *
      have hW := Ext.refl W0
      go_wp2_with (first | (go_at_call 9; refine (rmay_any _ _ _ ha ha' hd hd').mono ?_; rintro e w' ⟨rfl, hb⟩; have hW := Ext.trans2 hW (by repeat (first | exact Ext.refl _ | exact Ext.alloc _ _ | exact Ext.drewN _ _ | assumption | refine Ext.trans ?_ (Ext.alloc _ _) | refine Ext.trans ?_ (Ext.drew _) | refine Ext.trans ?_ (by assumption))) hb; clear hb) | (go_at_call 15; refine (rget_any _ _ _ _ ha ha' hd hd' hv).mono ?_; rintro e w' ⟨rfl, hb⟩; have hW := Ext.trans2 hW (by repeat (first | exact Ext.refl _ | exact Ext.alloc _ _ | exact Ext.drewN _ _ | assumption | refine Ext.trans ?_ (Ext.alloc _ _) | refine Ext.trans ?_ (Ext.drew _) | refine Ext.trans ?_ (by assumption))) hb; clear hb) | (go_at_call 31; refine (power_any _ _ (by omega) (by omega)).mono ?_; rintro e w' ⟨rfl, hb⟩; have hW := Ext.trans2 hW (by repeat (first | exact Ext.refl _ | exact Ext.alloc _ _ | exact Ext.drewN _ _ | assumption | refine Ext.trans ?_ (Ext.alloc _ _) | refine Ext.trans ?_ (Ext.drew _) | refine Ext.trans ?_ (by assumption))) hb; clear hb))
      go_loopw [5, 6] (fun n i wr => ∃ j : Nat, d ≤ j ∧ j ≤ 64 ∧ i = .int .i64 j ∧ n = .int .u64 (fS (getI a d v) d.toNat j) ∧ Ext W0 wr) (fun _ i _ => 64 - (intOf i).toNat)
      case atStart => exact ⟨d.toNat, by omega, by omega, by rw [Int.toNat_of_nonneg hd], by rw [G0.out], hW⟩
      case round =>
        clear hW
        obtain ⟨j, hj1, hj2, rfl, rfl, hW⟩ := hrel
        by_cases hlt : j < 64
        · have HS := hide (fS_succ g0 g1 (k := j) (by omega) hlt)
          go_wp2_with (go_at_call 31; refine (power_any _ _ (by omega) (by omega)).mono ?_; rintro e w' ⟨rfl, hb⟩; have hW := Ext.trans2 hW (by repeat (first | exact Ext.refl _ | exact Ext.alloc _ _ | exact Ext.drewN _ _ | assumption | refine Ext.trans ?_ (Ext.alloc _ _) | refine Ext.trans ?_ (Ext.drew _) | refine Ext.trans ?_ (by assumption))) hb; clear hb)
          go_roundw
          case rel => exact ⟨j + 1, by omega, by omega, by go_num, by rw [← HS.out], hW⟩
          case measure => simp [intOf]; omega
        · have e : j = 64 := by omega
          rw [e]
          clear e hlt hj1 hj2
          go_wp2
          go_ret
          exact ⟨by rw [G1.out]; rfl, (hX0.trans (hW.trans (by repeat (first | exact Ext.refl _ | exact Ext.alloc _ _ | exact Ext.drewN _ _ | assumption | refine Ext.trans ?_ (Ext.alloc _ _) | refine Ext.trans ?_ (Ext.drew _) | refine Ext.trans ?_ (by assumption)))))⟩
    · rw [hb] at S0
      rw [hb] at E
      have G1 := hide S0
      clear S0 hb
      go_enter Try.func17, Try.ntmps17
      go_wp2_with fail
      have hX := fun w' (h : Ext (w.alloc (Obj.cells #[.int .u8 a, .int .u8 d] 23)) w') => h.boxCell
      have hXf := fun w' (h : Ext (w.alloc (Obj.cells #[.int .u8 a, .int .u8 d] 23)) w') => h.boxFree
      have hX0 : Ext w (w.alloc (Obj.cells #[.int .u8 a, .int .u8 d] 23)) := Ext.alloc _ _
      generalize w.alloc (Obj.cells #[.int .u8 a, .int .u8 d] 23) = W0 at *
      have hW := Ext.refl W0
      go_wp2_with (first | (go_at_call 9; refine (rmay_any _ _ _ ha ha' hd hd').mono ?_; rintro e w' ⟨rfl, hb⟩; have hW := Ext.trans2 hW (by repeat (first | exact Ext.refl _ | exact Ext.alloc _ _ | exact Ext.drewN _ _ | assumption | refine Ext.trans ?_ (Ext.alloc _ _) | refine Ext.trans ?_ (Ext.drew _) | refine Ext.trans ?_ (by assumption))) hb; clear hb) | (go_at_call 15; refine (rget_any _ _ _ _ ha ha' hd hd' hv).mono ?_; rintro e w' ⟨rfl, hb⟩; have hW := Ext.trans2 hW (by repeat (first | exact Ext.refl _ | exact Ext.alloc _ _ | exact Ext.drewN _ _ | assumption | refine Ext.trans ?_ (Ext.alloc _ _) | refine Ext.trans ?_ (Ext.drew _) | refine Ext.trans ?_ (by assumption))) hb; clear hb) | (go_at_call 31; refine (power_any _ _ (by omega) (by omega)).mono ?_; rintro e w' ⟨rfl, hb⟩; have hW := Ext.trans2 hW (by repeat (first | exact Ext.refl _ | exact Ext.alloc _ _ | exact Ext.drewN _ _ | assumption | refine Ext.trans ?_ (Ext.alloc _ _) | refine Ext.trans ?_ (Ext.drew _) | refine Ext.trans ?_ (by assumption))) hb; clear hb))
      go_ret
      exact ⟨by rw [G1.out]; rfl, (hX0.trans (hW.trans (by repeat (first | exact Ext.refl _ | exact Ext.alloc _ _ | exact Ext.drewN _ _ | assumption | refine Ext.trans ?_ (Ext.alloc _ _) | refine Ext.trans ?_ (Ext.drew _) | refine Ext.trans ?_ (by assumption)))))⟩
  · have G0 := hide (signed_no hm hv)
    go_enter Try.func17, Try.ntmps17
    go_wp2_with fail
    have hX := fun w' (h : Ext (w.alloc (Obj.cells #[.int .u8 a, .int .u8 d] 23)) w') => h.boxCell
    have hXf := fun w' (h : Ext (w.alloc (Obj.cells #[.int .u8 a, .int .u8 d] 23)) w') => h.boxFree
    have hX0 : Ext w (w.alloc (Obj.cells #[.int .u8 a, .int .u8 d] 23)) := Ext.alloc _ _
    generalize w.alloc (Obj.cells #[.int .u8 a, .int .u8 d] 23) = W0 at *
    have hW := Ext.refl W0
    go_wp2_with (first | (go_at_call 9; refine (rmay_any _ _ _ ha ha' hd hd').mono ?_; rintro e w' ⟨rfl, hb⟩; have hW := Ext.trans2 hW (by repeat (first | exact Ext.refl _ | exact Ext.alloc _ _ | exact Ext.drewN _ _ | assumption | refine Ext.trans ?_ (Ext.alloc _ _) | refine Ext.trans ?_ (Ext.drew _) | refine Ext.trans ?_ (by assumption))) hb; clear hb) | (go_at_call 15; refine (rget_any _ _ _ _ ha ha' hd hd' hv).mono ?_; rintro e w' ⟨rfl, hb⟩; have hW := Ext.trans2 hW (by repeat (first | exact Ext.refl _ | exact Ext.alloc _ _ | exact Ext.drewN _ _ | assumption | refine Ext.trans ?_ (Ext.alloc _ _) | refine Ext.trans ?_ (Ext.drew _) | refine Ext.trans ?_ (by assumption))) hb; clear hb))
    go_ret
    exact ⟨by rw [G0.out]; rfl, (hX0.trans (hW.trans (by repeat (first | exact Ext.refl _ | exact Ext.alloc _ _ | exact Ext.drewN _ _ | assumption | refine Ext.trans ?_ (Ext.alloc _ _) | refine Ext.trans ?_ (Ext.drew _) | refine Ext.trans ?_ (by assumption)))))⟩

/-- The probes. -/
theorem alive_any (w : World) : Calls Try.prog 20 #[] w fun e w' => e = .returned (.bool true) ∧ Ext w w' := by
  have f1 : (getI 8 8 4660 == 18) = true := by decide +kernel
  have f2 : (putI 8 8 0 1535 == 65280) = true := by decide +kernel
  have f3 : (signedI 8 8 32768 == -128) = true := by decide +kernel
  have f4 : mayB 8 8 = true := by decide +kernel
  have f5 : mayB 60 5 = false := by decide +kernel
  go_enter Try.func20, Try.ntmps20
  go_wp2_with fail
  have hX := fun w' (h : Ext (w.alloc (Obj.cells #[.int .u8 8, .int .u8 8] 25)) w') => h.boxCell
  have hXf := fun w' (h : Ext (w.alloc (Obj.cells #[.int .u8 8, .int .u8 8] 25)) w') => h.boxFree
  have hX0 : Ext w (w.alloc (Obj.cells #[.int .u8 8, .int .u8 8] 25)) := Ext.alloc _ _
  generalize w.alloc (Obj.cells #[.int .u8 8, .int .u8 8] 25) = W0 at *
  have hW := Ext.refl W0
  go_wp2_with (first | (go_at_call 14; refine (get_any _ _ _ _ (by decide) (by decide) (by decide) (by decide)).mono ?_; rintro e w' ⟨rfl, hb⟩; have hW := Ext.trans2 hW (by repeat (first | exact Ext.refl _ | exact Ext.alloc _ _ | exact Ext.drewN _ _ | assumption | refine Ext.trans ?_ (Ext.alloc _ _) | refine Ext.trans ?_ (Ext.drew _) | refine Ext.trans ?_ (by assumption))) hb; clear hb) | (go_at_call 21; refine (put_any _ _ _ _ _ (by decide) (by decide) (by decide) (by decide)).mono ?_; rintro e w' ⟨rfl, hb⟩; have hW := Ext.trans2 hW (by repeat (first | exact Ext.refl _ | exact Ext.alloc _ _ | exact Ext.drewN _ _ | assumption | refine Ext.trans ?_ (Ext.alloc _ _) | refine Ext.trans ?_ (Ext.drew _) | refine Ext.trans ?_ (by assumption))) hb; clear hb) | (go_at_call 16; refine (signed_any _ _ _ _ (by decide) (by decide) (by decide) (by decide)).mono ?_; rintro e w' ⟨rfl, hb⟩; have hW := Ext.trans2 hW (by repeat (first | exact Ext.refl _ | exact Ext.alloc _ _ | exact Ext.drewN _ _ | assumption | refine Ext.trans ?_ (Ext.alloc _ _) | refine Ext.trans ?_ (Ext.drew _) | refine Ext.trans ?_ (by assumption))) hb; clear hb) | (go_at_call 8; refine (may_any _ _ _ (by decide) (by decide) (by decide) (by decide)).mono ?_; rintro e w' ⟨rfl, hb⟩; have hW := Ext.trans2 hW (by repeat (first | exact Ext.refl _ | exact Ext.alloc _ _ | exact Ext.drewN _ _ | assumption | refine Ext.trans ?_ (Ext.alloc _ _) | refine Ext.trans ?_ (Ext.drew _) | refine Ext.trans ?_ (by assumption))) hb; clear hb))
  go_ret
  exact ⟨rfl, (hX0.trans (hW.trans (by repeat (first | exact Ext.refl _ | exact Ext.alloc _ _ | exact Ext.drewN _ _ | assumption | refine Ext.trans ?_ (Ext.alloc _ _) | refine Ext.trans ?_ (Ext.drew _) | refine Ext.trans ?_ (by assumption)))))⟩

set_option maxHeartbeats 400000 in
theorem lgets_any (a d v : Int) (w : World) (ha : 0 ≤ a) (ha' : a ≤ 255) (hd : 0 ≤ d) (hd' : d ≤ 255) (hv : InW v) :
    Calls Try.prog 3 #[.agg #[.int .u8 a, .int .u8 d], .int .u64 v] w fun e w' => e = .returned (.bool true) ∧ Ext w w' := by
  go_enter Try.func3, Try.ntmps3
  go_wp2_with fail
  have hY := fun w' (h : Ext ((w.alloc (Obj.cells #[.int .u8 a, .int .u8 d] 23)).alloc (Obj.cells #[.int .u8 a, .int .u8 d] 25)) w') => h.boxCell
  have hYf := fun w' (h : Ext ((w.alloc (Obj.cells #[.int .u8 a, .int .u8 d] 23)).alloc (Obj.cells #[.int .u8 a, .int .u8 d] 25)) w') => h.boxFree
  simp only [World.size_alloc] at hY hYf
  have hX := fun w' (h : Ext ((w.alloc (Obj.cells #[.int .u8 a, .int .u8 d] 23)).alloc (Obj.cells #[.int .u8 a, .int .u8 d] 25)) w') => ((Ext.alloc (w.alloc (Obj.cells #[.int .u8 a, .int .u8 d] 23)) (Obj.cells #[.int .u8 a, .int .u8 d] 25)).trans h).boxCell
  have hXf := fun w' (h : Ext ((w.alloc (Obj.cells #[.int .u8 a, .int .u8 d] 23)).alloc (Obj.cells #[.int .u8 a, .int .u8 d] 25)) w') => ((Ext.alloc (w.alloc (Obj.cells #[.int .u8 a, .int .u8 d] 23)) (Obj.cells #[.int .u8 a, .int .u8 d] 25)).trans h).boxFree
  have hX0 : Ext w ((w.alloc (Obj.cells #[.int .u8 a, .int .u8 d] 23)).alloc (Obj.cells #[.int .u8 a, .int .u8 d] 25)) := (Ext.alloc _ _).trans (Ext.alloc _ _)
  generalize (w.alloc (Obj.cells #[.int .u8 a, .int .u8 d] 23)).alloc (Obj.cells #[.int .u8 a, .int .u8 d] 25) = W0 at *
  have hW := Ext.refl W0
  refine wp_region_ext (by kernel_rfl) (by kernel_rfl) ?_
  repeat
    refine wpQuiet_step (fun K hK => ?_)
    go_simp
    first
    | (refine hK _ ?_; clear hK K)
    | (apply Exists.intro
       refine ⟨fun w1 h1 => ?_, hK _ ?_⟩
       (have hW := Ext.trans2 hW (by repeat (first | exact Ext.refl _ | exact Ext.alloc _ _ | exact Ext.drewN _ _ | assumption | refine Ext.trans ?_ (Ext.alloc _ _) | refine Ext.trans ?_ (Ext.drew _) | refine Ext.trans ?_ (by assumption))) h1; (first | rfl | (go_simp; done) | (go_simp; rfl) | (first | (go_at_call 8; refine (may_any _ _ _ ha ha' hd hd').mono ?_; rintro e w2 ⟨rfl, hb⟩; exact ⟨rfl, h1.trans hb⟩) | (go_at_call 9; refine (rmay_any _ _ _ ha ha' hd hd').mono ?_; rintro e w2 ⟨rfl, hb⟩; exact ⟨rfl, h1.trans hb⟩) | (go_at_call 10; refine (most_any _ _ _ ha ha' hd hd').mono ?_; rintro e w2 ⟨rfl, hb⟩; exact ⟨rfl, h1.trans hb⟩) | (go_at_call 11; refine (rmost_any _ _ _ ha ha' hd hd').mono ?_; rintro e w2 ⟨rfl, hb⟩; exact ⟨rfl, h1.trans hb⟩) | (go_at_call 12; refine (mask_any _ _ _ ha ha' hd hd').mono ?_; rintro e w2 ⟨rfl, hb⟩; exact ⟨rfl, h1.trans hb⟩) | (go_at_call 13; refine (rmask_any _ _ _ ha ha' hd hd').mono ?_; rintro e w2 ⟨rfl, hb⟩; exact ⟨rfl, h1.trans hb⟩) | (go_at_call 14; refine (get_any _ _ _ _ ha ha' hd hd').mono ?_; rintro e w2 ⟨rfl, hb⟩; exact ⟨rfl, h1.trans hb⟩) | (go_at_call 15; refine (rget_any _ _ _ _ ha ha' hd hd' hv).mono ?_; rintro e w2 ⟨rfl, hb⟩; exact ⟨rfl, h1.trans hb⟩) | (go_at_call 16; refine (signed_any _ _ _ _ ha ha' hd hd').mono ?_; rintro e w2 ⟨rfl, hb⟩; exact ⟨rfl, h1.trans hb⟩) | (go_at_call 17; refine (rsigned_any _ _ _ _ ha ha' hd hd' hv).mono ?_; rintro e w2 ⟨rfl, hb⟩; exact ⟨rfl, h1.trans hb⟩) | (go_at_call 18; refine (fits_any _ _ _ _ ha ha' hd hd').mono ?_; rintro e w2 ⟨rfl, hb⟩; exact ⟨rfl, h1.trans hb⟩) | (go_at_call 19; refine (rfits_any _ _ _ _ ha ha' hd hd').mono ?_; rintro e w2 ⟨rfl, hb⟩; exact ⟨rfl, h1.trans hb⟩) | (go_at_call 21; refine (put_any _ _ _ _ _ ha ha' hd hd').mono ?_; rintro e w2 ⟨rfl, hb⟩; exact ⟨rfl, h1.trans hb⟩) | (go_at_call 22; refine (rput_any _ _ _ _ _ ha ha' hd hd' hu hv).mono ?_; rintro e w2 ⟨rfl, hb⟩; exact ⟨rfl, h1.trans hb⟩) | (go_at_call 20; refine (alive_any _).mono ?_; rintro e w2 ⟨rfl, hb⟩; exact ⟨rfl, h1.trans hb⟩))))
       clear hK K)
  refine wpQuiet_nil (fun w' hw' => ?_)
  have hW := Ext.trans2 hW (by repeat (first | exact Ext.refl _ | exact Ext.alloc _ _ | exact Ext.drewN _ _ | assumption | refine Ext.trans ?_ (Ext.alloc _ _) | refine Ext.trans ?_ (Ext.drew _) | refine Ext.trans ?_ (by assumption))) hw'
  clear hw'
  go_wp2
  go_ret
  exact ⟨rfl, (hX0.trans (hW.trans (by repeat (first | exact Ext.refl _ | exact Ext.alloc _ _ | exact Ext.drewN _ _ | assumption | refine Ext.trans ?_ (Ext.alloc _ _) | refine Ext.trans ?_ (Ext.drew _) | refine Ext.trans ?_ (by assumption)))))⟩
set_option maxHeartbeats 400000 in
theorem lputs_any (a d u v : Int) (w : World) (ha : 0 ≤ a) (ha' : a ≤ 255) (hd : 0 ≤ d) (hd' : d ≤ 255) (hu : InW u) (hv : InW v) :
    Calls Try.prog 4 #[.agg #[.int .u8 a, .int .u8 d], .int .u64 u, .int .u64 v] w fun e w' => e = .returned (.bool true) ∧ Ext w w' := by
  go_enter Try.func4, Try.ntmps4
  go_wp2_with fail
  have hX := fun w' (h : Ext (w.alloc (Obj.cells #[.int .u8 a, .int .u8 d] 23)) w') => h.boxCell
  have hXf := fun w' (h : Ext (w.alloc (Obj.cells #[.int .u8 a, .int .u8 d] 23)) w') => h.boxFree
  have hX0 : Ext w (w.alloc (Obj.cells #[.int .u8 a, .int .u8 d] 23)) := Ext.alloc _ _
  generalize w.alloc (Obj.cells #[.int .u8 a, .int .u8 d] 23) = W0 at *
  have hW := Ext.refl W0
  refine wp_region_ext (by kernel_rfl) (by kernel_rfl) ?_
  repeat
    refine wpQuiet_step (fun K hK => ?_)
    go_simp
    first
    | (refine hK _ ?_; clear hK K)
    | (apply Exists.intro
       refine ⟨fun w1 h1 => ?_, hK _ ?_⟩
       (have hW := Ext.trans2 hW (by repeat (first | exact Ext.refl _ | exact Ext.alloc _ _ | exact Ext.drewN _ _ | assumption | refine Ext.trans ?_ (Ext.alloc _ _) | refine Ext.trans ?_ (Ext.drew _) | refine Ext.trans ?_ (by assumption))) h1; (first | rfl | (go_simp; done) | (go_simp; rfl) | (first | (go_at_call 8; refine (may_any _ _ _ ha ha' hd hd').mono ?_; rintro e w2 ⟨rfl, hb⟩; exact ⟨rfl, h1.trans hb⟩) | (go_at_call 9; refine (rmay_any _ _ _ ha ha' hd hd').mono ?_; rintro e w2 ⟨rfl, hb⟩; exact ⟨rfl, h1.trans hb⟩) | (go_at_call 10; refine (most_any _ _ _ ha ha' hd hd').mono ?_; rintro e w2 ⟨rfl, hb⟩; exact ⟨rfl, h1.trans hb⟩) | (go_at_call 11; refine (rmost_any _ _ _ ha ha' hd hd').mono ?_; rintro e w2 ⟨rfl, hb⟩; exact ⟨rfl, h1.trans hb⟩) | (go_at_call 12; refine (mask_any _ _ _ ha ha' hd hd').mono ?_; rintro e w2 ⟨rfl, hb⟩; exact ⟨rfl, h1.trans hb⟩) | (go_at_call 13; refine (rmask_any _ _ _ ha ha' hd hd').mono ?_; rintro e w2 ⟨rfl, hb⟩; exact ⟨rfl, h1.trans hb⟩) | (go_at_call 14; refine (get_any _ _ _ _ ha ha' hd hd').mono ?_; rintro e w2 ⟨rfl, hb⟩; exact ⟨rfl, h1.trans hb⟩) | (go_at_call 15; refine (rget_any _ _ _ _ ha ha' hd hd' hv).mono ?_; rintro e w2 ⟨rfl, hb⟩; exact ⟨rfl, h1.trans hb⟩) | (go_at_call 16; refine (signed_any _ _ _ _ ha ha' hd hd').mono ?_; rintro e w2 ⟨rfl, hb⟩; exact ⟨rfl, h1.trans hb⟩) | (go_at_call 17; refine (rsigned_any _ _ _ _ ha ha' hd hd' hv).mono ?_; rintro e w2 ⟨rfl, hb⟩; exact ⟨rfl, h1.trans hb⟩) | (go_at_call 18; refine (fits_any _ _ _ _ ha ha' hd hd').mono ?_; rintro e w2 ⟨rfl, hb⟩; exact ⟨rfl, h1.trans hb⟩) | (go_at_call 19; refine (rfits_any _ _ _ _ ha ha' hd hd').mono ?_; rintro e w2 ⟨rfl, hb⟩; exact ⟨rfl, h1.trans hb⟩) | (go_at_call 21; refine (put_any _ _ _ _ _ ha ha' hd hd').mono ?_; rintro e w2 ⟨rfl, hb⟩; exact ⟨rfl, h1.trans hb⟩) | (go_at_call 22; refine (rput_any _ _ _ _ _ ha ha' hd hd' hu hv).mono ?_; rintro e w2 ⟨rfl, hb⟩; exact ⟨rfl, h1.trans hb⟩) | (go_at_call 20; refine (alive_any _).mono ?_; rintro e w2 ⟨rfl, hb⟩; exact ⟨rfl, h1.trans hb⟩))))
       clear hK K)
  refine wpQuiet_nil (fun w' hw' => ?_)
  have hW := Ext.trans2 hW (by repeat (first | exact Ext.refl _ | exact Ext.alloc _ _ | exact Ext.drewN _ _ | assumption | refine Ext.trans ?_ (Ext.alloc _ _) | refine Ext.trans ?_ (Ext.drew _) | refine Ext.trans ?_ (by assumption))) hw'
  clear hw'
  go_wp2
  go_ret
  exact ⟨rfl, (hX0.trans (hW.trans (by repeat (first | exact Ext.refl _ | exact Ext.alloc _ _ | exact Ext.drewN _ _ | assumption | refine Ext.trans ?_ (Ext.alloc _ _) | refine Ext.trans ?_ (Ext.drew _) | refine Ext.trans ?_ (by assumption)))))⟩
end Go.Proofs.Ytcofnmkemnmhaaa
