/- What the reference's calls for package field answer. -/
import Derived.Test.YtcofnmkemnmhaaaM1
namespace Go.Proofs.Ytcofnmkemnmhaaa
open Go.RowKit


def pw (k : Nat) : Int := 2 ^ k
theorem pw_pos (k : Nat) : 0 < pw k := Int.pow_pos (by decide)
theorem pw_succ (k : Nat) (h : k + 1 ≤ 63) : IntKind.u64.wrap (pw k * 2) = pw (k + 1) := by
  have h1 : (2 : Nat) ^ (k + 1) ≤ 2 ^ 63 := Nat.pow_le_pow_right (by decide) h
  have h2 : pw k * 2 = (((2 : Nat) ^ (k + 1) : Nat) : Int) := by simp [pw, Int.pow_succ]
  have h3 : pw (k + 1) = (((2 : Nat) ^ (k + 1) : Nat) : Int) := by simp [pw]
  rw [h2, h3]
  simp only [IntKind.wrap, IntKind.bits, IntKind.signed]
  generalize (2 : Nat) ^ (k + 1) = x at *
  simp; omega

theorem rmay_any (a d : Int) (w : World) (ha : 0 ≤ a) (ha' : a ≤ 255) (hd : 0 ≤ d) (hd' : d ≤ 255) :
    Calls Try.prog 9 #[.agg #[.int .u8 a, .int .u8 d]] w fun e w' => e = .returned (.bool (mayB a d)) ∧ Ext w w' := by
  by_cases h1 : 1 ≤ d
  · by_cases h3 : d ≤ 64
    · by_cases h2 : a + d ≤ 64
      all_goals
        go_enter Try.func9, Try.ntmps9
        go_wp2
        go_ret
        exact ⟨by simp [mayB]; omega, Ext.alloc _ _⟩
    · go_enter Try.func9, Try.ntmps9
      go_wp2
      go_ret
      exact ⟨by simp [mayB]; omega, Ext.alloc _ _⟩
  · go_enter Try.func9, Try.ntmps9
    go_wp2
    go_ret
    exact ⟨by simp [mayB]; omega, Ext.alloc _ _⟩

theorem power_any (k : Int) (w : World) (h0 : 0 ≤ k) (h1 : k ≤ 63) :
    Calls Try.prog 31 #[.int .i64 k] w fun e w' => e = .returned (.int .u64 (pw k.toNat)) ∧ Ext w w' := by
  go_enter Try.func31, Try.ntmps31
  go_wp2
  go_loop [3, 4] (fun n i => ∃ j : Nat, (j : Int) ≤ k ∧ i = .int .i64 j ∧ n = .int .u64 (pw j)) (fun _ i => (k - intOf i).toNat)
  case atStart => exact ⟨0, by omega, rfl, rfl⟩
  case round =>
    obtain ⟨j, hj, rfl, rfl⟩ := hrel
    by_cases hlt : (j : Int) < k
    · have HS := hide (pw_succ j (by omega))
      go_wp2
      go_round
      case rel => exact ⟨j + 1, by omega, by go_num, by rw [HS.out]⟩
      case measure => simp [intOf]; omega
    · have e : k.toNat = j := by omega
      have E := hide e
      clear e
      go_wp2
      go_ret
      exact ⟨by rw [E.out]; rfl, Ext.refl _⟩

def InW (v : Int) : Prop := 0 ≤ v ∧ v < two64
theorem InW.nat {v : Int} (h : InW v) : ∃ V : Nat, v = V ∧ V < two64 := by
  obtain ⟨V, rfl⟩ := Int.eq_ofNat_of_zero_le h.1
  exact ⟨V, rfl, by have := h.2; omega⟩
theorem pw_nat (k : Nat) : pw k = ((2 ^ k : Nat) : Int) := by simp [pw]

/-- The bit of number k, as the reference asks for it. -/
def bitI (v : Int) (k : Nat) : Int := if v.toNat.testBit k then 1 else 0
theorem bit_eq {v : Int} (h : InW v) (k : Nat) : (IntKind.u64.wrap (v.tdiv (pw k))).tmod 2 = bitI v k := by
  obtain ⟨V, rfl, hV⟩ := h.nat
  have e1 : (V : Int).tdiv (pw k) = ((V / 2 ^ k : Nat) : Int) := by rw [pw_nat]; rfl
  rw [e1, wrap_nat _ (Nat.lt_of_le_of_lt (Nat.div_le_self _ _) hV)]
  have e2 : ((V / 2 ^ k : Nat) : Int).tmod 2 = ((V / 2 ^ k % 2 : Nat) : Int) := rfl
  rw [e2]
  unfold bitI
  rw [Int.toNat_natCast]
  by_cases hb : V.testBit k = true
  · rw [if_pos hb, (bit_div V k).2 hb]; rfl
  · rw [if_neg hb]
    have := mt (bit_div V k).1 hb
    have h3 : V / 2 ^ k % 2 = 0 := by omega
    rw [h3]; rfl

def gS (v : Int) (A j : Nat) : Int := ((v.toNat / 2 ^ A % 2 ^ j : Nat) : Int)
theorem gS_zero (v : Int) (A : Nat) : gS v A 0 = 0 := by simp [gS, Nat.mod_one]
theorem gS_succ_nat (V A j : Nat) : V / 2 ^ A % 2 ^ (j + 1) = V / 2 ^ A % 2 ^ j + (if V.testBit (A + j) then 2 ^ j else 0) := by
  rw [Nat.mod_pow_succ, Nat.div_div_eq_div_mul, ← Nat.pow_add]
  by_cases hb : V.testBit (A + j) = true
  · rw [if_pos hb, (bit_div V _).2 hb, Nat.mul_one]
  · rw [if_neg hb]
    have := mt (bit_div V (A + j)).1 hb
    have h3 : V / 2 ^ (A + j) % 2 = 0 := by omega
    rw [h3, Nat.mul_zero]
theorem gS_yes {v : Int} {A j : Nat} (hj : j + 1 ≤ 64) (h : bitI v (A + j) = 1) : IntKind.u64.wrap (gS v A j + pw j) = gS v A (j + 1) := by
  have hb : v.toNat.testBit (A + j) = true := by
    unfold bitI at h
    by_cases hb : v.toNat.testBit (A + j) = true
    · exact hb
    · rw [if_neg hb] at h; cases h
  have e := gS_succ_nat v.toNat A j
  rw [if_pos hb] at e
  unfold gS
  rw [e, pw_nat, ← Int.natCast_add, wrap_nat, ]
  rw [← e]
  exact Nat.lt_of_lt_of_le (Nat.mod_lt _ (Nat.pow_pos (by decide))) (two_pow_le _ hj)
theorem gS_not {v : Int} {A j : Nat} (h : bitI v (A + j) = 0) : gS v A (j + 1) = gS v A j := by
  have hb : ¬ v.toNat.testBit (A + j) = true := by
    unfold bitI at h
    intro hb
    rw [if_pos hb] at h; cases h
  have e := gS_succ_nat v.toNat A j
  rw [if_neg hb] at e
  unfold gS
  rw [e]; rfl
theorem bitI_or (v : Int) (k : Nat) : bitI v k = 1 ∨ bitI v k = 0 := by unfold bitI; split <;> simp
theorem gS_get {a d v : Int} (ha : 0 ≤ a) (hd : 0 ≤ d) (hv : InW v) (hm : mayB a d = true) : gS v a.toNat d.toNat = getI a d v := by
  obtain ⟨A, rfl⟩ := Int.eq_ofNat_of_zero_le ha
  obtain ⟨D, rfl⟩ := Int.eq_ofNat_of_zero_le hd
  obtain ⟨V, rfl, hV⟩ := hv.nat
  rw [get_nat hm hV]; rfl

set_option maxHeartbeats 400000 in
theorem rget_any (a d v : Int) (w : World) (ha : 0 ≤ a) (ha' : a ≤ 255) (hd : 0 ≤ d) (hd' : d ≤ 255) (hv : InW v) :
    Calls Try.prog 15 #[.agg #[.int .u8 a, .int .u8 d], .int .u64 v] w fun e w' => e = .returned (.int .u64 (getI a d v)) ∧ Ext w w' := by
  by_cases hm : mayB a d = true
  · have h1 : 1 ≤ d := by simp [mayB] at hm; omega
    have h2 : a + d ≤ 64 := by simp [mayB] at hm; omega
    have hv0 := hv.1
    have G0 := hide (gS_zero v a.toNat)
    go_enter Try.func15, Try.ntmps15
    go_wp2_with fail
    have hX := fun w' (h : Ext (w.alloc (Obj.cells #[.int .u8 a, .int .u8 d] 23)) w') => h.boxCell
    have hXf := fun w' (h : Ext (w.alloc (Obj.cells #[.int .u8 a, .int .u8 d] 23)) w') => h.boxFree
    have hX0 : Ext w (w.alloc (Obj.cells #[.int .u8 a, .int .u8 d] 23)) := Ext.alloc _ _
    generalize w.alloc (Obj.cells #[.int .u8 a, .int .u8 d] 23) = W0 at *
    have hW := Ext.refl W0
    go_wp2_with (go_at_call 9; refine (rmay_any _ _ _ ha ha' hd hd').mono ?_; rintro e w' ⟨rfl, hb⟩; have hW := Ext.trans2 hW (by repeat (first | exact Ext.refl _ | exact Ext.alloc _ _ | exact Ext.drewN _ _ | assumption | refine Ext.trans ?_ (Ext.alloc _ _) | refine Ext.trans ?_ (Ext.drew _) | refine Ext.trans ?_ (by assumption))) hb; clear hb)
    go_loopw [5, 6] (fun n i wr => ∃ j : Nat, (j : Int) ≤ d ∧ i = .int .i64 j ∧ n = .int .u64 (gS v a.toNat j) ∧ Ext W0 wr) (fun _ i _ => (d - intOf i).toNat)
    case atStart => exact ⟨0, by omega, rfl, by rw [G0.out], hW⟩
    case round =>
      clear hW
      obtain ⟨j, hj, rfl, rfl, hW⟩ := hrel
      have hp := pw_pos (a + j).toNat
      by_cases hlt : (j : Int) < d
      · have E := bit_eq hv (a + j).toNat
        have ek : (a + j).toNat = a.toNat + j := by omega
        rcases bitI_or v (a + j).toNat with hb | hb
        · have HS := hide (gS_yes (v := v) (A := a.toNat) (j := j) (by omega) (by rw [← ek]; exact hb))
          rw [hb] at E
          clear hb ek
          go_wp2_with (go_at_call 31; refine (power_any _ _ (by omega) (by omega)).mono ?_; rintro e w' ⟨rfl, hb⟩; have hW := Ext.trans2 hW (by repeat (first | exact Ext.refl _ | exact Ext.alloc _ _ | exact Ext.drewN _ _ | assumption | refine Ext.trans ?_ (Ext.alloc _ _) | refine Ext.trans ?_ (Ext.drew _) | refine Ext.trans ?_ (by assumption))) hb; clear hb)
          go_roundw
          case rel => exact ⟨j + 1, by omega, by go_num, by rw [← HS.out], hW⟩
          case measure => simp [intOf]; omega
        · have HS := hide (gS_not (v := v) (A := a.toNat) (j := j) (by rw [← ek]; exact hb))
          rw [hb] at E
          clear hb ek
          go_wp2_with (go_at_call 31; refine (power_any _ _ (by omega) (by omega)).mono ?_; rintro e w' ⟨rfl, hb⟩; have hW := Ext.trans2 hW (by repeat (first | exact Ext.refl _ | exact Ext.alloc _ _ | exact Ext.drewN _ _ | assumption | refine Ext.trans ?_ (Ext.alloc _ _) | refine Ext.trans ?_ (Ext.drew _) | refine Ext.trans ?_ (by assumption))) hb; clear hb)
          go_roundw
          case rel => exact ⟨j + 1, by omega, by go_num, by rw [HS.out], hW⟩
          case measure => simp [intOf]; omega
      · have e : d.toNat = j := by omega
        have E := hide (gS_get ha hd hv hm)
        rw [e] at E
        clear e
        go_wp2
        go_ret
        exact ⟨by rw [← E.out]; rfl, (hX0.trans (hW.trans (by repeat (first | exact Ext.refl _ | exact Ext.alloc _ _ | exact Ext.drewN _ _ | assumption | refine Ext.trans ?_ (Ext.alloc _ _) | refine Ext.trans ?_ (Ext.drew _) | refine Ext.trans ?_ (by assumption)))))⟩
  · have hn := get_no hm hv.1 hv.2
    have G0 := hide hn
    clear hn
    go_enter Try.func15, Try.ntmps15
    go_wp2_with fail
    have hX := fun w' (h : Ext (w.alloc (Obj.cells #[.int .u8 a, .int .u8 d] 23)) w') => h.boxCell
    have hXf := fun w' (h : Ext (w.alloc (Obj.cells #[.int .u8 a, .int .u8 d] 23)) w') => h.boxFree
    have hX0 : Ext w (w.alloc (Obj.cells #[.int .u8 a, .int .u8 d] 23)) := Ext.alloc _ _
    generalize w.alloc (Obj.cells #[.int .u8 a, .int .u8 d] 23) = W0 at *
    have hW := Ext.refl W0
    go_wp2_with (go_at_call 9; refine (rmay_any _ _ _ ha ha' hd hd').mono ?_; rintro e w' ⟨rfl, hb⟩; have hW := Ext.trans2 hW (by repeat (first | exact Ext.refl _ | exact Ext.alloc _ _ | exact Ext.drewN _ _ | assumption | refine Ext.trans ?_ (Ext.alloc _ _) | refine Ext.trans ?_ (Ext.drew _) | refine Ext.trans ?_ (by assumption))) hb; clear hb)
    go_ret
    exact ⟨by rw [G0.out]; rfl, (hX0.trans (hW.trans (by repeat (first | exact Ext.refl _ | exact Ext.alloc _ _ | exact Ext.drewN _ _ | assumption | refine Ext.trans ?_ (Ext.alloc _ _) | refine Ext.trans ?_ (Ext.drew _) | refine Ext.trans ?_ (by assumption)))))⟩

def pBits (A D W V : Nat) (k : Nat) : Bool := if A ≤ k ∧ k < A + D then V.testBit (k - A) else W.testBit k
def pS (a d w v : Int) (j : Nat) : Int := ((sumBits (pBits a.toNat d.toNat w.toNat v.toNat) j : Nat) : Int)
theorem pS_zero (a d w v : Int) : pS a d w v 0 = 0 := rfl
def b01 (b : Bool) : Int := if b then 1 else 0
theorem pS_succ (a d w v : Int) (j : Nat) (hj : j < 64) {x : Int} (hx : x = b01 (pBits a.toNat d.toNat w.toNat v.toNat j)) :
    IntKind.u64.wrap (pS a d w v j + IntKind.u64.wrap (x * pw j)) = pS a d w v (j + 1) := by
  subst hx
  have hp := two_pow_le j (by omega)
  have hq := two_pow_le (j + 1) (by omega)
  have hs := sumBits_lt (pBits a.toNat d.toNat w.toNat v.toNat) j
  have hs' := sumBits_lt (pBits a.toNat d.toNat w.toNat v.toNat) (j + 1)
  unfold pS
  simp only [sumBits] at hs' ⊢
  cases hpb : pBits a.toNat d.toNat w.toNat v.toNat j
  · have e0 : b01 false * pw j = ((0 : Nat) : Int) := by simp [b01]
    rw [e0, wrap_nat _ (by decide), ← Int.natCast_add, wrap_nat _ (by omega)]
    rfl
  · have hlt : 2 ^ j < two64 := by
      have h2 : 2 ^ (j + 1) = 2 ^ j * 2 := Nat.pow_succ 2 j
      have h3 : 0 < 2 ^ j := Nat.pow_pos (by decide)
      omega
    have e0 : b01 true * pw j = ((2 ^ j : Nat) : Int) := by simp [b01, pw_nat]
    rw [e0, wrap_nat _ hlt, ← Int.natCast_add, wrap_nat _ (by rw [hpb] at hs'; simpa using Nat.lt_of_lt_of_le hs' hq)]
    rfl
theorem pS_put {a d u v : Int} (ha : 0 ≤ a) (hd : 0 ≤ d) (hu : InW u) (hv : InW v) (hm : mayB a d = true) : putI a d u v = pS a d u v 64 := by
  obtain ⟨A, rfl⟩ := Int.eq_ofNat_of_zero_le ha
  obtain ⟨D, rfl⟩ := Int.eq_ofNat_of_zero_le hd
  obtain ⟨V, rfl, hV⟩ := hv.nat
  obtain ⟨U, rfl, hU⟩ := hu.nat
  exact put_nat hm hU hV
theorem bitI_b01 (v : Int) (k : Nat) : bitI v k = b01 (v.toNat.testBit k) := rfl

set_option maxHeartbeats 400000 in
theorem rput_any (a d u v : Int) (w : World) (ha : 0 ≤ a) (ha' : a ≤ 255) (hd : 0 ≤ d) (hd' : d ≤ 255) (hu : InW u) (hv : InW v) :
    Calls Try.prog 22 #[.agg #[.int .u8 a, .int .u8 d], .int .u64 u, .int .u64 v] w fun e w' => e = .returned (.int .u64 (putI a d u v)) ∧ Ext w w' := by
  by_cases hm : mayB a d = true
  · have h1 : 1 ≤ d := by simp [mayB] at hm; omega
    have h2 : a + d ≤ 64 := by simp [mayB] at hm; omega
    have hv0 := hv.1
    have hu0 := hu.1
    have G0 := hide (pS_zero a d u v)
    have G1 := hide (pS_put ha hd hu hv hm)
    go_enter Try.func22, Try.ntmps22
    go_wp2_with fail
    have hX := fun w' (h : Ext (w.alloc (Obj.cells #[.int .u8 a, .int .u8 d] 23)) w') => h.boxCell
    have hXf := fun w' (h : Ext (w.alloc (Obj.cells #[.int .u8 a, .int .u8 d] 23)) w') => h.boxFree
    have hX0 : Ext w (w.alloc (Obj.cells #[.int .u8 a, .int .u8 d] 23)) := Ext.alloc _ _
    generalize w.alloc (Obj.cells #[.int .u8 a, .int .u8 d] 23) = W0 at *
    have hW := Ext.refl W0
    go_wp2_with (go_at_call 9; refine (rmay_any _ _ _ ha ha' hd hd').mono ?_; rintro e w' ⟨rfl, hb⟩; have hW := Ext.trans2 hW (by repeat (first | exact Ext.refl _ | exact Ext.alloc _ _ | exact Ext.drewN _ _ | assumption | refine Ext.trans ?_ (Ext.alloc _ _) | refine Ext.trans ?_ (Ext.drew _) | refine Ext.trans ?_ (by assumption))) hb; clear hb)
    go_loopw [7, 8] (fun n i wr => ∃ j : Nat, j ≤ 64 ∧ i = .int .i64 j ∧ n = .int .u64 (pS a d u v j) ∧ Ext W0 wr) (fun _ i _ => 64 - (intOf i).toNat)
    case atStart => exact ⟨0, by omega, rfl, by rw [G0.out], hW⟩
    case round =>
      clear hW
      obtain ⟨j, hj, rfl, rfl, hW⟩ := hrel
      by_cases hlt : j < 64
      · have E := bit_eq hu j
        have hp := pw_pos j
        have ej : ((j : Int)).toNat = j := by omega
        by_cases c : a ≤ j ∧ (j : Int) < a + d
        · obtain ⟨c1, c2⟩ := c
          have hp2 := pw_pos ((j : Int) - a).toNat
          have HS := hide (pS_succ a d u v j hlt (x := (IntKind.u64.wrap (v.tdiv (pw ((j : Int) - a).toNat))).tmod 2) (by
            rw [bit_eq hv, bitI_b01]; unfold pBits
            rw [if_pos (by omega)]; congr 2; omega))
          clear E
          go_wp2_with (go_at_call 31; refine (power_any _ _ (by omega) (by omega)).mono ?_; rintro e w' ⟨rfl, hb⟩; have hW := Ext.trans2 hW (by repeat (first | exact Ext.refl _ | exact Ext.alloc _ _ | exact Ext.drewN _ _ | assumption | refine Ext.trans ?_ (Ext.alloc _ _) | refine Ext.trans ?_ (Ext.drew _) | refine Ext.trans ?_ (by assumption))) hb; clear hb)
          go_roundw
          case rel => exact ⟨j + 1, by omega, by go_num, by rw [← HS.out], hW⟩
          case measure => simp [intOf]; omega
        · have HS := hide (pS_succ a d u v j hlt (x := (IntKind.u64.wrap (u.tdiv (pw j))).tmod 2) (by
            rw [bit_eq hu, bitI_b01]; unfold pBits
            rw [if_neg (by omega)]))
          clear E
          by_cases c1 : a ≤ j
          all_goals
            go_wp2_with (go_at_call 31; refine (power_any _ _ (by omega) (by omega)).mono ?_; rintro e w' ⟨rfl, hb⟩; have hW := Ext.trans2 hW (by repeat (first | exact Ext.refl _ | exact Ext.alloc _ _ | exact Ext.drewN _ _ | assumption | refine Ext.trans ?_ (Ext.alloc _ _) | refine Ext.trans ?_ (Ext.drew _) | refine Ext.trans ?_ (by assumption))) hb; clear hb)
            go_roundw
            case rel => exact ⟨j + 1, by omega, by go_num, by rw [← HS.out], hW⟩
            case measure => simp [intOf]; omega
      · have e : j = 64 := by omega
        rw [e]
        clear e hlt hj
        go_wp2
        go_ret
        exact ⟨by rw [G1.out]; rfl, (hX0.trans (hW.trans (by repeat (first | exact Ext.refl _ | exact Ext.alloc _ _ | exact Ext.drewN _ _ | assumption | refine Ext.trans ?_ (Ext.alloc _ _) | refine Ext.trans ?_ (Ext.drew _) | refine Ext.trans ?_ (by assumption)))))⟩
  · have hn := put_no hm hu.1 hu.2 hv.1 hv.2
    have G0 := hide hn
    clear hn
    go_enter Try.func22, Try.ntmps22
    go_wp2_with fail
    have hX := fun w' (h : Ext (w.alloc (Obj.cells #[.int .u8 a, .int .u8 d] 23)) w') => h.boxCell
    have hXf := fun w' (h : Ext (w.alloc (Obj.cells #[.int .u8 a, .int .u8 d] 23)) w') => h.boxFree
    have hX0 : Ext w (w.alloc (Obj.cells #[.int .u8 a, .int .u8 d] 23)) := Ext.alloc _ _
    generalize w.alloc (Obj.cells #[.int .u8 a, .int .u8 d] 23) = W0 at *
    have hW := Ext.refl W0
    go_wp2_with (go_at_call 9; refine (rmay_any _ _ _ ha ha' hd hd').mono ?_; rintro e w' ⟨rfl, hb⟩; have hW := Ext.trans2 hW (by repeat (first | exact Ext.refl _ | exact Ext.alloc _ _ | exact Ext.drewN _ _ | assumption | refine Ext.trans ?_ (Ext.alloc _ _) | refine Ext.trans ?_ (Ext.drew _) | refine Ext.trans ?_ (by assumption))) hb; clear hb)
    go_ret
    exact ⟨by rw [G0.out]; rfl, (hX0.trans (hW.trans (by repeat (first | exact Ext.refl _ | exact Ext.alloc _ _ | exact Ext.drewN _ _ | assumption | refine Ext.trans ?_ (Ext.alloc _ _) | refine Ext.trans ?_ (Ext.drew _) | refine Ext.trans ?_ (by assumption)))))⟩

def OnesI : Int := 18446744073709551615
theorem inW_zero : InW 0 := ⟨by decide, by decide⟩
theorem inW_ones : InW 18446744073709551615 := ⟨by decide, by decide⟩
theorem ones_nat : (18446744073709551615 : Int) = ((two64 - 1 : Nat) : Int) := by decide
theorem most_get {a d : Int} (ha : 0 ≤ a) (hd : 0 ≤ d) : getI a d 18446744073709551615 = mostI a d := by
  by_cases hm : mayB a d = true
  · obtain ⟨A, rfl⟩ := Int.eq_ofNat_of_zero_le ha
    obtain ⟨D, rfl⟩ := Int.eq_ofNat_of_zero_le hd
    obtain ⟨h1, h2⟩ := (mayB_iff A D).1 hm
    rw [ones_nat, get_nat hm (by decide), most_nat hm]
    congr 1
    apply Nat.eq_of_testBit_eq
    intro k
    rw [Nat.testBit_mod_two_pow, Nat.testBit_div_two_pow, two64_pow, Nat.testBit_two_pow_sub_one, Nat.testBit_two_pow_sub_one]
    by_cases hk : k < D
    · have : k + A < 64 := by omega
      simp [hk, this]
    · simp [hk]
  · rw [get_no hm inW_ones.1 inW_ones.2, most_no hm]
theorem mask_put {a d : Int} (ha : 0 ≤ a) (hd : 0 ≤ d) : putI a d 0 18446744073709551615 = maskI a d := by
  by_cases hm : mayB a d = true
  · obtain ⟨A, rfl⟩ := Int.eq_ofNat_of_zero_le ha
    obtain ⟨D, rfl⟩ := Int.eq_ofNat_of_zero_le hd
    obtain ⟨h1, h2⟩ := (mayB_iff A D).1 hm
    have := put_nat (A := A) (D := D) (W := 0) (V := two64 - 1) hm (by decide) (by decide)
    rw [ones_nat]
    refine this.trans ?_
    rw [mask_nat hm]
    congr 1
    apply Nat.eq_of_testBit_eq
    intro k
    rw [sumBits_bit, Nat.testBit_mul_two_pow, two64_pow, Nat.testBit_two_pow_sub_one, Nat.testBit_two_pow_sub_one, Nat.zero_testBit]
    by_cases c : A ≤ k ∧ k < A + D
    · rw [if_pos c]
      have c1 : k < 64 := by omega
      have c2 : k - A < 64 := by omega
      have c3 : k - A < D := by omega
      simp [c1, c2, c3, c.1]
    · rw [if_neg c]
      by_cases c1 : A ≤ k
      · have c3 : ¬ k - A < D := by omega
        simp [c3]
      · simp [c1]
  · rw [put_no hm inW_zero.1 inW_zero.2 inW_ones.1 inW_ones.2]
    unfold maskI
    rw [most_no hm, Int.zero_mul]; decide

theorem rmost_any (a d : Int) (w : World) (ha : 0 ≤ a) (ha' : a ≤ 255) (hd : 0 ≤ d) (hd' : d ≤ 255) :
    Calls Try.prog 11 #[.agg #[.int .u8 a, .int .u8 d]] w fun e w' => e = .returned (.int .u64 (mostI a d)) ∧ Ext w w' := by
  have E := hide (most_get ha hd)
  go_enter Try.func11, Try.ntmps11
  go_wp2_with fail
  have hX := fun w' (h : Ext (w.alloc (Obj.cells #[.int .u8 a, .int .u8 d] 23)) w') => h.boxCell
  have hXf := fun w' (h : Ext (w.alloc (Obj.cells #[.int .u8 a, .int .u8 d] 23)) w') => h.boxFree
  have hX0 : Ext w (w.alloc (Obj.cells #[.int .u8 a, .int .u8 d] 23)) := Ext.alloc _ _
  generalize w.alloc (Obj.cells #[.int .u8 a, .int .u8 d] 23) = W0 at *
  have hW := Ext.refl W0
  go_wp2_with (go_at_call 15; refine (rget_any _ _ _ _ ha ha' hd hd' inW_ones).mono ?_; rintro e w' ⟨rfl, hb⟩; have hW := Ext.trans2 hW (by repeat (first | exact Ext.refl _ | exact Ext.alloc _ _ | exact Ext.drewN _ _ | assumption | refine Ext.trans ?_ (Ext.alloc _ _) | refine Ext.trans ?_ (Ext.drew _) | refine Ext.trans ?_ (by assumption))) hb; clear hb)
  go_ret
  exact ⟨by rw [← E.out]; rfl, (hX0.trans (hW.trans (by repeat (first | exact Ext.refl _ | exact Ext.alloc _ _ | exact Ext.drewN _ _ | assumption | refine Ext.trans ?_ (Ext.alloc _ _) | refine Ext.trans ?_ (Ext.drew _) | refine Ext.trans ?_ (by assumption)))))⟩
theorem rmask_any (a d : Int) (w : World) (ha : 0 ≤ a) (ha' : a ≤ 255) (hd : 0 ≤ d) (hd' : d ≤ 255) :
    Calls Try.prog 13 #[.agg #[.int .u8 a, .int .u8 d]] w fun e w' => e = .returned (.int .u64 (maskI a d)) ∧ Ext w w' := by
  have E := hide (mask_put ha hd)
  go_enter Try.func13, Try.ntmps13
  go_wp2_with fail
  have hX := fun w' (h : Ext (w.alloc (Obj.cells #[.int .u8 a, .int .u8 d] 23)) w') => h.boxCell
  have hXf := fun w' (h : Ext (w.alloc (Obj.cells #[.int .u8 a, .int .u8 d] 23)) w') => h.boxFree
  have hX0 : Ext w (w.alloc (Obj.cells #[.int .u8 a, .int .u8 d] 23)) := Ext.alloc _ _
  generalize w.alloc (Obj.cells #[.int .u8 a, .int .u8 d] 23) = W0 at *
  have hW := Ext.refl W0
  go_wp2_with (go_at_call 22; refine (rput_any _ _ _ _ _ ha ha' hd hd' inW_zero inW_ones).mono ?_; rintro e w' ⟨rfl, hb⟩; have hW := Ext.trans2 hW (by repeat (first | exact Ext.refl _ | exact Ext.alloc _ _ | exact Ext.drewN _ _ | assumption | refine Ext.trans ?_ (Ext.alloc _ _) | refine Ext.trans ?_ (Ext.drew _) | refine Ext.trans ?_ (by assumption))) hb; clear hb)
  go_ret
  exact ⟨by rw [← E.out]; rfl, (hX0.trans (hW.trans (by repeat (first | exact Ext.refl _ | exact Ext.alloc _ _ | exact Ext.drewN _ _ | assumption | refine Ext.trans ?_ (Ext.alloc _ _) | refine Ext.trans ?_ (Ext.drew _) | refine Ext.trans ?_ (by assumption)))))⟩
theorem rfits_any (a d v : Int) (w : World) (ha : 0 ≤ a) (ha' : a ≤ 255) (hd : 0 ≤ d) (hd' : d ≤ 255) :
    Calls Try.prog 19 #[.agg #[.int .u8 a, .int .u8 d], .int .u64 v] w fun e w' => e = .returned (.bool (fitsB a d v)) ∧ Ext w w' := by
  unfold fitsB
  cases hm : mayB a d
  all_goals
    go_enter Try.func19, Try.ntmps19
    go_wp2_with fail
    have hX := fun w' (h : Ext (w.alloc (Obj.cells #[.int .u8 a, .int .u8 d] 23)) w') => h.boxCell
    have hXf := fun w' (h : Ext (w.alloc (Obj.cells #[.int .u8 a, .int .u8 d] 23)) w') => h.boxFree
    have hX0 : Ext w (w.alloc (Obj.cells #[.int .u8 a, .int .u8 d] 23)) := Ext.alloc _ _
    generalize w.alloc (Obj.cells #[.int .u8 a, .int .u8 d] 23) = W0 at *
    have hW := Ext.refl W0
    go_wp2_with (first | (go_at_call 9; refine (rmay_any _ _ _ ha ha' hd hd').mono ?_; rintro e w' ⟨rfl, hb⟩; have hW := Ext.trans2 hW (by repeat (first | exact Ext.refl _ | exact Ext.alloc _ _ | exact Ext.drewN _ _ | assumption | refine Ext.trans ?_ (Ext.alloc _ _) | refine Ext.trans ?_ (Ext.drew _) | refine Ext.trans ?_ (by assumption))) hb; clear hb) | (go_at_call 11; refine (rmost_any _ _ _ ha ha' hd hd').mono ?_; rintro e w' ⟨rfl, hb⟩; have hW := Ext.trans2 hW (by repeat (first | exact Ext.refl _ | exact Ext.alloc _ _ | exact Ext.drewN _ _ | assumption | refine Ext.trans ?_ (Ext.alloc _ _) | refine Ext.trans ?_ (Ext.drew _) | refine Ext.trans ?_ (by assumption))) hb; clear hb))
    go_ret
    exact ⟨by simp, (hX0.trans (hW.trans (by repeat (first | exact Ext.refl _ | exact Ext.alloc _ _ | exact Ext.drewN _ _ | assumption | refine Ext.trans ?_ (Ext.alloc _ _) | refine Ext.trans ?_ (Ext.drew _) | refine Ext.trans ?_ (by assumption)))))⟩
end Go.Proofs.Ytcofnmkemnmhaaa
