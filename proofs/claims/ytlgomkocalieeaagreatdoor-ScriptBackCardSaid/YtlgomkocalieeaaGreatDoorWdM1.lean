/- Plain laws on the bits of words: no program in sight but for the numbers that package field answers. -/
import Derived.Test.YtlgomkocalieeaaGreatDoorWdF1
import Derived.Laws.BitsAllLaws
namespace Go.Proofs.YtlgomkocalieeaaGreatDoor.Wd
set_option maxRecDepth 100000
open Go.RowKit

def two64 : Nat := 18446744073709551616
theorem two64_pow : two64 = 2 ^ 64 := by decide

/-- The word of bits b 0 .. b (n - 1). -/
def sumBits (b : Nat → Bool) : Nat → Nat
  | 0 => 0
  | n + 1 => sumBits b n + (if b n then 2 ^ n else 0)
theorem sumBits_lt (b : Nat → Bool) (n : Nat) : sumBits b n < 2 ^ n := by
  induction n with
  | zero => simp [sumBits]
  | succ n ih => simp only [sumBits, Nat.pow_succ]; split <;> omega
theorem sumBits_bit (b : Nat → Bool) (n k : Nat) : (sumBits b n).testBit k = (decide (k < n) && b k) := by
  induction n with
  | zero => simp [sumBits]
  | succ n ih =>
    have hl := sumBits_lt b n
    simp only [sumBits]
    cases hb : b n with
    | false =>
      simp only [Bool.false_eq_true, if_false, Nat.add_zero, ih]
      by_cases h : k = n
      · subst h; simp [hb]
      · have : decide (k < n) = decide (k < n + 1) := by rw [decide_eq_decide]; omega
        rw [this]
    | true =>
      simp only [if_true]
      have e : sumBits b n + 2 ^ n = 2 ^ n ||| sumBits b n := by
        have := Nat.two_pow_add_eq_or_of_lt hl 1
        rw [Nat.mul_one] at this
        omega
      rw [e, Nat.testBit_or, ih, Nat.testBit_two_pow]
      by_cases h : n = k
      · subst h; simp [hb]
      · have : decide (k < n) = decide (k < n + 1) := by rw [decide_eq_decide]; omega
        rw [this]
        simp [h]
theorem sumBits_of (x n : Nat) : sumBits (fun i => x.testBit i) n = x % 2 ^ n := by
  apply Nat.eq_of_testBit_eq
  intro k
  rw [sumBits_bit, Nat.testBit_mod_two_pow]

theorem bit_div (v k : Nat) : (v / 2 ^ k % 2 = 1) ↔ v.testBit k = true := by
  rw [Nat.testBit_eq_decide_div_mod_eq]; simp

theorem pow_split (D : Nat) (hD : D ≤ 64) : 2 ^ D * 2 ^ (64 - D) = two64 := by
  rw [← Nat.pow_add, two64_pow]; congr 1; omega
theorem ones_shr (D : Nat) (hD : D ≤ 64) : (two64 - 1) / 2 ^ (64 - D) = 2 ^ D - 1 := by
  have h := pow_split D hD
  have hp : 0 < 2 ^ (64 - D) := Nat.pow_pos (by decide)
  have hq : 0 < 2 ^ D := Nat.pow_pos (by decide)
  apply Nat.div_eq_of_lt_le
  · rw [Nat.sub_mul, Nat.one_mul, h]; omega
  · rw [← h, Nat.sub_add_cancel hq]; have := Nat.mul_pos hq hp; omega
theorem two_pow_le (D : Nat) (hD : D ≤ 64) : 2 ^ D ≤ two64 := by
  rw [two64_pow]; exact Nat.pow_le_pow_right (by decide) hD

theorem mayB_iff (A D : Nat) : mayB A D = true ↔ 1 ≤ D ∧ A + D ≤ 64 := by
  simp only [mayB, decide_eq_true_eq]; omega

def bitAt (x : Nat) (k : Nat) : Bool := x.testBit k

/-- Most, as a number. -/
theorem most_nat {A D : Nat} (h : mayB A D = true) : mostI A D = ((2 ^ D - 1 : Nat) : Int) := by
  obtain ⟨h1, h2⟩ := (mayB_iff A D).1 h
  unfold mostI
  rw [if_pos h]
  have e1 : ((64 : Int) - (D : Int)).toNat = 64 - D := by omega
  have e2 : (18446744073709551615 : Int) = ((two64 - 1 : Nat) : Int) := by decide
  rw [e1, e2, ← ones_shr D (by omega)]
  simp
theorem most_no {a d : Int} (h : ¬ mayB a d = true) : mostI a d = 0 := by unfold mostI; rw [if_neg h]

theorem wrap_nat (x : Nat) (h : x < two64) : IntKind.u64.wrap (x : Int) = (x : Int) := by
  unfold two64 at h
  rw [IntKind.wrap_u64]; omega

theorem mask_nat {A D : Nat} (h : mayB A D = true) : maskI A D = (((2 ^ D - 1) * 2 ^ A : Nat) : Int) := by
  obtain ⟨h1, h2⟩ := (mayB_iff A D).1 h
  unfold maskI
  have e1 : min ((A : Int).toNat) 64 = A := by simp; omega
  rw [e1, most_nat h]
  have e2 : (((2 ^ D - 1 : Nat) : Int) * 2 ^ A) = (((2 ^ D - 1) * 2 ^ A : Nat) : Int) := by simp
  rw [e2, wrap_nat]
  have hq : 0 < 2 ^ D := Nat.pow_pos (by decide)
  have hp : 0 < 2 ^ A := Nat.pow_pos (by decide)
  have h5 : 2 ^ D * 2 ^ A ≤ two64 := by rw [← Nat.pow_add]; exact two_pow_le _ (by omega)
  have h6 : (2 ^ D - 1) * 2 ^ A = 2 ^ D * 2 ^ A - 2 ^ A := by rw [Nat.sub_mul, Nat.one_mul]
  have h7 := Nat.mul_pos hq hp
  omega

theorem get_nat {A D V : Nat} (h : mayB A D = true) (hV : V < two64) : getI A D V = ((V / 2 ^ A % 2 ^ D : Nat) : Int) := by
  obtain ⟨h1, h2⟩ := (mayB_iff A D).1 h
  unfold getI
  have e1 : min ((A : Int).toNat) 64 = A := by simp; omega
  have e2 : ((V : Int) / 2 ^ A) = ((V / 2 ^ A : Nat) : Int) := by simp
  rw [e1, most_nat h, e2, u64_and_nat _ _ (Nat.lt_of_le_of_lt (Nat.div_le_self _ _) hV) (by have := two_pow_le D (by omega); have hq : 0 < 2 ^ D := Nat.pow_pos (by decide); unfold two64 at this; omega), Nat.and_two_pow_sub_one_eq_mod]
theorem get_no {a d v : Int} (h : ¬ mayB a d = true) (hv : 0 ≤ v) (hv' : v < two64) : getI a d v = 0 := by
  unfold getI
  obtain ⟨V, rfl⟩ := Int.eq_ofNat_of_zero_le hv
  have e2 : ((V : Int) / 2 ^ (min a.toNat 64)) = ((V / 2 ^ (min a.toNat 64) : Nat) : Int) := by simp
  have hV : V < two64 := by omega
  rw [most_no h, e2]
  have := u64_and_nat (V / 2 ^ (min a.toNat 64)) 0 (Nat.lt_of_le_of_lt (Nat.div_le_self _ _) hV) (by decide)
  simpa using this

theorem put_nat {A D W V : Nat} (h : mayB A D = true) (hW : W < two64) (hV : V < two64) :
    putI A D W V = ((sumBits (fun k => if A ≤ k ∧ k < A + D then V.testBit (k - A) else W.testBit k) 64 : Nat) : Int) := by
  obtain ⟨h1, h2⟩ := (mayB_iff A D).1 h
  have hq : 0 < 2 ^ D := Nat.pow_pos (by decide)
  have hp : 0 < 2 ^ A := Nat.pow_pos (by decide)
  have hpq : 2 ^ D * 2 ^ A ≤ two64 := by rw [← Nat.pow_add]; exact two_pow_le _ (by omega)
  have hD := two_pow_le D (by omega)
  have hmask : (2 ^ D - 1) * 2 ^ A < two64 := by rw [Nat.sub_mul, Nat.one_mul]; omega
  unfold putI
  have e1 : min ((A : Int).toNat) 64 = A := by simp; omega
  rw [e1, most_nat h, mask_nat h, u64_and_nat _ _ hV (by unfold two64 at hD; omega), Nat.and_two_pow_sub_one_eq_mod]
  have e2 : (((V % 2 ^ D : Nat) : Int) * 2 ^ A) = ((V % 2 ^ D * 2 ^ A : Nat) : Int) := by simp
  have hv2 : V % 2 ^ D * 2 ^ A < two64 := by
    have := Nat.mod_lt V hq
    have : V % 2 ^ D * 2 ^ A < 2 ^ D * 2 ^ A := Nat.mul_lt_mul_of_pos_right this hp
    omega
  rw [e2, wrap_nat _ hv2, u64_andNot_nat _ _ hW hmask, u64_or_nat _ _ (Nat.lt_of_le_of_lt Nat.and_le_left hW) hv2]
  congr 1
  apply Nat.eq_of_testBit_eq
  intro k
  rw [sumBits_bit, Nat.testBit_or, Nat.testBit_and, Nat.testBit_mul_two_pow, Nat.testBit_mod_two_pow]
  have e3 : (18446744073709551615 - (2 ^ D - 1) * 2 ^ A).testBit k = (decide (k < 64) && !((2 ^ D - 1) * 2 ^ A).testBit k) := by
    have := Nat.testBit_two_pow_sub_succ (x := (2 ^ D - 1) * 2 ^ A) (n := 64) (by rw [← two64_pow]; exact hmask) k
    rw [← this]
    congr 1
    rw [← two64_pow]; unfold two64; omega
  rw [e3, Nat.testBit_mul_two_pow, Nat.testBit_two_pow_sub_one]
  by_cases hk : k < 64
  · by_cases c1 : A ≤ k
    · by_cases c2 : k < A + D
      · have c3 : k - A < D := by omega
        simp [hk, c1, c2, c3]
      · have c3 : ¬ k - A < D := by omega
        simp [hk, c1, c2, c3]
    · simp [hk, c1]
  · have hWk : W.testBit k = false := Nat.testBit_lt_two_pow (Nat.lt_of_lt_of_le hW (by rw [two64_pow]; exact Nat.pow_le_pow_right (by decide) (by omega)))
    have c3 : ¬ k - A < D := by omega
    simp [hk, hWk, c3]
theorem put_no {a d w v : Int} (h : ¬ mayB a d = true) (hw : 0 ≤ w) (hw' : w < two64) (hv : 0 ≤ v) (hv' : v < two64) : putI a d w v = w := by
  obtain ⟨V, rfl⟩ := Int.eq_ofNat_of_zero_le hv
  obtain ⟨W, rfl⟩ := Int.eq_ofNat_of_zero_le hw
  have hV : V < two64 := by omega
  have hW : W < two64 := by omega
  unfold putI maskI
  rw [most_no h]
  have e1 := u64_and_nat V 0 hV (by decide)
  have e2 := u64_andNot_nat W 0 hW (by decide)
  have e3 := u64_or_nat W 0 hW (by decide)
  have e4 : W &&& 18446744073709551615 = W := by
    have := Nat.and_two_pow_sub_one_of_lt_two_pow (n := 64) (x := W) (by rw [← two64_pow]; exact hW)
    exact this
  simp only [Nat.and_zero, Int.natCast_zero, Nat.sub_zero, e4, Nat.or_zero] at e1 e2 e3
  have e5 : IntKind.u64.wrap 0 = 0 := by decide
  simp [e1, e5, e2, e3]
end Go.Proofs.YtlgomkocalieeaaGreatDoor.Wd
