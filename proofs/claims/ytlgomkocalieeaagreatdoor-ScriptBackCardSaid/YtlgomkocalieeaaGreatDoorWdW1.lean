/- The headers' words as numbers: no program in sight. -/
import Derived.Test.YtlgomkocalieeaaGreatDoorWdM1
namespace Go.Proofs.YtlgomkocalieeaaGreatDoor.Wd
set_option maxRecDepth 100000
open Go.RowKit

def InW (v : Int) : Prop := 0 ≤ v ∧ v < two64
theorem InW.nat {v : Int} (h : InW v) : ∃ V : Nat, v = V ∧ V < two64 := by
  obtain ⟨V, rfl⟩ := Int.eq_ofNat_of_zero_le h.1
  exact ⟨V, rfl, by have := h.2; omega⟩

theorem get_arith {A D : Nat} {v : Int} (h : mayB A D = true) (hv : InW v) : getI A D v = v / ((2 ^ A : Nat) : Int) % ((2 ^ D : Nat) : Int) := by
  obtain ⟨V, rfl, hV⟩ := hv.nat
  rw [get_nat h hV]; simp

theorem put_split (W A D : Nat) : 2 ^ A * (2 ^ D * (W / 2 ^ (A + D)) + W / 2 ^ A % 2 ^ D) + W % 2 ^ A = W := by
  rw [Nat.pow_add, ← Nat.div_div_eq_div_mul, Nat.div_add_mod, Nat.div_add_mod]
theorem put_arith {A D : Nat} {u v : Int} (h : mayB A D = true) (hu : InW u) (hv : InW v) :
    putI A D u v = u - u / ((2 ^ A : Nat) : Int) % ((2 ^ D : Nat) : Int) * ((2 ^ A : Nat) : Int) + v % ((2 ^ D : Nat) : Int) * ((2 ^ A : Nat) : Int) := by
  obtain ⟨V, rfl, hV⟩ := hv.nat
  obtain ⟨W, rfl, hW⟩ := hu.nat
  obtain ⟨h1, h2⟩ := (mayB_iff A D).1 h
  rw [put_nat h hW hV]
  have hX : sumBits (fun k => if A ≤ k ∧ k < A + D then V.testBit (k - A) else W.testBit k) 64 = 2 ^ A * (2 ^ D * (W / 2 ^ (A + D)) + V % 2 ^ D) + W % 2 ^ A := by
    apply Nat.eq_of_testBit_eq
    intro k
    have hp : 0 < 2 ^ A := Nat.pow_pos (by decide)
    have hq : 0 < 2 ^ D := Nat.pow_pos (by decide)
    rw [sumBits_bit, Nat.testBit_two_pow_mul_add _ (Nat.mod_lt _ hp), Nat.testBit_mod_two_pow]
    by_cases c1 : k < A
    · have c2 : ¬ A ≤ k := by omega
      have c3 : k < 64 := by omega
      simp [c1, c2, c3]
    · have c2 : A ≤ k := by omega
      rw [if_neg c1, Nat.testBit_two_pow_mul_add _ (Nat.mod_lt _ hq), Nat.testBit_mod_two_pow, Nat.testBit_div_two_pow]
      by_cases c3 : k - A < D
      · have c4 : k < A + D := by omega
        have c5 : k < 64 := by omega
        simp [c2, c3, c4, c5]
      · have c4 : ¬ k < A + D := by omega
        have e1 : k - A - D + (A + D) = k := by omega
        rw [if_neg c3, e1]
        simp only [c4, and_false, if_false]
        by_cases c5 : k < 64
        · simp [c5]
        · have hWk : W.testBit k = false := Nat.testBit_lt_two_pow (Nat.lt_of_lt_of_le hW (by rw [two64_pow]; exact Nat.pow_le_pow_right (by decide) (by omega)))
          simp [c5, hWk]
  have hs := put_split W A D
  rw [hX]
  generalize hP : 2 ^ A = P at *
  generalize hQ : 2 ^ D = Q at *
  generalize W / 2 ^ (A + D) = E at *
  have hs2 : P * (Q * E) + P * (W / P % Q) + W % P = W := by rw [← Nat.mul_add]; exact hs
  rw [Nat.mul_add]
  have e1 : ((W : Int) / (P : Int) % (Q : Int)) = ((W / P % Q : Nat) : Int) := by simp
  have e2 : ((V : Int) % (Q : Int)) = ((V % Q : Nat) : Int) := by simp
  rw [e1, e2, ← Int.natCast_mul, ← Int.natCast_mul, Nat.mul_comm (W / P % Q) P, Nat.mul_comm (V % Q) P]
  omega

theorem get_tag {v : Int} (h : InW v) : getI 0 3 v = v % 8 := by have := get_arith (A := 0) (D := 3) (by decide) h; simpa using this
theorem get_age {v : Int} (h : InW v) : getI 3 4 v = v / 8 % 16 := get_arith (A := 3) (D := 4) (by decide) h
theorem get_epoch {v : Int} (h : InW v) : getI 8 8 v = v / 256 % 256 := get_arith (A := 8) (D := 8) (by decide) h
theorem get_hash {v : Int} (h : InW v) : getI 8 31 v = v / 256 % 2147483648 := get_arith (A := 8) (D := 31) (by decide) h
theorem get_owner {v : Int} (h : InW v) : getI 24 16 v = v / 16777216 % 65536 := get_arith (A := 24) (D := 16) (by decide) h
theorem get_rec {v : Int} (h : InW v) : getI 8 16 v = v / 256 % 65536 := get_arith (A := 8) (D := 16) (by decide) h
theorem get_gen {v : Int} (h : InW v) : getI 24 24 v = v / 16777216 % 16777216 := get_arith (A := 24) (D := 24) (by decide) h
theorem put_age {u v : Int} (h : InW u) (k : InW v) : putI 3 4 u v = u - u / 8 % 16 * 8 + v % 16 * 8 := put_arith (A := 3) (D := 4) (by decide) h k
theorem put_epoch {u v : Int} (h : InW u) (k : InW v) : putI 8 8 u v = u - u / 256 % 256 * 256 + v % 256 * 256 := put_arith (A := 8) (D := 8) (by decide) h k
theorem put_hash {u v : Int} (h : InW u) (k : InW v) : putI 8 31 u v = u - u / 256 % 2147483648 * 256 + v % 2147483648 * 256 := put_arith (A := 8) (D := 31) (by decide) h k
theorem put_owner {u v : Int} (h : InW u) (k : InW v) : putI 24 16 u v = u - u / 16777216 % 65536 * 16777216 + v % 65536 * 16777216 := put_arith (A := 24) (D := 16) (by decide) h k
theorem put_rec {u v : Int} (h : InW u) (k : InW v) : putI 8 16 u v = u - u / 256 % 65536 * 256 + v % 65536 * 256 := put_arith (A := 8) (D := 16) (by decide) h k
theorem put_gen {u v : Int} (h : InW u) (k : InW v) : putI 24 24 u v = u - u / 16777216 % 16777216 * 16777216 + v % 16777216 * 16777216 := put_arith (A := 24) (D := 24) (by decide) h k

/-- A header's parts, each in its type's bounds. -/
structure OkH (k a e h o r s g : Int) : Prop where
  a0 : 0 ≤ a
  a1 : a ≤ 255
  e0 : 0 ≤ e
  e1 : e ≤ 255
  h0 : 0 ≤ h
  h1 : h ≤ 4294967295
  o0 : 0 ≤ o
  o1 : o ≤ 65535
  r0 : 0 ≤ r
  r1 : r ≤ 65535
  s0 : 0 ≤ s
  s1 : s ≤ 65535
  g0 : 0 ≤ g
  g1 : g ≤ 4294967295

/-- A header's word, as the document has it. -/
def pI (k a h o r s g e : Int) : Int :=
  if k = 1 then o * 16777216 + r * 256
  else if k = 2 then 1 + h % 2147483648 * 256 + a % 16 * 8
  else if k = 3 then 2 + g % 16777216 * 16777216 + s * 256
  else if k = 4 then 5 + o * 16777216 + e * 256 + a % 16 * 8
  else 0
/-- Which header may be. -/
def hMay (k a e h o r s g : Int) : Prop :=
  (k = 1 ∧ a = 0 ∧ e = 0 ∧ h = 0 ∧ s = 0 ∧ g = 0 ∧ 0 < o) ∨ (k = 2 ∧ e = 0 ∧ o = 0 ∧ r = 0 ∧ s = 0 ∧ g = 0 ∧ a < 16 ∧ h < 2147483648) ∨
  (k = 3 ∧ a = 0 ∧ e = 0 ∧ h = 0 ∧ o = 0 ∧ r = 0 ∧ g < 16777216) ∨ (k = 4 ∧ h = 0 ∧ r = 0 ∧ s = 0 ∧ g = 0 ∧ a < 16) ∨
  (k = 5 ∧ a = 0 ∧ e = 0 ∧ h = 0 ∧ o = 0 ∧ r = 0 ∧ s = 0 ∧ g = 0)
instance (k a e h o r s g : Int) : Decidable (hMay k a e h o r s g) := by unfold hMay; infer_instance
def hMayB (k a e h o r s g : Int) : Bool := decide (hMay k a e h o r s g)

/-- A word's parts, whatever stands beside them. -/
def uK (v : Int) : Int := if v = 0 then 5 else if v % 8 = 0 then (if v / 16777216 % 65536 = 0 then 0 else 1) else if v % 8 = 1 then 2 else if v % 8 = 2 then 3 else if v % 8 = 5 then 4 else 0
def uA (v : Int) : Int := if v % 8 = 1 ∨ v % 8 = 5 then v / 8 % 16 else 0
def uE (v : Int) : Int := if v % 8 = 5 then v / 256 % 256 else 0
def uH (v : Int) : Int := if v % 8 = 1 then v / 256 % 2147483648 else 0
def uO (v : Int) : Int := if v % 8 = 0 ∨ v % 8 = 5 then v / 16777216 % 65536 else 0
def uR (v : Int) : Int := if v % 8 = 0 ∧ v / 16777216 % 65536 ≠ 0 then v / 256 % 65536 else 0
def uS (v : Int) : Int := if v % 8 = 2 then v / 256 % 65536 else 0
def uG (v : Int) : Int := if v % 8 = 2 then v / 16777216 % 16777216 else 0

theorem u_ok {v : Int} (h : InW v) : OkH (uK v) (uA v) (uE v) (uH v) (uO v) (uR v) (uS v) (uG v) := by
  obtain ⟨h0, h1⟩ := h
  unfold two64 at h1
  constructor <;> (simp only [uA, uE, uH, uO, uR, uS, uG]; split <;> omega)
theorem p_inW {k a e h o r s g : Int} (b : OkH k a e h o r s g) : InW (pI k a h o r s g e) := by
  obtain ⟨_, _, _, _, _, _, _, _, _, _, _, _, _, _⟩ := b
  unfold InW two64 pI
  constructor <;> (repeat' split) <;> omega

/-- A word that is a header's. -/
def gW (v : Int) : Prop := pI (uK v) (uA v) (uH v) (uO v) (uR v) (uS v) (uG v) (uE v) = v
instance (v : Int) : Decidable (gW v) := by unfold gW; infer_instance

theorem w_in {x : Int} (h0 : 0 ≤ x) (h1 : x < 18446744073709551616) : IntKind.u64.wrap x = x := by
  rw [IntKind.wrap_u64]; omega
theorem in_of {x : Int} (h0 : 0 ≤ x) (h1 : x < 18446744073709551616) : InW x := ⟨h0, by unfold two64; omega⟩

theorem p1_val {a e h o r s g : Int} (b : OkH 1 a e h o r s g) : putI 8 16 (putI 24 16 0 (IntKind.u64.wrap o)) (IntKind.u64.wrap r) = pI 1 a h o r s g e := by
  obtain ⟨a0, a1, e0, e1, h0, h1, o0, o1, r0, r1, s0, s1, g0, g1⟩ := b
  rw [w_in o0 (by omega), w_in r0 (by omega), put_owner (in_of (by omega) (by omega)) (in_of o0 (by omega)), put_rec (in_of (by omega) (by omega)) (in_of r0 (by omega))]
  simp only [pI, if_true]
  omega
theorem p2_val {a e h o r s g : Int} (b : OkH 2 a e h o r s g) : putI 3 4 (putI 8 31 1 (IntKind.u64.wrap h)) (IntKind.u64.wrap a) = pI 2 a h o r s g e := by
  obtain ⟨a0, a1, e0, e1, h0, h1, o0, o1, r0, r1, s0, s1, g0, g1⟩ := b
  rw [w_in h0 (by omega), w_in a0 (by omega), put_hash (in_of (by omega) (by omega)) (in_of h0 (by omega)), put_age (in_of (by omega) (by omega)) (in_of a0 (by omega))]
  simp only [pI, if_true, show ¬ (2 : Int) = 1 from by decide, if_false]
  omega
theorem p3_val {a e h o r s g : Int} (b : OkH 3 a e h o r s g) : putI 8 16 (putI 24 24 2 (IntKind.u64.wrap g)) (IntKind.u64.wrap s) = pI 3 a h o r s g e := by
  obtain ⟨a0, a1, e0, e1, h0, h1, o0, o1, r0, r1, s0, s1, g0, g1⟩ := b
  rw [w_in g0 (by omega), w_in s0 (by omega), put_gen (in_of (by omega) (by omega)) (in_of g0 (by omega)), put_rec (in_of (by omega) (by omega)) (in_of s0 (by omega))]
  simp only [pI, if_true, show ¬ (3 : Int) = 1 from by decide, show ¬ (3 : Int) = 2 from by decide, if_false]
  omega
theorem p4_val {a e h o r s g : Int} (b : OkH 4 a e h o r s g) : putI 3 4 (putI 8 8 (putI 24 16 5 (IntKind.u64.wrap o)) (IntKind.u64.wrap e)) (IntKind.u64.wrap a) = pI 4 a h o r s g e := by
  obtain ⟨a0, a1, e0, e1, h0, h1, o0, o1, r0, r1, s0, s1, g0, g1⟩ := b
  rw [w_in o0 (by omega), w_in e0 (by omega), w_in a0 (by omega), put_owner (in_of (by omega) (by omega)) (in_of o0 (by omega)), put_epoch (in_of (by omega) (by omega)) (in_of e0 (by omega)), put_age (in_of (by omega) (by omega)) (in_of a0 (by omega))]
  simp only [pI, if_true, show ¬ (4 : Int) = 1 from by decide, show ¬ (4 : Int) = 2 from by decide, show ¬ (4 : Int) = 3 from by decide, if_false]
  omega
theorem p0_val {k a e h o r s g : Int} (h1 : ¬ k = 1) (h2 : ¬ k = 2) (h3 : ¬ k = 3) (h4 : ¬ k = 4) : 0 = pI k a h o r s g e := by
  simp only [pI, if_neg h1, if_neg h2, if_neg h3, if_neg h4]
end Go.Proofs.YtlgomkocalieeaaGreatDoor.Wd
