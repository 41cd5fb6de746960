/- The lock words as numbers: no program in sight. -/
import Derived.Test.YtpbjlelbdjopaaaDoorM1
namespace Go.Proofs.YtpbjlelbdjopaaaDoor
open Go.RowKit

def InW (v : Int) : Prop := 0 ≤ v ∧ v < two64
theorem InW.nat {v : Int} (h : InW v) : ∃ V : Nat, v = V ∧ V < two64 := by
  obtain ⟨V, rfl⟩ := Int.eq_ofNat_of_zero_le h.1
  exact ⟨V, rfl, by have := h.2; omega⟩

theorem get_arith {A D : Nat} {v : Int} (h : mayB A D = true) (hv : InW v) : getI A D v = v / ((2 ^ A : Nat) : Int) % ((2 ^ D : Nat) : Int) := by
  obtain ⟨V, rfl, hV⟩ := hv.nat
  rw [get_nat h hV]; simp

theorem put_split (W A D : Nat) : 2 ^ A * (2 ^ D * (W / 2 ^ (A + D)) + W / 2 ^ A % 2 ^ D) + W % 2 ^ A = W := by
  rw [Nat.pow_add, ← Nat.div_div_eq_div_mul, Nat.div_add_mod, Nat.div_add_mod]
theorem put_arith {A D : Nat} {u v : Int} (h : mayB A D = true) (hu : InW u) (hv : InW v) :
    putI A D u v = u - u / ((2 ^ A : Nat) : Int) % ((2 ^ D : Nat) : Int) * ((2 ^ A : Nat) : Int) + v % ((2 ^ D : Nat) : Int) * ((2 ^ A : Nat) : Int) := by
  obtain ⟨V, rfl, hV⟩ := hv.nat
  obtain ⟨W, rfl, hW⟩ := hu.nat
  obtain ⟨h1, h2⟩ := (mayB_iff A D).1 h
  rw [put_nat h hW hV]
  have hX : sumBits (fun k => if A ≤ k ∧ k < A + D then V.testBit (k - A) else W.testBit k) 64 = 2 ^ A * (2 ^ D * (W / 2 ^ (A + D)) + V % 2 ^ D) + W % 2 ^ A := by
    apply Nat.eq_of_testBit_eq
    intro k
    have hp : 0 < 2 ^ A := Nat.pow_pos (by decide)
    have hq : 0 < 2 ^ D := Nat.pow_pos (by decide)
    rw [sumBits_bit, Nat.testBit_two_pow_mul_add _ (Nat.mod_lt _ hp), Nat.testBit_mod_two_pow]
    by_cases c1 : k < A
    · have c2 : ¬ A ≤ k := by omega
      have c3 : k < 64 := by omega
      simp [c1, c2, c3]
    · have c2 : A ≤ k := by omega
      rw [if_neg c1, Nat.testBit_two_pow_mul_add _ (Nat.mod_lt _ hq), Nat.testBit_mod_two_pow, Nat.testBit_div_two_pow]
      by_cases c3 : k - A < D
      · have c4 : k < A + D := by omega
        have c5 : k < 64 := by omega
        simp [c2, c3, c4, c5]
      · have c4 : ¬ k < A + D := by omega
        have e1 : k - A - D + (A + D) = k := by omega
        rw [if_neg c3, e1]
        simp only [c4, and_false, if_false]
        by_cases c5 : k < 64
        · simp [c5]
        · have hWk : W.testBit k = false := Nat.testBit_lt_two_pow (Nat.lt_of_lt_of_le hW (by rw [two64_pow]; exact Nat.pow_le_pow_right (by decide) (by omega)))
          simp [c5, hWk]
  have hs := put_split W A D
  rw [hX]
  generalize hP : 2 ^ A = P at *
  generalize hQ : 2 ^ D = Q at *
  generalize W / 2 ^ (A + D) = E at *
  have hs2 : P * (Q * E) + P * (W / P % Q) + W % P = W := by rw [← Nat.mul_add]; exact hs
  rw [Nat.mul_add]
  have e1 : ((W : Int) / (P : Int) % (Q : Int)) = ((W / P % Q : Nat) : Int) := by simp
  have e2 : ((V : Int) % (Q : Int)) = ((V % Q : Nat) : Int) := by simp
  rw [e1, e2, ← Int.natCast_mul, ← Int.natCast_mul, Nat.mul_comm (W / P % Q) P, Nat.mul_comm (V % Q) P]
  omega

theorem get_owner {v : Int} (h : InW v) : getI 0 16 v = v % 65536 := by have := get_arith (A := 0) (D := 16) (by decide) h; simpa using this
theorem get_head {v : Int} (h : InW v) : getI 16 16 v = v / 65536 % 65536 := get_arith (A := 16) (D := 16) (by decide) h
theorem put_owner {u v : Int} (h : InW u) (k : InW v) : putI 0 16 u v = u - u % 65536 + v % 65536 := by
  have := put_arith (A := 0) (D := 16) (by decide) h k
  simpa using this
theorem put_head {u v : Int} (h : InW u) (k : InW v) : putI 16 16 u v = u - u / 65536 % 65536 * 65536 + v % 65536 * 65536 := put_arith (A := 16) (D := 16) (by decide) h k

/-- Which number is a thread, and which may stand in a word. -/
def thB (t : Int) : Bool := decide (0 ≤ t ∧ t < 65535)
def msB (t : Int) : Bool := decide (-1 ≤ t ∧ t < 65535)
/-- A lock word, and its parts, as the document has them. -/
def mkB (o h : Int) : Bool := msB o && msB h
def mkW (o h : Int) : Int := if mkB o h = true then (o + 1) + (h + 1) * 65536 else 0
def isB (v : Int) : Bool := decide (v < 4294967296)
def oW (v : Int) : Int := if isB v = true then v % 65536 - 1 else -1
def hW' (v : Int) : Int := if isB v = true then v / 65536 % 65536 - 1 else -1
/-- What may come of it. -/
def takeB (v t : Int) : Bool := isB v && thB t && (oW v == -1)
def pushB (v t : Int) : Bool := isB v && thB t && (oW v != -1 && oW v != t && hW' v != t)
def drainB (v t : Int) : Bool := isB v && thB t && (oW v == t && hW' v != -1)
def handB (v t u : Int) : Bool := isB v && thB t && (oW v == t && (thB u && u != t))
def releaseB (v t : Int) : Bool := isB v && thB t && (oW v == t && hW' v == -1)
def takeW (v t : Int) : Int := if takeB v t = true then mkW t (hW' v) else 0
def pushW (v t : Int) : Int := if pushB v t = true then mkW (oW v) t else 0
def drainW (v t : Int) : Int := if drainB v t = true then mkW t (-1) else 0
def handW (v t u : Int) : Int := if handB v t u = true then mkW u (hW' v) else 0

theorem thB_iff (t : Int) : thB t = true ↔ 0 ≤ t ∧ t < 65535 := by simp [thB]
theorem msB_iff (t : Int) : msB t = true ↔ -1 ≤ t ∧ t < 65535 := by simp [msB]
theorem isB_iff (v : Int) : isB v = true ↔ v < 4294967296 := by simp [isB]
theorem ms_of_th {t : Int} (h : thB t = true) : msB t = true := by rw [thB_iff] at h; rw [msB_iff]; omega
theorem ms_none : msB (-1) = true := by decide
theorem ms_o {v : Int} (h : InW v) : msB (oW v) = true := by
  rw [msB_iff]; have := h.1; unfold oW; split <;> omega
theorem ms_h {v : Int} (h : InW v) : msB (hW' v) = true := by
  rw [msB_iff]; have := h.1; unfold hW'; split <;> omega
theorem mkB_of {o h : Int} (a : msB o = true) (b : msB h = true) : mkB o h = true := by simp [mkB, a, b]
theorem mkW_of {o h : Int} (a : msB o = true) (b : msB h = true) : mkW o h = (o + 1) + (h + 1) * 65536 := by unfold mkW; rw [if_pos (mkB_of a b)]
theorem mkW_in {o h : Int} (a : msB o = true) (b : msB h = true) : InW (mkW o h) ∧ isB (mkW o h) = true ∧ oW (mkW o h) = o ∧ hW' (mkW o h) = h := by
  rw [mkW_of a b]
  rw [msB_iff] at a b
  have i : isB ((o + 1) + (h + 1) * 65536) = true := by rw [isB_iff]; omega
  refine ⟨⟨by omega, by unfold two64; omega⟩, i, ?_, ?_⟩
  · unfold oW; rw [if_pos i]; omega
  · unfold hW'; rw [if_pos i]; omega
theorem inW_of {x : Int} (a : 0 ≤ x) (b : x < 18446744073709551616) : InW x := ⟨a, by unfold two64; omega⟩
/-- The two puts of a word. -/
theorem mk_puts {o h : Int} (a : msB o = true) (b : msB h = true) : putI 16 16 (putI 0 16 0 (o + 1)) (h + 1) = mkW o h := by
  rw [mkW_of a b]
  rw [msB_iff] at a b
  have e1 : putI 0 16 0 (o + 1) = o + 1 := by
    rw [put_owner (inW_of (by omega) (by omega)) (inW_of (by omega) (by omega))]; omega
  rw [e1, put_head (inW_of (by omega) (by omega)) (inW_of (by omega) (by omega))]
  omega
/-- A word made again of what its fields have. -/
theorem again {v : Int} (h : InW v) : mkW (v % 65536 - 1) (v / 65536 % 65536 - 1) = v % 4294967296 := by
  have := h.1
  rw [mkW_of (by rw [msB_iff]; omega) (by rw [msB_iff]; omega)]
  omega
theorem ms_field {v : Int} (h : InW v) : msB (v % 65536 - 1) = true ∧ msB (v / 65536 % 65536 - 1) = true := by
  have := h.1
  constructor <;> (rw [msB_iff]; omega)
theorem mk_back {v : Int} (h : InW v) (i : isB v = true) : mkW (oW v) (hW' v) = v := by
  have := h.1
  have j := (isB_iff v).1 i
  unfold oW hW'
  rw [if_pos i, if_pos i, again h]
  omega
end Go.Proofs.YtpbjlelbdjopaaaDoor
