/- How many bits a word has, as the library counts them: byte by byte. No walk of the program's text. -/
import Derived.Test.YtaglpodilepioaaDoorA2
namespace Go.Proofs.YtaglpodilepioaaDoor
set_option linter.unusedSimpArgs false
set_option linter.unusedVariables false
def rep (b : Nat) : Nat → Nat
  | 0 => 0
  | n + 1 => b + 256 * rep b n
theorem and_split {a m : Nat} (b M : Nat) (ha : a < 256) (hm : m < 256) : (a + 256 * b) &&& (m + 256 * M) = (a &&& m) + 256 * (b &&& M) := by
  have h1 : a &&& m < 2 ^ 8 := Nat.and_lt_two_pow _ (by omega)
  apply Nat.eq_of_testBit_eq
  intro j
  rw [Nat.testBit_and, Nat.add_comm a, Nat.add_comm m, Nat.add_comm (a &&& m), show 256 = 2 ^ 8 from rfl, Nat.testBit_two_pow_mul_add _ (by omega), Nat.testBit_two_pow_mul_add _ (by omega), Nat.testBit_two_pow_mul_add _ h1]
  split
  · rw [Nat.testBit_and]
  · rw [Nat.testBit_and]
def s1 (n x : Nat) : Nat := (x / 2 &&& rep 85 n) + (x &&& rep 85 n)
def s2 (n y : Nat) : Nat := (y / 4 &&& rep 51 n) + (y &&& rep 51 n)
def s3 (n z : Nat) : Nat := (z / 16 + z) &&& rep 15 n
def p1 (c : Nat) : Nat := (c / 2 &&& 85) + (c &&& 85)
def p2 (c : Nat) : Nat := (c / 4 &&& 51) + (c &&& 51)
def p3 (c : Nat) : Nat := (c / 16 + c) &&& 15
theorem b1 : ∀ c : Fin 256, ∀ t : Fin 2, (c.val / 2 + 128 * t.val) &&& 85 = c.val / 2 &&& 85 := by decide +kernel
theorem b2 : ∀ c : Fin 256, ∀ t : Fin 4, (c.val / 4 + 64 * t.val) &&& 51 = c.val / 4 &&& 51 := by decide +kernel
theorem b3 : ∀ c : Fin 69, ∀ t : Fin 5, (c.val / 16 + 16 * t.val + c.val) &&& 15 = (c.val / 16 + c.val) &&& 15 := by decide +kernel
theorem l1 : ∀ c : Fin 256, p1 c.val < 256 := by decide +kernel
theorem l2 : ∀ c : Fin 256, p2 (p1 c.val) ≤ 68 ∧ p2 (p1 c.val) % 16 ≤ 4 := by decide +kernel
theorem l3 : ∀ c : Fin 256, p3 (p2 (p1 c.val)) = cn c.val.testBit 8 := by decide +kernel
theorem s1_step {c : Nat} (hc : c < 256) (n r : Nat) : s1 (n + 1) (c + 256 * r) = p1 c + 256 * s1 n r := by
  unfold s1
  rw [show rep 85 (n + 1) = 85 + 256 * rep 85 n from rfl]
  have e : (c + 256 * r) / 2 = (c / 2 + 128 * (r % 2)) + 256 * (r / 2) := by omega
  have h1 := b1 ⟨c, hc⟩ ⟨r % 2, by omega⟩
  simp only at h1
  rw [e, and_split _ _ (by omega) (by omega), and_split _ _ hc (by omega), h1]
  unfold p1
  omega
theorem s2_step {c : Nat} (hc : c < 256) (n r : Nat) : s2 (n + 1) (c + 256 * r) = p2 c + 256 * s2 n r := by
  unfold s2
  rw [show rep 51 (n + 1) = 51 + 256 * rep 51 n from rfl]
  have e : (c + 256 * r) / 4 = (c / 4 + 64 * (r % 4)) + 256 * (r / 4) := by omega
  have h1 := b2 ⟨c, hc⟩ ⟨r % 4, by omega⟩
  simp only at h1
  rw [e, and_split _ _ (by omega) (by omega), and_split _ _ hc (by omega), h1]
  unfold p2
  omega
theorem s3_step {c : Nat} (hc : c ≤ 68) (n r : Nat) (hr : r % 16 ≤ 4) : s3 (n + 1) (c + 256 * r) = p3 c + 256 * s3 n r := by
  unfold s3
  rw [show rep 15 (n + 1) = 15 + 256 * rep 15 n from rfl]
  have e : (c + 256 * r) / 16 + (c + 256 * r) = (c / 16 + 16 * (r % 16) + c) + 256 * (r / 16 + r) := by omega
  have h1 := b3 ⟨c, by omega⟩ ⟨r % 16, by omega⟩
  simp only at h1
  rw [e, and_split _ _ (by omega) (by omega), h1]
  unfold p3
  omega
theorem low_nib : ∀ n x : Nat, s2 n (s1 n x) % 16 ≤ 4
  | 0, x => by simp [s2, s1, rep]
  | n + 1, x => by
    have hc : x % 256 < 256 := Nat.mod_lt _ (by omega)
    rw [show x = x % 256 + 256 * (x / 256) by omega, s1_step hc, s2_step (show p1 (x % 256) < 256 from l1 ⟨x % 256, hc⟩)]
    have := (l2 ⟨x % 256, hc⟩).2
    simp only at this
    omega
def T (n x : Nat) : Nat := s3 n (s2 n (s1 n x))
theorem T_step (n x : Nat) : T (n + 1) x = cn (x % 256).testBit 8 + 256 * T n (x / 256) := by
  have hc : x % 256 < 256 := Nat.mod_lt _ (by omega)
  unfold T
  rw [show s1 (n + 1) x = s1 (n + 1) (x % 256 + 256 * (x / 256)) by rw [show x % 256 + 256 * (x / 256) = x by omega], s1_step hc, s2_step (show p1 (x % 256) < 256 from l1 ⟨x % 256, hc⟩), s3_step (show p2 (p1 (x % 256)) ≤ 68 from (l2 ⟨x % 256, hc⟩).1) _ _ (low_nib n _)]
  have := l3 ⟨x % 256, hc⟩
  simp only at this
  rw [this]
theorem cn_split (f : NS) (m : Nat) : ∀ k, cn f (m + k) = cn f m + cn (fun j => f (m + j)) k
  | 0 => rfl
  | k + 1 => by rw [show m + (k + 1) = (m + k) + 1 by omega, cn, cn_split f m k, cn]; omega
theorem bit_low (x : Nat) : cn x.testBit 8 = cn (x % 256).testBit 8 := cn_congr fun j hj => by
  rw [show 256 = 2 ^ 8 from rfl, Nat.testBit_mod_two_pow]; simp [hj]
theorem bit_high (x k : Nat) : cn (fun j => x.testBit (8 + j)) k = cn (x / 256).testBit k := cn_congr fun j hj => by
  rw [show 256 = 2 ^ 8 from rfl, Nat.testBit_div_two_pow, Nat.add_comm]
/-- The bytes' counts. -/
def pb (x : Nat) : Nat := cn (x % 256).testBit 8
theorem pb_le (x : Nat) : pb x ≤ 8 := cn_le _ 8
theorem cn_bytes (x k : Nat) : cn x.testBit (8 + k) = pb x + cn (x / 256).testBit k := by
  rw [cn_split, bit_high, bit_low]; rfl
theorem d1 (a b : Nat) (h : a < 256) : (a + 256 * b) / 256 = b := by omega
theorem d2 (a b c : Nat) (h : a < 256) (h2 : b < 256) : (a + 256 * (b + 256 * c)) / 65536 = c := by omega
theorem d3 (a b c d e : Nat) (h : a < 256) (h2 : b < 256) (h3 : c < 256) (h4 : d < 256) : (a + 256 * (b + 256 * (c + 256 * (d + 256 * e)))) / 4294967296 = e := by omega
theorem d4 (a b : Nat) (h : a < 128) : (a + 256 * b) % 128 = a := by omega
theorem fold_any (x : Nat) : ∃ t, T 8 x = t ∧ t < 18446744073709551616 ∧ t + t / 256 < 18446744073709551616 ∧ (t + t / 256) + (t + t / 256) / 65536 < 18446744073709551616 ∧
    ((t + t / 256) + (t + t / 256) / 65536) + ((t + t / 256) + (t + t / 256) / 65536) / 4294967296 < 9223372036854775808 ∧
    (((t + t / 256) + (t + t / 256) / 65536) + ((t + t / 256) + (t + t / 256) / 65536) / 4294967296) % 128 = cn x.testBit 64 := by
  have hc : cn x.testBit 64 = pb x + (pb (x / 256) + (pb (x / 256 / 256) + (pb (x / 256 / 256 / 256) + (pb (x / 256 / 256 / 256 / 256) + (pb (x / 256 / 256 / 256 / 256 / 256) + (pb (x / 256 / 256 / 256 / 256 / 256 / 256) + (pb (x / 256 / 256 / 256 / 256 / 256 / 256 / 256) + 0))))))) := by
    have c0 : cn x.testBit 64 = pb x + cn (x / 256).testBit 56 := cn_bytes _ 56
    have c1 : cn (x / 256).testBit 56 = pb (x / 256) + cn (x / 256 / 256).testBit 48 := cn_bytes _ 48
    have c2 : cn (x / 256 / 256).testBit 48 = pb (x / 256 / 256) + cn (x / 256 / 256 / 256).testBit 40 := cn_bytes _ 40
    have c3 : cn (x / 256 / 256 / 256).testBit 40 = pb (x / 256 / 256 / 256) + cn (x / 256 / 256 / 256 / 256).testBit 32 := cn_bytes _ 32
    have c4 : cn (x / 256 / 256 / 256 / 256).testBit 32 = pb (x / 256 / 256 / 256 / 256) + cn (x / 256 / 256 / 256 / 256 / 256).testBit 24 := cn_bytes _ 24
    have c5 : cn (x / 256 / 256 / 256 / 256 / 256).testBit 24 = pb (x / 256 / 256 / 256 / 256 / 256) + cn (x / 256 / 256 / 256 / 256 / 256 / 256).testBit 16 := cn_bytes _ 16
    have c6 : cn (x / 256 / 256 / 256 / 256 / 256 / 256).testBit 16 = pb (x / 256 / 256 / 256 / 256 / 256 / 256) + cn (x / 256 / 256 / 256 / 256 / 256 / 256 / 256).testBit 8 := cn_bytes _ 8
    have c7 : cn (x / 256 / 256 / 256 / 256 / 256 / 256 / 256).testBit 8 = pb (x / 256 / 256 / 256 / 256 / 256 / 256 / 256) + cn (x / 256 / 256 / 256 / 256 / 256 / 256 / 256 / 256).testBit 0 := cn_bytes _ 0
    rw [c0, c1, c2, c3, c4, c5, c6, c7]
    rfl
  have hT : T 8 x = pb x + 256 * (pb (x / 256) + 256 * (pb (x / 256 / 256) + 256 * (pb (x / 256 / 256 / 256) + 256 * (pb (x / 256 / 256 / 256 / 256) + 256 * (pb (x / 256 / 256 / 256 / 256 / 256) + 256 * (pb (x / 256 / 256 / 256 / 256 / 256 / 256) + 256 * (pb (x / 256 / 256 / 256 / 256 / 256 / 256 / 256) + 256 * 0))))))) := by
    have h0 : ∀ y, T 0 y = 0 := fun y => by simp [T, s3, rep]
    have hs : ∀ n y, T (n + 1) y = pb y + 256 * T n (y / 256) := T_step
    rw [hs 7, hs 6, hs 5, hs 4, hs 3, hs 2, hs 1, hs 0, h0]
  refine ⟨_, hT, ?_⟩
  rw [hc]
  have h0 := pb_le x
  have h1 := pb_le (x / 256)
  have h2 := pb_le (x / 256 / 256)
  have h3 := pb_le (x / 256 / 256 / 256)
  have h4 := pb_le (x / 256 / 256 / 256 / 256)
  have h5 := pb_le (x / 256 / 256 / 256 / 256 / 256)
  have h6 := pb_le (x / 256 / 256 / 256 / 256 / 256 / 256)
  have h7 := pb_le (x / 256 / 256 / 256 / 256 / 256 / 256 / 256)
  clear hT hc
  generalize pb (x / 256 / 256 / 256 / 256 / 256 / 256 / 256) = a7 at *
  generalize pb (x / 256 / 256 / 256 / 256 / 256 / 256) = a6 at *
  generalize pb (x / 256 / 256 / 256 / 256 / 256) = a5 at *
  generalize pb (x / 256 / 256 / 256 / 256) = a4 at *
  generalize pb (x / 256 / 256 / 256) = a3 at *
  generalize pb (x / 256 / 256) = a2 at *
  generalize pb (x / 256) = a1 at *
  generalize pb x = a0 at *
  have e1 : (a0 + 256 * (a1 + 256 * (a2 + 256 * (a3 + 256 * (a4 + 256 * (a5 + 256 * (a6 + 256 * (a7 + 256 * 0)))))))) / 256 = a1 + 256 * (a2 + 256 * (a3 + 256 * (a4 + 256 * (a5 + 256 * (a6 + 256 * (a7 + 256 * 0)))))) := d1 _ _ (by omega)
  rw [e1]
  clear e1
  have f1 : a0 + 256 * (a1 + 256 * (a2 + 256 * (a3 + 256 * (a4 + 256 * (a5 + 256 * (a6 + 256 * (a7 + 256 * 0))))))) + (a1 + 256 * (a2 + 256 * (a3 + 256 * (a4 + 256 * (a5 + 256 * (a6 + 256 * (a7 + 256 * 0))))))) =
      (a0 + a1) + 256 * ((a1 + a2) + 256 * ((a2 + a3) + 256 * ((a3 + a4) + 256 * ((a4 + a5) + 256 * ((a5 + a6) + 256 * ((a6 + a7) + 256 * a7)))))) := by omega
  rw [f1]
  clear f1
  have e2 : ((a0 + a1) + 256 * ((a1 + a2) + 256 * ((a2 + a3) + 256 * ((a3 + a4) + 256 * ((a4 + a5) + 256 * ((a5 + a6) + 256 * ((a6 + a7) + 256 * a7))))))) / 65536 = (a2 + a3) + 256 * ((a3 + a4) + 256 * ((a4 + a5) + 256 * ((a5 + a6) + 256 * ((a6 + a7) + 256 * a7)))) := d2 _ _ _ (by omega) (by omega)
  rw [e2]
  clear e2
  have f2 : (a0 + a1) + 256 * ((a1 + a2) + 256 * ((a2 + a3) + 256 * ((a3 + a4) + 256 * ((a4 + a5) + 256 * ((a5 + a6) + 256 * ((a6 + a7) + 256 * a7)))))) + ((a2 + a3) + 256 * ((a3 + a4) + 256 * ((a4 + a5) + 256 * ((a5 + a6) + 256 * ((a6 + a7) + 256 * a7))))) =
      (a0 + a1 + a2 + a3) + 256 * ((a1 + a2 + a3 + a4) + 256 * ((a2 + a3 + a4 + a5) + 256 * ((a3 + a4 + a5 + a6) + 256 * ((a4 + a5 + a6 + a7) + 256 * ((a5 + a6 + a7) + 256 * ((a6 + a7) + 256 * a7)))))) := by omega
  rw [f2]
  clear f2
  have e3 : ((a0 + a1 + a2 + a3) + 256 * ((a1 + a2 + a3 + a4) + 256 * ((a2 + a3 + a4 + a5) + 256 * ((a3 + a4 + a5 + a6) + 256 * ((a4 + a5 + a6 + a7) + 256 * ((a5 + a6 + a7) + 256 * ((a6 + a7) + 256 * a7))))))) / 4294967296 = (a4 + a5 + a6 + a7) + 256 * ((a5 + a6 + a7) + 256 * ((a6 + a7) + 256 * a7)) := d3 _ _ _ _ _ (by omega) (by omega) (by omega) (by omega)
  rw [e3]
  clear e3
  refine ⟨by omega, by omega, by omega, by omega, ?_⟩
  have f3 : (a0 + a1 + a2 + a3) + 256 * ((a1 + a2 + a3 + a4) + 256 * ((a2 + a3 + a4 + a5) + 256 * ((a3 + a4 + a5 + a6) + 256 * ((a4 + a5 + a6 + a7) + 256 * ((a5 + a6 + a7) + 256 * ((a6 + a7) + 256 * a7)))))) + ((a4 + a5 + a6 + a7) + 256 * ((a5 + a6 + a7) + 256 * ((a6 + a7) + 256 * a7))) =
      (a0 + (a1 + (a2 + (a3 + (a4 + (a5 + (a6 + (a7 + 0)))))))) + 256 * ((a1 + a2 + a3 + a4 + a5 + a6 + a7) + 256 * ((a2 + a3 + a4 + a5 + a6 + a7) + 256 * ((a3 + a4 + a5 + a6 + a7) + 256 * ((a4 + a5 + a6 + a7) + 256 * ((a5 + a6 + a7) + 256 * ((a6 + a7) + 256 * a7)))))) := by omega
  rw [f3]
  clear f3
  exact d4 _ _ (by omega)
end Go.Proofs.YtaglpodilepioaaDoor
