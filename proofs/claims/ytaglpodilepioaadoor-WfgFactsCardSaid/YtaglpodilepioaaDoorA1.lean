/- Words of 64 bits as sets of numbers; how many bits a word has. -/
import Derived.Test.YtaglpodilepioaaDoorKit
import Derived.Laws.Bits64b
import Derived.Lib.TrailingZeros
import Derived.Shelf.Spec.TrailingZeros
namespace Go.Proofs.YtaglpodilepioaaDoor
open Go.RowKit
set_option linter.unusedSimpArgs false
set_option linter.unusedVariables false

abbrev NS := Nat → Bool
/-- A graph: of each node those to which it has edges. -/
abbrev Gr := Nat → NS
def wd (f : NS) : Nat → Nat
  | 0 => 0
  | k + 1 => wd f k ||| (if f k then 2 ^ k else 0)
theorem wd_bit (f : NS) (k j : Nat) : (wd f k).testBit j = (decide (j < k) && f j) := by
  induction k with
  | zero => simp [wd]
  | succ k ih =>
    rw [wd, Nat.testBit_or, ih]
    by_cases e : j = k
    · subst e
      by_cases hf : f j
      · simp [hf]
      · simp [hf]
    · have h1 : (if f k then 2 ^ k else 0 : Nat).testBit j = false := by
        split
        · rw [Nat.testBit_two_pow]; simp; omega
        · simp
      rw [h1, Bool.or_false]
      have : decide (j < k + 1) = decide (j < k) := by by_cases q : j < k <;> simp [q] <;> omega
      rw [this]
theorem wd_lt (f : NS) (k : Nat) : wd f k < 2 ^ k := by
  induction k with
  | zero => simp [wd]
  | succ k ih =>
    rw [wd]
    refine Nat.or_lt_two_pow (Nat.lt_of_lt_of_le ih (Nat.pow_le_pow_right (by omega) (by omega))) ?_
    split
    · exact Nat.pow_lt_pow_right (by omega) (by omega)
    · exact Nat.pos_of_ne_zero (by simp)
def wv (f : NS) : Nat := wd f 64
theorem wv_lt (f : NS) : wv f < 18446744073709551616 := wd_lt _ 64
theorem wv_bit (f : NS) (j : Nat) : (wv f).testBit j = (decide (j < 64) && f j) := wd_bit f 64 j
theorem wv_eq {f g : NS} (h : ∀ j, j < 64 → f j = g j) : wv f = wv g := by
  apply Nat.eq_of_testBit_eq
  intro j
  rw [wv_bit, wv_bit]
  by_cases hj : j < 64
  · rw [h j hj]
  · simp [hj]
theorem wv_of {x : Nat} (hx : x < 18446744073709551616) : wv x.testBit = x := by
  apply Nat.eq_of_testBit_eq
  intro j
  rw [wv_bit]
  by_cases hj : j < 64
  · simp [hj]
  · rw [Nat.testBit_lt_two_pow (Nat.lt_of_lt_of_le hx (show 2 ^ 64 ≤ 2 ^ j from Nat.pow_le_pow_right (by omega) (by omega)))]
    simp
def uni (f g : NS) : NS := fun j => f j || g j
def cap (f g : NS) : NS := fun j => f j && g j
def sub (f g : NS) : NS := fun j => f j && !g j
def one (n : Nat) : NS := fun j => decide (j = n)
def non : NS := fun _ => false
theorem wv_or (f g : NS) : wv f ||| wv g = wv (uni f g) := by
  apply Nat.eq_of_testBit_eq
  intro j
  rw [Nat.testBit_or, wv_bit, wv_bit, wv_bit]
  unfold uni
  by_cases hj : j < 64 <;> simp [hj]
theorem wv_and (f g : NS) : wv f &&& wv g = wv (cap f g) := by
  apply Nat.eq_of_testBit_eq
  intro j
  rw [Nat.testBit_and, wv_bit, wv_bit, wv_bit]
  unfold cap
  by_cases hj : j < 64 <;> simp [hj]
theorem wv_one {n : Nat} (hn : n < 64) : wv (one n) = 2 ^ n := by
  apply Nat.eq_of_testBit_eq
  intro j
  rw [wv_bit, Nat.testBit_two_pow]
  unfold one
  by_cases e : j = n
  · subst e; simp [hn]
  · have : ¬ n = j := fun h => e h.symm
    simp [e, this]
theorem wv_non : wv non = 0 := by decide +kernel
theorem wv_zero {f : NS} : wv f = 0 ↔ ∀ j, j < 64 → f j = false := by
  constructor
  · intro h j hj
    have h1 : (wv f).testBit j = false := by rw [h]; simp
    rw [wv_bit] at h1
    simpa [hj] using h1
  · intro h
    rw [← wv_non]
    exact wv_eq h
theorem or_u (f g : NS) : bits .or .u64 (wv f : Int) (wv g : Int) = (wv (uni f g) : Int) := by
  rw [bits_or_u64_nat _ _ (wv_lt f) (wv_lt g), wv_or]
theorem and_u (f g : NS) : bits .and .u64 (wv f : Int) (wv g : Int) = (wv (cap f g) : Int) := by
  rw [bits_and_u64_nat _ _ (wv_lt f) (wv_lt g), wv_and]
theorem no_u (f g : NS) : bits .andNot .u64 (wv f : Int) (wv g : Int) = (wv (sub f g) : Int) := by
  rw [u64_andNot_nat _ _ (wv_lt f) (wv_lt g)]
  congr 1
  apply Nat.eq_of_testBit_eq
  intro j
  have h1 : 18446744073709551615 - wv g = 2 ^ 64 - (wv g + 1) := by omega
  rw [Nat.testBit_and, h1, Nat.testBit_two_pow_sub_succ (wv_lt g), wv_bit, wv_bit, wv_bit]
  unfold sub
  by_cases hj : j < 64 <;> simp [hj]
theorem two_u {n : Nat} (hn : n < 64) : IntKind.u64.wrap ((2 : Int) ^ n) = (wv (one n) : Int) := by
  have h1 : 2 ^ n < 2 ^ 64 := Nat.pow_lt_pow_right (by omega) (by omega)
  have h2 : ((2 ^ n : Nat) : Int) = (2 : Int) ^ n := by push_cast; rfl
  rw [wv_one hn, ← h2, IntKind.wrap_u64]
  generalize 2 ^ n = a at *
  omega

/-- The least one. -/
def IsL (f : NS) (k : Nat) : Prop := k < 64 ∧ f k = true ∧ ∀ j, j < k → f j = false
theorem IsL.one {f : NS} {a b : Nat} (h : IsL f a) (k : IsL f b) : a = b := by
  rcases Nat.lt_trichotomy a b with q | q | q
  · have := k.2.2 a q; rw [h.2.1] at this; cases this
  · exact q
  · have := h.2.2 b q; rw [k.2.1] at this; cases this
theorem ctz_is {f : NS} (h0 : wv f ≠ 0) : IsL f (Lib.ctz 64 (wv f)) := by
  have hx := wv_lt f
  obtain ⟨m, hm, hk⟩ := Lib.ctzFrom_spec 64 (wv f) (by omega) hx
  have e : Lib.ctz 64 (wv f) = Lib.ctzFrom 64 (wv f) := by unfold Lib.ctz; rw [if_neg h0]
  rw [e]
  have hb : ∀ j, j < 64 → (wv f).testBit j = f j := fun j hj => by rw [wv_bit]; simp [hj]
  refine ⟨hk, ?_, fun j hj => ?_⟩
  · rw [← hb _ hk]
    generalize Lib.ctzFrom 64 (wv f) = t at *
    rw [hm, Nat.testBit_two_pow_mul]
    simp [Nat.testBit_zero]
  · rw [← hb _ (by omega)]
    generalize Lib.ctzFrom 64 (wv f) = t at *
    rw [hm, Nat.testBit_two_pow_mul]
    simp; omega

/-- A set's numbers, rising. -/
def setL (f : NS) : List Nat := (List.range 64).filter f
def low (f : NS) (m : Nat) : List Nat := (List.range m).filter f
def hi (f : NS) (m : Nat) : NS := fun j => f j && decide (m ≤ j)
theorem mem_setL {f : NS} {k : Nat} : k ∈ setL f ↔ k < 64 ∧ f k = true := by unfold setL; rw [List.mem_filter, List.mem_range]
theorem low_len (f : NS) (m : Nat) : (low f m).length ≤ m := by
  have := List.length_filter_le f (List.range m)
  unfold low
  simpa using this
theorem low_step {f : NS} {m q : Nat} (h : IsL (hi f m) q) : low f (q + 1) = low f m ++ [q] := by
  obtain ⟨h1, h2, h3⟩ := h
  unfold hi at h2 h3
  simp only [Bool.and_eq_true, decide_eq_true_eq] at h2
  have h4 : ∀ n, m ≤ n → n ≤ q → low f n = low f m := by
    intro n hmn
    induction n with
    | zero => intro _; have : m = 0 := by omega
              rw [this]
    | succ n ih =>
      intro hn
      by_cases e : m = n + 1
      · rw [e]
      · have hf : f n = false := by
          have := h3 n (by omega)
          simp only [Bool.and_eq_false_iff, decide_eq_false_iff_not] at this
          rcases this with h | h
          · exact h
          · omega
        unfold low
        rw [List.range_succ, List.filter_append]
        simp [hf]
        exact ih (by omega) (by omega)
  rw [← h4 q h2.2 (Nat.le_refl _)]
  unfold low
  rw [List.range_succ, List.filter_append]
  simp [h2.1]
theorem low_end {f : NS} {m : Nat} (hm : m ≤ 64) (h : ∀ j, j < 64 → hi f m j = false) : low f m = setL f := by
  unfold low setL
  have e : 64 = m + (64 - m) := by omega
  rw [e, List.range_add, List.filter_append]
  have : List.filter f (List.map (fun x => m + x) (List.range (64 - m))) = [] := by
    rw [List.filter_eq_nil_iff]
    intro x hx
    rw [List.mem_map] at hx
    obtain ⟨y, hy, rfl⟩ := hx
    have := h (m + y) (by have := List.mem_range.1 hy; omega)
    unfold hi at this
    simp at this
    simp [this]
  rw [this, List.append_nil]
theorem hi_step {f : NS} {m q : Nat} (h : IsL (hi f m) q) : ∀ j, j < 64 → sub (hi f m) (one q) j = hi f (q + 1) j := by
  intro j _
  obtain ⟨h1, h2, h3⟩ := h
  have hm : m ≤ q := by unfold hi at h2; simp at h2; exact h2.2
  have h4 := h3 j
  unfold sub one hi at *
  by_cases e : j = q
  · subst e; simp
  · by_cases q1 : j < q
    · have := h4 q1
      rw [this]
      have : ¬ q + 1 ≤ j := by omega
      simp [this]
    · have a1 : m ≤ j := by omega
      have a2 : q + 1 ≤ j := by omega
      simp [a1, a2, e]
theorem hi_0 (f : NS) : hi f 0 = f := by funext j; simp [hi]
theorem setL_len (f : NS) : (setL f).length ≤ 64 := low_len f 64
end Go.Proofs.YtaglpodilepioaaDoor
