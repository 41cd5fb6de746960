/- Words, parts, texts: what package op writes, of no program. -/
import Derived.Test.YtapalbokfbobhaaDoorA1
import Derived.Lib.Join
import Derived.Lib.ItoaMem
namespace Go.Proofs.YtapalbokfbobhaaDoor
open Go.Lib (itoa decDigits)
/-- The kinds' words. -/
def wd : Nat → List UInt8
  | 1 => [101, 110, 116, 101, 114]
  | 2 => [116, 114, 121]
  | 3 => [101, 120, 105, 116]
  | 4 => [119, 97, 105, 116]
  | 5 => [110, 111, 116, 105, 102, 121]
  | 6 => [97, 108, 108]
  | 7 => [104, 97, 115, 104]
  | 8 => [104, 111, 108, 100, 115]
  | 9 => [105, 110, 116, 101, 114, 114, 117, 112, 116]
  | _ => []
/-- An operation's text. -/
def partO (x : Op3) : List UInt8 :=
  if x.1 = 9 then wd 9 ++ 32 :: itoa x.2.2
  else if x.1 = 4 ∧ 0 < x.2.2 then wd 4 ++ 32 :: (itoa x.2.1 ++ 32 :: itoa x.2.2)
  else wd x.1.toNat ++ 32 :: itoa x.2.1
/-- A program's text. -/
def textO (l : List Op3) : List UInt8 := Lib.join (l.map partO) [59, 32]
theorem wd_len (k : Nat) : (wd k).length ≤ 9 := by
  unfold wd; split <;> decide
theorem nDigits_le {n : Nat} (h : n ≤ 1000000) : Lib.nDigits n ≤ 7 := by
  rcases Nat.lt_or_ge n 10 with h1 | h1
  · rw [Lib.nDigits_small h1]; omega
  · refine Classical.byContradiction fun q => ?_
    have h2 : Lib.nDigits n ≤ 8 ∨ 8 < Lib.nDigits n := by omega
    have h3 := Lib.nDigits_big (u := n) (by omega)
    have key : ∀ m u : Nat, m < Lib.nDigits u → 10 ^ m ≤ u ∨ m = 0 := by
      intro m
      induction m with
      | zero => intro u _; exact .inr rfl
      | succ m ih =>
        intro u hu
        by_cases h10 : u < 10
        · rw [Lib.nDigits_small h10] at hu; omega
        · rw [Lib.nDigits_big h10] at hu
          refine .inl ?_
          rcases ih (u / 10) (by omega) with h4 | h4
          · rw [Nat.pow_succ]; omega
          · subst h4; omega
    rcases key 7 n (by omega) with h4 | h4
    · have : (10 : Nat) ^ 7 = 10000000 := by decide
      omega
    · omega
theorem itoa_len {n : Int} (h0 : 0 ≤ n) (h : n ≤ 1000000) : (itoa n).length ≤ 7 := by
  obtain ⟨m, rfl⟩ : ∃ m : Nat, n = m := ⟨n.toNat, by omega⟩
  rw [Lib.itoa_nonneg, Lib.decDigits_length]
  exact nDigits_le (by omega)
/-- What one that may be is. -/
theorem may_out {x : Op3} (h : mayO x = true) : 0 ≤ x.2.1 ∧ x.2.1 < 8 ∧ 0 ≤ x.2.2 ∧ x.2.2 ≤ 1000000 ∧ (x.1 = 1 ∨ x.1 = 2 ∨ x.1 = 3 ∨ x.1 = 4 ∨ x.1 = 5 ∨ x.1 = 6 ∨ x.1 = 7 ∨ x.1 = 8 ∨ x.1 = 9) ∧ (x.1 ≠ 4 → x.1 ≠ 9 → x.2.2 = 0) ∧ (x.1 = 9 → x.2.1 = 0 ∧ x.2.2 < 8) := by
  obtain ⟨k, o, a⟩ := x
  simp only [mayO, mayI, Bool.and_eq_true, decide_eq_true_eq] at h ⊢
  obtain ⟨⟨h1, h2, h3, h4⟩, h5⟩ := h
  unfold mayK at h5
  split at h5
  · simp at h5; exact ⟨h1, h2, h3, h4, by omega, fun _ _ => h5, fun _ => by omega⟩
  · split at h5
    · exact ⟨h1, h2, h3, h4, by omega, by omega, fun _ => by omega⟩
    · split at h5
      · simp at h5; exact ⟨h1, h2, h3, h4, by omega, by omega, fun _ => h5⟩
      · cases h5
theorem part_len {x : Op3} (h : mayO x = true) : (partO x).length ≤ 26 := by
  obtain ⟨h1, h2, h3, h4, _⟩ := may_out h
  have l1 := itoa_len (n := x.2.1) h1 (by omega)
  have l2 := itoa_len (n := x.2.2) h3 h4
  have l3 := wd_len 9
  have l4 := wd_len 4
  have l5 := wd_len x.1.toNat
  unfold partO
  split
  · simp; omega
  · split
    · simp; omega
    · simp; omega
end Go.Proofs.YtapalbokfbobhaaDoor
