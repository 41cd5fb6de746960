/- The reference's kept and May, walked. -/
import Derived.Test.YtlgomkocalieeaaGreatDoorWdP3
namespace Go.Proofs.YtlgomkocalieeaaGreatDoor.Wd
set_option maxRecDepth 100000
open Go.RowKit
set_option linter.unusedSimpArgs false
set_option linter.unusedVariables false




theorem uK_cases (v : Int) : uK v = 0 ∨ uK v = 1 ∨ uK v = 2 ∨ uK v = 3 ∨ uK v = 4 ∨ uK v = 5 := by
  unfold uK; (repeat' split) <;> simp
theorem gW_kind {v : Int} (hg : gW v) : ¬ uK v = 0 := by
  intro h
  have h2 := hg
  unfold gW pI at h2
  rw [h] at h2
  simp at h2
  rw [← h2] at h
  simp [uK] at h

/-- The reference's kept: which parts count. -/
def kA (k x : Int) : Int := if k = 2 ∨ k = 4 then x else 0
def kE (k x : Int) : Int := if k = 4 then x else 0
def kH (k x : Int) : Int := if k = 2 then x else 0
def kO (k x : Int) : Int := if k = 1 ∨ k = 4 then x else 0
def kR (k x : Int) : Int := if k = 1 then x else 0
def kS (k x : Int) : Int := if k = 3 then x else 0

/-- What kept leaves alone. -/
def keptB (k a e h o r s g : Int) : Bool := eqB k (kA k a) (kE k e) (kH k h) (kO k o) (kR k r) (kS k s) (kS k g) k a e h o r s g
theorem kept_may {k a e h o r s g : Int} (b : OkH k a e h o r s g) : hMayB k a e h o r s g = (decide (1 ≤ k ∧ k ≤ 5) && (keptB k a e h o r s g && (decide (a < 16) && (decide (h < 2147483648) && (decide (g < 16777216) && (decide (k ≠ 1) || decide (0 < o))))))) := by
  obtain ⟨a0, a1, e0, e1, h0, h1, o0, o1, r0, r1, s0, s1, g0, g1⟩ := b
  rw [Bool.eq_iff_iff]
  simp only [keptB, eqB, hMayB, hMay, kA, kE, kH, kO, kR, kS, decide_eq_true_eq, Bool.and_eq_true, Bool.or_eq_true, beq_iff_eq]
  by_cases k1 : k = 1
  · subst k1; simp; omega
  by_cases k2 : k = 2
  · subst k2; simp; omega
  by_cases k3 : k = 3
  · subst k3; simp; omega
  by_cases k4 : k = 4
  · subst k4; simp; omega
  by_cases k5 : k = 5
  · subst k5; simp; omega
  · simp [k1, k2, k3, k4, k5]; omega
end Go.Proofs.YtlgomkocalieeaaGreatDoor.Wd
