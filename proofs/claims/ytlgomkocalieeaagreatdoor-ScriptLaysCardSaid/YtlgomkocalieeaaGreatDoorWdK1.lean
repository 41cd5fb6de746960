/- What package klass and its reference answer, but Policy. -/
import Derived.Test.YtlgomkocalieeaaGreatDoorWdP6
import Derived.BigRegion
namespace Go.Proofs.YtlgomkocalieeaaGreatDoor.Wd
set_option maxRecDepth 100000
open Go.RowKit
set_option linter.unusedSimpArgs false
set_option linter.unusedVariables false



/-- A new object's word; a Biased word; a Valid one; one made Fresh. -/
def hdI (b : Bool) (e : Int) : Int := if b = true then 5 + e * 256 else 1
def isB (v : Int) : Bool := decide (gW v) && uK v == 4
def valB (b : Bool) (e v : Int) : Bool := b && (isB v && uE v == e)
def frI (e v : Int) : Int := if isB v = true then pI 4 (uA v) 0 (uO v) 0 0 0 e else 0

theorem ok_b {e : Int} (h0 : 0 ≤ e) (h1 : e ≤ 255) : OkH 4 0 e 0 0 0 0 0 := by constructor <;> first | decide | assumption
theorem code_b {e : Int} (h0 : 0 ≤ e) (h1 : e ≤ 255) : codeW 4 0 e 0 0 0 0 0 = 5 + e * 256 ∧ codeE 4 0 e 0 0 0 0 0 = 0 := by
  have h : hMayB 4 0 e 0 0 0 0 0 = true := by simp [hMayB, hMay]
  unfold codeW codeE
  rw [h]
  simp [pI]
theorem code_n : codeW 2 0 0 0 0 0 0 0 = 1 ∧ codeE 2 0 0 0 0 0 0 0 = 0 := by decide

theorem isB_no {v : Int} (hg : ¬ gW v) : isB v = false := by simp [isB, hg]
theorem isB_4 {v : Int} (h : isB v = true) : gW v ∧ uK v = 4 := by simpa [isB] using h
theorem fr_ok {v e : Int} (hv : InW v) (h0 : 0 ≤ e) (h1 : e ≤ 255) : OkH 4 (uA v) e 0 (uO v) 0 0 0 := by
  obtain ⟨a0, a1, _, _, _, _, o0, o1, _, _, _, _, _, _⟩ := u_ok hv
  constructor <;> first | decide | assumption
theorem u4_z {v : Int} (k : uK v = 4) : uH v = 0 ∧ uR v = 0 ∧ uS v = 0 ∧ uG v = 0 ∧ uA v < 16 := by
  have h := uK_4 k
  simp [uH, uR, uS, uG, uA, h]
  omega
theorem fr_code {v e : Int} (k : uK v = 4) : codeW 4 (uA v) e 0 (uO v) 0 0 0 = pI 4 (uA v) 0 (uO v) 0 0 0 e ∧ codeE 4 (uA v) e 0 (uO v) 0 0 0 = 0 := by
  have h : hMayB 4 (uA v) e 0 (uO v) 0 0 0 = true := by
    have := (u4_z k).2.2.2.2
    simp [hMayB, hMay, this]
  unfold codeW codeE
  rw [h]
  exact ⟨rfl, rfl⟩
end Go.Proofs.YtlgomkocalieeaaGreatDoor.Wd
