/- What is read back of the words that One makes. -/
import Derived.Test.YtecopjehmpjniaaDoorA1
namespace Go.Proofs.YtecopjehmpjniaaDoor
open Go.RowKit
set_option linter.unusedSimpArgs false
set_option linter.unusedVariables false


theorem back_eq {k a e h o r s g : Int} (b : OkH k a e h o r s g) (hm : hMayB k a e h o r s g = true) :
    uK (pI k a h o r s g e) = k ∧ uA (pI k a h o r s g e) = a ∧ uE (pI k a h o r s g e) = e ∧ uH (pI k a h o r s g e) = h ∧ uO (pI k a h o r s g e) = o ∧ uR (pI k a h o r s g e) = r ∧ uS (pI k a h o r s g e) = s ∧ uG (pI k a h o r s g e) = g := by
  have H := back_may b
  rw [hm] at H
  simpa only [eqB, Bool.and_eq_true, beq_iff_eq] using H
theorem back_g {k a e h o r s g : Int} (b : OkH k a e h o r s g) (hm : hMayB k a e h o r s g = true) : gW (pI k a h o r s g e) := by
  obtain ⟨q1, q2, q3, q4, q5, q6, q7, q8⟩ := back_eq b hm
  unfold gW
  rw [q1, q2, q3, q4, q5, q6, q7, q8]
theorem code_p {k a e h o r s g : Int} (hm : hMayB k a e h o r s g = true) : codeW k a e h o r s g = pI k a h o r s g e := by
  unfold codeW; rw [hm]; rfl
theorem may2 {a : Int} (h : a < 16) : hMayB 2 a 0 0 0 0 0 0 = true := by simp [hMayB, hMay, h]
theorem may1 {n o : Int} (h : 0 < n) : hMayB 1 0 0 0 n o 0 0 = true := by simp [hMayB, hMay, h]
theorem may4 {a e o : Int} (h : a < 16) : hMayB 4 a e 0 o 0 0 0 = true := by simp [hMayB, hMay, h]
theorem a_lt {v : Int} (h : isB v = true) : uA v < 16 := (u4_z (isB_4 h).2).2.2.2.2
theorem neu_p {v : Int} (h : isB v = true) : neuI (uA v) = pI 2 (uA v) 0 0 0 0 0 0 := code_p (may2 (a_lt h))
theorem neu_in {v : Int} (hv : InW v) (h : isB v = true) : InW (neuI (uA v)) := by rw [neu_p h]; exact p_inW (ok_neu hv)
theorem neu_ne {v : Int} (hv : InW v) (h : isB v = true) : ¬ neuI (uA v) = 0 := by
  obtain ⟨a0, a1, _⟩ := u_ok hv
  rw [neu_p h]; simp [pI]; omega
theorem neu_kd {v : Int} (hv : InW v) (h : isB v = true) : gW (neuI (uA v)) ∧ uK (neuI (uA v)) = 2 ∧ ownW (neuI (uA v)) = -1 := by
  rw [neu_p h]
  obtain ⟨q1, q2, q3, q4, q5, q6, q7, q8⟩ := back_eq (ok_neu hv) (may2 (a_lt h))
  have g := back_g (ok_neu hv) (may2 (a_lt h))
  exact ⟨g, q1, by unfold ownW; rw [if_pos g, q5]; rfl⟩
theorem neu_back {v : Int} (hv : InW v) (h : isB v = true) : uA (neuI (uA v)) = uA v ∧ uE (neuI (uA v)) = 0 ∧ uH (neuI (uA v)) = 0 ∧ uO (neuI (uA v)) = 0 ∧ uR (neuI (uA v)) = 0 ∧ uS (neuI (uA v)) = 0 ∧ uG (neuI (uA v)) = 0 := by
  rw [neu_p h]
  exact (back_eq (ok_neu hv) (may2 (a_lt h))).2
theorem thi_p {n o : Int} (h : 0 < n) : thiI n o = pI 1 0 0 n o 0 0 0 := code_p (may1 h)
theorem held_o {v : Int} {l : List Int} (h : isB v = true) (k : hasB (ownW v) l = true) : 0 < uO v ∧ 0 ≤ ownW v := by
  have h0 : 0 ≤ ownW v := by
    by_cases q : 0 ≤ ownW v
    · exact q
    · rw [hasB_lo q] at k; cases k
  have := own_b h
  exact ⟨by omega, h0⟩
theorem thi_in {v o : Int} (hv : InW v) (h : 0 < uO v) (a : 0 ≤ o) (b : o ≤ 65535) : InW (thiI (uO v) o) := by rw [thi_p h]; exact p_inW (ok_thi hv a b)
theorem thi_kd {v o : Int} (hv : InW v) (h : 0 < uO v) (a : 0 ≤ o) (b : o ≤ 65535) : gW (thiI (uO v) o) ∧ uK (thiI (uO v) o) = 1 ∧ ownW (thiI (uO v) o) = uO v - 1 := by
  rw [thi_p h]
  obtain ⟨q1, q2, q3, q4, q5, q6, q7, q8⟩ := back_eq (ok_thi hv a b) (may1 h)
  have g := back_g (ok_thi hv a b) (may1 h)
  exact ⟨g, q1, by unfold ownW; rw [if_pos g, q5]⟩
theorem not_b {v : Int} (k : ¬ uK v = 4) : isB v = false := by simp [isB, k]
theorem fr_in {e v : Int} (hv : InW v) (h0 : 0 ≤ e) (h1 : e ≤ 255) : InW (frI e v) := by
  unfold frI
  split
  · exact p_inW (fr_ok hv h0 h1)
  · exact inW_0
/-- A Biased word in another epoch: whose it is, and that it is Biased, stays. -/
theorem fr_kd {e v : Int} (hv : InW v) (h0 : 0 ≤ e) (h1 : e ≤ 255) (h : isB v = true) : isB (frI e v) = true ∧ ownW (frI e v) = ownW v ∧ valB true e (frI e v) = true := by
  have hf : frI e v = pI 4 (uA v) 0 (uO v) 0 0 0 e := by simp [frI, h]
  rw [hf]
  obtain ⟨q1, q2, q3, q4, q5, q6, q7, q8⟩ := back_eq (fr_ok hv h0 h1) (may4 (a_lt h))
  have g := back_g (fr_ok hv h0 h1) (may4 (a_lt h))
  have hb : isB (pI 4 (uA v) 0 (uO v) 0 0 0 e) = true := by simp [isB, g, q1]
  refine ⟨hb, ?_, ?_⟩
  · rw [own_b hb, own_b h, q5]
  · simp [valB, hb, q3]
end Go.Proofs.YtecopjehmpjniaaDoor
