/- What is put is got: plain laws on fields of words. -/
import Derived.Test.YtcofnmkemnmhaaaF5
namespace Go.Proofs.Ytcofnmkemnmhaaa
open Go.RowKit
set_option linter.unusedVariables false

theorem get_bits {A D X : Nat} (h : mayB A D = true) (hX : X < two64) : ∃ g : Nat, getI A D X = g ∧ ∀ k, g.testBit k = (decide (k < D) && X.testBit (k + A)) := by
  refine ⟨_, get_nat h hX, fun k => ?_⟩
  rw [Nat.testBit_mod_two_pow, Nat.testBit_div_two_pow]
theorem put_bits {A D U V : Nat} (h : mayB A D = true) (hU : U < two64) (hV : V < two64) : ∃ g : Nat, putI A D U V = g ∧ g < two64 ∧ ∀ k, g.testBit k = (decide (k < 64) && if A ≤ k ∧ k < A + D then V.testBit (k - A) else U.testBit k) := by
  refine ⟨_, put_nat h hU hV, ?_, fun k => sumBits_bit _ _ _⟩
  rw [two64_pow]; exact sumBits_lt _ _
theorem lt_bit {X k : Nat} (hX : X < two64) (hk : ¬ k < 64) : X.testBit k = false :=
  Nat.testBit_lt_two_pow (Nat.lt_of_lt_of_le hX (by rw [two64_pow]; exact Nat.pow_le_pow_right (by decide) (by omega)))
/-- Two fields have no bit in common. -/
def Parted (A D A' D' : Nat) : Prop := ∀ k, ¬ ((A ≤ k ∧ k < A + D) ∧ (A' ≤ k ∧ k < A' + D'))
theorem parted_of {A D A' D' : Nat} (h : mayB A D = true) (h' : mayB A' D' = true) (hz : bits .and .u64 (maskI A D) (maskI A' D') = 0) : Parted A D A' D' := by
  obtain ⟨m1, e1, l1⟩ := mask_isNat (p := ((A : Int), (D : Int))) (by have := (mayB_iff A D).1 h; omega)
  obtain ⟨m2, e2, l2⟩ := mask_isNat (p := ((A' : Int), (D' : Int))) (by have := (mayB_iff A' D').1 h'; omega)
  simp only at e1 e2
  have f1 := mask_nat h
  have f2 := mask_nat h'
  rw [e1, e2, u64_and_nat _ _ l1 l2] at hz
  have hz' : m1 &&& m2 = 0 := by omega
  have g1 : m1 = (2 ^ D - 1) * 2 ^ A := by rw [e1] at f1; omega
  have g2 : m2 = (2 ^ D' - 1) * 2 ^ A' := by rw [e2] at f2; omega
  rintro k ⟨⟨a1, a2⟩, a3, a4⟩
  have : (m1 &&& m2).testBit k = true := by
    rw [Nat.testBit_and, g1, g2, Nat.testBit_mul_two_pow, Nat.testBit_mul_two_pow, Nat.testBit_two_pow_sub_one, Nat.testBit_two_pow_sub_one]
    have : k - A < D := by omega
    have : k - A' < D' := by omega
    simp [*]
  rw [hz'] at this
  simp at this

theorem get_put_same {A D U V : Nat} (h : mayB A D = true) (hU : U < two64) (hV : V < two64) : getI A D (putI A D U V) = ((V % 2 ^ D : Nat) : Int) := by
  obtain ⟨p, e1, l1, b1⟩ := put_bits h hU hV
  rw [e1]
  obtain ⟨g, e2, b2⟩ := get_bits h l1
  rw [e2]
  congr 1
  apply Nat.eq_of_testBit_eq
  intro k
  rw [b2, b1, Nat.testBit_mod_two_pow]
  obtain ⟨h1, h2⟩ := (mayB_iff A D).1 h
  by_cases hk : k < D
  · have c1 : k + A < 64 := by omega
    have c2 : A ≤ k + A ∧ k + A < A + D := by omega
    rw [if_pos c2, Nat.add_sub_cancel]
    simp [hk, c1]
  · simp [hk]
theorem get_put_other {A D A' D' U V : Nat} (h : mayB A D = true) (h' : mayB A' D' = true) (hp : Parted A D A' D') (hU : U < two64) (hV : V < two64) : getI A' D' (putI A D U V) = getI A' D' U := by
  obtain ⟨p, e1, l1, b1⟩ := put_bits h hU hV
  rw [e1]
  obtain ⟨g, e2, b2⟩ := get_bits h' l1
  obtain ⟨g', e3, b3⟩ := get_bits h' hU
  rw [e2, e3]
  congr 1
  apply Nat.eq_of_testBit_eq
  intro k
  rw [b2, b1, b3]
  obtain ⟨h1, h2⟩ := (mayB_iff A' D').1 h'
  by_cases hk : k < D'
  · have c1 : k + A' < 64 := by omega
    have c2 : ¬ (A ≤ k + A' ∧ k + A' < A + D) := fun c => hp (k + A') ⟨c, by omega⟩
    rw [if_neg c2]
    simp [c1]
  · simp [hk]
/-- Put back what was there. -/
theorem put_get_back {A D U X : Nat} (h : mayB A D = true) (hU : U < two64) (hX : X < two64) (hout : ∀ k, ¬ (A ≤ k ∧ k < A + D) → X.testBit k = U.testBit k) : putI A D X (getI A D U) = U := by
  obtain ⟨g, e2, b2⟩ := get_bits h hU
  obtain ⟨h1, h2⟩ := (mayB_iff A D).1 h
  have hg : g < two64 := by
    rw [get_nat h hU] at e2
    have := Nat.mod_lt (U / 2 ^ A) (Nat.pow_pos (n := D) (show 0 < 2 by decide))
    have := two_pow_le D (by omega)
    omega
  rw [e2]
  obtain ⟨p, e1, l1, b1⟩ := put_bits h hX hg
  rw [e1]
  congr 1
  apply Nat.eq_of_testBit_eq
  intro k
  rw [b1]
  by_cases hk : k < 64
  · by_cases c : A ≤ k ∧ k < A + D
    · rw [if_pos c, b2]
      have c3 : k - A < D := by omega
      have c4 : k - A + A = k := by omega
      simp [hk, c3, c4]
    · rw [if_neg c, hout k c]; simp [hk]
  · rw [lt_bit hU hk]; simp [hk]

theorem nats_of {p : Int × Int} (h : 0 ≤ p.1 ∧ p.1 ≤ 255 ∧ 0 ≤ p.2 ∧ p.2 ≤ 255) : ∃ A D : Nat, p = ((A : Int), (D : Int)) := by
  obtain ⟨A, hA⟩ := Int.eq_ofNat_of_zero_le h.1
  obtain ⟨D, hD⟩ := Int.eq_ofNat_of_zero_le h.2.2.1
  exact ⟨A, D, by rw [← hA, ← hD]⟩
theorem get_put_fit {p : Int × Int} (hp : 0 ≤ p.1 ∧ p.1 ≤ 255 ∧ 0 ≤ p.2 ∧ p.2 ≤ 255) {u v : Int} (hm : mayB p.1 p.2 = true) (hu : InW u) (hv : InW v) (hf : fitsB p.1 p.2 v = true) : getI p.1 p.2 (putI p.1 p.2 u v) = v := by
  obtain ⟨A, D, rfl⟩ := nats_of hp
  obtain ⟨V, rfl, hV⟩ := hv.nat
  obtain ⟨U, rfl, hU⟩ := hu.nat
  have := get_put_same hm hU hV
  refine this.trans ?_
  unfold fitsB at hf
  rw [hm, Bool.true_and, decide_eq_true_eq, most_nat hm] at hf
  have hq : 0 < 2 ^ D := Nat.pow_pos (by decide)
  rw [Nat.mod_eq_of_lt (by omega)]
theorem get_put_far {p q : Int × Int} (hp : 0 ≤ p.1 ∧ p.1 ≤ 255 ∧ 0 ≤ p.2 ∧ p.2 ≤ 255) (hq : 0 ≤ q.1 ∧ q.1 ≤ 255 ∧ 0 ≤ q.2 ∧ q.2 ≤ 255) {u v : Int} (hm : mayB p.1 p.2 = true) (hm' : mayB q.1 q.2 = true) (hz : andI p q = 0) (hu : InW u) (hv : InW v) :
    getI q.1 q.2 (putI p.1 p.2 u v) = getI q.1 q.2 u := by
  obtain ⟨A, D, rfl⟩ := nats_of hp
  obtain ⟨A', D', rfl⟩ := nats_of hq
  obtain ⟨V, rfl, hV⟩ := hv.nat
  obtain ⟨U, rfl, hU⟩ := hu.nat
  exact get_put_other hm hm' (parted_of hm hm' hz) hU hV

theorem back_to (l : Fl) (vs : List Int) (hl : Okf l) (hv : Okv vs) (h : JoinOk l vs) (j : Nat) (hj : j ≤ l.length) :
    ∀ i (hi : i < l.length) (hi' : i < vs.length), i < j → getI (l[i]).1 (l[i]).2 (putsI (l.take j) (vs.take j) 0) = vs[i] := by
  induction j with
  | zero => intro i _ _ h; omega
  | succ j ih =>
    intro i hi hi' hij
    have hjl : j < l.length := by omega
    have hjv : j < vs.length := by rw [← h.1]; exact hjl
    have hu := puts_inW (l.take j) (vs.take j) (fun p hp => hl p (List.mem_of_mem_take hp)) (fun p hp => hv p (List.mem_of_mem_take hp)) 0 inW_zero
    have hmj := (h.2.1 j hjl).1
    rw [putsI_succ l vs 0 j hjl hjv]
    by_cases e : i = j
    · subst e
      exact get_put_fit (hl _ (List.getElem_mem _)) hmj hu (hv _ (List.getElem_mem _)) (h.2.2 i hi hi' hi)
    · rw [get_put_far (hl _ (List.getElem_mem _)) (hl _ (List.getElem_mem _)) hmj (h.2.1 i hi).1 ((h.2.1 j hjl).2 i (by omega)) hu (hv _ (List.getElem_mem _))]
      exact ih (by omega) i hi hi' (by omega)
theorem back_all (l : Fl) (vs : List Int) (hl : Okf l) (hv : Okv vs) (h : JoinOk l vs) : getsI l (joinI l vs) = vs := by
  unfold joinI
  rw [if_pos (joinB_yes h)]
  apply List.ext_getElem
  · simp [getsI, h.1]
  · intro i h1 h2
    have hi : i < l.length := by simpa [getsI] using h1
    have := back_to l vs hl hv h l.length (Nat.le_refl _) i hi h2 hi
    rw [List.take_of_length_le (Nat.le_refl _), List.take_of_length_le (by rw [h.1]; exact Nat.le_refl _)] at this
    simpa [getsI] using this
end Go.Proofs.Ytcofnmkemnmhaaa
