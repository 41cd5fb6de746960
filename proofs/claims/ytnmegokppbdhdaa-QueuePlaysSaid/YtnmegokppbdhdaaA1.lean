/- Lists of threads: what the calls make of them. -/
import Derived.Test.YtnmegokppbdhdaaKp
namespace Go.Proofs.Ytnmegokppbdhdaa
open Go.RowKit
set_option linter.unusedSimpArgs false
set_option linter.unusedVariables false
def thr (t : Int) : Bool := decide (0 ≤ t ∧ t ≤ 65534)
def hasQ (l : List Int) (t : Int) : Bool := decide (t ∈ l)
structure OkQ (l : List Int) : Prop where
  nd : l.Nodup
  rng : ∀ x, x ∈ l → 0 ≤ x ∧ x ≤ 65534
theorem okq_nil : OkQ [] := ⟨List.nodup_nil, fun x h => by simp at h⟩
theorem OkQ.len {l : List Int} (h : OkQ l) : l.length ≤ 65535 := by
  have h1 : (l.map Int.toNat).Nodup := by
    have := h.nd
    unfold List.Nodup at this ⊢
    rw [List.pairwise_map]
    refine this.imp_of_mem fun ha hb hne e => ?_
    have := h.rng _ ha
    have := h.rng _ hb
    omega
  have h2 := nodup_range_le (n := 65535) h1 (fun x hx => by
    obtain ⟨y, hy, rfl⟩ := List.mem_map.1 hx
    have := h.rng y hy
    omega)
  simpa using h2
def apB (l : List Int) (t : Int) : Bool := thr t && !hasQ l t
def apL (l : List Int) (t : Int) : List Int := if apB l t then l ++ [t] else l
theorem apL_yes {l : List Int} {t : Int} (h : apB l t = true) : apL l t = l ++ [t] := by unfold apL; rw [if_pos h]
theorem apL_no {l : List Int} {t : Int} (h : apB l t = false) : apL l t = l := by unfold apL; rw [h]; rfl
theorem apB_of {l : List Int} {t : Int} (h : apB l t = true) : 0 ≤ t ∧ t ≤ 65534 ∧ t ∉ l := by
  unfold apB thr hasQ at h
  simp only [Bool.and_eq_true, decide_eq_true_eq, Bool.not_eq_true', decide_eq_false_iff_not] at h
  exact ⟨h.1.1, h.1.2, h.2⟩
theorem OkQ.ap {l : List Int} (h : OkQ l) (t : Int) : OkQ (apL l t) := by
  cases e : apB l t
  · rw [apL_no e]; exact h
  · obtain ⟨h1, h2, h3⟩ := apB_of e
    rw [apL_yes e]
    refine ⟨List.nodup_append.2 ⟨h.nd, by simp, fun a ha b hb => ?_⟩, fun x hx => ?_⟩
    · simp at hb; subst hb; rintro rfl; exact h3 ha
    · simp at hx
      rcases hx with hx | rfl
      · exact h.rng x hx
      · exact ⟨h1, h2⟩
def drK (l ch : List Int) (k : Nat) : List Int := (ch.reverse.take k).foldl apL l
def drL (l ch : List Int) : List Int := drK l ch ch.length
def drN (l ch : List Int) : Nat := (drL l ch).length - l.length
theorem drK_zero (l ch : List Int) : drK l ch 0 = l := by simp [drK]
theorem drK_succ (l ch : List Int) {k : Nat} (hk : k < ch.length) : drK l ch (k + 1) = apL (drK l ch k) (ch[ch.length - 1 - k]'(by omega)) := by
  unfold drK
  have h : k < ch.reverse.length := by simpa using hk
  rw [List.take_succ_eq_append_getElem h, List.foldl_append, List.getElem_reverse]
  rfl
theorem apL_len (l : List Int) (t : Int) : (apL l t).length = l.length + (if apB l t then 1 else 0) := by
  unfold apL; split <;> simp
theorem drK_len (l ch : List Int) (k : Nat) : l.length ≤ (drK l ch k).length ∧ (drK l ch k).length ≤ l.length + k := by
  induction k with
  | zero => rw [drK_zero]; omega
  | succ k ih =>
    by_cases hk : k < ch.length
    · rw [drK_succ l ch hk, apL_len]
      split <;> omega
    · have : drK l ch (k + 1) = drK l ch k := by
        unfold drK
        rw [List.take_of_length_le (by simp; omega), List.take_of_length_le (by simp; omega)]
      rw [this]; omega
theorem OkQ.dr {l : List Int} (h : OkQ l) (ch : List Int) (k : Nat) : OkQ (drK l ch k) := by
  induction k with
  | zero => rw [drK_zero]; exact h
  | succ k ih =>
    by_cases hk : k < ch.length
    · rw [drK_succ l ch hk]; exact ih.ap _
    · have : drK l ch (k + 1) = drK l ch k := by
        unfold drK
        rw [List.take_of_length_le (by simp; omega), List.take_of_length_le (by simp; omega)]
      rw [this]; exact ih
theorem drN_eq (l ch : List Int) : (drL l ch).length = l.length + drN l ch := by
  have := (drK_len l ch ch.length).1
  unfold drN drL at *
  omega
def rmL (l : List Int) (t : Int) : List Int := l.filter (fun x => x != t)
theorem mem_rmL {l : List Int} {t x : Int} : x ∈ rmL l t ↔ x ∈ l ∧ x ≠ t := by unfold rmL; simp [List.mem_filter]
theorem OkQ.rm {l : List Int} (h : OkQ l) (t : Int) : OkQ (rmL l t) :=
  ⟨List.Pairwise.filter _ h.nd, fun x hx => h.rng x (mem_rmL.1 hx).1⟩
theorem OkQ.tl {x : Int} {l : List Int} (h : OkQ (x :: l)) : OkQ l := ⟨(List.nodup_cons.1 h.nd).2, fun y hy => h.rng y (List.mem_cons_of_mem _ hy)⟩
theorem rmL_no {l : List Int} {t : Int} (h : t ∉ l) : rmL l t = l := by
  unfold rmL
  rw [List.filter_eq_self]
  intro a ha
  simp only [bne_iff_ne, ne_eq]
  rintro rfl
  exact h ha
/-- Where a thread stands first. -/
def ixN (l : List Int) (t : Int) : Nat := l.idxOf t
def ixI (l : List Int) (t : Int) : Int := if t ∈ l then (ixN l t : Int) else -1
theorem ix_lt {l : List Int} {t : Int} (h : t ∈ l) : ixN l t < l.length := List.idxOf_lt_length_of_mem h
theorem ix_first (l : List Int) : ∀ {j : Nat} {t : Int} (hj : j < l.length), (∀ i (hi : i < j), l[i]'(by omega) ≠ t) → l[j] = t → ixN l t = j := by
  induction l with
  | nil => intro j t hj; simp at hj
  | cons x l ih =>
    intro j t hj hb he
    unfold ixN at *
    rw [List.idxOf_cons]
    cases j with
    | zero =>
      simp at he
      simp [he]
    | succ j =>
      have h0 : x ≠ t := hb 0 (by omega)
      have := ih (j := j) (t := t) (by simpa using hj) (fun i hi => by have := hb (i + 1) (by omega); simpa using this) (by simpa using he)
      have e1 : (x == t) = false := by simpa using h0
      rw [this, e1]; rfl
theorem rmL_at {l : List Int} {t : Int} (h : l.Nodup) (hm : t ∈ l) : rmL l t = l.take (ixN l t) ++ l.drop (ixN l t + 1) := by
  unfold rmL ixN
  induction l with
  | nil => simp at hm
  | cons x l ih =>
    obtain ⟨h1, h2⟩ := List.nodup_cons.1 h
    rw [List.idxOf_cons]
    by_cases e : x = t
    · subst e
      simp only [List.filter_cons, bne_self_eq_false, Bool.false_eq_true, if_false, BEq.rfl, cond_true, List.take_zero, List.nil_append, List.drop_succ_cons, List.drop_zero]
      exact rmL_no h1
    · have hm2 : t ∈ l := by
        rcases List.mem_cons.1 hm with q | q
        · exact absurd q.symm e
        · exact q
      have e1 : (x == t) = false := by simpa using e
      have e2 : (x != t) = true := by simpa using e
      simp only [List.filter_cons, e1, e2, if_true, cond_false, List.take_succ_cons, List.drop_succ_cons, List.cons_append]
      rw [ih h2 hm2]
theorem rmL_len {l : List Int} {t : Int} (h : l.Nodup) : (rmL l t).length = l.length - (if t ∈ l then 1 else 0) := by
  by_cases hm : t ∈ l
  · rw [rmL_at h hm, if_pos hm]
    have := ix_lt hm
    simp; omega
  · rw [rmL_no hm, if_neg hm]; rfl
theorem rmL_lt {l : List Int} {t : Int} (h : l.Nodup) : decide ((rmL l t).length < l.length) = decide (t ∈ l) := by
  rw [rmL_len h]
  by_cases hm : t ∈ l
  · have := ix_lt hm
    simp [hm]; omega
  · simp [hm]
end Go.Proofs.Ytnmegokppbdhdaa
