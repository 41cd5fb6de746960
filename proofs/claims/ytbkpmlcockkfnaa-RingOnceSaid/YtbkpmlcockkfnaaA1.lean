/- Lists of waiters: what the calls make of them. -/
import Derived.Test.YtbkpmlcockkfnaaKp
namespace Go.Proofs.Ytbkpmlcockkfnaa
open Go.RowKit
set_option linter.unusedSimpArgs false
set_option linter.unusedVariables false
abbrev Wt := Int × Int
def rcells (l : List Wt) : List Value := l.flatMap fun p => [.int .i64 p.1, .int .i64 p.2]
theorem rcells_length (l : List Wt) : (rcells l).length = l.length * 2 := by
  induction l with
  | nil => rfl
  | cons p l ih => simp only [rcells, List.flatMap_cons, List.length_append, List.length_cons, List.length_nil] at ih ⊢; omega
theorem rcells_at (l : List Wt) (k : Nat) (hk : k < l.length) : (rcells l)[k * 2]? = some (.int .i64 (l[k]).1) ∧ (rcells l)[k * 2 + 1]? = some (.int .i64 (l[k]).2) := by
  induction l generalizing k with
  | nil => simp at hk
  | cons p l ih =>
    cases k with
    | zero => simp [rcells]
    | succ k =>
      have := ih k (by simpa using hk)
      have e1 : (k + 1) * 2 = k * 2 + 1 + 1 := by omega
      simp only [rcells, List.flatMap_cons, List.cons_append, List.nil_append, e1, List.getElem?_cons_succ, List.getElem_cons_succ] at this ⊢
      exact this
theorem rcells_one (l : List Wt) : ∀ u ∈ rcells l, u.oneCell' = true := by
  intro u hu
  simp only [rcells, List.mem_flatMap, List.mem_cons, List.not_mem_nil, or_false] at hu
  obtain ⟨p, _, rfl | rfl⟩ := hu <;> rfl
theorem rcells_append (l m : List Wt) : rcells (l ++ m) = rcells l ++ rcells m := by simp [rcells]
theorem rcells_take (l : List Wt) (k : Nat) : rcells (l.take k) = (rcells l).take (k * 2) := by
  induction l generalizing k with
  | nil => simp [rcells]
  | cons p l ih =>
    cases k with
    | zero => simp [rcells]
    | succ k =>
      have e1 : (k + 1) * 2 = k * 2 + 1 + 1 := by omega
      have := ih k
      simp only [rcells, List.take_succ_cons, List.flatMap_cons, List.cons_append, List.nil_append, e1] at this ⊢
      rw [this]
theorem rcells_drop (l : List Wt) (k : Nat) : rcells (l.drop k) = (rcells l).drop (k * 2) := by
  induction l generalizing k with
  | nil => simp [rcells]
  | cons p l ih =>
    cases k with
    | zero => simp
    | succ k =>
      have e1 : (k + 1) * 2 = k * 2 + 1 + 1 := by omega
      have := ih k
      simp only [rcells, List.drop_succ_cons, List.flatMap_cons, List.cons_append, List.nil_append, e1] at this ⊢
      exact this
def inW (x : Wt) : Bool := decide (0 ≤ x.1 ∧ x.1 ≤ 65534 ∧ 1 ≤ x.2 ∧ x.2 ≤ 65535)
theorem inW_of {x : Wt} (h : inW x = true) : 0 ≤ x.1 ∧ x.1 ≤ 65534 ∧ 1 ≤ x.2 ∧ x.2 ≤ 65535 := of_decide_eq_true h
def hasT (l : List Wt) (t : Int) : Bool := decide (∃ x, x ∈ l ∧ x.1 = t)
theorem hasT_of {l : List Wt} {t : Int} (h : hasT l t = true) : ∃ x, x ∈ l ∧ x.1 = t := of_decide_eq_true h
theorem hasT_no {l : List Wt} {t : Int} (h : hasT l t = false) : ∀ x, x ∈ l → x.1 ≠ t := fun x hx e => of_decide_eq_false h ⟨x, hx, e⟩
structure OkW (l : List Wt) : Prop where
  nd : (l.map (·.1)).Nodup
  rng : ∀ x, x ∈ l → inW x = true
theorem okw_nil : OkW [] := ⟨List.nodup_nil, fun x h => by simp at h⟩
theorem OkW.len {l : List Wt} (h : OkW l) : l.length ≤ 65535 := by
  have h1 : (l.map (fun x => x.1.toNat)).Nodup := by
    have := h.nd
    unfold List.Nodup at this ⊢
    rw [List.pairwise_map] at this ⊢
    refine this.imp_of_mem fun ha hb hne e => ?_
    have := inW_of (h.rng _ ha)
    have := inW_of (h.rng _ hb)
    omega
  have h2 := nodup_range_le (n := 65535) h1 (fun x hx => by
    obtain ⟨y, hy, rfl⟩ := List.mem_map.1 hx
    have := inW_of (h.rng y hy)
    omega)
  simpa using h2
theorem OkW.uniq {l : List Wt} (h : OkW l) {i j : Nat} (hi : i < l.length) (hj : j < l.length) (e : (l[i]).1 = (l[j]).1) : i = j := by
  have h1 := h.nd
  rw [List.nodup_iff_pairwise_ne] at h1
  have h2 := List.pairwise_iff_getElem.1 h1
  rcases Nat.lt_trichotomy i j with q | q | q
  · exact absurd e (by have := h2 i j (by simpa using hi) (by simpa using hj) q; simpa using this)
  · exact q
  · exact absurd e.symm (by have := h2 j i (by simpa using hj) (by simpa using hi) q; simpa using this)
def adB (l : List Wt) (x : Wt) : Bool := inW x && !hasT l x.1
def adL (l : List Wt) (x : Wt) : List Wt := if adB l x then l ++ [x] else l
theorem adL_yes {l : List Wt} {x : Wt} (h : adB l x = true) : adL l x = l ++ [x] := by unfold adL; rw [if_pos h]
theorem adL_no {l : List Wt} {x : Wt} (h : adB l x = false) : adL l x = l := by unfold adL; rw [h]; rfl
theorem adB_of {l : List Wt} {x : Wt} (h : adB l x = true) : inW x = true ∧ hasT l x.1 = false := by
  unfold adB at h
  simpa using h
theorem OkW.ad {l : List Wt} (h : OkW l) (x : Wt) : OkW (adL l x) := by
  cases e : adB l x
  · rw [adL_no e]; exact h
  · obtain ⟨h1, h2⟩ := adB_of e
    rw [adL_yes e]
    refine ⟨?_, fun y hy => ?_⟩
    · rw [List.map_append]
      refine List.nodup_append.2 ⟨h.nd, by simp, fun a ha b hb => ?_⟩
      simp at hb; subst hb; rintro rfl
      obtain ⟨y, hy, e⟩ := List.mem_map.1 ha
      exact hasT_no h2 y hy e
    · simp at hy
      rcases hy with hy | rfl
      · exact h.rng y hy
      · exact h1
def rmL (l : List Wt) (t : Int) : List Wt := l.filter (fun x => x.1 != t)
theorem mem_rmL {l : List Wt} {t : Int} {x : Wt} : x ∈ rmL l t ↔ x ∈ l ∧ x.1 ≠ t := by unfold rmL; simp [List.mem_filter]
theorem OkW.sub {l m : List Wt} (h : OkW l) (s : m.Sublist l) : OkW m := ⟨h.nd.sublist (s.map _), fun x hx => h.rng x (s.subset hx)⟩
theorem OkW.rm {l : List Wt} (h : OkW l) (t : Int) : OkW (rmL l t) := h.sub List.filter_sublist
theorem rmL_no {l : List Wt} {t : Int} (h : hasT l t = false) : rmL l t = l := by
  unfold rmL
  rw [List.filter_eq_self]
  intro a ha
  simpa using hasT_no h a ha
/-- Where a thread stands first. -/
def ixN (l : List Wt) (t : Int) : Nat := (l.map (·.1)).idxOf t
def ixI (l : List Wt) (t : Int) : Int := if hasT l t = true then (ixN l t : Int) else -1
theorem hasT_map {l : List Wt} {t : Int} : hasT l t = true ↔ t ∈ l.map (·.1) := by
  unfold hasT; rw [decide_eq_true_iff, List.mem_map]
theorem ix_lt {l : List Wt} {t : Int} (h : hasT l t = true) : ixN l t < l.length := by
  have := List.idxOf_lt_length_of_mem (hasT_map.1 h)
  simpa [ixN] using this
theorem ix_at {l : List Wt} {t : Int} (h : hasT l t = true) : (l[ixN l t]'(ix_lt h)).1 = t := by
  have h1 := List.idxOf_lt_length_of_mem (hasT_map.1 h)
  have h2 : (l.map (·.1))[(l.map (·.1)).idxOf t] = t := List.getElem_idxOf h1
  rw [List.getElem_map] at h2
  exact h2
theorem ix_first (l : List Wt) : ∀ {j : Nat} {t : Int} (hj : j < l.length), (∀ i (hi : i < j), (l[i]'(by omega)).1 ≠ t) → (l[j]).1 = t → ixN l t = j := by
  induction l with
  | nil => intro j t hj; simp at hj
  | cons x l ih =>
    intro j t hj hb he
    unfold ixN at *
    rw [List.map_cons, List.idxOf_cons]
    cases j with
    | zero =>
      simp at he
      simp [he]
    | succ j =>
      have h0 : x.1 ≠ t := hb 0 (by omega)
      have := ih (j := j) (t := t) (by simpa using hj) (fun i hi => by have := hb (i + 1) (by omega); simpa using this) (by simpa using he)
      have e1 : (x.1 == t) = false := by simpa using h0
      rw [this, e1]; rfl
theorem hasT_mem {l : List Wt} {j : Nat} {t : Int} (hj : j < l.length) (e : (l[j]).1 = t) : hasT l t = true := decide_eq_true ⟨_, List.getElem_mem hj, e⟩
theorem hasT_none {l : List Wt} {t : Int} (h : ∀ j (hj : j < l.length), (l[j]).1 ≠ t) : hasT l t = false := decide_eq_false (by
  rintro ⟨x, hx, e⟩
  obtain ⟨j, hj, rfl⟩ := List.getElem_of_mem hx
  exact h j hj e)
theorem rmL_at {l : List Wt} (h : OkW l) {t : Int} (hm : hasT l t = true) : rmL l t = l.eraseIdx (ixN l t) := by
  have hlt := ix_lt hm
  have hat := ix_at hm
  obtain ⟨j, hj⟩ : ∃ j, j = ixN l t := ⟨_, rfl⟩
  simp only [← hj] at hlt hat ⊢
  have e1 : l = l.take j ++ l[j] :: l.drop (j + 1) := by rw [List.getElem_cons_drop, List.take_append_drop]
  rw [List.eraseIdx_eq_take_drop_succ]
  unfold rmL
  conv => lhs; rw [e1]
  rw [List.filter_append, List.filter_cons, hat]
  have f1 : (l.take j).filter (fun x => x.1 != t) = l.take j := by
    rw [List.filter_eq_self]
    intro a ha
    obtain ⟨i, hi, rfl⟩ := List.getElem_of_mem ha
    simp at hi
    rw [List.getElem_take, bne_iff_ne]
    intro q
    have := h.uniq (i := i) (j := j) (by omega) hlt (by rw [q, hat])
    omega
  have f2 : (l.drop (j + 1)).filter (fun x => x.1 != t) = l.drop (j + 1) := by
    rw [List.filter_eq_self]
    intro a ha
    obtain ⟨i, hi, rfl⟩ := List.getElem_of_mem ha
    simp at hi
    rw [List.getElem_drop, bne_iff_ne]
    intro q
    have := h.uniq (i := j + 1 + i) (j := j) (by omega) hlt (by rw [q, hat])
    omega
  rw [f1, f2]
  simp
theorem rmL_len {l : List Wt} (h : OkW l) {t : Int} (hm : hasT l t = true) : (rmL l t).length = l.length - 1 := by
  rw [rmL_at h hm, List.length_eraseIdx_of_lt (ix_lt hm)]
theorem rmL_lt {l : List Wt} {t : Int} (h : OkW l) : decide ((rmL l t).length < l.length) = hasT l t := by
  cases e : hasT l t with
  | true => rw [rmL_len h e]; have := ix_lt e; simp; omega
  | false => rw [rmL_no e]; simp
/-- The waiter of a thread. -/
def wtOf (l : List Wt) (t : Int) : Wt := l.getD (ixN l t) (0, 0)
theorem wtOf_no {l : List Wt} {t : Int} (h : hasT l t = false) : wtOf l t = (0, 0) := by
  unfold wtOf
  rw [List.getD_eq_getElem?_getD, List.getElem?_eq_none]
  · rfl
  · have : t ∉ l.map (·.1) := fun q => by rw [hasT_map.2 q] at h; cases h
    have h1 := List.idxOf_eq_length this
    simp [ixN, h1]
theorem wtOf_yes {l : List Wt} {t : Int} (h : hasT l t = true) : wtOf l t = l[ixN l t]'(ix_lt h) := by
  unfold wtOf
  rw [List.getD_eq_getElem?_getD, List.getElem?_eq_getElem (ix_lt h)]
  rfl
/-- x is the waiter of a thread among the first j. -/
def IsW (l : List Wt) (j : Nat) (t : Int) (x : Wt) : Prop :=
  (x = (0, 0) ∧ ∀ i (hi : i < l.length), i < j → (l[i]).1 ≠ t) ∨ ∃ i, ∃ hi : i < l.length, i < j ∧ (l[i]).1 = t ∧ x = l[i]
theorem isW_zero (l : List Wt) (t : Int) : IsW l 0 t (0, 0) := .inl ⟨rfl, fun i hi h => by omega⟩
theorem IsW.no {l : List Wt} {j : Nat} {t : Int} {x : Wt} (h : IsW l j t x) (hj : j < l.length) (hne : (l[j]).1 ≠ t) : IsW l (j + 1) t x := by
  rcases h with ⟨h1, h2⟩ | ⟨i, hi, h1, h2, h3⟩
  · exact .inl ⟨h1, fun i hi h => by
      by_cases q : i = j
      · subst q; exact hne
      · exact h2 i hi (by omega)⟩
  · exact .inr ⟨i, hi, by omega, h2, h3⟩
theorem IsW.yes {l : List Wt} {j : Nat} {t : Int} (hj : j < l.length) (he : (l[j]).1 = t) : IsW l (j + 1) t l[j] := .inr ⟨j, hj, by omega, he, rfl⟩
theorem IsW.eq {l : List Wt} (ok : OkW l) {t : Int} {x : Wt} (h : IsW l l.length t x) : x = wtOf l t := by
  rcases h with ⟨h1, h2⟩ | ⟨i, hi, h1, h2, h3⟩
  · rw [h1, wtOf_no (hasT_none fun j hj => h2 j hj hj)]
  · have hm := hasT_mem hi h2
    have := ix_at hm
    have e := ok.uniq hi (ix_lt hm) (by rw [h2, this])
    rw [h3, wtOf_yes hm]
    congr 1
/-- Turned k times. -/
def tuK (l : List Wt) (k : Nat) : List Wt := l.drop k ++ l.take k
theorem tuK_zero (l : List Wt) : tuK l 0 = l := by simp [tuK]
theorem tuK_all (l : List Wt) : tuK l l.length = l := by simp [tuK]
theorem tuK_len (l : List Wt) (k : Nat) : (tuK l k).length = l.length := by simp [tuK]; omega
def tuL (l : List Wt) : List Wt := l.drop 1 ++ l.take 1
theorem tuL_nil : tuL [] = [] := rfl
theorem tuL_len (l : List Wt) : (tuL l).length = l.length := tuK_len l 1
theorem tuL_K (l : List Wt) {k : Nat} (h : k < l.length) : tuL (tuK l k) = tuK l (k + 1) := by
  unfold tuL tuK
  have e1 : l.drop k = l[k] :: l.drop (k + 1) := List.drop_eq_getElem_cons h
  have e2 : l.take (k + 1) = l.take k ++ [l[k]] := List.take_succ_eq_append_getElem h
  rw [e1, e2, List.cons_append, List.drop_succ_cons, List.drop_zero, List.take_succ_cons, List.take_zero, List.append_assoc]
theorem tuK_mod (l : List Wt) {p : Nat} (h : p < l.length) : tuL (tuK l p) = tuK l ((p + 1) % l.length) := by
  rw [tuL_K l h]
  by_cases e : p + 1 = l.length
  · rw [e, Nat.mod_self, tuK_all, tuK_zero]
  · rw [Nat.mod_eq_of_lt (by omega)]
theorem OkW.perm {l m : List Wt} (h : OkW l) (p : l.Perm m) : OkW m := ⟨((p.map _).nodup_iff).1 h.nd, fun x hx => h.rng x (p.mem_iff.2 hx)⟩
theorem tuK_perm (l : List Wt) (k : Nat) : l.Perm (tuK l k) := by
  unfold tuK
  conv => lhs; rw [← List.take_append_drop k l]
  exact List.perm_append_comm
theorem OkW.tu {l : List Wt} (h : OkW l) : OkW (tuL l) := h.perm (tuK_perm l 1)
theorem OkW.tuK {l : List Wt} (h : OkW l) (k : Nat) : OkW (tuK l k) := h.perm (tuK_perm l k)
theorem tuK_at (l : List Wt) {p : Nat} (h : p < l.length) : (tuK l p)[0]'(by rw [tuK_len]; omega) = l[p] := by
  unfold tuK
  rw [List.getElem_append_left (by rw [List.length_drop]; omega), List.getElem_drop]
  congr 1
end Go.Proofs.Ytbkpmlcockkfnaa
