/- How many records there are of an object, and of which objects there are some: lists. -/
import Derived.Test.YtppjpicfiflkcaaN1
import Derived.Lib.SlicesCompact
namespace Go.Proofs.Ytppjpicfiflkcaa
open Go.RowKit
set_option linter.unusedSimpArgs false
set_option linter.unusedVariables false

def objL (l : List Rec) : List Int := Lib.compact ((l.map (·.1)).mergeSort fun x y => decide (x ≤ y))
theorem compact_mem {zs : List Int} {x : Int} : x ∈ Lib.compact zs ↔ x ∈ zs := by
  unfold Lib.compact Lib.compactUpTo
  rw [List.mem_map]
  constructor
  · rintro ⟨j, hj, rfl⟩
    have := List.mem_range.1 (List.mem_filter.1 hj).1
    rw [getElem!_pos zs.toArray j (by simpa using this)]
    simp
  · intro h
    obtain ⟨j, hj, rfl⟩ := List.mem_iff_getElem.1 h
    have key : ∀ j (hj : j < zs.length), ∃ i, i ∈ (List.range zs.length).filter (Lib.keeps zs.toArray) ∧ zs.toArray[i]! = zs[j] := by
      intro j
      induction j with
      | zero =>
        intro hj
        exact ⟨0, List.mem_filter.2 ⟨List.mem_range.2 hj, Lib.keeps_lt_one _ 0 (by omega)⟩, by rw [getElem!_pos zs.toArray 0 (by simpa using hj)]; simp⟩
      | succ j ih =>
        intro hj
        by_cases e : zs.toArray[j + 1]! = zs.toArray[j + 1 - 1]!
        · obtain ⟨i, h1, h2⟩ := ih (by omega)
          refine ⟨i, h1, ?_⟩
          rw [h2]
          rw [Nat.add_sub_cancel, getElem!_pos zs.toArray (j + 1) (by simpa using hj), getElem!_pos zs.toArray j (by simp; omega)] at e
          simpa using e.symm
        · exact ⟨j + 1, List.mem_filter.2 ⟨List.mem_range.2 hj, Lib.keeps_pos e⟩, by rw [getElem!_pos zs.toArray (j + 1) (by simpa using hj)]; simp⟩
    exact key j hj
theorem compact_asc {zs : List Int} (h : zs.Pairwise (· ≤ ·)) : (Lib.compact zs).Pairwise (· < ·) := by
  unfold Lib.compact Lib.compactUpTo
  rw [List.pairwise_map]
  have hp : ((List.range zs.length).filter (Lib.keeps zs.toArray)).Pairwise (· < ·) := List.Pairwise.filter _ List.pairwise_lt_range
  refine List.Pairwise.imp_of_mem ?_ hp
  intro i j hi hj hlt
  have hj1 := List.mem_range.1 (List.mem_filter.1 hj).1
  have hk := (List.mem_filter.1 hj).2
  unfold Lib.keeps at hk
  have hk2 := of_decide_eq_true hk
  rcases hk2 with h0 | h0
  · omega
  · have mono : ∀ (a b : Nat) (hb : b < zs.length) (hab : a ≤ b), zs[a]'(by omega) ≤ zs[b] := by
      intro a b hb hab
      rcases Nat.lt_or_ge a b with q | q
      · exact List.pairwise_iff_getElem.1 h a b (by omega) hb q
      · have : a = b := by omega
        subst this; exact Int.le_refl _
    rw [getElem!_pos zs.toArray j (by simpa using hj1), getElem!_pos zs.toArray (j - 1) (by simp; omega)] at h0
    rw [getElem!_pos zs.toArray j (by simpa using hj1), getElem!_pos zs.toArray i (by simp; omega)]
    simp only [List.getElem_toArray, ne_eq] at h0 ⊢
    have h1 := mono (j - 1) j hj1 (by omega)
    have h2 := mono i (j - 1) (by omega) (by omega)
    omega
theorem sorted_le (zs : List Int) : (zs.mergeSort fun x y => decide (x ≤ y)).Pairwise (· ≤ ·) := by
  have := List.pairwise_mergeSort (le := fun x y : Int => decide (x ≤ y)) (fun a b c h1 h2 => by simp only [decide_eq_true_eq] at *; omega) (fun a b => by simp only [Bool.or_eq_true, decide_eq_true_eq]; omega) zs
  exact this.imp fun h => of_decide_eq_true h
theorem objL_mem {l : List Rec} {o : Int} : o ∈ objL l ↔ ∃ r ∈ l, r.1 = o := by
  unfold objL
  rw [compact_mem, List.mem_mergeSort, List.mem_map]
theorem objL_asc (l : List Rec) : (objL l).Pairwise (· < ·) := compact_asc (sorted_le _)
theorem compact_len (zs : List Int) : (Lib.compact zs).length ≤ zs.length := by
  unfold Lib.compact Lib.compactUpTo
  rw [List.length_map]
  have := List.length_filter_le (Lib.keeps zs.toArray) (List.range zs.length)
  rwa [List.length_range] at this
theorem objL_len (l : List Rec) : (objL l).length ≤ l.length := by
  have := compact_len ((l.map (·.1)).mergeSort fun x y => decide (x ≤ y))
  simpa [objL] using this
theorem objL_nil : objL [] = [] := by
  have := objL_len []
  exact List.eq_nil_of_length_eq_zero (by simpa using this)
theorem ofL_count (l : List Rec) (a : Int) (k : Nat) (hk : k ≤ l.length) : (ofL l a k).length = (l.take k).countP (fun r => r.1 == a) := by
  induction k with
  | zero => simp [ofL]
  | succ k ih =>
    have hlt : k < l.length := by omega
    rw [List.take_succ_eq_append_getElem hlt, List.countP_append, ← ih (by omega)]
    by_cases he : (l[k]).1 = a
    · rw [ofL_yes hlt he]; simp [he]
    · rw [ofL_no hlt he]; simp [he]
/-- How many records there are of an object. -/
def cntL (l : List Rec) (a : Int) : Nat := (ofL l a l.length).length
theorem cntL_eq (l : List Rec) (a : Int) : cntL l a = l.countP (fun r => r.1 == a) := by
  unfold cntL
  rw [ofL_count l a l.length (Nat.le_refl _), List.take_length]
theorem cntL_len (l : List Rec) (a : Int) : cntL l a ≤ l.length := ofL_len _ _ _
theorem cntL_pos {l : List Rec} {a : Int} (h : a ∈ objL l) : 0 < cntL l a := by
  obtain ⟨r, hr, rfl⟩ := objL_mem.1 h
  rw [cntL_eq, List.countP_pos_iff]
  exact ⟨r, hr, by simp⟩
/-- The counts of the first q of a list of objects. -/
def sumQ (l : List Rec) (os : List Int) (q : Nat) : Nat := ((os.take q).map (cntL l)).sum
theorem sumQ_next {l : List Rec} {os : List Int} {q : Nat} (h : q < os.length) : sumQ l os (q + 1) = sumQ l os q + cntL l os[q] := by
  unfold sumQ
  rw [List.take_succ_eq_append_getElem h, List.map_append, List.sum_append]
  simp
theorem sum_ones {os : List Int} (hn : os.Nodup) {x : Int} (hx : x ∈ os) : (os.map fun o => if x = o then 1 else 0).sum = 1 := by
  induction os with
  | nil => cases hx
  | cons o os ih =>
    rw [List.map_cons, List.sum_cons]
    have hz : ∀ (os : List Int), x ∉ os → (os.map fun o => if x = o then 1 else 0).sum = 0 := by
      intro os
      induction os with
      | nil => intro _; rfl
      | cons a r ih => intro h; rw [List.map_cons, List.sum_cons, ih (fun q => h (List.mem_cons_of_mem _ q)), if_neg (fun e => h (by rw [e]; exact List.mem_cons_self ..))]
    obtain ⟨h1, h2⟩ := List.nodup_cons.1 hn
    by_cases e : x = o
    · subst e
      rw [if_pos rfl, hz os h1]
    · rw [if_neg e, ih h2 ((List.mem_cons.1 hx).resolve_left e)]
theorem sum_counts (os : List Int) (hn : os.Nodup) (l : List Rec) (h : ∀ r ∈ l, r.1 ∈ os) : (os.map fun o => l.countP (fun r => r.1 == o)).sum = l.length := by
  induction l with
  | nil => 
    have : ∀ os : List Int, (os.map fun o => ([] : List Rec).countP (fun r => r.1 == o)).sum = 0 := by
      intro os; induction os with
      | nil => rfl
      | cons a r ih => rw [List.map_cons, List.sum_cons, ih]; rfl
    exact this os
  | cons p l ih =>
    have e : (fun o => (p :: l).countP (fun r => r.1 == o)) = fun o => l.countP (fun r => r.1 == o) + (if p.1 = o then 1 else 0) := by
      funext o
      rw [List.countP_cons]
      simp
    have add : ∀ (os : List Int) (f g : Int → Nat), (os.map fun o => f o + g o).sum = (os.map f).sum + (os.map g).sum := by
      intro os f g
      induction os with
      | nil => rfl
      | cons a r ih => simp only [List.map_cons, List.sum_cons, ih]; omega
    rw [e, add, ih (fun r hr => h r (List.mem_cons_of_mem _ hr)), sum_ones hn (h p (List.mem_cons_self ..)), List.length_cons]
theorem sum_all (l : List Rec) : sumQ l (objL l) (objL l).length = l.length := by
  unfold sumQ
  rw [List.take_length]
  have e : cntL l = fun o => l.countP (fun r => r.1 == o) := by funext o; exact cntL_eq l o
  rw [e]
  exact sum_counts _ ((objL_asc l).imp fun h => by omega) l (fun r hr => objL_mem.2 ⟨r, hr, rfl⟩)
theorem sumQ_le (l : List Rec) (q : Nat) (hq : q ≤ (objL l).length) : sumQ l (objL l) q ≤ l.length := by
  have : ∀ k, q + k ≤ (objL l).length → sumQ l (objL l) q ≤ sumQ l (objL l) (q + k) := by
    intro k
    induction k with
    | zero => intro _; exact Nat.le_refl _
    | succ k ih => intro h; have := ih (by omega); rw [← Nat.add_assoc, sumQ_next (by omega)]; omega
  have h2 := this ((objL l).length - q) (by omega)
  rw [show q + ((objL l).length - q) = (objL l).length by omega, sum_all] at h2
  exact h2
end Go.Proofs.Ytppjpicfiflkcaa
