/- Rows of ints in a block, by a function on places; what a rendezvous answers, as functions of its state: states of threads, how many requests wait. -/
import Derived.Test.YtndjlhnmpddpbaaTurn
namespace Go.Proofs.Ytndjlhnmpddpbaa
open Go.RowKit
set_option linter.unusedSimpArgs false
set_option linter.unusedVariables false

abbrev Ti := Nat → Int
def upI (g : Ti) (t : Nat) (s : Int) : Ti := fun k => if k = t then s else g k
theorem upI_same (g : Ti) (t : Nat) (s : Int) : upI g t s t = s := if_pos rfl
theorem upI_other (g : Ti) {t k : Nat} (s : Int) (h : k ≠ t) : upI g t s k = g k := if_neg h
theorem upI_self (g : Ti) (t : Nat) : upI g t (g t) = g := by funext k; unfold upI; split <;> simp_all
def irow (N : Nat) (g : Ti) : Array Value := ((List.range N).map fun j => Value.int .i64 (g j)).toArray
theorem irow_at {N : Nat} (g : Ti) {t : Nat} (h : t < N) : (irow N g)[t]? = some (.int .i64 (g t)) := by
  unfold irow
  rw [List.getElem?_toArray, List.getElem?_map, List.getElem?_range h]; rfl
theorem irow_set {N : Nat} (g : Ti) {t : Nat} (h : t < N) (v : Int) : (irow N g).setIfInBounds t (.int .i64 v) = irow N (upI g t v) := by
  apply Array.ext'
  apply List.ext_getElem?
  intro j
  rw [Array.toList_setIfInBounds, List.getElem?_set]
  simp only [irow, List.getElem?_map, List.length_map, List.length_range]
  by_cases hj : j < N
  · rw [List.getElem?_range hj]
    by_cases e : t = j
    · subst e; simp [upI, hj]
    · have e2 : j ≠ t := Ne.symm e
      simp [upI, e, e2]
  · have e : t ≠ j := by omega
    simp [e, List.getElem?_eq_none (show (List.range N).length ≤ j by simp; omega)]
theorem made_irow (N : Nat) (z : Value) (hz : z.cells = #[.int .i64 0]) : madeCells z.cells (N * 1) = irow N (fun _ => 0) := by
  rw [hz]
  apply Array.ext'
  apply List.ext_getElem
  · simp [madeCells, irow]
  · intro i h1 h2
    simp [madeCells, irow, Nat.mod_one]
theorem inf_int : (Try.prog.info? 3).map (fun i => (i.zero, i.size, i.bytes)) = some (some (.int .i64 0), 1, 8) := by kernel_rfl
/-! Which threads there are. -/
def inB (N : Nat) (z : Int) : Bool := decide (0 ≤ z) && decide (z < N)
theorem inB_yes {N : Nat} {z : Int} (h0 : 0 ≤ z) (h1 : z < N) : inB N z = true := by unfold inB; rw [decide_eq_true h0, decide_eq_true h1]; rfl
theorem inB_no {N : Nat} {z : Int} (h : ¬ (0 ≤ z ∧ z < N)) : inB N z = false := by
  unfold inB
  by_cases h0 : 0 ≤ z
  · rw [decide_eq_false (show ¬ z < N from fun h1 => h ⟨h0, h1⟩), Bool.and_false]
  · rw [decide_eq_false h0, Bool.false_and]
theorem inB_of {N : Nat} {z : Int} (h : inB N z = true) : 0 ≤ z ∧ z < N := by
  refine Classical.byContradiction fun hn => ?_
  rw [inB_no hn] at h; cases h
theorem inB_not {N : Nat} {z : Int} (h : inB N z = false) : ¬ (0 ≤ z ∧ z < N) := fun hn => by
  rw [inB_yes hn.1 hn.2] at h; cases h
theorem nin {N t : Nat} (ht : t < N) : inB N (t : Int) = true := inB_yes (by omega) (by omega)
/-- A thread's state. -/
def stI (N : Nat) (g : Ti) (z : Int) : Int := if inB N z = true then g z.toNat else -1
theorem stI_yes {N : Nat} {z : Int} (g : Ti) (h0 : 0 ≤ z) (h1 : z < N) : stI N g z = g z.toNat := if_pos (inB_yes h0 h1)
theorem stI_no {N : Nat} {z : Int} (g : Ti) (h : ¬ (0 ≤ z ∧ z < N)) : stI N g z = -1 := if_neg (by rw [inB_no h]; simp)
theorem stI_n {N t : Nat} (g : Ti) (ht : t < N) : stI N g (t : Int) = g t := by rw [stI_yes g (by omega) (by omega), Int.toNat_natCast]
/-- Is something requested? -/
def wnt (a : Nat) : Bool := decide (0 < a)
theorem wnt_yes {a : Nat} (h : 0 < a) : wnt a = true := decide_eq_true h
theorem wnt_no : wnt 0 = false := rfl
theorem wnt_of {a : Nat} (h : wnt a = true) : 0 < a := of_decide_eq_true h
theorem wnt_not {a : Nat} (h : wnt a = false) : a = 0 := by have := of_decide_eq_false h; omega
/-- Do all stand still? -/
def stl (N : Nat) (g : Ti) : Bool := (List.range N).all fun k => g k != 0
theorem stl_yes {N : Nat} {g : Ti} (h : ∀ k, k < N → g k ≠ 0) : stl N g = true := by
  unfold stl
  rw [List.all_eq_true]
  intro k hk
  have := h k (List.mem_range.1 hk)
  simpa using this
theorem stl_no {N : Nat} {g : Ti} {k : Nat} (hk : k < N) (h : g k = 0) : stl N g = false := by
  cases e : stl N g
  · rfl
  · unfold stl at e
    rw [List.all_eq_true] at e
    have := e k (List.mem_range.2 hk)
    simp [h] at this
theorem stl_of {N : Nat} {g : Ti} (h : stl N g = true) : ∀ k, k < N → g k ≠ 0 := fun k hk e => by rw [stl_no hk e] at h; cases h
theorem stl_ex {N : Nat} {g : Ti} (h : stl N g = false) : ∃ k, k < N ∧ g k = 0 := by
  refine Classical.byContradiction fun hn => ?_
  have := stl_yes (N := N) (g := g) fun k hk e => hn ⟨k, hk, e⟩
  rw [h] at this; cases this
/-- Is there such a state? -/
def isS (s : Int) : Bool := decide (0 ≤ s) && decide (s ≤ 3)
theorem isS_yes {s : Int} (h0 : 0 ≤ s) (h1 : s ≤ 3) : isS s = true := by unfold isS; rw [decide_eq_true h0, decide_eq_true h1]; rfl
theorem isS_no {s : Int} (h : ¬ (0 ≤ s ∧ s ≤ 3)) : isS s = false := by
  unfold isS
  by_cases h0 : 0 ≤ s
  · rw [decide_eq_false (show ¬ s ≤ 3 from fun h1 => h ⟨h0, h1⟩), Bool.and_false]
  · rw [decide_eq_false h0, Bool.false_and]
theorem isS_of {s : Int} (h : isS s = true) : 0 ≤ s ∧ s ≤ 3 := by
  refine Classical.byContradiction fun hn => ?_
  rw [isS_no hn] at h; cases h
theorem isS_not {s : Int} (h : isS s = false) : ¬ (0 ≤ s ∧ s ≤ 3) := fun hn => by
  rw [isS_yes hn.1 hn.2] at h; cases h
/-- May a thread be put from a state into another one? -/
def gsB (a : Nat) (x s : Int) : Bool := if x = 3 then s == 3 else if x = 1 then (s != 0 || !wnt a) else true
theorem gsB_3 (a : Nat) (s : Int) : gsB a 3 s = (s == 3) := rfl
theorem gsB_1 (a : Nat) (s : Int) : gsB a 1 s = (s != 0 || !wnt a) := rfl
theorem gsB_e {a : Nat} {x s : Int} (h3 : x ≠ 3) (h1 : x ≠ 1) : gsB a x s = true := by unfold gsB; rw [if_neg h3, if_neg h1]
/-- What Put answers, and leaves. -/
def putE (N : Nat) (g : Ti) (a : Nat) (z s : Int) : Int := if inB N z = true ∧ isS s = true then (if gsB a (g z.toNat) s = true then 0 else 9) else 1
def putG (N : Nat) (g : Ti) (a : Nat) (z s : Int) : Ti := if inB N z = true ∧ isS s = true ∧ gsB a (g z.toNat) s = true then upI g z.toNat s else g
theorem putE_no {N : Nat} {g : Ti} {a : Nat} {z s : Int} (h : ¬ (inB N z = true ∧ isS s = true)) : putE N g a z s = 1 := if_neg h
theorem putG_no {N : Nat} {g : Ti} {a : Nat} {z s : Int} (h : ¬ (inB N z = true ∧ isS s = true)) : putG N g a z s = g := if_neg fun k => h ⟨k.1, k.2.1⟩
theorem putE_9 {N : Nat} {g : Ti} {a : Nat} {z s : Int} (h : inB N z = true ∧ isS s = true) (k : gsB a (g z.toNat) s = false) : putE N g a z s = 9 := by
  unfold putE; rw [if_pos h, if_neg (by rw [k]; decide)]
theorem putG_9 {N : Nat} {g : Ti} {a : Nat} {z s : Int} (k : gsB a (g z.toNat) s = false) : putG N g a z s = g := if_neg fun h => by rw [k] at h; exact absurd h.2.2 (by decide)
theorem putE_0 {N : Nat} {g : Ti} {a : Nat} {z s : Int} (h : inB N z = true ∧ isS s = true) (k : gsB a (g z.toNat) s = true) : putE N g a z s = 0 := by
  unfold putE; rw [if_pos h, if_pos k]
theorem putG_0 {N : Nat} {g : Ti} {a : Nat} {z s : Int} (h : inB N z = true ∧ isS s = true) (k : gsB a (g z.toNat) s = true) : putG N g a z s = upI g z.toNat s := if_pos ⟨h.1, h.2, k⟩
def OkI (N : Nat) (g : Ti) : Prop := ∀ k, k < N → 0 ≤ g k ∧ g k ≤ 3
theorem okI_up {N : Nat} {g : Ti} (h : OkI N g) (t : Nat) {s : Int} (h0 : 0 ≤ s) (h1 : s ≤ 3) : OkI N (upI g t s) := fun k hk => by
  by_cases e : k = t
  · rw [e, upI_same]; exact ⟨h0, h1⟩
  · rw [upI_other _ _ e]; exact h k hk
theorem okI_put {N : Nat} {g : Ti} (h : OkI N g) (a : Nat) (z s : Int) : OkI N (putG N g a z s) := by
  unfold putG
  split
  · rename_i k; obtain ⟨h0, h1⟩ := isS_of k.2.1; exact okI_up h _ h0 h1
  · exact h
/-- May a thread go on? -/
def mayB (N : Nat) (g : Ti) (a : Nat) (z : Int) : Bool := stI N g z == 0 || (stI N g z == 1 && !wnt a)
/-- Is a round done? What Done answers, and leaves. -/
def don (N : Nat) (g : Ti) (a : Nat) : Bool := wnt a && stl N g
def dA (b : Bool) (a : Nat) : Int := if b = true then a else 0
def dE (b : Bool) : Int := if b = true then 0 else 9
def dW (b : Bool) (a : Nat) : Nat := if b = true then 0 else a
def dR (b : Bool) (r : Nat) : Nat := if b = true then r + 1 else r
end Go.Proofs.Ytndjlhnmpddpbaa
