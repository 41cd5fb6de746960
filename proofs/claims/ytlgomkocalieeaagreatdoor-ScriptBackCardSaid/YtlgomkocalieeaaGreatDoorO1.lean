/- Operations, their words, texts and bytes: what package op computes, of no program. -/
import Derived.Test.YtlgomkocalieeaaGreatDoorKit
namespace Go.Proofs.YtlgomkocalieeaaGreatDoor
/-- An operation: kind, object, Arg. -/
abbrev Op3 := Int × Int × Int
def mayK (k o a t : Int) : Bool := if k = 1 ∨ k = 2 ∨ k = 3 ∨ k = 5 ∨ k = 6 ∨ k = 7 ∨ k = 8 then a == 0 else if k = 4 then true else if k = 9 then (o == 0) && decide (a < t) else false
def mayI (k o a t n : Int) : Bool := decide (0 ≤ o ∧ o < n ∧ 0 ≤ a ∧ a ≤ 1000000) && mayK k o a t
def mayO (x : Op3) : Bool := mayI x.1 x.2.1 x.2.2 8 8
def opV (x : Op3) : Value := .agg #[.int .i64 x.1, .int .i64 x.2.1, .int .i64 x.2.2]
def rcells (l : List Op3) : List Value := l.flatMap fun x => [.int .i64 x.1, .int .i64 x.2.1, .int .i64 x.2.2]
theorem rcells_length (l : List Op3) : (rcells l).length = l.length * 3 := by
  induction l with
  | nil => rfl
  | cons x l ih => simp only [rcells, List.flatMap_cons, List.length_append] at ih ⊢; rw [ih]; simp; omega
theorem rcells_at (l : List Op3) (j : Nat) (hj : j < l.length) : (rcells l)[j * 3]? = some (.int .i64 (l[j]).1) ∧ (rcells l)[j * 3 + 1]? = some (.int .i64 (l[j]).2.1) ∧ (rcells l)[j * 3 + 2]? = some (.int .i64 (l[j]).2.2) := by
  induction l generalizing j with
  | nil => simp at hj
  | cons x l ih =>
    cases j with
    | zero => exact ⟨rfl, rfl, rfl⟩
    | succ j =>
      have h := ih j (by simpa using hj)
      have e : ∀ i, (rcells (x :: l))[i + 3]? = (rcells l)[i]? := fun i => rfl
      rw [show (j + 1) * 3 = j * 3 + 3 by omega, show j * 3 + 3 + 1 = j * 3 + 1 + 3 by omega, show j * 3 + 3 + 2 = j * 3 + 2 + 3 by omega, e, e, e]
      exact h
theorem rcells_app (l m : List Op3) : rcells (l ++ m) = rcells l ++ rcells m := by simp [rcells]
/-- What is wrong with a program: 0, nothing. -/
def wrongO (l : List Op3) : Int := if 64 < l.length then 5 else if l.all mayO then 0 else 1
end Go.Proofs.YtlgomkocalieeaaGreatDoor
