/- The document's Ask: what it refuses. -/
import Derived.Test.YtonaibpenijomaaR2
namespace Go.Proofs.Ytonaibpenijomaa
open Go.RowKit Go.Maps
set_option linter.unusedSimpArgs false
set_option linter.unusedVariables false
set_option maxRecDepth 100000


theorem rwaits_ext {w : World} {O : List Nat} {X : Nat} {S : List En} (t : Int) (h : RT w O X S) (ok : Ok S) : Calls Try.prog 16 #[.pointer (some ⟨X, 0, none⟩), .int .i64 t] w fun e w' => e = .returned (.bool (waitsB S t)) ∧ Ext w w' :=
  (rwaits_any t h ok).mono fun e w' ⟨h1, h2⟩ => ⟨h1, h2 ▸ Ext.refl _⟩
/-- Requests held against each other. -/
def eqQ (p q : Rq) : Bool := decide (p = q)
theorem eqQ_same (p : Rq) : eqQ p p = true := decide_eq_true rfl
theorem eqQ_no {p q : Rq} (h : p ≠ q) : eqQ p q = false := decide_eq_false h
theorem eq_rreq (a b x y : Int) (w : World) : Sem.run Try.prog (binOp .eql 30 ((Value.agg #[.int .i64 a, .int .i64 b])) ((Value.agg #[.int .i64 x, .int .i64 y]))) w = .ok (.bool (eqQ (a, b) (x, y))) w := by
  unfold eqQ
  go_simp
  by_cases c1 : a = x
  · by_cases c2 : b = y <;> simp [c1, c2]
  · simp [c1]
theorem neq_rreq (a b x y : Int) (w : World) : Sem.run Try.prog (binOp .neq 30 ((Value.agg #[.int .i64 a, .int .i64 b])) ((Value.agg #[.int .i64 x, .int .i64 y]))) w = .ok (.bool (!eqQ (a, b) (x, y))) w := by
  unfold eqQ
  go_simp
  by_cases c1 : a = x
  · by_cases c2 : b = y <;> simp [c1, c2]
  · simp [c1]
theorem eq_spot (a b x y : Int) (w : World) : Sem.run Try.prog (binOp .eql 33 ((Value.agg #[.int .i64 a, .int .i64 b])) ((Value.agg #[.int .i64 x, .int .i64 y]))) w = .ok (.bool (eqQ (a, b) (x, y))) w := by
  unfold eqQ
  go_simp
  by_cases c1 : a = x
  · by_cases c2 : b = y <;> simp [c1, c2]
  · simp [c1]
theorem neq_spot (a b x y : Int) (w : World) : Sem.run Try.prog (binOp .neq 33 ((Value.agg #[.int .i64 a, .int .i64 b])) ((Value.agg #[.int .i64 x, .int .i64 y]))) w = .ok (.bool (!eqQ (a, b) (x, y))) w := by
  unfold eqQ
  go_simp
  by_cases c1 : a = x
  · by_cases c2 : b = y <;> simp [c1, c2]
  · simp [c1]
theorem rask_bad {w : World} {X : Nat} {k o t : Int} (h : okA (k, o) t = false) : Calls Try.prog 13 #[.pointer (some ⟨X, 0, none⟩), (Value.agg #[.int .i64 k, .int .i64 o]), .int .i64 t] w fun e w' => e = .returned (.tuple #[.bool false, .int .i64 1]) ∧ Ext w w' := by
  unfold okA mayR okT at h
  simp only [Bool.and_eq_false_iff, decide_eq_false_iff_not] at h
  by_cases a0 : k = 1
  · subst a0
    by_cases a1 : 0 ≤ o
    · by_cases a2 : o < 65536
      · by_cases t0 : t < -1
        · clear h
          go_enter Try.func13, Try.ntmps13
          go_wp2_with fail
          go_ret2
          exact ⟨by simp, Ext.alloc _ _⟩
        · have t1 : 256 ≤ t := by omega
          clear h
          go_enter Try.func13, Try.ntmps13
          go_wp2_with fail
          go_ret2
          exact ⟨by simp, Ext.alloc _ _⟩
      · clear h
        go_enter Try.func13, Try.ntmps13
        go_wp2_with fail
        go_ret2
        exact ⟨by simp, Ext.alloc _ _⟩
    · clear h
      go_enter Try.func13, Try.ntmps13
      go_wp2_with fail
      go_ret2
      exact ⟨by simp, Ext.alloc _ _⟩
  · have a0b : (k == 1) = false := by simpa using a0
    by_cases a1 : k = 2
    · subst a1
      by_cases a2 : o = 0
      · subst a2
        by_cases t0 : t < -1
        · clear h
          go_enter Try.func13, Try.ntmps13
          go_wp2_with fail
          go_ret2
          exact ⟨by simp, Ext.alloc _ _⟩
        · have t1 : 256 ≤ t := by omega
          clear h
          go_enter Try.func13, Try.ntmps13
          go_wp2_with fail
          go_ret2
          exact ⟨by simp, Ext.alloc _ _⟩
      · have a2b : (o != 0) = true := by simpa using a2
        clear h
        go_enter Try.func13, Try.ntmps13
        go_wp2_with fail
        go_ret2
        exact ⟨by simp, Ext.alloc _ _⟩
    · have a1b : (k != 2) = true := by simpa using a1
      clear h
      go_enter Try.func13, Try.ntmps13
      go_wp2_with fail
      go_ret2
      exact ⟨by simp, Ext.alloc _ _⟩
end Go.Proofs.Ytonaibpenijomaa
