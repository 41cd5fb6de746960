/- The document's Ask whole; both queues beside each other. -/
import Derived.Test.YtonaibpenijomaaR5
import Derived.Test.YtonaibpenijomaaR6
import Derived.Test.YtonaibpenijomaaS1
namespace Go.Proofs.Ytonaibpenijomaa
open Go.RowKit Go.Maps
set_option linter.unusedSimpArgs false
set_option linter.unusedVariables false
set_option maxRecDepth 100000


theorem rask_any {w : World} {O : List Nat} {X : Nat} {S : List En} {k o : Int} (t : Int) (h : RT w O X S) (ok : Ok S) :
    Calls Try.prog 13 #[.pointer (some ⟨X, 0, none⟩), (Value.agg #[.int .i64 k, .int .i64 o]), .int .i64 t] w fun e w' => e = .returned (.tuple #[.bool (askB S (k, o) t), .int .i64 (askE S (k, o) t)]) ∧ ∃ O', RT w' O' X (askS S (k, o) t) ∧ Chg O w w' ∧ Fr O O' w := by
  by_cases ha : okA (k, o) t = true
  · cases hw : waitsB S t with
    | true =>
      have e0 := askE_there ha hw
      have e1 := ask_err e0 (by decide)
      rw [e0, e1.1, e1.2]
      exact (rask_there h ok ha hw).mono fun e w' ⟨h1, h2⟩ => ⟨h1, O, h.ext h2, h2.chg O, Fr.refl O w⟩
    | false =>
      cases hh : hasR S (k, o) with
      | true =>
        have e0 := askE_has ha hw hh
        have e1 := ask_add e0 hh
        rw [e0, e1.1, e1.2]
        exact rask_more h ok ha hw hh
      | false =>
        by_cases hl : S.length = 256
        · have e0 := askE_full ha hw hh hl
          have e1 := ask_err e0 (by decide)
          rw [e0, e1.1, e1.2]
          exact (rask_full h ok ha hw hh hl).mono fun e w' ⟨h1, h2⟩ => ⟨h1, O, h.ext h2, h2.chg O, Fr.refl O w⟩
        · have e0 := askE_new ha hw hh hl
          have e1 := ask_new e0 hh
          rw [e0, e1.1, e1.2]
          exact rask_fresh h ok ha hw hh hl
  · have ha : okA (k, o) t = false := by simpa using ha
    have e0 := askE_bad (S := S) ha
    have e1 := ask_err e0 (by decide)
    rw [e0, e1.1, e1.2]
    exact (rask_bad ha).mono fun e w' ⟨h1, h2⟩ => ⟨h1, O, h.ext h2, h2.chg O, Fr.refl O w⟩
/-- Both queues: the program's holds S, the document's T. -/
structure PI (w0 w : World) (O R : List Nat) (C X : Nat) (S T : List En) : Prop where
  q : QT w O C S
  r : RT w R X T
  dis : ∀ k, k ∈ O → k ∉ R
  lo : ∀ k, k ∈ O → w0.heap.size ≤ k
  lr : ∀ k, k ∈ R → w0.heap.size ≤ k
  e : Ext w0 w
section
variable {w0 w w' : World} {O R O' R' : List Nat} {C X : Nat} {S T S' T' : List En}
theorem PI.ext (h : PI w0 w O R C X S T) (x : Ext w w') : PI w0 w' O R C X S T := ⟨h.q.ext x, h.r.ext x, h.dis, h.lo, h.lr, h.e.trans x⟩
theorem PI.prog (h : PI w0 w O R C X S T) (q : QT w' O' C S') (c : Chg O w w') (f : Fr O O' w) : PI w0 w' O' R C X S' T :=
  ⟨q, h.r.chg c (fun k hk hk2 => h.dis k hk2 hk), fun k hk hk2 => by
    rcases f k hk with z | z
    · exact h.dis k z hk2
    · have := h.r.lt k hk2; omega, f.low h.lo h.e, h.lr, h.e.turn c h.lo⟩
theorem PI.ref (h : PI w0 w O R C X S T) (r : RT w' R' X T') (c : Chg R w w') (f : Fr R R' w) : PI w0 w' O R' C X S T' :=
  ⟨h.q.chg c (fun k hk hk2 => h.dis k hk hk2), r, fun k hk hk2 => by
    rcases f k hk2 with z | z
    · exact h.dis k hk z
    · have := h.q.lt k hk; omega, h.lo, f.low h.lr h.e, h.e.turn c h.lr⟩
theorem PI.out (h : PI w0 w O R C X S T) : w.heap.size ∉ O ∧ w.heap.size ∉ R :=
  ⟨fun z => by have := h.q.lt _ z; omega, fun z => by have := h.r.lt _ z; omega⟩
theorem Fr.out {b : Nat} (f : Fr O O' w) (hb : b ∉ O) (hl : b < w.heap.size) : b ∉ O' := fun z => by
  rcases f b z with q | q
  · exact hb q
  · omega
theorem PI.ask {k o : Int} (t : Int) (h : PI w0 w O R C X S T) (hr : wfR (k, o)) :
    Calls Try.prog 12 #[.pointer (some ⟨C, 0, none⟩), (Value.agg #[.int .i64 k, .int .i64 o]), .int .i64 t] w fun e w' => e = .returned (.tuple #[.bool (askB S (k, o) t), .int .i64 (askE S (k, o) t)]) ∧ ∃ O', PI w0 w' O' R C X (askS S (k, o) t) T ∧ Chg O w w' ∧ Fr O O' w :=
  (ask_any t h.q hr).mono fun e w' ⟨e1, O', q1, q2, q3⟩ => ⟨e1, O', h.prog q1 q2 q3, q2, q3⟩
theorem PI.rask {k o : Int} (t : Int) (h : PI w0 w O R C X S T) (ok : Ok T) :
    Calls Try.prog 13 #[.pointer (some ⟨X, 0, none⟩), (Value.agg #[.int .i64 k, .int .i64 o]), .int .i64 t] w fun e w' => e = .returned (.tuple #[.bool (askB T (k, o) t), .int .i64 (askE T (k, o) t)]) ∧ ∃ R', PI w0 w' O R' C X S (askS T (k, o) t) ∧ Chg R w w' ∧ Fr R R' w :=
  (rask_any t h.r ok).mono fun e w' ⟨e1, O', q1, q2, q3⟩ => ⟨e1, O', h.ref q1 q2 q3, q2, q3⟩
end
theorem rt_new (w : World) : RT (w.alloc (.cells #[.slice none 0 0] 27)) [w.heap.size] w.heap.size [] :=
  ⟨none, 0, fun _ => ⟨none, 0, 0⟩, Blk.new w _ _, Nat.le_refl _, by unfold maxLen; omega, .inl ⟨rfl, rfl⟩, fun j h => by simp at h, fun j h => by simp at h, by simp, fun k hk => by simp at hk; simp; omega⟩
end Go.Proofs.Ytonaibpenijomaa
