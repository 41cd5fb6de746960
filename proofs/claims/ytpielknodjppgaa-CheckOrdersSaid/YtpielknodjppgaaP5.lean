/- What may be done by the kinds that have no Arg. -/
import Derived.Test.YtpielknodjppgaaP4
namespace Go.Proofs.Ytpielknodjppgaa
open Go.RowKit Go.Maps
set_option linter.unusedSimpArgs false
set_option linter.unusedVariables false
set_option maxRecDepth 100000
set_option maxHeartbeats 4000000


theorem mwo_1 {w : World} {B W L : Nat} {S : St} (h : ModT w B W L S) {t o : Nat} (a r : Int) (ht : t < S.N) (ho : o < S.M) :
    Calls Try.prog 46 #[.pointer (some ⟨B, 0, none⟩), (Value.agg #[.int .i64 1, .int .i64 (t : Int), .int .i64 (o : Int), .int .i64 a, .int .i64 r])] w fun e w' => e = .returned (.bool (mwoB S 1 t o r)) ∧ Ext w w' := by
  have n1 := h.ok.n1
  have m1 := h.ok.m1
  have ho8 : o < 8 := by omega
  have i8 : (o : Int) < 8 := by omega
  have r1 := h.own ho8
  have lB := h.b.lt
  have lB1 : B < w.heap.size + 1 := by omega
  have lB2 : B < w.heap.size + 1 + 1 := by omega
  have lB3 : B < w.heap.size + 1 + 1 + 1 := by omega
  have lS2 : w.heap.size < w.heap.size + 1 + 1 := by omega
  have lS3 : w.heap.size < w.heap.size + 1 + 1 + 1 := by omega
  have nB1 : ¬ B = w.heap.size + 1 := by omega
  have nB2 : ¬ B = w.heap.size + 1 + 1 := by omega
  have x1 := (Ext.alloc w (.cells #[Value.int .i64 1, .int .i64 (t : Int), .int .i64 (o : Int), .int .i64 a, .int .i64 r] 36)).trans (Ext.drew _)
  have c := menter_any (h.ext x1) 1 a r 11 ht ho
  have E := hide (show mwoB S 1 t o r = entB S t o r 11 from rfl)
  rw [E.out]
  clear E h
  generalize S.own o = w0 at *
  generalize entB S t o r 11 = res at *
  go_enter Try.func46, Try.ntmps46
  go_wp2_with fail
  go_region
  go_wp2_with fail
  refine c.mono ?_
  rintro e w1 ⟨rfl, hx⟩
  go_wp2_with fail
  go_ret
  exact ⟨by simp, x1.trans hx⟩
theorem mwo_2 {w : World} {B W L : Nat} {S : St} (h : ModT w B W L S) {t o : Nat} (a r : Int) (ht : t < S.N) (ho : o < S.M) :
    Calls Try.prog 46 #[.pointer (some ⟨B, 0, none⟩), (Value.agg #[.int .i64 2, .int .i64 (t : Int), .int .i64 (o : Int), .int .i64 a, .int .i64 r])] w fun e w' => e = .returned (.bool (mwoB S 2 t o r)) ∧ Ext w w' := by
  have n1 := h.ok.n1
  have m1 := h.ok.m1
  have ho8 : o < 8 := by omega
  have i8 : (o : Int) < 8 := by omega
  have r1 := h.own ho8
  have lB := h.b.lt
  have lB1 : B < w.heap.size + 1 := by omega
  have lB2 : B < w.heap.size + 1 + 1 := by omega
  have lB3 : B < w.heap.size + 1 + 1 + 1 := by omega
  have lS2 : w.heap.size < w.heap.size + 1 + 1 := by omega
  have lS3 : w.heap.size < w.heap.size + 1 + 1 + 1 := by omega
  have nB1 : ¬ B = w.heap.size + 1 := by omega
  have nB2 : ¬ B = w.heap.size + 1 + 1 := by omega
  have x1 := (Ext.alloc w (.cells #[Value.int .i64 2, .int .i64 (t : Int), .int .i64 (o : Int), .int .i64 a, .int .i64 r] 36)).trans (Ext.drew _)
  have c := menter_any (h.ext x1) 2 a r 14 ht ho
  have E := hide (show mwoB S 2 t o r = entB S t o r 14 from rfl)
  rw [E.out]
  clear E h
  generalize S.own o = w0 at *
  generalize entB S t o r 14 = res at *
  go_enter Try.func46, Try.ntmps46
  go_wp2_with fail
  go_region
  go_wp2_with fail
  refine c.mono ?_
  rintro e w1 ⟨rfl, hx⟩
  go_wp2_with fail
  go_ret
  exact ⟨by simp, x1.trans hx⟩
theorem mwo_o {w : World} {B W L : Nat} {S : St} (h : ModT w B W L S) (k : Int) {t o : Nat} (a r : Int) (ht : t < S.N) (ho : o < S.M) (hk : ¬ (k = 1 ∨ k = 2 ∨ k = 3 ∨ k = 4 ∨ k = 9)) :
    Calls Try.prog 46 #[.pointer (some ⟨B, 0, none⟩), (Value.agg #[.int .i64 k, .int .i64 (t : Int), .int .i64 (o : Int), .int .i64 a, .int .i64 r])] w fun e w' => e = .returned (.bool (mwoB S k t o r)) ∧ Ext w w' := by
  have n1 := h.ok.n1
  have m1 := h.ok.m1
  have ho8 : o < 8 := by omega
  have i8 : (o : Int) < 8 := by omega
  have r1 := h.own ho8
  have lB := h.b.lt
  have lB1 : B < w.heap.size + 1 := by omega
  have lB2 : B < w.heap.size + 1 + 1 := by omega
  have lB3 : B < w.heap.size + 1 + 1 + 1 := by omega
  have lS2 : w.heap.size < w.heap.size + 1 + 1 := by omega
  have lS3 : w.heap.size < w.heap.size + 1 + 1 + 1 := by omega
  have nB1 : ¬ B = w.heap.size + 1 := by omega
  have nB2 : ¬ B = w.heap.size + 1 + 1 := by omega
  have x1 := (Ext.alloc w (.cells #[Value.int .i64 k, .int .i64 (t : Int), .int .i64 (o : Int), .int .i64 a, .int .i64 r] 36)).trans (Ext.drew _)
  have E := hide (show mwoB S k t o r = false by unfold mwoB; rw [if_neg (by omega), if_neg (by omega), if_neg (by omega), if_neg (by omega), if_neg (by omega)])
  rw [E.out]
  have q1 : (k == 1) = false := by simp; omega
  have q2 : (k == 2) = false := by simp; omega
  have q3 : (k == 3) = false := by simp; omega
  have q4 : (k == 4) = false := by simp; omega
  have q9 : (k == 9) = false := by simp; omega
  generalize S.own o = w0 at *
  clear E h hk
  go_enter Try.func46, Try.ntmps46
  go_wp2_with fail
  go_region
  go_wp2_with fail
  go_ret
  exact ⟨by simp, x1⟩
end Go.Proofs.Ytpielknodjppgaa
