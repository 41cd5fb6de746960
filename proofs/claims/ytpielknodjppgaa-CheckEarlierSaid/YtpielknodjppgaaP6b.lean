/- What may be done by the kinds that have an Arg, part 2. -/
import Derived.Test.YtpielknodjppgaaP4
namespace Go.Proofs.Ytpielknodjppgaa
open Go.RowKit Go.Maps
set_option linter.unusedSimpArgs false
set_option linter.unusedVariables false
set_option maxRecDepth 100000
set_option maxHeartbeats 4000000


theorem mwi_11 {w : World} {B W L : Nat} {S : St} (h : ModT w B W L S) {t o : Nat} (a r : Int) (ht : t < S.N) (ho : o < S.M) :
    Calls Try.prog 47 #[.pointer (some ⟨B, 0, none⟩), (Value.agg #[.int .i64 11, .int .i64 (t : Int), .int .i64 (o : Int), .int .i64 a, .int .i64 r])] w fun e w' => e = .returned (.bool (mwiB S 11 t o a r)) ∧ Ext w w' := by
  have n1 := h.ok.n1
  have m1 := h.ok.m1
  have ho8 : o < 8 := by omega
  have i8 : (o : Int) < 8 := by omega
  have r1 := h.own ho8
  have r2 := h.cnt ho8
  have r3 := h.hsh ho8
  have lB := h.b.lt
  have lB1 : B < w.heap.size + 1 := by omega
  have lB2 : B < w.heap.size + 1 + 1 := by omega
  have lB3 : B < w.heap.size + 1 + 1 + 1 := by omega
  have lS2 : w.heap.size < w.heap.size + 1 + 1 := by omega
  have lS3 : w.heap.size < w.heap.size + 1 + 1 + 1 := by omega
  have nB1 : ¬ B = w.heap.size + 1 := by omega
  have nB2 : ¬ B = w.heap.size + 1 + 1 := by omega
  have hE : Hid (owB S t o = (S.own o == (t : Int))) := hide rfl
  have E := hide (show mwiB S 11 t o a r = (r == 0 && ((a == 1 && owB S t o) || (a == 0 && !owB S t o))) from rfl)
  rw [hE.out] at E
  generalize mwiB S 11 t o a r = res at *
  generalize S.own o = w0 at *
  generalize S.cnt o = cc at *
  generalize S.hsh o = hh at *
  have x1 := ((Ext.alloc w (.cells #[Value.int .i64 11, .int .i64 (t : Int), .int .i64 (o : Int), .int .i64 a, .int .i64 r] 36)).trans (Ext.alloc _ (.cells #[Value.int .i64 w0, .int .i64 cc, .int .i64 hh] 75))).trans (Ext.drew _)
  clear h hE
  cases q3 : (r == 0)
  · rw [q3] at E
    go_enter Try.func47, Try.ntmps47
    go_wp2_with fail
    go_region
    go_wp2_with fail
    go_ret
    exact ⟨by rw [E.out]; simp, x1⟩
  · cases q1 : (w0 == (t : Int)) <;> cases q4 : (a == 1) <;> cases q5 : (a == 0)
    all_goals
      rw [q1, q3, q4, q5] at E
      go_enter Try.func47, Try.ntmps47
      go_wp2_with fail
      go_region
      go_wp2_with fail
      go_ret
      exact ⟨by rw [E.out]; simp, x1⟩
theorem mwi_12 {w : World} {B W L : Nat} {S : St} (h : ModT w B W L S) {t o : Nat} (a r : Int) (ht : t < S.N) (ho : o < S.M) :
    Calls Try.prog 47 #[.pointer (some ⟨B, 0, none⟩), (Value.agg #[.int .i64 12, .int .i64 (t : Int), .int .i64 (o : Int), .int .i64 a, .int .i64 r])] w fun e w' => e = .returned (.bool (mwiB S 12 t o a r)) ∧ Ext w w' := by
  have n1 := h.ok.n1
  have m1 := h.ok.m1
  have ho8 : o < 8 := by omega
  have i8 : (o : Int) < 8 := by omega
  have r1 := h.own ho8
  have r2 := h.cnt ho8
  have r3 := h.hsh ho8
  have lB := h.b.lt
  have lB1 : B < w.heap.size + 1 := by omega
  have lB2 : B < w.heap.size + 1 + 1 := by omega
  have lB3 : B < w.heap.size + 1 + 1 + 1 := by omega
  have lS2 : w.heap.size < w.heap.size + 1 + 1 := by omega
  have lS3 : w.heap.size < w.heap.size + 1 + 1 + 1 := by omega
  have nB1 : ¬ B = w.heap.size + 1 := by omega
  have nB2 : ¬ B = w.heap.size + 1 + 1 := by omega
  have hE : Hid (owB S t o = (S.own o == (t : Int))) := hide rfl
  have E := hide (show mwiB S 12 t o a r = (r == 0 && isT S a) from rfl)
  generalize mwiB S 12 t o a r = res at *
  generalize S.own o = w0 at *
  generalize S.cnt o = cc at *
  generalize S.hsh o = hh at *
  have x1 := ((Ext.alloc w (.cells #[Value.int .i64 12, .int .i64 (t : Int), .int .i64 (o : Int), .int .i64 a, .int .i64 r] 36)).trans (Ext.alloc _ (.cells #[Value.int .i64 w0, .int .i64 cc, .int .i64 hh] 75))).trans (Ext.drew _)
  have c := hasT_any (h.ext x1).any a
  simp only [Bool.true_and] at c
  generalize isT S a = bt at *
  clear h hE
  cases q3 : (r == 0)
  · rw [q3] at E
    go_enter Try.func47, Try.ntmps47
    go_wp2_with fail
    go_region
    go_wp2_with fail
    go_ret
    exact ⟨by rw [E.out]; simp, x1⟩
  · rw [q3] at E
    go_enter Try.func47, Try.ntmps47
    go_wp2_with fail
    go_region
    go_wp2_with fail
    refine c.mono ?_
    rintro e w1 ⟨rfl, rfl⟩
    go_wp2_with fail
    go_ret
    exact ⟨by rw [E.out]; simp, x1⟩
theorem mwi_o {w : World} {B W L : Nat} {S : St} (h : ModT w B W L S) (k : Int) {t o : Nat} (a r : Int) (ht : t < S.N) (ho : o < S.M) (hk : ¬ (k = 7 ∨ k = 8 ∨ k = 10 ∨ k = 11 ∨ k = 12)) :
    Calls Try.prog 47 #[.pointer (some ⟨B, 0, none⟩), (Value.agg #[.int .i64 k, .int .i64 (t : Int), .int .i64 (o : Int), .int .i64 a, .int .i64 r])] w fun e w' => e = .returned (.bool (mwiB S k t o a r)) ∧ Ext w w' := by
  have n1 := h.ok.n1
  have m1 := h.ok.m1
  have ho8 : o < 8 := by omega
  have i8 : (o : Int) < 8 := by omega
  have r1 := h.own ho8
  have r2 := h.cnt ho8
  have r3 := h.hsh ho8
  have lB := h.b.lt
  have lB1 : B < w.heap.size + 1 := by omega
  have lB2 : B < w.heap.size + 1 + 1 := by omega
  have lB3 : B < w.heap.size + 1 + 1 + 1 := by omega
  have lS2 : w.heap.size < w.heap.size + 1 + 1 := by omega
  have lS3 : w.heap.size < w.heap.size + 1 + 1 + 1 := by omega
  have nB1 : ¬ B = w.heap.size + 1 := by omega
  have nB2 : ¬ B = w.heap.size + 1 + 1 := by omega
  have hE : Hid (owB S t o = (S.own o == (t : Int))) := hide rfl
  have E := hide (show mwiB S k t o a r = false by unfold mwiB; rw [if_neg (by omega), if_neg (by omega), if_neg (by omega), if_neg (by omega), if_neg (by omega)])
  rw [E.out]
  have q1 : (k == 7) = false := by simp; omega
  have q2 : (k == 8) = false := by simp; omega
  have q3 : (k == 10) = false := by simp; omega
  have q4 : (k == 11) = false := by simp; omega
  have q9 : (k == 12) = false := by simp; omega
  generalize S.own o = w0 at *
  generalize S.cnt o = cc at *
  generalize S.hsh o = hh at *
  have x1 := ((Ext.alloc w (.cells #[Value.int .i64 k, .int .i64 (t : Int), .int .i64 (o : Int), .int .i64 a, .int .i64 r] 36)).trans (Ext.alloc _ (.cells #[Value.int .i64 w0, .int .i64 cc, .int .i64 hh] 75))).trans (Ext.drew _)
  clear E h hk hE
  go_enter Try.func47, Try.ntmps47
  go_wp2_with fail
  go_region
  go_wp2_with fail
  go_ret
  exact ⟨by simp, x1⟩
end Go.Proofs.Ytpielknodjppgaa
