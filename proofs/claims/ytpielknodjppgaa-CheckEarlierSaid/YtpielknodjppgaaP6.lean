/- What may be done by the kinds that have an Arg, part 1. -/
import Derived.Test.YtpielknodjppgaaP4
namespace Go.Proofs.Ytpielknodjppgaa
open Go.RowKit Go.Maps
set_option linter.unusedSimpArgs false
set_option linter.unusedVariables false
set_option maxRecDepth 100000
set_option maxHeartbeats 4000000


theorem mwi_7 {w : World} {B W L : Nat} {S : St} (h : ModT w B W L S) {t o : Nat} (a r : Int) (ht : t < S.N) (ho : o < S.M) (wa : wfI a) :
    Calls Try.prog 47 #[.pointer (some ⟨B, 0, none⟩), (Value.agg #[.int .i64 7, .int .i64 (t : Int), .int .i64 (o : Int), .int .i64 a, .int .i64 r])] w fun e w' => e = .returned (.bool (mwiB S 7 t o a r)) ∧ Ext w w' := by
  have n1 := h.ok.n1
  have m1 := h.ok.m1
  have ho8 : o < 8 := by omega
  have i8 : (o : Int) < 8 := by omega
  have r1 := h.own ho8
  have r2 := h.cnt ho8
  have r3 := h.hsh ho8
  have lB := h.b.lt
  have lB1 : B < w.heap.size + 1 := by omega
  have lB2 : B < w.heap.size + 1 + 1 := by omega
  have lB3 : B < w.heap.size + 1 + 1 + 1 := by omega
  have lS2 : w.heap.size < w.heap.size + 1 + 1 := by omega
  have lS3 : w.heap.size < w.heap.size + 1 + 1 + 1 := by omega
  have nB1 : ¬ B = w.heap.size + 1 := by omega
  have nB2 : ¬ B = w.heap.size + 1 + 1 := by omega
  have hE : Hid (owB S t o = (S.own o == (t : Int))) := hide rfl
  have E := hide (show mwiB S 7 t o a r = (r == 0 && owB S t o && (S.wt o a).isSome) from rfl)
  rw [hE.out] at E
  have L1 : Hid (∀ w', Ext w w' → (Instr.lookup 79 (.map (some W)) ((Value.agg #[.int .i64 (o : Int), .int .i64 a])) true).run Try.prog w' = .ok (.tuple #[.int .i64 ((S.wt o a).getD 0), .bool (S.wt o a).isSome]) w') := hide fun w' x => (h.ext x).wm.look (nat_wf ho8) wa
  have r35 : w.cell? ⟨B, 35, none⟩ = some (.map (some W)) := h.c (by omega)
  generalize mwiB S 7 t o a r = res at *
  generalize (S.wt o a).getD 0 = p at *
  generalize (S.wt o a).isSome = bs at *
  generalize S.own o = w0 at *
  generalize S.cnt o = cc at *
  generalize S.hsh o = hh at *
  have x1 := ((Ext.alloc w (.cells #[Value.int .i64 7, .int .i64 (t : Int), .int .i64 (o : Int), .int .i64 a, .int .i64 r] 36)).trans (Ext.alloc _ (.cells #[Value.int .i64 w0, .int .i64 cc, .int .i64 hh] 75))).trans (Ext.drew _)
  have l1 := L1.out _ (x1.trans (Ext.drew _))
  clear h hE L1
  cases q3 : (r == 0) <;> cases q1 : (w0 == (t : Int))
  all_goals
    rw [q1, q3] at E
    go_enter Try.func47, Try.ntmps47
    go_wp2_with fail
    go_region
    go_wp2_with fail
    go_region
    go_wp2_with fail
    go_ret
    exact ⟨by rw [E.out]; simp, x1.trans (Ext.drew _)⟩
theorem mwi_10 {w : World} {B W L : Nat} {S : St} (h : ModT w B W L S) {t o : Nat} (a r : Int) (ht : t < S.N) (ho : o < S.M) :
    Calls Try.prog 47 #[.pointer (some ⟨B, 0, none⟩), (Value.agg #[.int .i64 10, .int .i64 (t : Int), .int .i64 (o : Int), .int .i64 a, .int .i64 r])] w fun e w' => e = .returned (.bool (mwiB S 10 t o a r)) ∧ Ext w w' := by
  have n1 := h.ok.n1
  have m1 := h.ok.m1
  have ho8 : o < 8 := by omega
  have i8 : (o : Int) < 8 := by omega
  have r1 := h.own ho8
  have r2 := h.cnt ho8
  have r3 := h.hsh ho8
  have lB := h.b.lt
  have lB1 : B < w.heap.size + 1 := by omega
  have lB2 : B < w.heap.size + 1 + 1 := by omega
  have lB3 : B < w.heap.size + 1 + 1 + 1 := by omega
  have lS2 : w.heap.size < w.heap.size + 1 + 1 := by omega
  have lS3 : w.heap.size < w.heap.size + 1 + 1 + 1 := by omega
  have nB1 : ¬ B = w.heap.size + 1 := by omega
  have nB2 : ¬ B = w.heap.size + 1 + 1 := by omega
  have hE : Hid (owB S t o = (S.own o == (t : Int))) := hide rfl
  have E := hide (show mwiB S 10 t o a r = hshB (S.own o) (S.hsh o) a r from rfl)
  rw [E.out]
  clear E hE h
  generalize S.own o = w0 at *
  generalize S.cnt o = cc at *
  generalize S.hsh o = hh at *
  have x1 := ((Ext.alloc w (.cells #[Value.int .i64 10, .int .i64 (t : Int), .int .i64 (o : Int), .int .i64 a, .int .i64 r] 36)).trans (Ext.alloc _ (.cells #[Value.int .i64 w0, .int .i64 cc, .int .i64 hh] 75))).trans (Ext.drew _)
  have c := fun w' => mhash_any w0 cc hh 10 t o a r w'
  generalize hshB w0 hh a r = res at *
  go_enter Try.func47, Try.ntmps47
  go_wp2_with fail
  go_region
  go_wp2_with fail
  refine (c _).mono ?_
  rintro e w1 ⟨rfl, hx⟩
  go_wp2_with fail
  go_ret
  exact ⟨by simp, x1.trans hx⟩
end Go.Proofs.Ytpielknodjppgaa
