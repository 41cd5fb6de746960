/- What may be done by the kinds that have an Arg, part 3. -/
import Derived.Test.YtpielknodjppgaaP4
namespace Go.Proofs.Ytpielknodjppgaa
open Go.RowKit Go.Maps
set_option linter.unusedSimpArgs false
set_option linter.unusedVariables false
set_option maxRecDepth 100000
set_option maxHeartbeats 4000000


theorem mwi_8 {w : World} {B W L : Nat} {S : St} (h : ModT w B W L S) {t o : Nat} (a r : Int) (ht : t < S.N) (ho : o < S.M) :
    Calls Try.prog 47 #[.pointer (some ⟨B, 0, none⟩), (Value.agg #[.int .i64 8, .int .i64 (t : Int), .int .i64 (o : Int), .int .i64 a, .int .i64 r])] w fun e w' => e = .returned (.bool (mwiB S 8 t o a r)) ∧ Ext w w' := by
  have n1 := h.ok.n1
  have m1 := h.ok.m1
  have ho8 : o < 8 := by omega
  have i8 : (o : Int) < 8 := by omega
  have r1 := h.own ho8
  have r2 := h.cnt ho8
  have r3 := h.hsh ho8
  have lB := h.b.lt
  have lB1 : B < w.heap.size + 1 := by omega
  have lB2 : B < w.heap.size + 1 + 1 := by omega
  have lB3 : B < w.heap.size + 1 + 1 + 1 := by omega
  have lS2 : w.heap.size < w.heap.size + 1 + 1 := by omega
  have lS3 : w.heap.size < w.heap.size + 1 + 1 + 1 := by omega
  have nB1 : ¬ B = w.heap.size + 1 := by omega
  have nB2 : ¬ B = w.heap.size + 1 + 1 := by omega
  have hE : Hid (owB S t o = (S.own o == (t : Int))) := hide rfl
  have E := hide (show mwiB S 8 t o a r = ((refB r (owB S t o) && a == -1) || (r == 0 && owB S t o && telB S o a)) from rfl)
  rw [hE.out] at E
  have c := fun w' => refd_any 8 t o a r (S.own o == (t : Int)) w'
  have cT := fun w' (x : Ext w w') => mtell_any (h.ext x) 8 t a r ho
  generalize mwiB S 8 t o a r = res at *
  generalize telB S o a = bt at *
  generalize S.own o = w0 at *
  generalize S.cnt o = cc at *
  generalize S.hsh o = hh at *
  have x1 := ((Ext.alloc w (.cells #[Value.int .i64 8, .int .i64 (t : Int), .int .i64 (o : Int), .int .i64 a, .int .i64 r] 36)).trans (Ext.alloc _ (.cells #[Value.int .i64 w0, .int .i64 cc, .int .i64 hh] 75))).trans (Ext.drew _)
  clear h hE
  have C : (w0 == (t : Int)) = true → refB r true = false := fun _ => by unfold refB; simp
  cases q1 : (w0 == (t : Int))
  · rw [q1] at E c
    cases q2 : refB r false
    · rw [q2] at E c
      clear q2 C
      cases q3 : (r == 0)
      all_goals
        rw [q3] at E
        go_enter Try.func47, Try.ntmps47
        go_wp2_with fail
        go_region
        go_wp2_with fail
        refine (c _).mono ?_
        rintro e w1 ⟨rfl, hx⟩
        have hbc := ((Ext.alloc _ (Obj.cells #[Value.int .i64 w0, .int .i64 cc, .int .i64 hh] 75)).trans ((Ext.drew _).trans hx)).boxCell
        go_wp2_with (go_at_call 57; with_reducible refine (cT _ (x1.trans hx)).mono ?_; rintro e w2 ⟨rfl, hx2⟩)
        go_ret
        first
        | exact ⟨by rw [E.out]; simp, x1.trans hx⟩
        | exact ⟨by rw [E.out]; simp, (x1.trans hx).trans hx2⟩
    · rw [q2] at E c
      clear q2 C
      cases q4 : (a == -1)
      all_goals
        rw [q4] at E
        cases q3 : (r == 0)
        all_goals
          rw [q3] at E
          go_enter Try.func47, Try.ntmps47
          go_wp2_with fail
          go_region
          go_wp2_with fail
          refine (c _).mono ?_
          rintro e w1 ⟨rfl, hx⟩
          have hbc := ((Ext.alloc _ (Obj.cells #[Value.int .i64 w0, .int .i64 cc, .int .i64 hh] 75)).trans ((Ext.drew _).trans hx)).boxCell
          go_wp2_with (go_at_call 57; with_reducible refine (cT _ (x1.trans hx)).mono ?_; rintro e w2 ⟨rfl, hx2⟩)
          go_ret
          first
          | exact ⟨by rw [E.out]; simp, x1.trans hx⟩
          | exact ⟨by rw [E.out]; simp, (x1.trans hx).trans hx2⟩
  · have q2 := C q1
    rw [q1] at E c
    rw [q2] at E c
    clear C q2
    cases q3 : (r == 0)
    all_goals
      rw [q3] at E
      go_enter Try.func47, Try.ntmps47
      go_wp2_with fail
      go_region
      go_wp2_with fail
      refine (c _).mono ?_
      rintro e w1 ⟨rfl, hx⟩
      have hbc := ((Ext.alloc _ (Obj.cells #[Value.int .i64 w0, .int .i64 cc, .int .i64 hh] 75)).trans ((Ext.drew _).trans hx)).boxCell
      go_wp2_with (go_at_call 57; with_reducible refine (cT _ (x1.trans hx)).mono ?_; rintro e w2 ⟨rfl, hx2⟩)
      go_ret
      first
      | exact ⟨by rw [E.out]; simp, x1.trans hx⟩
      | exact ⟨by rw [E.out]; simp, (x1.trans hx).trans hx2⟩
end Go.Proofs.Ytpielknodjppgaa
