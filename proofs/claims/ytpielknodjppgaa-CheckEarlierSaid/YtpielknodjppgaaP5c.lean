/- What may be done by the kinds that have no Arg. -/
import Derived.Test.YtpielknodjppgaaP4
namespace Go.Proofs.Ytpielknodjppgaa
open Go.RowKit Go.Maps
set_option linter.unusedSimpArgs false
set_option linter.unusedVariables false
set_option maxRecDepth 100000
set_option maxHeartbeats 4000000


theorem mwo_9 {w : World} {B W L : Nat} {S : St} (h : ModT w B W L S) {t o : Nat} (a r : Int) (ht : t < S.N) (ho : o < S.M) :
    Calls Try.prog 46 #[.pointer (some ⟨B, 0, none⟩), (Value.agg #[.int .i64 9, .int .i64 (t : Int), .int .i64 (o : Int), .int .i64 a, .int .i64 r])] w fun e w' => e = .returned (.bool (mwoB S 9 t o r)) ∧ Ext w w' := by
  have n1 := h.ok.n1
  have m1 := h.ok.m1
  have ho8 : o < 8 := by omega
  have i8 : (o : Int) < 8 := by omega
  have r1 := h.own ho8
  have lB := h.b.lt
  have lB1 : B < w.heap.size + 1 := by omega
  have lB2 : B < w.heap.size + 1 + 1 := by omega
  have lB3 : B < w.heap.size + 1 + 1 + 1 := by omega
  have lS2 : w.heap.size < w.heap.size + 1 + 1 := by omega
  have lS3 : w.heap.size < w.heap.size + 1 + 1 + 1 := by omega
  have nB1 : ¬ B = w.heap.size + 1 := by omega
  have nB2 : ¬ B = w.heap.size + 1 + 1 := by omega
  have x1 := (Ext.alloc w (.cells #[Value.int .i64 9, .int .i64 (t : Int), .int .i64 (o : Int), .int .i64 a, .int .i64 r] 36)).trans (Ext.drew _)
  have E := hide (show mwoB S 9 t o r = (refB r (owB S t o) || (r == 0 && owB S t o && noW S o)) from rfl)
  have hE : Hid (owB S t o = (S.own o == (t : Int))) := hide rfl
  rw [E.out, hE.out]
  have c := fun w' => refd_any 9 t o a r (S.own o == (t : Int)) w'
  have cN := fun w' (x : Ext w w') => nonew_any (h.ext x) ho
  generalize noW S o = bb at *
  clear E hE h
  generalize S.own o = w0 at *
  have C : (w0 == (t : Int)) = true → refB r true = false := fun _ => by unfold refB; simp
  cases q1 : (w0 == (t : Int))
  · have Q1 := hide q1
    cases q2 : refB r false
    · have Q2 := hide q2
      clear q2 C
      cases q3 : (r == 0)
      · rw [Q1.out] at c
        go_enter Try.func46, Try.ntmps46
        go_wp2_with fail
        go_region
        go_wp2_with fail
        refine (c _).mono ?_
        rintro e w1 ⟨rfl, hx⟩
        rw [Q2.out]
        have hbc := ((Ext.drew _).trans hx).boxCell
        go_wp2_with (go_at_call 56; with_reducible refine (cN _ (x1.trans hx)).mono ?_; rintro e w2 ⟨rfl, hx2⟩)
        go_ret
        first
        | exact ⟨by simp [Q1.out, Q2.out], x1.trans hx⟩
        | exact ⟨by simp [Q1.out, Q2.out], (x1.trans hx).trans hx2⟩
      · rw [Q1.out] at c
        go_enter Try.func46, Try.ntmps46
        go_wp2_with fail
        go_region
        go_wp2_with fail
        refine (c _).mono ?_
        rintro e w1 ⟨rfl, hx⟩
        rw [Q2.out]
        have hbc := ((Ext.drew _).trans hx).boxCell
        go_wp2_with (go_at_call 56; with_reducible refine (cN _ (x1.trans hx)).mono ?_; rintro e w2 ⟨rfl, hx2⟩)
        go_ret
        first
        | exact ⟨by simp [Q1.out, Q2.out], x1.trans hx⟩
        | exact ⟨by simp [Q1.out, Q2.out], (x1.trans hx).trans hx2⟩
    · have Q2 := hide q2
      clear q2 C
      rw [Q1.out] at c
      go_enter Try.func46, Try.ntmps46
      go_wp2_with fail
      go_region
      go_wp2_with fail
      refine (c _).mono ?_
      rintro e w1 ⟨rfl, hx⟩
      rw [Q2.out]
      have hbc := ((Ext.drew _).trans hx).boxCell
      go_wp2_with (go_at_call 56; with_reducible refine (cN _ (x1.trans hx)).mono ?_; rintro e w2 ⟨rfl, hx2⟩)
      go_ret
      first
      | exact ⟨by simp [Q1.out, Q2.out], x1.trans hx⟩
      | exact ⟨by simp [Q1.out, Q2.out], (x1.trans hx).trans hx2⟩
  · have Q1 := hide q1
    have Q2 := hide (C q1)
    clear C
    cases q3 : (r == 0)
    · rw [Q1.out] at c
      go_enter Try.func46, Try.ntmps46
      go_wp2_with fail
      go_region
      go_wp2_with fail
      refine (c _).mono ?_
      rintro e w1 ⟨rfl, hx⟩
      rw [Q2.out]
      have hbc := ((Ext.drew _).trans hx).boxCell
      go_wp2_with (go_at_call 56; with_reducible refine (cN _ (x1.trans hx)).mono ?_; rintro e w2 ⟨rfl, hx2⟩)
      go_ret
      first
      | exact ⟨by simp [Q1.out, Q2.out], x1.trans hx⟩
      | exact ⟨by simp [Q1.out, Q2.out], (x1.trans hx).trans hx2⟩
    · rw [Q1.out] at c
      go_enter Try.func46, Try.ntmps46
      go_wp2_with fail
      go_region
      go_wp2_with fail
      refine (c _).mono ?_
      rintro e w1 ⟨rfl, hx⟩
      rw [Q2.out]
      have hbc := ((Ext.drew _).trans hx).boxCell
      go_wp2_with (go_at_call 56; with_reducible refine (cN _ (x1.trans hx)).mono ?_; rintro e w2 ⟨rfl, hx2⟩)
      go_ret
      first
      | exact ⟨by simp [Q1.out, Q2.out], x1.trans hx⟩
      | exact ⟨by simp [Q1.out, Q2.out], (x1.trans hx).trans hx2⟩
end Go.Proofs.Ytpielknodjppgaa
