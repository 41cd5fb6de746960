/- What may be done by the kinds that have no Arg. -/
import Derived.Test.YtacneghgimfklaaP4
namespace Go.Proofs.Ytacneghgimfklaa
open Go.RowKit Go.Maps
set_option linter.unusedSimpArgs false
set_option linter.unusedVariables false
set_option maxRecDepth 100000
set_option maxHeartbeats 4000000


theorem mwo_1 {w : World} {B W L : Nat} {S : St} (h : ModT w B W L S) {t o : Nat} (a r : Int) (ht : t < S.N) (ho : o < S.M) :
    Calls Try.prog 53 #[.pointer (some ⟨B, 0, none⟩), (Value.agg #[.int .i64 1, .int .i64 (t : Int), .int .i64 (o : Int), .int .i64 a, .int .i64 r])] w fun e w' => e = .returned (.bool (mwoB S 1 t o r)) ∧ Ext w w' := by
  have n1 := h.ok.n1
  have m1 := h.ok.m1
  have ho8 : o < 8 := by omega
  have i8 : (o : Int) < 8 := by omega
  have r1 := h.own ho8
  have lB := h.b.lt
  have lB1 : B < w.heap.size + 1 := by omega
  have lB2 : B < w.heap.size + 1 + 1 := by omega
  have lB3 : B < w.heap.size + 1 + 1 + 1 := by omega
  have lS2 : w.heap.size < w.heap.size + 1 + 1 := by omega
  have lS3 : w.heap.size < w.heap.size + 1 + 1 + 1 := by omega
  have nB1 : ¬ B = w.heap.size + 1 := by omega
  have nB2 : ¬ B = w.heap.size + 1 + 1 := by omega
  have x1 := (Ext.alloc w (.cells #[Value.int .i64 1, .int .i64 (t : Int), .int .i64 (o : Int), .int .i64 a, .int .i64 r] 34)).trans (Ext.drew _)
  have c := menter_any (h.ext x1) 1 a r 11 ht ho
  have E := hide (show mwoB S 1 t o r = entB S t o r 11 from rfl)
  rw [E.out]
  clear E h
  generalize S.own o = w0 at *
  generalize entB S t o r 11 = res at *
  go_enter Try.func53, Try.ntmps53
  go_wp2_with fail
  go_region
  go_wp2_with fail
  refine c.mono ?_
  rintro e w1 ⟨rfl, hx⟩
  go_wp2_with fail
  go_ret
  exact ⟨by simp, x1.trans hx⟩
theorem mwo_2 {w : World} {B W L : Nat} {S : St} (h : ModT w B W L S) {t o : Nat} (a r : Int) (ht : t < S.N) (ho : o < S.M) :
    Calls Try.prog 53 #[.pointer (some ⟨B, 0, none⟩), (Value.agg #[.int .i64 2, .int .i64 (t : Int), .int .i64 (o : Int), .int .i64 a, .int .i64 r])] w fun e w' => e = .returned (.bool (mwoB S 2 t o r)) ∧ Ext w w' := by
  have n1 := h.ok.n1
  have m1 := h.ok.m1
  have ho8 : o < 8 := by omega
  have i8 : (o : Int) < 8 := by omega
  have r1 := h.own ho8
  have lB := h.b.lt
  have lB1 : B < w.heap.size + 1 := by omega
  have lB2 : B < w.heap.size + 1 + 1 := by omega
  have lB3 : B < w.heap.size + 1 + 1 + 1 := by omega
  have lS2 : w.heap.size < w.heap.size + 1 + 1 := by omega
  have lS3 : w.heap.size < w.heap.size + 1 + 1 + 1 := by omega
  have nB1 : ¬ B = w.heap.size + 1 := by omega
  have nB2 : ¬ B = w.heap.size + 1 + 1 := by omega
  have x1 := (Ext.alloc w (.cells #[Value.int .i64 2, .int .i64 (t : Int), .int .i64 (o : Int), .int .i64 a, .int .i64 r] 34)).trans (Ext.drew _)
  have c := menter_any (h.ext x1) 2 a r 14 ht ho
  have E := hide (show mwoB S 2 t o r = entB S t o r 14 from rfl)
  rw [E.out]
  clear E h
  generalize S.own o = w0 at *
  generalize entB S t o r 14 = res at *
  go_enter Try.func53, Try.ntmps53
  go_wp2_with fail
  go_region
  go_wp2_with fail
  refine c.mono ?_
  rintro e w1 ⟨rfl, hx⟩
  go_wp2_with fail
  go_ret
  exact ⟨by simp, x1.trans hx⟩
theorem mwo_o {w : World} {B W L : Nat} {S : St} (h : ModT w B W L S) (k : Int) {t o : Nat} (a r : Int) (ht : t < S.N) (ho : o < S.M) (hk : ¬ (k = 1 ∨ k = 2 ∨ k = 3 ∨ k = 4 ∨ k = 9)) :
    Calls Try.prog 53 #[.pointer (some ⟨B, 0, none⟩), (Value.agg #[.int .i64 k, .int .i64 (t : Int), .int .i64 (o : Int), .int .i64 a, .int .i64 r])] w fun e w' => e = .returned (.bool (mwoB S k t o r)) ∧ Ext w w' := by
  have n1 := h.ok.n1
  have m1 := h.ok.m1
  have ho8 : o < 8 := by omega
  have i8 : (o : Int) < 8 := by omega
  have r1 := h.own ho8
  have lB := h.b.lt
  have lB1 : B < w.heap.size + 1 := by omega
  have lB2 : B < w.heap.size + 1 + 1 := by omega
  have lB3 : B < w.heap.size + 1 + 1 + 1 := by omega
  have lS2 : w.heap.size < w.heap.size + 1 + 1 := by omega
  have lS3 : w.heap.size < w.heap.size + 1 + 1 + 1 := by omega
  have nB1 : ¬ B = w.heap.size + 1 := by omega
  have nB2 : ¬ B = w.heap.size + 1 + 1 := by omega
  have x1 := (Ext.alloc w (.cells #[Value.int .i64 k, .int .i64 (t : Int), .int .i64 (o : Int), .int .i64 a, .int .i64 r] 34)).trans (Ext.drew _)
  have E := hide (show mwoB S k t o r = false by unfold mwoB; rw [if_neg (by omega), if_neg (by omega), if_neg (by omega), if_neg (by omega), if_neg (by omega)])
  rw [E.out]
  have q1 : (k == 1) = false := by simp; omega
  have q2 : (k == 2) = false := by simp; omega
  have q3 : (k == 3) = false := by simp; omega
  have q4 : (k == 4) = false := by simp; omega
  have q9 : (k == 9) = false := by simp; omega
  generalize S.own o = w0 at *
  clear E h hk
  go_enter Try.func53, Try.ntmps53
  go_wp2_with fail
  go_region
  go_wp2_with fail
  go_ret
  exact ⟨by simp, x1⟩
end Go.Proofs.Ytacneghgimfklaa

namespace Go.Proofs.Ytacneghgimfklaa
open Go.RowKit Go.Maps
set_option linter.unusedSimpArgs false
set_option linter.unusedVariables false
set_option maxRecDepth 100000
set_option maxHeartbeats 4000000


theorem mwo_3 {w : World} {B W L : Nat} {S : St} (h : ModT w B W L S) {t o : Nat} (a r : Int) (ht : t < S.N) (ho : o < S.M) :
    Calls Try.prog 53 #[.pointer (some ⟨B, 0, none⟩), (Value.agg #[.int .i64 3, .int .i64 (t : Int), .int .i64 (o : Int), .int .i64 a, .int .i64 r])] w fun e w' => e = .returned (.bool (mwoB S 3 t o r)) ∧ Ext w w' := by
  have n1 := h.ok.n1
  have m1 := h.ok.m1
  have ho8 : o < 8 := by omega
  have i8 : (o : Int) < 8 := by omega
  have r1 := h.own ho8
  have lB := h.b.lt
  have lB1 : B < w.heap.size + 1 := by omega
  have lB2 : B < w.heap.size + 1 + 1 := by omega
  have lB3 : B < w.heap.size + 1 + 1 + 1 := by omega
  have lS2 : w.heap.size < w.heap.size + 1 + 1 := by omega
  have lS3 : w.heap.size < w.heap.size + 1 + 1 + 1 := by omega
  have nB1 : ¬ B = w.heap.size + 1 := by omega
  have nB2 : ¬ B = w.heap.size + 1 + 1 := by omega
  have x1 := (Ext.alloc w (.cells #[Value.int .i64 3, .int .i64 (t : Int), .int .i64 (o : Int), .int .i64 a, .int .i64 r] 34)).trans (Ext.drew _)
  have E := hide (show mwoB S 3 t o r = (refB r (owB S t o) || (r == 0 && owB S t o)) from rfl)
  have hE : Hid (owB S t o = (S.own o == (t : Int))) := hide rfl
  rw [E.out, hE.out]
  have c := fun w' => refd_any 3 t o a r (S.own o == (t : Int)) w'
  clear E hE h
  generalize S.own o = w0 at *
  have C : (w0 == (t : Int)) = true → refB r true = false := fun _ => by unfold refB; simp
  cases q1 : (w0 == (t : Int))
  · have Q1 := hide q1
    cases q2 : refB r false
    · have Q2 := hide q2
      clear q2 C
      cases q3 : (r == 0)
      · rw [Q1.out] at c
        go_enter Try.func53, Try.ntmps53
        go_wp2_with fail
        go_region
        go_wp2_with fail
        refine (c _).mono ?_
        rintro e w1 ⟨rfl, hx⟩
        rw [Q2.out]
        have hbc := ((Ext.drew _).trans hx).boxCell
        go_wp2_with fail
        go_ret
        first
        | exact ⟨by simp [Q1.out, Q2.out], x1.trans hx⟩
        | exact ⟨by simp [Q1.out, Q2.out], (x1.trans hx).trans hx2⟩
      · rw [Q1.out] at c
        go_enter Try.func53, Try.ntmps53
        go_wp2_with fail
        go_region
        go_wp2_with fail
        refine (c _).mono ?_
        rintro e w1 ⟨rfl, hx⟩
        rw [Q2.out]
        have hbc := ((Ext.drew _).trans hx).boxCell
        go_wp2_with fail
        go_ret
        first
        | exact ⟨by simp [Q1.out, Q2.out], x1.trans hx⟩
        | exact ⟨by simp [Q1.out, Q2.out], (x1.trans hx).trans hx2⟩
    · have Q2 := hide q2
      clear q2 C
      rw [Q1.out] at c
      go_enter Try.func53, Try.ntmps53
      go_wp2_with fail
      go_region
      go_wp2_with fail
      refine (c _).mono ?_
      rintro e w1 ⟨rfl, hx⟩
      rw [Q2.out]
      have hbc := ((Ext.drew _).trans hx).boxCell
      go_wp2_with fail
      go_ret
      first
      | exact ⟨by simp [Q1.out, Q2.out], x1.trans hx⟩
      | exact ⟨by simp [Q1.out, Q2.out], (x1.trans hx).trans hx2⟩
  · have Q1 := hide q1
    have Q2 := hide (C q1)
    clear C
    cases q3 : (r == 0)
    · rw [Q1.out] at c
      go_enter Try.func53, Try.ntmps53
      go_wp2_with fail
      go_region
      go_wp2_with fail
      refine (c _).mono ?_
      rintro e w1 ⟨rfl, hx⟩
      rw [Q2.out]
      have hbc := ((Ext.drew _).trans hx).boxCell
      go_wp2_with fail
      go_ret
      first
      | exact ⟨by simp [Q1.out, Q2.out], x1.trans hx⟩
      | exact ⟨by simp [Q1.out, Q2.out], (x1.trans hx).trans hx2⟩
    · rw [Q1.out] at c
      go_enter Try.func53, Try.ntmps53
      go_wp2_with fail
      go_region
      go_wp2_with fail
      refine (c _).mono ?_
      rintro e w1 ⟨rfl, hx⟩
      rw [Q2.out]
      have hbc := ((Ext.drew _).trans hx).boxCell
      go_wp2_with fail
      go_ret
      first
      | exact ⟨by simp [Q1.out, Q2.out], x1.trans hx⟩
      | exact ⟨by simp [Q1.out, Q2.out], (x1.trans hx).trans hx2⟩
theorem mwo_4 {w : World} {B W L : Nat} {S : St} (h : ModT w B W L S) {t o : Nat} (a r : Int) (ht : t < S.N) (ho : o < S.M) :
    Calls Try.prog 53 #[.pointer (some ⟨B, 0, none⟩), (Value.agg #[.int .i64 4, .int .i64 (t : Int), .int .i64 (o : Int), .int .i64 a, .int .i64 r])] w fun e w' => e = .returned (.bool (mwoB S 4 t o r)) ∧ Ext w w' := by
  have n1 := h.ok.n1
  have m1 := h.ok.m1
  have ho8 : o < 8 := by omega
  have i8 : (o : Int) < 8 := by omega
  have r1 := h.own ho8
  have lB := h.b.lt
  have lB1 : B < w.heap.size + 1 := by omega
  have lB2 : B < w.heap.size + 1 + 1 := by omega
  have lB3 : B < w.heap.size + 1 + 1 + 1 := by omega
  have lS2 : w.heap.size < w.heap.size + 1 + 1 := by omega
  have lS3 : w.heap.size < w.heap.size + 1 + 1 + 1 := by omega
  have nB1 : ¬ B = w.heap.size + 1 := by omega
  have nB2 : ¬ B = w.heap.size + 1 + 1 := by omega
  have x1 := (Ext.alloc w (.cells #[Value.int .i64 4, .int .i64 (t : Int), .int .i64 (o : Int), .int .i64 a, .int .i64 r] 34)).trans (Ext.drew _)
  have E := hide (show mwoB S 4 t o r = (refB r (owB S t o) || (owB S t o && begB S t r)) from rfl)
  have hE : Hid (owB S t o = (S.own o == (t : Int))) := hide rfl
  rw [E.out, hE.out]
  have c := fun w' => refd_any 4 t o a r (S.own o == (t : Int)) w'
  have cB := fun w' (x : Ext w w') => mbegin_any (h.ext x) 4 o a r ht
  generalize begB S t r = bb at *
  clear E hE h
  generalize S.own o = w0 at *
  have C : (w0 == (t : Int)) = true → refB r true = false := fun _ => by unfold refB; simp
  cases q1 : (w0 == (t : Int))
  · have Q1 := hide q1
    cases q2 : refB r false
    · have Q2 := hide q2
      clear q2 C
      rw [Q1.out] at c
      go_enter Try.func53, Try.ntmps53
      go_wp2_with fail
      go_region
      go_wp2_with fail
      refine (c _).mono ?_
      rintro e w1 ⟨rfl, hx⟩
      rw [Q2.out]
      have hbc := ((Ext.drew _).trans hx).boxCell
      go_wp2_with (go_at_call 68; with_reducible refine (cB _ (x1.trans hx)).mono ?_; rintro e w2 ⟨rfl, hx2⟩)
      go_ret
      first
      | exact ⟨by simp [Q1.out, Q2.out], x1.trans hx⟩
      | exact ⟨by simp [Q1.out, Q2.out], (x1.trans hx).trans hx2⟩
    · have Q2 := hide q2
      clear q2 C
      rw [Q1.out] at c
      go_enter Try.func53, Try.ntmps53
      go_wp2_with fail
      go_region
      go_wp2_with fail
      refine (c _).mono ?_
      rintro e w1 ⟨rfl, hx⟩
      rw [Q2.out]
      have hbc := ((Ext.drew _).trans hx).boxCell
      go_wp2_with (go_at_call 68; with_reducible refine (cB _ (x1.trans hx)).mono ?_; rintro e w2 ⟨rfl, hx2⟩)
      go_ret
      first
      | exact ⟨by simp [Q1.out, Q2.out], x1.trans hx⟩
      | exact ⟨by simp [Q1.out, Q2.out], (x1.trans hx).trans hx2⟩
  · have Q1 := hide q1
    have Q2 := hide (C q1)
    clear C
    rw [Q1.out] at c
    go_enter Try.func53, Try.ntmps53
    go_wp2_with fail
    go_region
    go_wp2_with fail
    refine (c _).mono ?_
    rintro e w1 ⟨rfl, hx⟩
    rw [Q2.out]
    have hbc := ((Ext.drew _).trans hx).boxCell
    go_wp2_with (go_at_call 68; with_reducible refine (cB _ (x1.trans hx)).mono ?_; rintro e w2 ⟨rfl, hx2⟩)
    go_ret
    first
    | exact ⟨by simp [Q1.out, Q2.out], x1.trans hx⟩
    | exact ⟨by simp [Q1.out, Q2.out], (x1.trans hx).trans hx2⟩
end Go.Proofs.Ytacneghgimfklaa

namespace Go.Proofs.Ytacneghgimfklaa
open Go.RowKit Go.Maps
set_option linter.unusedSimpArgs false
set_option linter.unusedVariables false
set_option maxRecDepth 100000
set_option maxHeartbeats 4000000


theorem mwo_9 {w : World} {B W L : Nat} {S : St} (h : ModT w B W L S) {t o : Nat} (a r : Int) (ht : t < S.N) (ho : o < S.M) :
    Calls Try.prog 53 #[.pointer (some ⟨B, 0, none⟩), (Value.agg #[.int .i64 9, .int .i64 (t : Int), .int .i64 (o : Int), .int .i64 a, .int .i64 r])] w fun e w' => e = .returned (.bool (mwoB S 9 t o r)) ∧ Ext w w' := by
  have n1 := h.ok.n1
  have m1 := h.ok.m1
  have ho8 : o < 8 := by omega
  have i8 : (o : Int) < 8 := by omega
  have r1 := h.own ho8
  have lB := h.b.lt
  have lB1 : B < w.heap.size + 1 := by omega
  have lB2 : B < w.heap.size + 1 + 1 := by omega
  have lB3 : B < w.heap.size + 1 + 1 + 1 := by omega
  have lS2 : w.heap.size < w.heap.size + 1 + 1 := by omega
  have lS3 : w.heap.size < w.heap.size + 1 + 1 + 1 := by omega
  have nB1 : ¬ B = w.heap.size + 1 := by omega
  have nB2 : ¬ B = w.heap.size + 1 + 1 := by omega
  have x1 := (Ext.alloc w (.cells #[Value.int .i64 9, .int .i64 (t : Int), .int .i64 (o : Int), .int .i64 a, .int .i64 r] 34)).trans (Ext.drew _)
  have E := hide (show mwoB S 9 t o r = (refB r (owB S t o) || (r == 0 && owB S t o && noW S o)) from rfl)
  have hE : Hid (owB S t o = (S.own o == (t : Int))) := hide rfl
  rw [E.out, hE.out]
  have c := fun w' => refd_any 9 t o a r (S.own o == (t : Int)) w'
  have cN := fun w' (x : Ext w w') => nonew_any (h.ext x) ho
  generalize noW S o = bb at *
  clear E hE h
  generalize S.own o = w0 at *
  have C : (w0 == (t : Int)) = true → refB r true = false := fun _ => by unfold refB; simp
  cases q1 : (w0 == (t : Int))
  · have Q1 := hide q1
    cases q2 : refB r false
    · have Q2 := hide q2
      clear q2 C
      cases q3 : (r == 0)
      · rw [Q1.out] at c
        go_enter Try.func53, Try.ntmps53
        go_wp2_with fail
        go_region
        go_wp2_with fail
        refine (c _).mono ?_
        rintro e w1 ⟨rfl, hx⟩
        rw [Q2.out]
        have hbc := ((Ext.drew _).trans hx).boxCell
        go_wp2_with (go_at_call 69; with_reducible refine (cN _ (x1.trans hx)).mono ?_; rintro e w2 ⟨rfl, hx2⟩)
        go_ret
        first
        | exact ⟨by simp [Q1.out, Q2.out], x1.trans hx⟩
        | exact ⟨by simp [Q1.out, Q2.out], (x1.trans hx).trans hx2⟩
      · rw [Q1.out] at c
        go_enter Try.func53, Try.ntmps53
        go_wp2_with fail
        go_region
        go_wp2_with fail
        refine (c _).mono ?_
        rintro e w1 ⟨rfl, hx⟩
        rw [Q2.out]
        have hbc := ((Ext.drew _).trans hx).boxCell
        go_wp2_with (go_at_call 69; with_reducible refine (cN _ (x1.trans hx)).mono ?_; rintro e w2 ⟨rfl, hx2⟩)
        go_ret
        first
        | exact ⟨by simp [Q1.out, Q2.out], x1.trans hx⟩
        | exact ⟨by simp [Q1.out, Q2.out], (x1.trans hx).trans hx2⟩
    · have Q2 := hide q2
      clear q2 C
      rw [Q1.out] at c
      go_enter Try.func53, Try.ntmps53
      go_wp2_with fail
      go_region
      go_wp2_with fail
      refine (c _).mono ?_
      rintro e w1 ⟨rfl, hx⟩
      rw [Q2.out]
      have hbc := ((Ext.drew _).trans hx).boxCell
      go_wp2_with (go_at_call 69; with_reducible refine (cN _ (x1.trans hx)).mono ?_; rintro e w2 ⟨rfl, hx2⟩)
      go_ret
      first
      | exact ⟨by simp [Q1.out, Q2.out], x1.trans hx⟩
      | exact ⟨by simp [Q1.out, Q2.out], (x1.trans hx).trans hx2⟩
  · have Q1 := hide q1
    have Q2 := hide (C q1)
    clear C
    cases q3 : (r == 0)
    · rw [Q1.out] at c
      go_enter Try.func53, Try.ntmps53
      go_wp2_with fail
      go_region
      go_wp2_with fail
      refine (c _).mono ?_
      rintro e w1 ⟨rfl, hx⟩
      rw [Q2.out]
      have hbc := ((Ext.drew _).trans hx).boxCell
      go_wp2_with (go_at_call 69; with_reducible refine (cN _ (x1.trans hx)).mono ?_; rintro e w2 ⟨rfl, hx2⟩)
      go_ret
      first
      | exact ⟨by simp [Q1.out, Q2.out], x1.trans hx⟩
      | exact ⟨by simp [Q1.out, Q2.out], (x1.trans hx).trans hx2⟩
    · rw [Q1.out] at c
      go_enter Try.func53, Try.ntmps53
      go_wp2_with fail
      go_region
      go_wp2_with fail
      refine (c _).mono ?_
      rintro e w1 ⟨rfl, hx⟩
      rw [Q2.out]
      have hbc := ((Ext.drew _).trans hx).boxCell
      go_wp2_with (go_at_call 69; with_reducible refine (cN _ (x1.trans hx)).mono ?_; rintro e w2 ⟨rfl, hx2⟩)
      go_ret
      first
      | exact ⟨by simp [Q1.out, Q2.out], x1.trans hx⟩
      | exact ⟨by simp [Q1.out, Q2.out], (x1.trans hx).trans hx2⟩
end Go.Proofs.Ytacneghgimfklaa

namespace Go.Proofs.Ytacneghgimfklaa
open Go.RowKit Go.Maps
set_option linter.unusedSimpArgs false
set_option linter.unusedVariables false
set_option maxRecDepth 100000
set_option maxHeartbeats 4000000


theorem mwi_7 {w : World} {B W L : Nat} {S : St} (h : ModT w B W L S) {t o : Nat} (a r : Int) (ht : t < S.N) (ho : o < S.M) (wa : wfI a) :
    Calls Try.prog 54 #[.pointer (some ⟨B, 0, none⟩), (Value.agg #[.int .i64 7, .int .i64 (t : Int), .int .i64 (o : Int), .int .i64 a, .int .i64 r])] w fun e w' => e = .returned (.bool (mwiB S 7 t o a r)) ∧ Ext w w' := by
  have n1 := h.ok.n1
  have m1 := h.ok.m1
  have ho8 : o < 8 := by omega
  have i8 : (o : Int) < 8 := by omega
  have r1 := h.own ho8
  have r2 := h.cnt ho8
  have r3 := h.hsh ho8
  have lB := h.b.lt
  have lB1 : B < w.heap.size + 1 := by omega
  have lB2 : B < w.heap.size + 1 + 1 := by omega
  have lB3 : B < w.heap.size + 1 + 1 + 1 := by omega
  have lS2 : w.heap.size < w.heap.size + 1 + 1 := by omega
  have lS3 : w.heap.size < w.heap.size + 1 + 1 + 1 := by omega
  have nB1 : ¬ B = w.heap.size + 1 := by omega
  have nB2 : ¬ B = w.heap.size + 1 + 1 := by omega
  have hE : Hid (owB S t o = (S.own o == (t : Int))) := hide rfl
  have E := hide (show mwiB S 7 t o a r = (r == 0 && owB S t o && (S.wt o a).isSome) from rfl)
  rw [hE.out] at E
  have L1 : Hid (∀ w', Ext w w' → (Instr.lookup 106 (.map (some W)) ((Value.agg #[.int .i64 (o : Int), .int .i64 a])) true).run Try.prog w' = .ok (.tuple #[.int .i64 ((S.wt o a).getD 0), .bool (S.wt o a).isSome]) w') := hide fun w' x => (h.ext x).wm.look (nat_wf ho8) wa
  have r35 : w.cell? ⟨B, 35, none⟩ = some (.map (some W)) := h.c (by omega)
  generalize mwiB S 7 t o a r = res at *
  generalize (S.wt o a).getD 0 = p at *
  generalize (S.wt o a).isSome = bs at *
  generalize S.own o = w0 at *
  generalize S.cnt o = cc at *
  generalize S.hsh o = hh at *
  have x1 := ((Ext.alloc w (.cells #[Value.int .i64 7, .int .i64 (t : Int), .int .i64 (o : Int), .int .i64 a, .int .i64 r] 34)).trans (Ext.alloc _ (.cells #[Value.int .i64 w0, .int .i64 cc, .int .i64 hh] 95))).trans (Ext.drew _)
  have l1 := L1.out _ (x1.trans (Ext.drew _))
  clear h hE L1
  cases q3 : (r == 0) <;> cases q1 : (w0 == (t : Int))
  all_goals
    rw [q1, q3] at E
    go_enter Try.func54, Try.ntmps54
    go_wp2_with fail
    go_region
    go_wp2_with fail
    go_region
    go_wp2_with fail
    go_ret
    exact ⟨by rw [E.out]; simp, x1.trans (Ext.drew _)⟩
theorem mwi_10 {w : World} {B W L : Nat} {S : St} (h : ModT w B W L S) {t o : Nat} (a r : Int) (ht : t < S.N) (ho : o < S.M) :
    Calls Try.prog 54 #[.pointer (some ⟨B, 0, none⟩), (Value.agg #[.int .i64 10, .int .i64 (t : Int), .int .i64 (o : Int), .int .i64 a, .int .i64 r])] w fun e w' => e = .returned (.bool (mwiB S 10 t o a r)) ∧ Ext w w' := by
  have n1 := h.ok.n1
  have m1 := h.ok.m1
  have ho8 : o < 8 := by omega
  have i8 : (o : Int) < 8 := by omega
  have r1 := h.own ho8
  have r2 := h.cnt ho8
  have r3 := h.hsh ho8
  have lB := h.b.lt
  have lB1 : B < w.heap.size + 1 := by omega
  have lB2 : B < w.heap.size + 1 + 1 := by omega
  have lB3 : B < w.heap.size + 1 + 1 + 1 := by omega
  have lS2 : w.heap.size < w.heap.size + 1 + 1 := by omega
  have lS3 : w.heap.size < w.heap.size + 1 + 1 + 1 := by omega
  have nB1 : ¬ B = w.heap.size + 1 := by omega
  have nB2 : ¬ B = w.heap.size + 1 + 1 := by omega
  have hE : Hid (owB S t o = (S.own o == (t : Int))) := hide rfl
  have E := hide (show mwiB S 10 t o a r = hshB (S.own o) (S.hsh o) a r from rfl)
  rw [E.out]
  clear E hE h
  generalize S.own o = w0 at *
  generalize S.cnt o = cc at *
  generalize S.hsh o = hh at *
  have x1 := ((Ext.alloc w (.cells #[Value.int .i64 10, .int .i64 (t : Int), .int .i64 (o : Int), .int .i64 a, .int .i64 r] 34)).trans (Ext.alloc _ (.cells #[Value.int .i64 w0, .int .i64 cc, .int .i64 hh] 95))).trans (Ext.drew _)
  have c := fun w' => mhash_any w0 cc hh 10 t o a r w'
  generalize hshB w0 hh a r = res at *
  go_enter Try.func54, Try.ntmps54
  go_wp2_with fail
  go_region
  go_wp2_with fail
  refine (c _).mono ?_
  rintro e w1 ⟨rfl, hx⟩
  go_wp2_with fail
  go_ret
  exact ⟨by simp, x1.trans hx⟩
end Go.Proofs.Ytacneghgimfklaa

namespace Go.Proofs.Ytacneghgimfklaa
open Go.RowKit Go.Maps
set_option linter.unusedSimpArgs false
set_option linter.unusedVariables false
set_option maxRecDepth 100000
set_option maxHeartbeats 4000000


theorem mwi_11 {w : World} {B W L : Nat} {S : St} (h : ModT w B W L S) {t o : Nat} (a r : Int) (ht : t < S.N) (ho : o < S.M) :
    Calls Try.prog 54 #[.pointer (some ⟨B, 0, none⟩), (Value.agg #[.int .i64 11, .int .i64 (t : Int), .int .i64 (o : Int), .int .i64 a, .int .i64 r])] w fun e w' => e = .returned (.bool (mwiB S 11 t o a r)) ∧ Ext w w' := by
  have n1 := h.ok.n1
  have m1 := h.ok.m1
  have ho8 : o < 8 := by omega
  have i8 : (o : Int) < 8 := by omega
  have r1 := h.own ho8
  have r2 := h.cnt ho8
  have r3 := h.hsh ho8
  have lB := h.b.lt
  have lB1 : B < w.heap.size + 1 := by omega
  have lB2 : B < w.heap.size + 1 + 1 := by omega
  have lB3 : B < w.heap.size + 1 + 1 + 1 := by omega
  have lS2 : w.heap.size < w.heap.size + 1 + 1 := by omega
  have lS3 : w.heap.size < w.heap.size + 1 + 1 + 1 := by omega
  have nB1 : ¬ B = w.heap.size + 1 := by omega
  have nB2 : ¬ B = w.heap.size + 1 + 1 := by omega
  have hE : Hid (owB S t o = (S.own o == (t : Int))) := hide rfl
  have E := hide (show mwiB S 11 t o a r = (r == 0 && ((a == 1 && owB S t o) || (a == 0 && !owB S t o))) from rfl)
  rw [hE.out] at E
  generalize mwiB S 11 t o a r = res at *
  generalize S.own o = w0 at *
  generalize S.cnt o = cc at *
  generalize S.hsh o = hh at *
  have x1 := ((Ext.alloc w (.cells #[Value.int .i64 11, .int .i64 (t : Int), .int .i64 (o : Int), .int .i64 a, .int .i64 r] 34)).trans (Ext.alloc _ (.cells #[Value.int .i64 w0, .int .i64 cc, .int .i64 hh] 95))).trans (Ext.drew _)
  clear h hE
  cases q3 : (r == 0)
  · rw [q3] at E
    go_enter Try.func54, Try.ntmps54
    go_wp2_with fail
    go_region
    go_wp2_with fail
    go_ret
    exact ⟨by rw [E.out]; simp, x1⟩
  · cases q1 : (w0 == (t : Int)) <;> cases q4 : (a == 1) <;> cases q5 : (a == 0)
    all_goals
      rw [q1, q3, q4, q5] at E
      go_enter Try.func54, Try.ntmps54
      go_wp2_with fail
      go_region
      go_wp2_with fail
      go_ret
      exact ⟨by rw [E.out]; simp, x1⟩
theorem mwi_12 {w : World} {B W L : Nat} {S : St} (h : ModT w B W L S) {t o : Nat} (a r : Int) (ht : t < S.N) (ho : o < S.M) :
    Calls Try.prog 54 #[.pointer (some ⟨B, 0, none⟩), (Value.agg #[.int .i64 12, .int .i64 (t : Int), .int .i64 (o : Int), .int .i64 a, .int .i64 r])] w fun e w' => e = .returned (.bool (mwiB S 12 t o a r)) ∧ Ext w w' := by
  have n1 := h.ok.n1
  have m1 := h.ok.m1
  have ho8 : o < 8 := by omega
  have i8 : (o : Int) < 8 := by omega
  have r1 := h.own ho8
  have r2 := h.cnt ho8
  have r3 := h.hsh ho8
  have lB := h.b.lt
  have lB1 : B < w.heap.size + 1 := by omega
  have lB2 : B < w.heap.size + 1 + 1 := by omega
  have lB3 : B < w.heap.size + 1 + 1 + 1 := by omega
  have lS2 : w.heap.size < w.heap.size + 1 + 1 := by omega
  have lS3 : w.heap.size < w.heap.size + 1 + 1 + 1 := by omega
  have nB1 : ¬ B = w.heap.size + 1 := by omega
  have nB2 : ¬ B = w.heap.size + 1 + 1 := by omega
  have hE : Hid (owB S t o = (S.own o == (t : Int))) := hide rfl
  have E := hide (show mwiB S 12 t o a r = (r == 0 && isT S a) from rfl)
  generalize mwiB S 12 t o a r = res at *
  generalize S.own o = w0 at *
  generalize S.cnt o = cc at *
  generalize S.hsh o = hh at *
  have x1 := ((Ext.alloc w (.cells #[Value.int .i64 12, .int .i64 (t : Int), .int .i64 (o : Int), .int .i64 a, .int .i64 r] 34)).trans (Ext.alloc _ (.cells #[Value.int .i64 w0, .int .i64 cc, .int .i64 hh] 95))).trans (Ext.drew _)
  have c := hasT_any (h.ext x1).any a
  simp only [Bool.true_and] at c
  generalize isT S a = bt at *
  clear h hE
  cases q3 : (r == 0)
  · rw [q3] at E
    go_enter Try.func54, Try.ntmps54
    go_wp2_with fail
    go_region
    go_wp2_with fail
    go_ret
    exact ⟨by rw [E.out]; simp, x1⟩
  · rw [q3] at E
    go_enter Try.func54, Try.ntmps54
    go_wp2_with fail
    go_region
    go_wp2_with fail
    refine c.mono ?_
    rintro e w1 ⟨rfl, rfl⟩
    go_wp2_with fail
    go_ret
    exact ⟨by rw [E.out]; simp, x1⟩
theorem mwi_o {w : World} {B W L : Nat} {S : St} (h : ModT w B W L S) (k : Int) {t o : Nat} (a r : Int) (ht : t < S.N) (ho : o < S.M) (hk : ¬ (k = 7 ∨ k = 8 ∨ k = 10 ∨ k = 11 ∨ k = 12)) :
    Calls Try.prog 54 #[.pointer (some ⟨B, 0, none⟩), (Value.agg #[.int .i64 k, .int .i64 (t : Int), .int .i64 (o : Int), .int .i64 a, .int .i64 r])] w fun e w' => e = .returned (.bool (mwiB S k t o a r)) ∧ Ext w w' := by
  have n1 := h.ok.n1
  have m1 := h.ok.m1
  have ho8 : o < 8 := by omega
  have i8 : (o : Int) < 8 := by omega
  have r1 := h.own ho8
  have r2 := h.cnt ho8
  have r3 := h.hsh ho8
  have lB := h.b.lt
  have lB1 : B < w.heap.size + 1 := by omega
  have lB2 : B < w.heap.size + 1 + 1 := by omega
  have lB3 : B < w.heap.size + 1 + 1 + 1 := by omega
  have lS2 : w.heap.size < w.heap.size + 1 + 1 := by omega
  have lS3 : w.heap.size < w.heap.size + 1 + 1 + 1 := by omega
  have nB1 : ¬ B = w.heap.size + 1 := by omega
  have nB2 : ¬ B = w.heap.size + 1 + 1 := by omega
  have hE : Hid (owB S t o = (S.own o == (t : Int))) := hide rfl
  have E := hide (show mwiB S k t o a r = false by unfold mwiB; rw [if_neg (by omega), if_neg (by omega), if_neg (by omega), if_neg (by omega), if_neg (by omega)])
  rw [E.out]
  have q1 : (k == 7) = false := by simp; omega
  have q2 : (k == 8) = false := by simp; omega
  have q3 : (k == 10) = false := by simp; omega
  have q4 : (k == 11) = false := by simp; omega
  have q9 : (k == 12) = false := by simp; omega
  generalize S.own o = w0 at *
  generalize S.cnt o = cc at *
  generalize S.hsh o = hh at *
  have x1 := ((Ext.alloc w (.cells #[Value.int .i64 k, .int .i64 (t : Int), .int .i64 (o : Int), .int .i64 a, .int .i64 r] 34)).trans (Ext.alloc _ (.cells #[Value.int .i64 w0, .int .i64 cc, .int .i64 hh] 95))).trans (Ext.drew _)
  clear E h hk hE
  go_enter Try.func54, Try.ntmps54
  go_wp2_with fail
  go_region
  go_wp2_with fail
  go_ret
  exact ⟨by simp, x1⟩
end Go.Proofs.Ytacneghgimfklaa

namespace Go.Proofs.Ytacneghgimfklaa
open Go.RowKit Go.Maps
set_option linter.unusedSimpArgs false
set_option linter.unusedVariables false
set_option maxRecDepth 100000
set_option maxHeartbeats 4000000


theorem mwi_8 {w : World} {B W L : Nat} {S : St} (h : ModT w B W L S) {t o : Nat} (a r : Int) (ht : t < S.N) (ho : o < S.M) :
    Calls Try.prog 54 #[.pointer (some ⟨B, 0, none⟩), (Value.agg #[.int .i64 8, .int .i64 (t : Int), .int .i64 (o : Int), .int .i64 a, .int .i64 r])] w fun e w' => e = .returned (.bool (mwiB S 8 t o a r)) ∧ Ext w w' := by
  have n1 := h.ok.n1
  have m1 := h.ok.m1
  have ho8 : o < 8 := by omega
  have i8 : (o : Int) < 8 := by omega
  have r1 := h.own ho8
  have r2 := h.cnt ho8
  have r3 := h.hsh ho8
  have lB := h.b.lt
  have lB1 : B < w.heap.size + 1 := by omega
  have lB2 : B < w.heap.size + 1 + 1 := by omega
  have lB3 : B < w.heap.size + 1 + 1 + 1 := by omega
  have lS2 : w.heap.size < w.heap.size + 1 + 1 := by omega
  have lS3 : w.heap.size < w.heap.size + 1 + 1 + 1 := by omega
  have nB1 : ¬ B = w.heap.size + 1 := by omega
  have nB2 : ¬ B = w.heap.size + 1 + 1 := by omega
  have hE : Hid (owB S t o = (S.own o == (t : Int))) := hide rfl
  have E := hide (show mwiB S 8 t o a r = ((refB r (owB S t o) && a == -1) || (r == 0 && owB S t o && telB S o a)) from rfl)
  rw [hE.out] at E
  have c := fun w' => refd_any 8 t o a r (S.own o == (t : Int)) w'
  have cT := fun w' (x : Ext w w') => mtell_any (h.ext x) 8 t a r ho
  generalize mwiB S 8 t o a r = res at *
  generalize telB S o a = bt at *
  generalize S.own o = w0 at *
  generalize S.cnt o = cc at *
  generalize S.hsh o = hh at *
  have x1 := ((Ext.alloc w (.cells #[Value.int .i64 8, .int .i64 (t : Int), .int .i64 (o : Int), .int .i64 a, .int .i64 r] 34)).trans (Ext.alloc _ (.cells #[Value.int .i64 w0, .int .i64 cc, .int .i64 hh] 95))).trans (Ext.drew _)
  clear h hE
  have C : (w0 == (t : Int)) = true → refB r true = false := fun _ => by unfold refB; simp
  cases q1 : (w0 == (t : Int))
  · rw [q1] at E c
    cases q2 : refB r false
    · rw [q2] at E c
      clear q2 C
      cases q3 : (r == 0)
      all_goals
        rw [q3] at E
        go_enter Try.func54, Try.ntmps54
        go_wp2_with fail
        go_region
        go_wp2_with fail
        refine (c _).mono ?_
        rintro e w1 ⟨rfl, hx⟩
        have hbc := ((Ext.alloc _ (Obj.cells #[Value.int .i64 w0, .int .i64 cc, .int .i64 hh] 95)).trans ((Ext.drew _).trans hx)).boxCell
        go_wp2_with (go_at_call 70; with_reducible refine (cT _ (x1.trans hx)).mono ?_; rintro e w2 ⟨rfl, hx2⟩)
        go_ret
        first
        | exact ⟨by rw [E.out]; simp, x1.trans hx⟩
        | exact ⟨by rw [E.out]; simp, (x1.trans hx).trans hx2⟩
    · rw [q2] at E c
      clear q2 C
      cases q4 : (a == -1)
      all_goals
        rw [q4] at E
        cases q3 : (r == 0)
        all_goals
          rw [q3] at E
          go_enter Try.func54, Try.ntmps54
          go_wp2_with fail
          go_region
          go_wp2_with fail
          refine (c _).mono ?_
          rintro e w1 ⟨rfl, hx⟩
          have hbc := ((Ext.alloc _ (Obj.cells #[Value.int .i64 w0, .int .i64 cc, .int .i64 hh] 95)).trans ((Ext.drew _).trans hx)).boxCell
          go_wp2_with (go_at_call 70; with_reducible refine (cT _ (x1.trans hx)).mono ?_; rintro e w2 ⟨rfl, hx2⟩)
          go_ret
          first
          | exact ⟨by rw [E.out]; simp, x1.trans hx⟩
          | exact ⟨by rw [E.out]; simp, (x1.trans hx).trans hx2⟩
  · have q2 := C q1
    rw [q1] at E c
    rw [q2] at E c
    clear C q2
    cases q3 : (r == 0)
    all_goals
      rw [q3] at E
      go_enter Try.func54, Try.ntmps54
      go_wp2_with fail
      go_region
      go_wp2_with fail
      refine (c _).mono ?_
      rintro e w1 ⟨rfl, hx⟩
      have hbc := ((Ext.alloc _ (Obj.cells #[Value.int .i64 w0, .int .i64 cc, .int .i64 hh] 95)).trans ((Ext.drew _).trans hx)).boxCell
      go_wp2_with (go_at_call 70; with_reducible refine (cT _ (x1.trans hx)).mono ?_; rintro e w2 ⟨rfl, hx2⟩)
      go_ret
      first
      | exact ⟨by rw [E.out]; simp, x1.trans hx⟩
      | exact ⟨by rw [E.out]; simp, (x1.trans hx).trans hx2⟩
end Go.Proofs.Ytacneghgimfklaa
