/- What may be done: the parts that read no map. -/
import Derived.Test.YtpielknodjppgaaP1
namespace Go.Proofs.Ytpielknodjppgaa
open Go.RowKit Go.Maps
set_option linter.unusedSimpArgs false
set_option linter.unusedVariables false
set_option maxRecDepth 100000
set_option maxHeartbeats 4000000


theorem refd_any (k : Int) (t o : Nat) (a r : Int) (b : Bool) (w : World) : Calls Try.prog 54 #[(Value.agg #[.int .i64 k, .int .i64 (t : Int), .int .i64 (o : Int), .int .i64 a, .int .i64 r]), .bool b] w fun e w' => e = .returned (.bool (refB r b)) ∧ Ext w w' := by
  have E := hide (show refB r b = (r == 9 && !b) from rfl)
  generalize refB r b = res at *
  cases q : (r == 9)
  · rw [q] at E
    go_enter Try.func54, Try.ntmps54
    go_wp2
    go_ret
    exact ⟨by rw [E.out]; simp, Ext.alloc _ _⟩
  · rw [q] at E
    go_enter Try.func54, Try.ntmps54
    go_wp2
    go_ret
    exact ⟨by rw [E.out]; simp, Ext.alloc _ _⟩
theorem mbegin_any {w : World} {B W L : Nat} {S : St} (h : ModT w B W L S) (k : Int) {t : Nat} (o : Nat) (a r : Int) (ht : t < S.N) :
    Calls Try.prog 55 #[.pointer (some ⟨B, 0, none⟩), (Value.agg #[.int .i64 k, .int .i64 (t : Int), .int .i64 (o : Int), .int .i64 a, .int .i64 r])] w fun e w' => e = .returned (.bool (begB S t r)) ∧ Ext w w' := by
  have E := hide (show begB S t r = ((r == 0 || r == 11) || (r == 12 && S.flg t)) from rfl)
  generalize begB S t r = res at *
  have n1 := h.ok.n1
  have ht8 : t < 8 := by omega
  have i8 : (t : Int) < 8 := by omega
  have rf := h.flg ht8
  have lB := h.b.lt
  generalize S.flg t = fb at *
  clear h n1
  cases q0 : (r == 0) <;> cases q11 : (r == 11) <;> cases q12 : (r == 12)
  all_goals
    rw [q0, q11, q12] at E
    go_enter Try.func55, Try.ntmps55
    go_wp2_with fail
    go_region
    go_wp2_with fail
    go_ret
    exact ⟨by rw [E.out]; simp, (Ext.alloc _ _).trans (Ext.drew _)⟩
theorem mhash_any (own cnt hsh k : Int) (t o : Nat) (a r : Int) (w : World) : Calls Try.prog 58 #[.agg #[.int .i64 own, .int .i64 cnt, .int .i64 hsh], (Value.agg #[.int .i64 k, .int .i64 (t : Int), .int .i64 (o : Int), .int .i64 a, .int .i64 r])] w fun e w' => e = .returned (.bool (hshB own hsh a r)) ∧ Ext w w' := by
  by_cases q0 : r = 0
  · subst q0
    have E := hide (show hshB own hsh a 0 = (witB a 2147483647 && (hsh == 0 || hsh == a)) from rfl)
    generalize hshB own hsh a 0 = res at *
    cases q1 : witB a 2147483647 <;> cases q2 : (hsh == 0)
    all_goals
      rw [q1, q2] at E
      go_enter Try.func58, Try.ntmps58
      go_wp2_with fail
      refine (within_any _ _ _).mono ?_
      rintro e w1 ⟨rfl, rfl⟩
      rw [q1]
      go_wp2_with fail
      go_ret
      exact ⟨by rw [E.out]; simp, (Ext.alloc _ _).trans (Ext.alloc _ _)⟩
  · by_cases q11 : r = 11
    · subst q11
      have E := hide (show hshB own hsh a 11 = (a == 0 && own != -1) from rfl)
      generalize hshB own hsh a 11 = res at *
      cases q1 : (a == 0)
      all_goals
        rw [q1] at E
        go_enter Try.func58, Try.ntmps58
        go_wp2_with fail
        go_ret
        exact ⟨by rw [E.out]; simp, (Ext.alloc _ _).trans (Ext.alloc _ _)⟩
    · have E := hide (show hshB own hsh a r = false by unfold hshB; rw [if_neg q0, if_neg q11])
      generalize hshB own hsh a r = res at *
      go_enter Try.func58, Try.ntmps58
      go_wp2_with fail
      go_ret
      exact ⟨by rw [E.out]; simp, (Ext.alloc _ _).trans (Ext.alloc _ _)⟩
theorem menter_any {w : World} {B W L : Nat} {S : St} (h : ModT w B W L S) (k : Int) {t o : Nat} (a r x : Int) (ht : t < S.N) (ho : o < S.M) :
    Calls Try.prog 53 #[.pointer (some ⟨B, 0, none⟩), (Value.agg #[.int .i64 k, .int .i64 (t : Int), .int .i64 (o : Int), .int .i64 a, .int .i64 r]), .int .i64 x] w fun e w' => e = .returned (.bool (entB S t o r x)) ∧ Ext w w' := by
  have n1 := h.ok.n1
  have m1 := h.ok.m1
  have ho8 : o < 8 := by omega
  have i8 : (o : Int) < 8 := by omega
  have r1 := h.own ho8
  have r2 := h.cnt ho8
  have r3 := h.hsh ho8
  have rK : w.cell? ⟨B, 2, none⟩ = some (.int .i64 (S.K : Int)) := h.c (by omega)
  have lB := h.b.lt
  by_cases q1 : S.own o = -1
  · have E := hide (show entB S t o r x = (r == 0) by unfold entB; rw [if_pos q1])
    rw [q1] at r1
    generalize entB S t o r x = res at *
    generalize S.cnt o = c at *
    generalize S.hsh o = hh at *
    clear h
    go_enter Try.func53, Try.ntmps53
    go_wp2_with fail
    go_region
    go_wp2_with fail
    go_ret
    exact ⟨by rw [E.out]; simp, (by repeat (first | exact Ext.refl _ | assumption | exact Ext.alloc _ _ | exact Ext.drew _ | refine Ext.trans ?_ (Ext.alloc _ _) | refine Ext.trans ?_ (Ext.drew _)))⟩
  · by_cases q2 : S.own o = (t : Int)
    · have E := hide (show entB S t o r x = ((r == 0 && decide (S.cnt o < S.K)) || (r == 10 && S.cnt o == S.K)) by unfold entB; rw [if_neg q1, if_pos q2])
      rw [q2] at r1
      generalize entB S t o r x = res at *
      generalize S.cnt o = c at *
      generalize S.hsh o = hh at *
      generalize (S.K : Int) = kk at *
      have q1' : ((t : Int) == -1) = false := by rw [← q2]; simpa using q1
      clear h q1 q2
      cases p0 : (r == 0) <;> cases p1 : (decide (c < kk)) <;> cases p2 : (r == 10)
      all_goals
        rw [p0, p1, p2] at E
        go_enter Try.func53, Try.ntmps53
        go_wp2_with fail
        go_region
        go_wp2_with fail
        go_region
        go_wp2_with fail
        go_ret
        exact ⟨by rw [E.out]; simp, (by repeat (first | exact Ext.refl _ | assumption | exact Ext.alloc _ _ | exact Ext.drew _ | refine Ext.trans ?_ (Ext.alloc _ _) | refine Ext.trans ?_ (Ext.drew _)))⟩
    · have E := hide (show entB S t o r x = (r == x) by unfold entB; rw [if_neg q1, if_neg q2])
      generalize entB S t o r x = res at *
      generalize S.own o = w0 at *
      generalize S.cnt o = c at *
      generalize S.hsh o = hh at *
      have q1' : (w0 == -1) = false := by simpa using q1
      have q2' : (w0 == (t : Int)) = false := by simpa using q2
      clear h q1 q2
      go_enter Try.func53, Try.ntmps53
      go_wp2_with fail
      go_region
      go_wp2_with fail
      go_ret
      exact ⟨by rw [E.out]; simp, (by repeat (first | exact Ext.refl _ | assumption | exact Ext.alloc _ _ | exact Ext.drew _ | refine Ext.trans ?_ (Ext.alloc _ _) | refine Ext.trans ?_ (Ext.drew _)))⟩
end Go.Proofs.Ytpielknodjppgaa
