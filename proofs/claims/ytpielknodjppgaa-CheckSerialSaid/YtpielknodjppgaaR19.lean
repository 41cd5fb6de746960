/- The document's Apply, of any numbers; its New. -/
import Derived.Test.YtpielknodjppgaaR14
import Derived.Test.YtpielknodjppgaaR15
import Derived.Test.YtpielknodjppgaaR16
import Derived.Test.YtpielknodjppgaaR17
import Derived.Test.YtpielknodjppgaaR18
namespace Go.Proofs.Ytpielknodjppgaa
open Go.RowKit Go.Maps
set_option linter.unusedSimpArgs false
set_option linter.unusedVariables false
set_option maxRecDepth 100000
set_option maxHeartbeats 8000000



def RAp (P : Program) (f : FuncId) (S : St) (k t o a r : Int) (S' : St) (e' : Int) (w : World) : Prop :=
  Calls P f #[.agg (rc S), .agg #[.int .i64 k, .int .i64 t, .int .i64 o, .int .i64 a, .int .i64 r]] w fun e w' => e = .returned (.tuple #[.agg (rc S'), .int .i64 e']) ∧ Ext w w'
theorem an_ap {S : St} {k t o a r : Int} {b : Bool} (hb : apB S k t o a r = b) : rc (anS S b k t.toNat o.toNat a r) = rc (apS S k t o a r) ∧ erB b = apE S k t o a r := by
  subst hb
  unfold anS apS apE erB
  exact ⟨rfl, rfl⟩
theorem apB_nat {S : St} {k : Int} {t o : Nat} {a r : Int} (ht : t < S.N) (ho : o < S.M) : apB S k (t : Int) (o : Int) a r = mayB S k t o a r := by
  unfold apB
  rw [isT_iff.2 ⟨by omega, by omega⟩, isO_iff.2 ⟨by omega, by omega⟩]
  simp
theorem RAp.of {S : St} {k : Int} {t o : Nat} {a r : Int} {w : World} {b : Bool} {S' : St} {e' : Int} (ht : t < S.N) (ho : o < S.M) (hb : mayB S k t o a r = b) (hS : rc S' = rc (anS S b k t o a r)) (he : e' = erB b)
    (h : RAp Try.prog 24 S k (t : Int) (o : Int) a r S' e' w) : RAp Try.prog 24 S k (t : Int) (o : Int) a r (apS S k (t : Int) (o : Int) a r) (apE S k (t : Int) (o : Int) a r) w := by
  have h2 := an_ap (show apB S k (t : Int) (o : Int) a r = b from (apB_nat ht ho).trans hb)
  simp only [Int.toNat_natCast] at h2
  unfold RAp at h ⊢
  rw [← h2.1, ← h2.2, ← hS, ← he]
  exact h
theorem rapply_any {S : St} (ok : Ok S) (k t o a r : Int) (w : World) : RAp Try.prog 24 S k t o a r (apS S k t o a r) (apE S k t o a r) w := by
  cases q1 : isT S t
  · have hb : apB S k t o a r = false := by unfold apB; rw [q1]; rfl
    have h1 : apS S k t o a r = S := by unfold apS; rw [hb]; rfl
    have h2 : apE S k t o a r = 15 := by unfold apE; rw [hb]; rfl
    rw [h1, h2]
    exact rap_n1 k t o a r q1 w
  cases q2 : isO S o
  · have hb : apB S k t o a r = false := by unfold apB; rw [q1, q2]; rfl
    have h1 : apS S k t o a r = S := by unfold apS; rw [hb]; rfl
    have h2 : apE S k t o a r = 15 := by unfold apE; rw [hb]; rfl
    rw [h1, h2]
    exact rap_n2 k t o a r q1 q2 w
  obtain ⟨t, rfl⟩ := Int.eq_ofNat_of_zero_le (isT_iff.1 q1).1
  obtain ⟨o, rfl⟩ := Int.eq_ofNat_of_zero_le (isO_iff.1 q2).1
  have ht : t < S.N := by have := (isT_iff.1 q1).2; omega
  have ho : o < S.M := by have := (isO_iff.1 q2).2; omega
  by_cases k5 : k = 5
  · subst k5
    have hm : mayB S 5 t o a r = (a == 0 && mcbB S 5 t o r) := rfl
    cases hr : (decide (0 ≤ r) && decide (r < 100))
    · refine RAp.of ht ho (b := false) ?_ (by rw [anS_f]) rfl (rap_5x ok a r ht ho hr w)
      rw [hm]
      have h13 : (r == 13) = false := by simp at hr ⊢; omega
      have h12 : (r == 12) = false := by simp at hr ⊢; omega
      have : mcbB S 5 t o r = ((S.wt o t).isSome && (r == 13 || (r == 12 && S.flg t))) := rfl
      rw [this, h13, h12]; simp
    · simp only [Bool.and_eq_true, decide_eq_true_eq] at hr
      exact RAp.of ht ho hm rfl rfl (rap_5 ok a r ht ho hr.1 hr.2 w)
  by_cases k6 : k = 6
  · subst k6
    have hm : mayB S 6 t o a r = (a == 0 && mcbB S 6 t o r) := rfl
    cases hr : (decide (0 ≤ r) && decide (r < 100))
    · refine RAp.of ht ho (b := false) ?_ (by rw [anS_f]) rfl (rap_6x ok a r ht ho hr w)
      rw [hm]
      have h3 : mcbB S 6 t o r = false := by
        have hm2 : mcbB S 6 t o r = ((S.lf o t).isSome && (((S.lf o t).getD (0, 0)).2 == r) && (S.own o == -1)) := rfl
        rw [hm2]
        cases e : S.lf o t with
        | none => rfl
        | some p =>
          have hp := (ok.lf _ _ _ e).2.2.2.2.2.2
          have : (p.2 == r) = false := by simp at hr ⊢; omega
          simp [this]
      rw [h3]; simp
    · simp only [Bool.and_eq_true, decide_eq_true_eq] at hr
      exact RAp.of ht ho hm rfl rfl (rap_6 ok a r ht ho hr.1 hr.2 w)
  cases q : awB S t
  · have hm0 : ∀ c, (if k = 1 ∨ k = 2 ∨ k = 3 ∨ k = 4 ∨ k = 9 then a == 0 && mwoB S k t o r else mwiB S k t o a r) = c → mayB S k t o a r = c := fun c h => by
      unfold mayB
      rw [if_neg (by omega), if_neg (by rw [q]; simp)]
      exact h
    by_cases k1 : k = 1
    · subst k1; exact RAp.of ht ho (hm0 _ rfl) rfl rfl (rap_1 ok a r ht ho q w)
    by_cases k2 : k = 2
    · subst k2; exact RAp.of ht ho (hm0 _ rfl) rfl rfl (rap_2 ok a r ht ho q w)
    by_cases k3 : k = 3
    · subst k3
      have hm : mayB S 3 t o a r = (a == 0 && ((r == 9 && !owB S t o) || (r == 0 && owB S t o))) := hm0 _ rfl
      by_cases r0 : r = 0
      · subst r0
        have hm' : mayB S 3 t o a 0 = (a == 0 && owB S t o) := by rw [hm]; cases owB S t o <;> simp
        cases E : (a == 0 && owB S t o)
        · exact RAp.of ht ho (hm'.trans E) (by rw [anS_f]) rfl (rap_30n ok a ht ho q E w)
        · exact RAp.of ht ho (hm'.trans E) (by rw [anS_t]; rfl) rfl (rap_30y ok a ht ho q E w)
      by_cases r9 : r = 9
      · subst r9
        have hm' : mayB S 3 t o a 9 = (a == 0 && !owB S t o) := by rw [hm]; cases owB S t o <;> simp
        exact RAp.of ht ho hm' (by rw [an_still S _ 3 t o a 9 (by omega) (by omega) (by omega) (by omega)]) rfl (rap_39 ok a ht ho q w)
      have e1 : (r == 0) = false := by simpa using r0
      have e2 : (r == 9) = false := by simpa using r9
      exact RAp.of ht ho (b := false) (by rw [hm, e1, e2]; simp) (by rw [anS_f]) rfl (rap_3o ok a r ht ho q e1 e2 w)
    by_cases k4 : k = 4
    · subst k4
      cases hr : (decide (0 ≤ r) && decide (r < 100))
      · refine RAp.of ht ho (b := false) (hm0 _ ?_) (by rw [anS_f]) rfl (rap_4x ok a r ht ho q hr w)
        rw [if_pos (by omega)]
        have h9 : (r == 9) = false := by simp at hr ⊢; omega
        have h0 : (r == 0) = false := by simp at hr ⊢; omega
        have h11 : (r == 11) = false := by simp at hr ⊢; omega
        have h12 : (r == 12) = false := by simp at hr ⊢; omega
        have : mwoB S 4 t o r = ((r == 9 && !owB S t o) || (owB S t o && ((r == 0 || r == 11) || (r == 12 && S.flg t)))) := rfl
        rw [this, h9, h0, h11, h12]; simp
      · simp only [Bool.and_eq_true, decide_eq_true_eq] at hr
        exact RAp.of ht ho (hm0 _ rfl) rfl rfl (rap_4 ok a r ht ho q hr.1 hr.2 w)
    by_cases k7 : k = 7
    · subst k7; exact RAp.of ht ho (hm0 _ rfl) rfl rfl (rap_7 ok a r ht ho q w)
    by_cases k8 : k = 8
    · subst k8; exact RAp.of ht ho (hm0 _ rfl) rfl rfl (rap_8 ok a r ht ho q w)
    by_cases k9 : k = 9
    · subst k9; exact RAp.of ht ho (hm0 _ rfl) rfl rfl (rap_9 ok a r ht ho q w)
    by_cases k10 : k = 10
    · subst k10; exact RAp.of ht ho (hm0 _ rfl) rfl rfl (rap_10 ok a r ht ho q w)
    by_cases k11 : k = 11
    · subst k11; exact RAp.of ht ho (hm0 _ rfl) rfl rfl (rap_11 ok a r ht ho q w)
    by_cases k12 : k = 12
    · subst k12; exact RAp.of ht ho (hm0 _ rfl) rfl rfl (rap_12 ok a r ht ho q w)
    refine RAp.of ht ho (b := false) (hm0 _ ?_) (by rw [anS_f]) rfl (rap_o ok k a r ht ho q (by omega) w)
    rw [if_neg (by omega)]
    unfold mwiB
    rw [if_neg k7, if_neg k8, if_neg k10, if_neg k11, if_neg k12]
  · refine RAp.of ht ho (b := false) ?_ (by rw [anS_f]) rfl (rap_n3 ok k a r ht ho (by simpa using k5) (by simpa using k6) q w)
    unfold mayB
    rw [if_neg (by omega), if_pos q]
end Go.Proofs.Ytpielknodjppgaa
