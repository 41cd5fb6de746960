/- The document's methods, by one spec each. -/
import Derived.Test.YtpielknodjppgaaR3
import Derived.Test.YtpielknodjppgaaR4
import Derived.Test.YtpielknodjppgaaR5
import Derived.Test.YtpielknodjppgaaR6
import Derived.Test.YtpielknodjppgaaR7
import Derived.Test.YtpielknodjppgaaR8
import Derived.Test.YtpielknodjppgaaR9
import Derived.Test.YtpielknodjppgaaR10
import Derived.Test.YtpielknodjppgaaR11
namespace Go.Proofs.Ytpielknodjppgaa
open Go.RowKit Go.Maps
set_option linter.unusedSimpArgs false
set_option linter.unusedVariables false
set_option maxRecDepth 100000
set_option maxHeartbeats 8000000



theorem ow_eq (S : St) (t o : Nat) : (S.own o + 1 == (t : Int) + 1) = owB S t o := by
  unfold owB; rw [Bool.eq_iff_iff]; simp
theorem no_eq (S : St) (o : Nat) : (S.own o + 1 != 0) = !(S.own o == -1) := by
  rw [Bool.eq_iff_iff]; simp; omega
theorem nt_eq (S : St) (t o : Nat) : (S.own o + 1 != (t : Int) + 1) = !(S.own o == (t : Int)) := by
  rw [Bool.eq_iff_iff]; simp
/-- What a method of the document's answers: what it makes, if it may be. -/
def anS (S : St) (b : Bool) (k : Int) (t o : Nat) (a r : Int) : St := if b = true then doS S k t o a r else S
theorem anS_t (S : St) (k : Int) (t o : Nat) (a r : Int) : anS S true k t o a r = doS S k t o a r := if_pos rfl
theorem anS_f (S : St) (k : Int) (t o : Nat) (a r : Int) : anS S false k t o a r = S := if_neg (by simp)
def Ans (P : Program) (f : FuncId) (S : St) (b : Bool) (k : Int) (t o : Nat) (a r : Int) (w : World) : Prop :=
  Calls P f #[.agg (rc S), (Value.agg #[.int .i64 k, .int .i64 (t : Int), .int .i64 (o : Int), .int .i64 a, .int .i64 r])] w fun e w' => e = .returned (.tuple #[.agg (rc (anS S b k t o a r)), .bool b]) ∧ Ext w w'
theorem Ans.of {f : FuncId} {S : St} {b c : Bool} {k : Int} {t o : Nat} {a r : Int} {w : World} {S' : St} (h : Calls Try.prog f #[.agg (rc S), (Value.agg #[.int .i64 k, .int .i64 (t : Int), .int .i64 (o : Int), .int .i64 a, .int .i64 r])] w fun e w' => e = .returned (.tuple #[.agg (rc S'), .bool c]) ∧ Ext w w') (hb : c = b) (hS : rc S' = rc (anS S b k t o a r)) : Ans Try.prog f S b k t o a r w := by
  subst hb
  unfold Ans
  rw [← hS]; exact h
theorem do_still (S : St) (k : Int) (t o : Nat) (a r : Int) (h5 : k ≠ 5) (h6 : k ≠ 6) (h12 : r ≠ 12) (h0 : r ≠ 0) : doS S k t o a r = S := by
  unfold doS; rw [if_neg h5, if_neg h6, if_neg h12, if_neg h0]
theorem an_still (S : St) (b : Bool) (k : Int) (t o : Nat) (a r : Int) (h5 : k ≠ 5) (h6 : k ≠ 6) (h12 : r ≠ 12) (h0 : r ≠ 0) : anS S b k t o a r = S := by
  unfold anS; rw [do_still S k t o a r h5 h6 h12 h0]; split <;> rfl
theorem do_0 (S : St) (k : Int) (t o : Nat) (a : Int) (h5 : k ≠ 5) (h6 : k ≠ 6) : doS S k t o a 0 = tuS S k t o a := by
  unfold doS; rw [if_neg h5, if_neg h6, if_neg (by omega), if_pos rfl]
theorem renter_any {S : St} (ok : Ok S) {k : Int} (hk : k = 1 ∨ k = 2) {t o : Nat} (a r : Int) (ht : t < S.N) (ho : o < S.M) (w : World) : Ans Try.prog 36 S (mwoB S k t o r) k t o a r w := by
  have hx : mwoB S k t o r = entB S t o r (if k = 1 then 11 else 14) := by
    rcases hk with rfl | rfl <;> rfl
  rw [hx]
  have k5 : k ≠ 5 := by omega
  have k6 : k ≠ 6 := by omega
  have b := ok.own o
  by_cases r0 : r = 0
  · subst r0
    have hd : doS S k t o a 0 = inS S t o := by rw [do_0 S k t o a k5 k6]; unfold tuS; rw [if_pos hk]
    have e : entB S t o 0 (if k = 1 then 11 else 14) = !((S.own o + 1 != 0 && S.own o + 1 != (t : Int) + 1) || decide ((S.K : Int) ≤ S.cnt o)) := by
      rw [no_eq, nt_eq]
      unfold entB
      by_cases q1 : S.own o = -1
      · rw [if_pos q1, q1]; have := ok.own0 q1; have := ok.k0; simp; omega
      · rw [if_neg q1]
        by_cases q2 : S.own o = (t : Int)
        · rw [if_pos q2, q2]; rw [Bool.eq_iff_iff]; simp
        · rw [if_neg q2]
          have h1 : (S.own o == -1) = false := by simpa using q1
          have h2 : (S.own o == (t : Int)) = false := by simpa using q2
          rw [h1, h2]
          rcases hk with rfl | rfl <;> simp
    rw [e]
    cases q : ((S.own o + 1 != 0 && S.own o + 1 != (t : Int) + 1) || decide ((S.K : Int) ≤ S.cnt o))
    · exact Ans.of (renter_0y ok k a ht ho q w) rfl (by rw [show (!false) = true from rfl, anS_t, hd])
    · exact Ans.of (renter_0n ok k a ht ho q w) rfl (by rw [show (!true) = false from rfl, anS_f])
  by_cases r10 : r = 10
  · subst r10
    refine Ans.of (renter_10 ok k a ht ho (hide rfl) w) ?_ (by rw [an_still S _ k t o a 10 k5 k6 (by omega) (by omega)])
    rw [ow_eq]
    unfold entB owB
    by_cases q1 : S.own o = -1
    · rw [if_pos q1, q1]; first | (simp; done) | (simp; omega)
    · rw [if_neg q1]
      by_cases q2 : S.own o = (t : Int)
      · rw [if_pos q2, q2]; rw [Bool.eq_iff_iff]; simp; omega
      · rw [if_neg q2]
        have h2 : (S.own o == (t : Int)) = false := by simpa using q2
        rw [h2]
        rcases hk with rfl | rfl <;> simp
  by_cases r11 : r = 11
  · subst r11
    refine Ans.of (renter_11 ok k a ht ho (hide rfl) w) ?_ (by rw [an_still S _ k t o a 11 k5 k6 (by omega) (by omega)])
    rw [no_eq, nt_eq]
    unfold entB
    by_cases q1 : S.own o = -1
    · rw [if_pos q1, q1]; simp
    · rw [if_neg q1]
      by_cases q2 : S.own o = (t : Int)
      · rw [if_pos q2, q2]; simp
      · rw [if_neg q2]
        have h1 : (S.own o == -1) = false := by simpa using q1
        have h2 : (S.own o == (t : Int)) = false := by simpa using q2
        rw [h1, h2]
        rcases hk with rfl | rfl <;> simp
  by_cases r14 : r = 14
  · subst r14
    refine Ans.of (renter_14 ok k a ht ho (hide rfl) w) ?_ (by rw [an_still S _ k t o a 14 k5 k6 (by omega) (by omega)])
    rw [no_eq, nt_eq]
    unfold entB
    by_cases q1 : S.own o = -1
    · rw [if_pos q1, q1]; simp
    · rw [if_neg q1]
      by_cases q2 : S.own o = (t : Int)
      · rw [if_pos q2, q2]; simp
      · rw [if_neg q2]
        have h1 : (S.own o == -1) = false := by simpa using q1
        have h2 : (S.own o == (t : Int)) = false := by simpa using q2
        rw [h1, h2]
        rcases hk with rfl | rfl <;> simp
  refine Ans.of (renter_o ok k a r ht ho (by simpa using r0) (by simpa using r10) (by simpa using r11) (by simpa using r14) w) ?_ ?_
  · unfold entB
    rcases hk with rfl | rfl
    all_goals
      repeat' split
      all_goals (first | rfl | (simp; omega) | (simp at *; omega))
  · by_cases r12 : r = 12
    · subst r12
      have : entB S t o 12 (if k = 1 then 11 else 14) = false := by
        unfold entB
        rcases hk with rfl | rfl
        all_goals
          repeat' split
          all_goals (first | rfl | (simp; omega) | (simp at *; omega))
      rw [this, anS_f]
    · rw [an_still S _ k t o a r k5 k6 r12 r0]
theorem wt_zero {S : St} (ok : Ok S) (o t : Nat) : (plA S o t 0 == 0) = !(S.wt o t).isSome := by
  have h := wt_pos ok o t
  unfold plA at h ⊢
  rw [if_pos rfl] at h ⊢
  cases e : S.wt o t with
  | none => rfl
  | some c => have := ok.wt _ _ _ e; simp; omega
theorem lf_zero {S : St} (ok : Ok S) (o t : Nat) : (plA S o t 1 == 0) = !(S.lf o t).isSome := by
  unfold plA
  rw [if_neg (by omega), if_pos rfl]
  cases e : S.lf o t with
  | none => rfl
  | some c => have := ok.lf _ _ _ e; simp; omega
theorem plA_2 (S : St) (o t : Nat) : plA S o t 2 = ((S.lf o t).getD (0, 0)).2 := by
  unfold plA
  rw [if_neg (by omega), if_neg (by omega)]
theorem rwait4_any {S : St} (ok : Ok S) {t o : Nat} (a r : Int) (ht : t < S.N) (ho : o < S.M) (h0 : 0 ≤ r) (h1 : r < 100) (w : World) : Ans Try.prog 37 S (mwoB S 4 t o r) 4 t o a r w := by
  have hm : mwoB S 4 t o r = (refB r (owB S t o) || (owB S t o && begB S t r)) := rfl
  rw [hm]
  unfold refB begB
  by_cases r9 : r = 9
  · subst r9
    exact Ans.of (rwait_49 ok a ht ho w) (by rw [ow_eq]; cases owB S t o <;> simp) (by rw [an_still S _ 4 t o a 9 (by omega) (by omega) (by omega) (by omega)])
  by_cases r11 : r = 11
  · subst r11
    exact Ans.of (rwait_411 ok a ht ho w) (by rw [ow_eq]; cases owB S t o <;> simp) (by rw [an_still S _ 4 t o a 11 (by omega) (by omega) (by omega) (by omega)])
  by_cases r12 : r = 12
  · subst r12
    have e : ((12 : Int) == 9 && !owB S t o || owB S t o && ((12 : Int) == 0 || (12 : Int) == 11 || (12 : Int) == 12 && S.flg t)) = (S.own o + 1 == (t : Int) + 1 && S.flg t) := by
      rw [ow_eq]; cases owB S t o <;> cases S.flg t <;> rfl
    rw [e]
    cases q : (S.own o + 1 == (t : Int) + 1 && S.flg t)
    · exact Ans.of (rwait_412n ok a ht ho q w) rfl (by rw [anS_f])
    · exact Ans.of (rwait_412y ok a ht ho q w) rfl (by rw [anS_t]; rfl)
  by_cases r0 : r = 0
  · subst r0
    have e : ((0 : Int) == 9 && !owB S t o || owB S t o && ((0 : Int) == 0 || (0 : Int) == 11 || (0 : Int) == 12 && S.flg t)) = (S.own o + 1 == (t : Int) + 1) := by
      rw [ow_eq]; cases owB S t o <;> rfl
    rw [e]
    cases q : (S.own o + 1 == (t : Int) + 1)
    · exact Ans.of (rwait_40n ok a ht ho q w) rfl (by rw [anS_f])
    · exact Ans.of (rwait_40y ok a ht ho q w) rfl (by rw [anS_t]; rfl)
  exact Ans.of (rwait_4o ok a r ht ho h0 h1 r9 r12 r11 r0 w) (by
    have e1 : (r == 9) = false := by simpa using r9
    have e2 : (r == 11) = false := by simpa using r11
    have e3 : (r == 12) = false := by simpa using r12
    have e4 : (r == 0) = false := by simpa using r0
    rw [e1, e2, e3, e4]; cases owB S t o <;> rfl) (by rw [an_still S _ 4 t o a r (by omega) (by omega) r12 r0])
theorem rwait5_any {S : St} (ok : Ok S) {t o : Nat} (a r : Int) (ht : t < S.N) (ho : o < S.M) (h0 : 0 ≤ r) (h1 : r < 100) (w : World) : Ans Try.prog 37 S (mcbB S 5 t o r) 5 t o a r w := by
  have hm : mcbB S 5 t o r = ((S.wt o t).isSome && (r == 13 || (r == 12 && S.flg t))) := rfl
  rw [hm]
  have hz := wt_zero ok o t
  by_cases r13 : r = 13
  · subst r13
    cases q : (plA S o t 0 == 0)
    · rw [q] at hz
      exact Ans.of (rwait_513y ok a ht ho q w) (by simp at hz; simp [hz]) (by rw [show (S.wt o t).isSome = true by simpa using hz]; rfl)
    · rw [q] at hz
      exact Ans.of (rwait_513n ok a ht ho q w) (by simp at hz; simp [hz]) (by rw [show (S.wt o t).isSome = false by simpa using hz]; rfl)
  by_cases r12 : r = 12
  · subst r12
    cases q : (plA S o t 0 == 0)
    · rw [q] at hz
      have hw : (S.wt o t).isSome = true := by simpa using hz
      cases f : S.flg t
      · exact Ans.of (rwait_512n ok a ht ho (by rw [q, f]; rfl) w) (by rw [hw]; rfl) (by rw [hw]; rfl)
      · exact Ans.of (rwait_512y ok a ht ho q f w) (by rw [hw]; rfl) (by rw [hw]; rfl)
    · rw [q] at hz
      have hw : (S.wt o t).isSome = false := by simpa using hz
      exact Ans.of (rwait_512n ok a ht ho (by rw [q]; rfl) w) (by rw [hw]; rfl) (by rw [hw]; rfl)
  have e1 : (r == 13) = false := by simpa using r13
  have e2 : (r == 12) = false := by simpa using r12
  rw [e1, e2]
  exact Ans.of (rwait_5o ok a r ht ho h0 h1 r12 r13 w) (by simp) (by rw [show ((S.wt o t).isSome && (false || (false && S.flg t))) = false by simp, anS_f])
theorem rwait6_any {S : St} (ok : Ok S) {t o : Nat} (a r : Int) (ht : t < S.N) (ho : o < S.M) (h0 : 0 ≤ r) (h1 : r < 100) (w : World) : Ans Try.prog 37 S (mcbB S 6 t o r) 6 t o a r w := by
  have hm : mcbB S 6 t o r = ((S.lf o t).isSome && (((S.lf o t).getD (0, 0)).2 == r) && (S.own o == -1)) := rfl
  have hc : mcbB S 6 t o r = !(S.own o + 1 != 0 || (plA S o t 1 == 0 || plA S o t 2 != r)) := by
    rw [hm, no_eq, lf_zero ok, plA_2]
    cases (S.own o == -1) <;> cases (S.lf o t).isSome <;> cases h : (((S.lf o t).getD (0, 0)).2 == r) <;> simp [bne, h]
  have hwn : mcbB S 6 t o r = true → upd2 S.wt o t none = S.wt := fun h => by
    rw [hm] at h
    simp only [Bool.and_eq_true] at h
    have hn : S.wt o t = none := by
      cases e : S.wt o t with
      | none => rfl
      | some c => have := ok.ex o t (by rw [e]; rfl); rw [this] at h; simp at h
    funext x y
    unfold upd2
    split
    · rename_i e; rw [e.1, e.2, hn]
    · rfl
  have end_ : mcbB S 6 t o r = true → r = 0 ∨ r = 12 ∨ r = 13 := fun h => by
    rw [hm] at h
    simp only [Bool.and_eq_true, beq_iff_eq] at h
    obtain ⟨p, hp⟩ := Option.isSome_iff_exists.1 h.1.1
    have := (ok.lf _ _ _ hp).2.2.2.2.2.2
    rw [hp] at h
    have := h.1.2
    simp at this
    omega
  have hd : doS S 6 t o a r = enS S t o r := rfl
  cases q : mcbB S 6 t o r
  · rw [q] at hc
    have q' : (S.own o + 1 != 0 || (plA S o t 1 == 0 || plA S o t 2 != r)) = true := by
      cases hh : (S.own o + 1 != 0 || (plA S o t 1 == 0 || plA S o t 2 != r))
      · rw [hh] at hc; cases hc
      · rfl
    by_cases r0 : r = 0
    · subst r0; exact Ans.of (rwait_60n ok a ht ho q' w) rfl (by rw [anS_f])
    by_cases r13 : r = 13
    · subst r13; exact Ans.of (rwait_613n ok a ht ho q' w) rfl (by rw [anS_f])
    by_cases r12 : r = 12
    · subst r12; exact Ans.of (rwait_612n ok a ht ho q' w) rfl (by rw [anS_f])
    exact Ans.of (rwait_6o ok a r ht ho h0 h1 r12 r13 r0 w) rfl (by rw [anS_f])
  · rw [q] at hc
    have q' : (S.own o + 1 != 0 || (plA S o t 1 == 0 || plA S o t 2 != r)) = false := by
      cases hh : (S.own o + 1 != 0 || (plA S o t 1 == 0 || plA S o t 2 != r))
      · rfl
      · rw [hh] at hc; cases hc
    have hw := hwn q
    rcases end_ q with rfl | rfl | rfl
    · exact Ans.of (rwait_60y ok a ht ho hw q' w) rfl (by rw [anS_t, hd])
    · exact Ans.of (rwait_612y ok a ht ho hw q' w) rfl (by rw [anS_t, hd])
    · exact Ans.of (rwait_613y ok a ht ho hw q' w) rfl (by rw [anS_t, hd])
theorem isT_wt {S : St} (ok : Ok S) {o : Nat} {a : Int} (h : (S.wt o a).isSome = true) : isT S a = true := by
  obtain ⟨c, hc⟩ := Option.isSome_iff_exists.1 h
  have := ok.wt _ _ _ hc
  exact isT_iff.2 ⟨by omega, by omega⟩
theorem rtell7_any {S : St} (ok : Ok S) {t o : Nat} (a r : Int) (ht : t < S.N) (ho : o < S.M) (w : World) : Ans Try.prog 38 S (mwiB S 7 t o a r) 7 t o a r w := by
  have hm : mwiB S 7 t o a r = (r == 0 && owB S t o && (S.wt o a).isSome) := rfl
  rw [hm]
  by_cases r0 : r = 0
  · subst r0
    have ho' := ow_eq S t o
    cases y : (S.own o + 1 == (t : Int) + 1)
    · rw [y] at ho'
      rw [← ho']
      exact Ans.of (rtell_7b ok a ht ho y w) (by rfl) (by rfl)
    · rw [y] at ho'
      rw [← ho']
      cases q : isT S a
      · have : (S.wt o a).isSome = false := by
          cases e : (S.wt o a).isSome
          · rfl
          · rw [isT_wt ok e] at q; cases q
        rw [this]
        exact Ans.of (rtell_7c ok a ht ho y q w) (by rfl) (by rfl)
      · obtain ⟨s, rfl⟩ := Int.eq_ofNat_of_zero_le (isT_iff.1 q).1
        have hz := wt_zero ok o s
        cases z : (plA S o s 0 == 0)
        · rw [z] at hz
          have hw : (S.wt o s).isSome = true := by simpa using hz
          rw [hw]
          exact Ans.of (rtell_7e ok s ht ho y q z w) (by rfl) (by rfl)
        · rw [z] at hz
          have hw : (S.wt o s).isSome = false := by simpa using hz
          rw [hw]
          exact Ans.of (rtell_7d ok s ht ho y q z w) (by rfl) (by rfl)
  · have e1 : (r == 0) = false := by simpa using r0
    rw [e1]
    exact Ans.of (rtell_7a ok a r ht ho (by simpa using r0) w) (by rfl) (by rfl)
theorem rtell8_any {S : St} (ok : Ok S) {t o : Nat} (a r : Int) (ht : t < S.N) (ho : o < S.M) (w : World) : Ans Try.prog 38 S (mwiB S 8 t o a r) 8 t o a r w := by
  have hm : mwiB S 8 t o a r = ((refB r (owB S t o) && a == -1) || (r == 0 && owB S t o && telB S o a)) := rfl
  rw [hm]
  unfold refB telB
  by_cases r9 : r = 9
  · subst r9
    exact Ans.of (rtell_89 ok a ht ho (hide rfl) w) (by rw [ow_eq]; cases owB S t o <;> simp) (by rw [an_still S _ 8 t o a 9 (by omega) (by omega) (by omega) (by omega)])
  by_cases r0 : r = 0
  · subst r0
    have hd : doS S 8 t o a 0 = S := rfl
    refine Ans.of (rtell_80 ok a ht ho (hide rfl) w) (by rw [ow_eq]; cases owB S t o <;> simp) ?_
    unfold anS; rw [hd]; split <;> rfl
  have e1 : (r == 9) = false := by simpa using r9
  have e2 : (r == 0) = false := by simpa using r0
  rw [e1, e2]
  exact Ans.of (rtell_8o ok a r ht ho e1 e2 w) (by simp) (by rw [show ((false && !owB S t o) && a == -1 || (false && owB S t o && (isT S a || a == -1 && noW S o))) = false by simp, anS_f])
theorem rtell9_any {S : St} (ok : Ok S) {t o : Nat} (a r : Int) (ht : t < S.N) (ho : o < S.M) (w : World) : Ans Try.prog 38 S (a == 0 && mwoB S 9 t o r) 9 t o a r w := by
  have hm : mwoB S 9 t o r = (refB r (owB S t o) || (r == 0 && owB S t o && noW S o)) := rfl
  rw [hm]
  unfold refB
  by_cases r9 : r = 9
  · subst r9
    exact Ans.of (rtell_99 ok a ht ho (hide rfl) w) (by rw [ow_eq]; cases owB S t o <;> cases (a == 0) <;> simp) (by rw [an_still S _ 9 t o a 9 (by omega) (by omega) (by omega) (by omega)])
  by_cases r0 : r = 0
  · subst r0
    have hd : doS S 9 t o a 0 = S := rfl
    refine Ans.of (rtell_90 ok a ht ho (hide rfl) w) (by rw [ow_eq]; cases owB S t o <;> cases (a == 0) <;> simp) ?_
    unfold anS; rw [hd]; split <;> rfl
  have e1 : (r == 9) = false := by simpa using r9
  have e2 : (r == 0) = false := by simpa using r0
  rw [e1, e2]
  exact Ans.of (rtell_9o ok a r ht ho e1 e2 w) (by simp) (by rw [show ((a == 0) && (false && !owB S t o || false && owB S t o && noW S o)) = false by simp, anS_f])
theorem ha_same (S : St) (o : Nat) {a : Int} (h : S.hsh o = a) : haS S o a = S := by
  unfold haS
  have : upd S.hsh o a = S.hsh := by
    funext i; unfold upd; split
    · rename_i e; rw [e, h]
    · rfl
  rw [this]
theorem rask10_any {S : St} (ok : Ok S) {t o : Nat} (a r : Int) (ht : t < S.N) (ho : o < S.M) (w : World) : Ans Try.prog 39 S (mwiB S 10 t o a r) 10 t o a r w := by
  have hm : mwiB S 10 t o a r = hshB (S.own o) (S.hsh o) a r := rfl
  rw [hm]
  unfold hshB witB
  by_cases r0 : r = 0
  · subst r0
    rw [if_pos rfl]
    have hd : doS S 10 t o a 0 = haS S o a := rfl
    cases z : (S.hsh o == 0 && (decide (1 ≤ a) && decide (a ≤ 2147483647)))
    · cases q : (decide (1 ≤ a) && decide (a ≤ 2147483647) && (S.hsh o == 0 || S.hsh o == a))
      · refine Ans.of (rask_100n ok a ht ho z (hide rfl) w) ?_ (by rw [anS_f])
        cases y0 : (S.hsh o == 0)
        · cases y1 : (S.hsh o == a)
          · simp
          · have := ok.hsh o
            simp at y0 y1
            subst y1
            have h1 : decide (1 ≤ S.hsh o) = true := decide_eq_true (by omega)
            have h2 : decide (S.hsh o ≤ 2147483647) = true := decide_eq_true (by omega)
            rw [h1, h2] at q
            simp at q
        · simp [bne, y0]
      · have hq : S.hsh o ≠ 0 ∧ S.hsh o = a := by
          cases y0 : (S.hsh o == 0)
          · rw [y0] at q; simp at q y0; exact ⟨y0, q.2⟩
          · rw [y0] at q z; simp at q z; omega
        refine Ans.of (rask_100n ok a ht ho z (hide rfl) w) (by simp [hq.2]; rw [← hq.2]; exact hq.1) (by rw [anS_t, hd, ha_same S o hq.2])
    · simp only [Bool.and_eq_true] at z
      obtain ⟨z0, z1, z2⟩ := z
      rw [z0, z1, z2]
      exact Ans.of (rask_100y ok a ht ho z0 z1 z2 w) (by rfl) (by rfl)
  rw [if_neg r0]
  by_cases r11 : r = 11
  · subst r11
    rw [if_pos rfl]
    exact Ans.of (rask_1011 ok a ht ho (hide rfl) w) (by rw [no_eq]; cases h : (S.own o == -1) <;> cases (a == 0) <;> simp [bne, h]) (by rw [an_still S _ 10 t o a 11 (by omega) (by omega) (by omega) (by omega)])
  rw [if_neg r11]
  exact Ans.of (rask_10o ok a r ht ho (by simpa using r0) (by simpa using r11) w) (by rfl) (by rfl)
theorem rask11_any {S : St} (ok : Ok S) {t o : Nat} (a r : Int) (ht : t < S.N) (ho : o < S.M) (w : World) : Ans Try.prog 39 S (mwiB S 11 t o a r) 11 t o a r w := by
  have hm : mwiB S 11 t o a r = (r == 0 && ((a == 1 && owB S t o) || (a == 0 && !owB S t o))) := rfl
  rw [hm]
  by_cases r0 : r = 0
  · subst r0
    have hd : doS S 11 t o a 0 = S := rfl
    refine Ans.of (rask_110 ok a ht ho (hide rfl) w) (by rw [ow_eq]; cases owB S t o <;> simp) ?_
    unfold anS; rw [hd]; split <;> rfl
  have e1 : (r == 0) = false := by simpa using r0
  rw [e1]
  exact Ans.of (rask_11o ok a r ht ho (by simpa using r0) w) (by rfl) (by rfl)
theorem rask12_any {S : St} (ok : Ok S) {t o : Nat} (a r : Int) (ht : t < S.N) (ho : o < S.M) (w : World) : Ans Try.prog 39 S (mwiB S 12 t o a r) 12 t o a r w := by
  have hm : mwiB S 12 t o a r = (r == 0 && isT S a) := rfl
  rw [hm]
  by_cases r0 : r = 0
  · subst r0
    cases q : isT S a
    · exact Ans.of (rask_120n ok a ht ho q w) (by rfl) (by rfl)
    · obtain ⟨s, rfl⟩ := Int.eq_ofNat_of_zero_le (isT_iff.1 q).1
      exact Ans.of (rask_120y ok s ht ho q w) (by rfl) (by rfl)
  have e1 : (r == 0) = false := by simpa using r0
  rw [e1]
  exact Ans.of (rask_12o ok a r ht ho (by simpa using r0) w) (by rfl) (by rfl)
end Go.Proofs.Ytpielknodjppgaa
