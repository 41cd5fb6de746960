/- Apply. -/
import Derived.Test.YtpielknodjppgaaW3
import Derived.Test.YtpielknodjppgaaP7
namespace Go.Proofs.Ytpielknodjppgaa
open Go.RowKit Go.Maps
set_option linter.unusedSimpArgs false
set_option linter.unusedVariables false
set_option maxRecDepth 100000
set_option maxHeartbeats 4000000


theorem apply_nob {w : World} {p : Value} (h : Any w p false (st0 1 1 1)) (k t o a r : Int) : Calls Try.prog 23 #[p, (Value.agg #[.int .i64 k, .int .i64 t, .int .i64 o, .int .i64 a, .int .i64 r])] w fun e w' => e = .returned (.int .i64 15) ∧ Ext w w' := by
  have x1 := Ext.alloc w (.cells #[Value.int .i64 k, .int .i64 t, .int .i64 o, .int .i64 a, .int .i64 r] 36)
  have c := hasT_any (h.ext x1) t
  simp only [Bool.false_and] at c
  go_enter Try.func23, Try.ntmps23
  go_wp2_with fail
  refine c.mono ?_
  rintro e w1 ⟨rfl, rfl⟩
  go_wp2_with fail
  go_ret
  exact ⟨by simp, x1⟩
theorem apply_any {w : World} {B W L : Nat} {S : St} (h : ModT w B W L S) (k t o a r : Int) (wa : wfI a) :
    Calls Try.prog 23 #[.pointer (some ⟨B, 0, none⟩), (Value.agg #[.int .i64 k, .int .i64 t, .int .i64 o, .int .i64 a, .int .i64 r])] w fun e w' => e = .returned (.int .i64 (apE S k t o a r)) ∧ ModT w' B W L (apS S k t o a r) ∧ Chg [B, W, L] w w' := by
  have x1 := Ext.alloc w (.cells #[Value.int .i64 k, .int .i64 t, .int .i64 o, .int .i64 a, .int .i64 r] 36)
  have H1 := hide (h.ext x1)
  have HX := hide x1
  have cT := hasT_any (h.ext x1).any t
  have cO := hasO_any (h.ext x1).any o
  simp only [Bool.true_and] at cT cO
  have lB := h.b.lt
  cases qt : isT S t
  · have hb : apB S k t o a r = false := by unfold apB; rw [qt]; rfl
    have E1 := hide (show apE S k t o a r = 15 by unfold apE; rw [hb]; rfl)
    have E2 := hide (show apS S k t o a r = S by unfold apS; rw [hb]; rfl)
    rw [qt] at cT
    clear h x1 hb
    go_enter Try.func23, Try.ntmps23
    go_wp2_with fail
    refine cT.mono ?_
    rintro e w1 ⟨rfl, rfl⟩
    go_wp2_with fail
    go_ret
    exact ⟨by rw [E1.out]; simp, by rw [E2.out]; exact H1.out, HX.out.chg _⟩
  cases qo : isO S o
  · have hb : apB S k t o a r = false := by unfold apB; rw [qt, qo]; rfl
    have E1 := hide (show apE S k t o a r = 15 by unfold apE; rw [hb]; rfl)
    have E2 := hide (show apS S k t o a r = S by unfold apS; rw [hb]; rfl)
    rw [qt] at cT
    rw [qo] at cO
    clear h x1 hb
    go_enter Try.func23, Try.ntmps23
    go_wp2_with fail
    refine cT.mono ?_
    rintro e w1 ⟨rfl, rfl⟩
    go_wp2_with fail
    refine cO.mono ?_
    rintro e w1 ⟨rfl, rfl⟩
    go_wp2_with fail
    go_ret
    exact ⟨by rw [E1.out]; simp, by rw [E2.out]; exact H1.out, HX.out.chg _⟩
  have bt := isT_iff.1 qt
  have bo := isO_iff.1 qo
  obtain ⟨t, rfl⟩ := Int.eq_ofNat_of_zero_le bt.1
  obtain ⟨o, rfl⟩ := Int.eq_ofNat_of_zero_le bo.1
  have ht : t < S.N := by omega
  have ho : o < S.M := by omega
  have cM := may_any (h.ext x1) k a r ht ho wa
  rw [qt] at cT
  rw [qo] at cO
  cases qm : mayB S k t o a r
  · have hb : apB S k t o a r = false := by unfold apB; rw [qt, qo]; simpa using qm
    have E1 := hide (show apE S k t o a r = 15 by unfold apE; rw [hb]; rfl)
    have E2 := hide (show apS S k t o a r = S by unfold apS; rw [hb]; rfl)
    rw [qm] at cM
    clear h x1 hb
    go_enter Try.func23, Try.ntmps23
    go_wp2_with fail
    refine cT.mono ?_
    rintro e w1 ⟨rfl, rfl⟩
    go_wp2_with fail
    refine cO.mono ?_
    rintro e w1 ⟨rfl, rfl⟩
    go_wp2_with fail
    refine cM.mono ?_
    rintro e w1 ⟨rfl, hx2⟩
    go_wp2_with fail
    go_ret
    exact ⟨by rw [E1.out]; simp, by rw [E2.out]; exact H1.out.ext hx2, (HX.out.trans hx2).chg _⟩
  · have hb : apB S k t o a r = true := by unfold apB; rw [qt, qo]; simpa using qm
    have E1 := hide (show apE S k t o a r = 0 by unfold apE; rw [hb]; rfl)
    have E2 := hide (show apS S k t o a r = doS S k t o a r by unfold apS; rw [hb]; rfl)
    have h7 : k = 7 → r = 0 → 0 ≤ a ∧ a < 8 := by
      rintro rfl rfl
      unfold mayB at qm
      rw [if_neg (by omega)] at qm
      split at qm
      · cases qm
      · rw [if_neg (by omega)] at qm
        simp [mwiB] at qm
        have := h.ok.domW _ _ qm.2
        omega
    have h12 : k = 12 → r = 0 → 0 ≤ a ∧ a < 8 := by
      rintro rfl rfl
      unfold mayB at qm
      rw [if_neg (by omega)] at qm
      split at qm
      · cases qm
      · rw [if_neg (by omega)] at qm
        simp [mwiB] at qm
        have := isT_iff.1 qm
        have := h.ok.n1
        omega
    have cD := fun w' (x : Ext w w') => do_any (h.ext x) k a r ht ho h7 h12 (may_ok h.ok ht ho qm)
    rw [qm] at cM
    clear h hb h7 h12 qm x1
    go_enter Try.func23, Try.ntmps23
    go_wp2_with fail
    refine cT.mono ?_
    rintro e w1 ⟨rfl, rfl⟩
    go_wp2_with fail
    refine cO.mono ?_
    rintro e w1 ⟨rfl, rfl⟩
    go_wp2_with fail
    refine cM.mono ?_
    rintro e w1 ⟨rfl, hx2⟩
    have hbc := hx2.boxCell
    go_wp2_with fail
    refine (cD _ (HX.out.trans hx2)).mono ?_
    rintro e w2 ⟨rfl, M2, c2⟩
    go_wp2_with fail
    go_ret
    exact ⟨by rw [E1.out]; simp, by rw [E2.out]; exact M2, ((HX.out.trans hx2).chg _).trans c2⟩
end Go.Proofs.Ytpielknodjppgaa
