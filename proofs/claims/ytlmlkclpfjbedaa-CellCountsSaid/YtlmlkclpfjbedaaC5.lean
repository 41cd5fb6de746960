/- The reference's memory: Store and CAS. -/
import Derived.Test.YtlmlkclpfjbedaaC4
namespace Go.Proofs.Ytlmlkclpfjbedaa
open Go.RowKit
set_option linter.unusedSimpArgs false
set_option linter.unusedVariables false

theorem inf_put : (Try.prog.info? 55).map (fun i => (i.zero, i.size, i.bytes)) = some (some (.agg #[.int .i64 0, .int .u64 0]), 2, 16) := by kernel_rfl
theorem rel_set {l : List (Int × Int)} {ws : List Int} {a x : Int} (h : ∀ b, lookL l b = lookI ws b) (hh : hasB ws a = true) : ∀ b, lookL (l ++ [(a, x)]) b = lookI (setI ws a x) b := by
  intro b
  obtain ⟨h0, h1⟩ := of_decide_eq_true hh
  rw [lookL_snoc, lookI_set h0 h1, h b]

set_option maxHeartbeats 400000 in
theorem rstore_any (R base m : Nat) (N : Int) (ws : List Int) (a x : Int) (w : World) (h : RefX w R base N ws m) (hm : m < 200) (hbase : base ≤ w.heap.size) :
    Calls Try.prog 13 #[.pointer (some ⟨R, 0, none⟩), .int .i64 a, .int .u64 x] w fun e w' => e = .returned (.bool (hasB ws a)) ∧ RefX w' R base (upN ws a N) (setI ws a x) (m + 1) ∧ Chg [R] w w' := by
  cases hh : hasB ws a
  · have E := hide (show setI ws a x = ws from setI_no (of_decide_eq_false hh))
    have E2 := hide (show upN ws a N = N by unfold upN; rw [hh]; simp)
    go_enter Try.func13, Try.ntmps13
    go_wp2_with fail
    refine (rhas_any R base m N ws a w h).mono ?_
    rintro e w1 ⟨rfl, rfl⟩
    go_wp2_with fail
    go_ret
    obtain ⟨v, l, h⟩ := h
    exact ⟨by simp, by rw [E2.out, E.out]; exact ⟨v, l, h.b, h.own, h.low, h.rel, by have := h.len; omega, h.n0, by have := h.n1; omega⟩, Chg.refl _ _⟩
  · have E2 := hide (show upN ws a N = N + 1 by unfold upN; rw [hh]; simp)
    have h9 := h
    obtain ⟨v, l, h9⟩ := h9
    have r := h9.b.cell
    have f := h9.b.free
    have n0 := h9.n0
    have n1 := h9.n1
    have ll := h9.len
    have N1 : N + 1 ≤ 200 := by omega
    have hb := h9.b.set 2 (.int .i64 (N + 1))
    rw [show #[Value.int .i64 ws.length, v, .int .i64 N].setIfInBounds 2 (.int .i64 (N + 1)) = #[.int .i64 ws.length, v, .int .i64 (N + 1)] by simp] at hb
    have c := (Chg.refl [R] w).set (p := ⟨R, 2, none⟩) (.inl (by simp)) (.int .i64 (N + 1))
    have low := h9.low
    have hown := own_chg h9.own c (by simpa using low)
    have HR := hide (rel_set (x := x) h9.rel hh)
    clear h9
    have C := hide c
    have HB := hide hb
    have hlt := c.size
    have hRl := hb.lt
    have hr := hb.rule
    have hrf := hb.ruleF
    have hW := Ext.refl (w.setCell ⟨R, 2, none⟩ (.int .i64 (N + 1)))
    clear c hb
    go_enter Try.func13, Try.ntmps13
    go_wp2_with fail
    refine (rhas_any R base m N ws a w h).mono ?_
    rintro e w1 ⟨rfl, rfl⟩
    go_wp2_with (first
      | (at_builtin; refine wpList_app1 rfl rfl Try.underlying28 inf_put rfl (by omega) rfl hown1 hW1 rfl rfl rfl (by simp [Value.oneCell']) (by unfold maxLen; omega) (by omega) ?_; intro v2 w2 hown2 hW2; obtain ⟨A2, c2, rfl, hq2⟩ := Sl.of_own hown2; have HO2 := hide hown2; clear hq2 hown2)
      | (at_builtin; (with_reducible refine wpList_clone rfl _ _ 28 rfl Try.underlying28 inf_put rfl (by omega) rfl rfl hown hW (pcells_one l) (by unfold maxLen; omega) (by omega) ?_); intro v1 w1 hown1 hW1; clear hown))
    go_ret
    have hb2 := (HB.out.ext hW2).set 1 (.slice A2 (l.length + 1) c2)
    rw [show #[Value.int .i64 ws.length, v, .int .i64 (N + 1)].setIfInBounds 1 (.slice A2 (l.length + 1) c2) = #[.int .i64 (setI ws a x).length, .slice A2 (l.length + 1) c2, .int .i64 (N + 1)] by simp [setI_len]] at hb2
    have c2' := (Chg.refl [R] w2).set (p := ⟨R, 1, none⟩) (.inl (by simp)) (.slice A2 (l.length + 1) c2)
    have ho := own_chg (own_low HO2.out (show base ≤ _ by omega)) c2' (by simpa using low)
    rw [pcells_snoc] at ho
    refine ⟨by simp, ?_, (C.out.trans (hW2.chg _)).trans c2'⟩
    rw [E2.out]
    exact ⟨_, l ++ [(a, x)], hb2, by rw [List.length_append]; exact ho, low, HR.out, by rw [List.length_append, List.length_singleton]; omega, by omega, by omega⟩
theorem rcas_any (R base m : Nat) (N : Int) (ws : List Int) (a old x : Int) (w : World) (h : RefX w R base N ws m) (hm : m < 200) (hbase : base ≤ w.heap.size) :
    Calls Try.prog 15 #[.pointer (some ⟨R, 0, none⟩), .int .i64 a, .int .u64 old, .int .u64 x] w fun e w' => e = .returned (.tuple #[.int .u64 (lookI ws a), .bool (casB ws a old)]) ∧ RefX w' R base (upN ws a N) (casL ws a old x) (m + 1) ∧ Chg [R] w w' := by
  have hl := rlook_any R base m N ws a w h (by omega)
  cases hh : hasB ws a
  · have c : casB ws a old = false := by unfold casB; rw [hh]; rfl
    have e2 : casL ws a old x = ws := if_neg (by rw [c]; simp)
    have E2 := hide (show upN ws a N = N by unfold upN; rw [hh]; simp)
    rw [c, e2, lookI_no (of_decide_eq_false hh)]
    clear c e2 hl
    go_enter Try.func15, Try.ntmps15
    go_wp2_with fail
    refine (rhas_any R base m N ws a w h).mono ?_
    rintro e w1 ⟨rfl, rfl⟩
    go_wp2_with fail
    go_ret2
    obtain ⟨v, l, h⟩ := h
    exact ⟨by simp, by rw [E2.out]; exact ⟨v, l, h.b, h.own, h.low, h.rel, by have := h.len; omega, h.n0, by have := h.n1; omega⟩, Chg.refl _ _⟩
  · by_cases ho : lookI ws a = old
    · have c : casB ws a old = true := by unfold casB; rw [hh, decide_eq_true ho]; rfl
      have e2 : casL ws a old x = setI ws a x := if_pos c
      rw [c, e2]
      clear c e2
      subst ho
      go_enter Try.func15, Try.ntmps15
      go_wp2_with fail
      refine (rhas_any R base m N ws a w h).mono ?_
      rintro e w1 ⟨rfl, rfl⟩
      go_wp2_with fail
      refine hl.mono ?_
      rintro e w1 ⟨rfl, hx⟩
      have hz := hx.size
      go_wp2_with fail
      refine (rstore_any R base m N ws a x _ (h.ext hx) hm (by omega)).mono ?_
      rintro e w2 ⟨rfl, hr, hc⟩
      go_wp2_with fail
      go_ret2
      exact ⟨by simp [hh], hr, (hx.chg _).trans hc⟩
    · have c : casB ws a old = false := by unfold casB; rw [decide_eq_false ho, Bool.and_false]
      have e2 : casL ws a old x = ws := if_neg (by rw [c]; simp)
      rw [c, e2]
      clear c e2
      have E2 := hide (show upN ws a N = N + 1 by unfold upN; rw [hh]; simp)
      obtain ⟨v, l, h9⟩ := h
      have H := hide (show RefX w R base N ws m from ⟨v, l, h9⟩)
      have HB := hide h9.b
      have H9 := hide h9
      have n0 := h9.n0
      have n1 := h9.n1
      have ll := h9.len
      clear h9
      have N1 : N + 1 ≤ 200 := by omega
      go_enter Try.func15, Try.ntmps15
      go_wp2_with fail
      refine (rhas_any R base m N ws a w H.out).mono ?_
      rintro e w1 ⟨rfl, rfl⟩
      go_wp2_with fail
      refine hl.mono ?_
      rintro e w1 ⟨rfl, hx⟩
      have hb := HB.out.ext hx
      have r := hb.cell
      have f := hb.free
      go_wp2_with fail
      go_ret2
      have hb2 := hb.set 2 (.int .i64 (N + 1))
      rw [show #[Value.int .i64 ws.length, v, .int .i64 N].setIfInBounds 2 (.int .i64 (N + 1)) = #[.int .i64 ws.length, v, .int .i64 (N + 1)] by simp] at hb2
      have c := (Chg.refl [R] w1).set (p := ⟨R, 2, none⟩) (.inl (by simp)) (.int .i64 (N + 1))
      refine ⟨by simp, ?_, (hx.chg _).trans c⟩
      rw [E2.out]
      have h9 := H9.out
      exact ⟨v, l, hb2, own_chg (own_ext h9.own hx) c (by have := h9.low; simpa using this), h9.low, h9.rel, by omega, by omega, by omega⟩
end Go.Proofs.Ytlmlkclpfjbedaa
