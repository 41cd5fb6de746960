/- Whether all stand still, by the library's search; May; what Request, Done and Put turn; one that nobody made. -/
import Derived.Test.YtndjlhnmpddpbaaN1
namespace Go.Proofs.Ytndjlhnmpddpbaa
open Go.RowKit
set_option linter.unusedSimpArgs false
set_option linter.unusedVariables false
set_option maxRecDepth 100000

section
variable {w w' : World} {M V N : Nat} {g : Ti} {a r : Nat} {z s : Int}
/-- Where the first one is that runs. -/
theorem indexF_any (h : MT 48 w M V N g a r) : Calls Try.prog 31 #[.slice (some ⟨V, 0, none⟩) N N, (Value.func (.func 29) #[] #[])] w fun e w' => ∃ x : Int, e = .returned (.int .i64 x) ∧ (decide (0 ≤ x)) = !stl N g ∧ w = w' := by
  have H := hide h
  have n2 := h.n2
  clear h
  go_enter Try.func31, Try.ntmps31
  go_wp2_with fail
  go_loopw [8] (fun i wr => ∃ j : Nat, j ≤ N ∧ i = .int .i64 (j : Int) ∧ (∀ k, k < j → g k ≠ 0) ∧ wr = w) (fun i _ => N - (intOf i).toNat)
  case atStart => exact ⟨0, by omega, rfl, fun i hi => by omega, rfl⟩
  case round =>
    obtain ⟨j, hj, rfl, hb, rfl⟩ := hrel
    by_cases hlt : j < N
    · have r0 := H.out.lv hlt
      have hcall := stillF_any (g j) wr
      by_cases e : g j = 0
      · have E := hide (stl_no hlt e)
        rw [show (g j == 0) = true by simp [e]] at hcall
        clear hb
        generalize g j = x at *
        clear e
        go_wp2_with fail
        refine hcall.mono ?_
        rintro e w1 ⟨rfl, rfl⟩
        go_wp2_with fail
        go_ret
        exact ⟨_, rfl, by rw [E.out]; simp, rfl⟩
      · rw [show (g j == 0) = false by simp [e]] at hcall
        have HB := hide hb
        have HE := hide e
        clear hb e
        go_wp2_with fail
        refine hcall.mono ?_
        rintro e w1 ⟨rfl, rfl⟩
        go_wp2_with fail
        go_roundw
        case rel => exact ⟨j + 1, by omega, by go_num, fun i hi => by
          by_cases q : i = j
          · subst q; exact HE.out
          · exact HB.out i (by omega), by first | rfl | trivial⟩
        case measure => simp [intOf]; omega
    · obtain rfl : j = N := by omega
      have E := hide (stl_yes hb)
      clear hb
      go_wp2_with fail
      go_ret
      exact ⟨_, rfl, by rw [E.out]; rfl, rfl⟩
theorem contF_any (h : MT 48 w M V N g a r) : Calls Try.prog 30 #[.slice (some ⟨V, 0, none⟩) N N, (Value.func (.func 29) #[] #[])] w fun e w' => e = .returned (.bool (!stl N g)) ∧ w = w' := by
  have hc := indexF_any h
  go_enter Try.func30, Try.ntmps30
  go_wp2_with fail
  refine hc.mono ?_
  rintro e w1 ⟨x, rfl, hx, rfl⟩
  have HX := hide hx
  clear hx
  go_wp2_with fail
  go_ret
  exact ⟨by rw [← HX.out]; simp, rfl⟩
theorem still_any (h : MT 48 w M V N g a r) : Calls Try.prog 19 #[(.pointer (some ⟨M, 0, none⟩))] w fun e w' => e = .returned (.bool (stl N g)) ∧ w = w' := by
  have r0 := h.l0
  go_enter Try.func19, Try.ntmps19
  go_wp2_with fail
  refine (made_in h).mono ?_
  rintro e w1 ⟨rfl, rfl⟩
  go_wp2_with fail
  refine (contF_any h).mono ?_
  rintro e w1 ⟨rfl, rfl⟩
  go_wp2_with fail
  go_ret
  exact ⟨by simp, rfl⟩
theorem still_nob {p : Value} (h : Nob w p) : Calls Try.prog 19 #[p] w fun e w' => e = .returned (.bool false) ∧ w = w' := by
  go_enter Try.func19, Try.ntmps19
  go_wp2_with fail
  refine (made_nob h).mono ?_
  rintro e w1 ⟨rfl, rfl⟩
  go_wp2_with fail
  go_ret
  exact ⟨by simp, rfl⟩
theorem may_any (h : MT 48 w M V N g a r) : Calls Try.prog 21 #[(.pointer (some ⟨M, 0, none⟩)), .int .i64 z] w fun e w' => e = .returned (.bool (mayB N g a z)) ∧ w = w' := by
  unfold mayB
  have hs := state_any (z := z) h
  generalize stI N g z = x at *
  by_cases h0 : x = 0
  · subst h0
    go_enter Try.func21, Try.ntmps21
    go_wp2_with fail
    refine hs.mono ?_
    rintro e w1 ⟨rfl, rfl⟩
    go_wp2_with fail
    go_ret
    exact ⟨by simp, rfl⟩
  · by_cases h1 : x = 1
    · subst h1
      go_enter Try.func21, Try.ntmps21
      go_wp2_with fail
      refine hs.mono ?_
      rintro e w1 ⟨rfl, rfl⟩
      go_wp2_with fail
      refine (wanted_any h).mono ?_
      rintro e w1 ⟨rfl, rfl⟩
      go_wp2_with fail
      go_ret
      exact ⟨by simp, rfl⟩
    · have E := hide (show (x == 0 || x == 1 && !wnt a) = false by simp [h0, h1])
      go_enter Try.func21, Try.ntmps21
      go_wp2_with fail
      refine hs.mono ?_
      rintro e w1 ⟨rfl, rfl⟩
      go_wp2_with fail
      go_ret
      exact ⟨by rw [E.out]; simp, rfl⟩
theorem may_nob {p : Value} (h : Nob w p) : Calls Try.prog 21 #[p, .int .i64 z] w fun e w' => e = .returned (.bool false) ∧ w = w' := by
  go_enter Try.func21, Try.ntmps21
  go_wp2_with fail
  refine (state_nob h).mono ?_
  rintro e w1 ⟨rfl, rfl⟩
  go_wp2_with fail
  go_ret
  exact ⟨by simp, rfl⟩
theorem goes_any (x : Int) (h : MT 48 w M V N g a r) : Calls Try.prog 28 #[(.pointer (some ⟨M, 0, none⟩)), .int .i64 x, .int .i64 s] w fun e w' => e = .returned (.bool (gsB a x s)) ∧ w = w' := by
  by_cases h3 : x = 3
  · subst h3
    rw [gsB_3]
    go_enter Try.func28, Try.ntmps28
    go_wp2_with fail
    go_ret
    exact ⟨by simp, rfl⟩
  · by_cases h1 : x = 1
    · subst h1
      rw [gsB_1]
      by_cases hs : s = 0
      · subst hs
        go_enter Try.func28, Try.ntmps28
        go_wp2_with fail
        refine (wanted_any h).mono ?_
        rintro e w1 ⟨rfl, rfl⟩
        go_wp2_with fail
        go_ret
        exact ⟨by simp, rfl⟩
      · have E := hide (show (s != 0 || !wnt a) = true by simp [hs])
        have hs1 : (s != 0) = true := by simpa using hs
        clear hs
        go_enter Try.func28, Try.ntmps28
        go_wp2_with fail
        go_ret
        exact ⟨by rw [E.out]; simp, rfl⟩
    · rw [gsB_e h3 h1]
      go_enter Try.func28, Try.ntmps28
      go_wp2_with fail
      go_ret
      exact ⟨by simp, rfl⟩
theorem request_any (h : MT 48 w M V N g a r) (ha : a ≤ 1000) : Calls Try.prog 11 #[(.pointer (some ⟨M, 0, none⟩))] w fun e w' => e = .returned (.int .i64 ((a + 1 : Nat) : Int)) ∧ MT 48 w' M V N g (a + 1) r ∧ Chg [M, V] w w' := by
  have r1 := h.l1
  have f1 := h.m.free 1
  have r2 := (h.s1 (a + 1)).l1
  have H2 := hide (h.s1 (a + 1))
  have C2 := hide (chg_at (L := [M, V]) w M 1 (.int .i64 ((a + 1 : Nat) : Int)) (by simp))
  go_enter Try.func11, Try.ntmps11
  go_wp2_with fail
  refine (made_in h).mono ?_
  rintro e w1 ⟨rfl, rfl⟩
  go_wp2_with fail
  refine (oneMore_any a _ ha).mono ?_
  rintro e w1 ⟨rfl, rfl⟩
  go_wp2_with fail
  go_ret
  exact ⟨by simp, H2.out, C2.out⟩
theorem request_nob {p : Value} (h : Nob w p) : Calls Try.prog 11 #[p] w fun e w' => e = .returned (.int .i64 0) ∧ w = w' := by
  go_enter Try.func11, Try.ntmps11
  go_wp2_with fail
  refine (made_nob h).mono ?_
  rintro e w1 ⟨rfl, rfl⟩
  go_wp2_with fail
  go_ret
  exact ⟨by simp, rfl⟩
theorem done_any (h : MT 48 w M V N g a r) (hr : r ≤ 1000) : Calls Try.prog 12 #[(.pointer (some ⟨M, 0, none⟩))] w fun e w' => e = .returned (.tuple #[.int .i64 (dA (don N g a) a), .int .i64 (dE (don N g a))]) ∧ MT 48 w' M V N g (dW (don N g a) a) (dR (don N g a) r) ∧ Chg [M, V] w w' := by
  unfold don
  cases ha : wnt a
  · have e1 : (false && stl N g) = false := rfl
    rw [e1, show dA false a = 0 from rfl, show dE false = 9 from rfl, show dW false a = a from rfl, show dR false r = r from rfl]
    clear e1
    go_enter Try.func12, Try.ntmps12
    go_wp2_with fail
    refine (made_in h).mono ?_
    rintro e w1 ⟨rfl, rfl⟩
    go_wp2_with fail
    refine (wanted_any h).mono ?_
    rw [ha]
    rintro e w1 ⟨rfl, rfl⟩
    go_wp2_with fail
    go_ret2
    exact ⟨by simp, h, Chg.refl _ _⟩
  · cases hs : stl N g
    · have e1 : (true && false) = false := rfl
      rw [e1, show dA false a = 0 from rfl, show dE false = 9 from rfl, show dW false a = a from rfl, show dR false r = r from rfl]
      clear e1
      go_enter Try.func12, Try.ntmps12
      go_wp2_with fail
      refine (made_in h).mono ?_
      rintro e w1 ⟨rfl, rfl⟩
      go_wp2_with fail
      refine (wanted_any h).mono ?_
      rw [ha]
      rintro e w1 ⟨rfl, rfl⟩
      go_wp2_with fail
      refine (still_any h).mono ?_
      rw [hs]
      rintro e w1 ⟨rfl, rfl⟩
      go_wp2_with fail
      go_ret2
      exact ⟨by simp, h, Chg.refl _ _⟩
    · have e1 : (true && true) = true := rfl
      rw [e1, show dA true a = a from rfl, show dE true = 0 from rfl, show dW true a = 0 from rfl, show dR true r = r + 1 from rfl]
      clear e1
      have r1 := h.l1
      have r2 := h.l2
      have f1 := h.m.free 1
      have f2 := h.m.free 2
      have H2 := hide ((h.s1 0).s2 (r + 1))
      have C2 := hide ((chg_at (L := [M, V]) w M 1 (.int .i64 ((0 : Nat) : Int)) (by simp)).setAt (V := M) (o := 2) (by simp) (.int .i64 ((r + 1 : Nat) : Int)))
      go_enter Try.func12, Try.ntmps12
      go_wp2_with fail
      refine (made_in h).mono ?_
      rintro e w1 ⟨rfl, rfl⟩
      go_wp2_with fail
      refine (wanted_any h).mono ?_
      rw [ha]
      rintro e w1 ⟨rfl, rfl⟩
      go_wp2_with fail
      refine (still_any h).mono ?_
      rw [hs]
      rintro e w1 ⟨rfl, rfl⟩
      go_wp2_with fail
      refine (oneMore_any r _ hr).mono ?_
      rintro e w1 ⟨rfl, rfl⟩
      go_wp2_with fail
      go_ret2
      exact ⟨by simp, H2.out, C2.out⟩
theorem done_nob {p : Value} (h : Nob w p) : Calls Try.prog 12 #[p] w fun e w' => e = .returned (.tuple #[.int .i64 0, .int .i64 2]) ∧ w = w' := by
  go_enter Try.func12, Try.ntmps12
  go_wp2_with fail
  refine (made_nob h).mono ?_
  rintro e w1 ⟨rfl, rfl⟩
  go_wp2_with fail
  go_ret2
  exact ⟨by simp, rfl⟩
theorem put_any (h : MT 48 w M V N g a r) : Calls Try.prog 14 #[(.pointer (some ⟨M, 0, none⟩)), .int .i64 z, .int .i64 s] w fun e w' => e = .returned (.int .i64 (putE N g a z s)) ∧ MT 48 w' M V N (putG N g a z s) a r ∧ Chg [M, V] w w' := by
  by_cases hh : 0 ≤ z ∧ z < N
  · obtain ⟨h0, h1⟩ := hh
    have hB := inB_yes h0 h1
    by_cases hq : 0 ≤ s ∧ s ≤ 3
    · obtain ⟨s0, s1⟩ := hq
      have hS := isS_yes s0 s1
      have ht : z.toNat < N := by omega
      have n2 := h.n2
      have r0 := h.l0
      have rv := h.lv ht
      have hgo := goes_any (s := s) (g z.toNat) h
      cases hg : gsB a (g z.toNat) s
      · rw [putE_9 ⟨hB, hS⟩ hg, putG_9 hg]
        rw [hg] at hgo
        clear hg
        go_enter Try.func14, Try.ntmps14
        go_wp2_with fail
        refine (made_in h).mono ?_
        rintro e w1 ⟨rfl, rfl⟩
        go_wp2_with fail
        refine (has_any h).mono ?_
        rw [hB]
        rintro e w1 ⟨rfl, rfl⟩
        go_wp2_with fail
        refine (isState_any s _).mono ?_
        rw [hS]
        rintro e w1 ⟨rfl, rfl⟩
        go_wp2_with fail
        refine hgo.mono ?_
        rintro e w1 ⟨rfl, rfl⟩
        go_wp2_with fail
        go_ret
        exact ⟨by simp, h, Chg.refl _ _⟩
      · rw [putE_0 ⟨hB, hS⟩ hg, putG_0 ⟨hB, hS⟩ hg]
        rw [hg] at hgo
        clear hg
        have fv := h.v.free z.toNat
        have H2 := hide (h.sv ht s0 s1)
        have C2 := hide (chg_at (L := [M, V]) w V z.toNat (.int .i64 s) (by simp))
        go_enter Try.func14, Try.ntmps14
        go_wp2_with fail
        refine (made_in h).mono ?_
        rintro e w1 ⟨rfl, rfl⟩
        go_wp2_with fail
        refine (has_any h).mono ?_
        rw [hB]
        rintro e w1 ⟨rfl, rfl⟩
        go_wp2_with fail
        refine (isState_any s _).mono ?_
        rw [hS]
        rintro e w1 ⟨rfl, rfl⟩
        go_wp2_with fail
        refine hgo.mono ?_
        rintro e w1 ⟨rfl, rfl⟩
        go_wp2_with fail
        go_ret
        exact ⟨by simp, H2.out, C2.out⟩
    · have hS := isS_no hq
      rw [putE_no (by rw [hS]; simp), putG_no (by rw [hS]; simp)]
      go_enter Try.func14, Try.ntmps14
      go_wp2_with fail
      refine (made_in h).mono ?_
      rintro e w1 ⟨rfl, rfl⟩
      go_wp2_with fail
      refine (has_any h).mono ?_
      rw [hB]
      rintro e w1 ⟨rfl, rfl⟩
      go_wp2_with fail
      refine (isState_any s _).mono ?_
      rw [hS]
      rintro e w1 ⟨rfl, rfl⟩
      go_wp2_with fail
      go_ret
      exact ⟨by simp, h, Chg.refl _ _⟩
  · have hB := inB_no hh
    rw [putE_no (by rw [hB]; simp), putG_no (by rw [hB]; simp)]
    go_enter Try.func14, Try.ntmps14
    go_wp2_with fail
    refine (made_in h).mono ?_
    rintro e w1 ⟨rfl, rfl⟩
    go_wp2_with fail
    refine (has_any h).mono ?_
    rw [hB]
    rintro e w1 ⟨rfl, rfl⟩
    go_wp2_with fail
    go_ret
    exact ⟨by simp, h, Chg.refl _ _⟩
theorem put_nob {p : Value} (h : Nob w p) : Calls Try.prog 14 #[p, .int .i64 z, .int .i64 s] w fun e w' => e = .returned (.int .i64 2) ∧ w = w' := by
  go_enter Try.func14, Try.ntmps14
  go_wp2_with fail
  refine (made_nob h).mono ?_
  rintro e w1 ⟨rfl, rfl⟩
  go_wp2_with fail
  go_ret
  exact ⟨by simp, rfl⟩
end
end Go.Proofs.Ytndjlhnmpddpbaa
