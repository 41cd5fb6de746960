/- The reference's rendezvous: its New and its methods. -/
import Derived.Test.YtndjlhnmpddpbaaN2
import Derived.RegionTactic
namespace Go.Proofs.Ytndjlhnmpddpbaa
open Go.RowKit
set_option linter.unusedSimpArgs false
set_option linter.unusedVariables false
set_option maxRecDepth 100000

theorem rnew_in (n : Nat) (w : World) (h1 : 1 ≤ n) (h2 : n ≤ 256) :
    Calls Try.prog 8 #[.int .i64 n] w fun e w' => ∃ V, e = .returned (.tuple #[.agg #[.slice (some ⟨V, 0, none⟩) n n, .int .i64 0, .int .i64 0], .int .i64 0]) ∧ Blk w' V (irow n (fun _ => 0)) 3 ∧ w.heap.size ≤ V ∧ Ext w w' := by
  have r := run_mk w n (by omega)
  have r' := run_mk (w.alloc (.cells #[.slice none 0 0, .int .i64 0, .int .i64 0] 29)) n (by omega)
  have hx : (1 : Int) ≤ n := by omega
  have hy : (n : Int) ≤ 256 := by omega
  go_enter Try.func8, Try.ntmps8
  go_wp2
  refine bodyPost_ret (v := .tuple #[.agg #[.slice (some ⟨w.heap.size + 1, 0, none⟩) n n, .int .i64 0, .int .i64 0], .int .i64 0]) (by simp [results, Try.results8, go_sem, *]) rfl ?_
  have hv := Blk.new (w.alloc (.cells #[.slice (some ⟨w.heap.size + 1, 0, none⟩) n n, .int .i64 0, .int .i64 0] 29)) (irow n (fun _ => 0)) 3
  simp only [World.size_alloc] at hv
  exact ⟨_, rfl, hv, by omega, (Ext.alloc _ _).trans (Ext.alloc _ _)⟩
theorem rnew_out (n : Int) (w : World) (h : ¬ (1 ≤ n ∧ n ≤ 256)) :
    Calls Try.prog 8 #[.int .i64 n] w fun e w' => e = .returned (.tuple #[.agg #[.slice none 0 0, .int .i64 0, .int .i64 0], .int .i64 1]) ∧ Ext w w' := by
  by_cases h1 : n < 1
  · go_enter Try.func8, Try.ntmps8
    go_wp2
    refine bodyPost_ret (v := .tuple #[.agg #[.slice none 0 0, .int .i64 0, .int .i64 0], .int .i64 1]) (by simp [results, Try.results8, go_sem, *]) rfl ⟨rfl, ?_⟩
    exact Ext.alloc _ _
  · have h2 : 256 < n := by omega
    go_enter Try.func8, Try.ntmps8
    go_wp2
    refine bodyPost_ret (v := .tuple #[.agg #[.slice none 0 0, .int .i64 0, .int .i64 0], .int .i64 1]) (by simp [results, Try.results8, go_sem, *]) rfl ⟨rfl, ?_⟩
    exact Ext.alloc _ _
section
variable {w w' : World} {M V N : Nat} {g : Ti} {a r : Nat} {z s : Int}
theorem rstate_any (h : MT 29 w M V N g a r) : Calls Try.prog 17 #[(.pointer (some ⟨M, 0, none⟩)), .int .i64 z] w fun e w' => e = .returned (.int .i64 (stI N g z)) ∧ w = w' := by
  have r0 := h.l0
  have n2 := h.n2
  by_cases h0 : 0 ≤ z
  · by_cases h1 : z < N
    · rw [stI_yes g h0 h1]
      have ht : z.toNat < N := by omega
      have rv := h.lv ht
      have h2 : ¬ z < 0 := by omega
      have h3 : ¬ (N : Int) ≤ z := by omega
      go_enter Try.func17, Try.ntmps17
      go_wp2_with fail
      go_ret
      exact ⟨by simp, rfl⟩
    · rw [stI_no g (by omega)]
      have h2 : ¬ z < 0 := by omega
      have h3 : (N : Int) ≤ z := by omega
      go_enter Try.func17, Try.ntmps17
      go_wp2_with fail
      go_ret
      exact ⟨by simp, rfl⟩
  · rw [stI_no g (by omega)]
    have h2 : z < 0 := by omega
    go_enter Try.func17, Try.ntmps17
    go_wp2_with fail
    go_ret
    exact ⟨by simp, rfl⟩
theorem rstill_any (h : MT 29 w M V N g a r) : Calls Try.prog 20 #[(.pointer (some ⟨M, 0, none⟩))] w fun e w' => e = .returned (.bool (stl N g)) ∧ w = w' := by
  have H := hide h
  have n2 := h.n2
  clear h
  go_enter Try.func20, Try.ntmps20
  go_wp2_with fail
  go_loopw [3] (fun i wr => ∃ j : Nat, j ≤ N ∧ i = .int .i64 (j : Int) ∧ (∀ k, k < j → g k ≠ 0) ∧ wr = w) (fun i _ => N - (intOf i).toNat)
  case atStart => exact ⟨0, by omega, rfl, fun i hi => by omega, rfl⟩
  case round =>
    obtain ⟨j, hj, rfl, hb, rfl⟩ := hrel
    have r0 := H.out.l0
    by_cases hlt : j < N
    · have rv := H.out.lv hlt
      by_cases e : g j = 0
      · have E := hide (stl_no hlt e)
        rw [e] at rv
        clear hb e
        go_wp2_with fail
        go_ret
        exact ⟨by rw [E.out]; simp, rfl⟩
      · have HB := hide hb
        have HE := hide e
        have he : (g j == 0) = false := by simp [e]
        clear hb e
        go_wp2_with fail
        go_roundw
        case rel => exact ⟨j + 1, by omega, by go_num, fun i hi => by
          by_cases q : i = j
          · subst q; exact HE.out
          · exact HB.out i (by omega), by first | rfl | trivial⟩
        case measure => simp [intOf]; omega
    · obtain rfl : j = N := by omega
      have E := hide (stl_yes hb)
      clear hb
      go_wp2_with fail
      go_ret
      exact ⟨by rw [E.out]; simp, rfl⟩
theorem rmay_any (h : MT 29 w M V N g a r) : Calls Try.prog 22 #[(.pointer (some ⟨M, 0, none⟩)), .int .i64 z] w fun e w' => e = .returned (.bool (mayB N g a z)) ∧ w = w' := by
  unfold mayB
  have hs := rstate_any (z := z) h
  have r1 := h.l1
  generalize stI N g z = x at *
  by_cases h0 : x = 0
  · subst h0
    go_enter Try.func22, Try.ntmps22
    go_wp2_with fail
    refine hs.mono ?_
    rintro e w1 ⟨rfl, rfl⟩
    go_wp2_with fail
    go_ret
    exact ⟨by simp, rfl⟩
  · by_cases h1 : x = 1
    · subst h1
      by_cases ha : 0 < a
      · have E := hide (wnt_yes ha)
        have hx : ((a : Int) == 0) = false := by have : ¬ (a : Int) = 0 := by omega
                                                 simpa using this
        go_enter Try.func22, Try.ntmps22
        go_wp2_with fail
        refine hs.mono ?_
        rintro e w1 ⟨rfl, rfl⟩
        go_wp2_with fail
        refine hs.mono ?_
        rintro e w1 ⟨rfl, rfl⟩
        go_wp2_with fail
        go_ret
        exact ⟨by rw [E.out]; simp, rfl⟩
      · obtain rfl : a = 0 := by omega
        have E := hide wnt_no
        go_enter Try.func22, Try.ntmps22
        go_wp2_with fail
        refine hs.mono ?_
        rintro e w1 ⟨rfl, rfl⟩
        go_wp2_with fail
        refine hs.mono ?_
        rintro e w1 ⟨rfl, rfl⟩
        go_wp2_with fail
        go_ret
        exact ⟨by rw [E.out]; simp, rfl⟩
    · have E := hide (show (x == 0 || x == 1 && !wnt a) = false by simp [h0, h1])
      have e0 : (x == 0) = false := by simpa using h0
      have e1 : (x == 1) = false := by simpa using h1
      clear h0 h1
      go_enter Try.func22, Try.ntmps22
      go_wp2_with fail
      refine hs.mono ?_
      rintro e w1 ⟨rfl, rfl⟩
      go_wp2_with fail
      refine hs.mono ?_
      rintro e w1 ⟨rfl, rfl⟩
      go_wp2_with fail
      go_ret
      exact ⟨by rw [E.out]; simp, rfl⟩
theorem rdone_any (h : MT 29 w M V N g a r) (hr : r ≤ 1000) : Calls Try.prog 13 #[(.pointer (some ⟨M, 0, none⟩))] w fun e w' => e = .returned (.tuple #[.int .i64 (dA (don N g a) a), .int .i64 (dE (don N g a))]) ∧ MT 29 w' M V N g (dW (don N g a) a) (dR (don N g a) r) ∧ Chg [M, V] w w' := by
  unfold don
  have r1 := h.l1
  by_cases ha : 0 < a
  · rw [wnt_yes ha]
    have hx : ((a : Int) == 0) = false := by have : ¬ (a : Int) = 0 := by omega
                                             simpa using this
    cases hs : stl N g
    · have e1 : (true && false) = false := rfl
      rw [e1, show dA false a = 0 from rfl, show dE false = 9 from rfl, show dW false a = a from rfl, show dR false r = r from rfl]
      clear e1
      go_enter Try.func13, Try.ntmps13
      go_wp2_with fail
      refine (rstill_any h).mono ?_
      rw [hs]
      rintro e w1 ⟨rfl, rfl⟩
      go_wp2_with fail
      go_ret2
      exact ⟨by simp, h, Chg.refl _ _⟩
    · have e1 : (true && true) = true := rfl
      rw [e1, show dA true a = a from rfl, show dE true = 0 from rfl, show dW true a = 0 from rfl, show dR true r = r + 1 from rfl]
      clear e1
      have r2 := h.l2
      have f1 := h.m.free 1
      have f2 := h.m.free 2
      have hm : ¬ (2147483647 : Int) < (r : Int) + 1 := by omega
      have H2 := hide ((h.s1 0).s2 (r + 1))
      have C2 := hide ((chg_at (L := [M, V]) w M 1 (.int .i64 ((0 : Nat) : Int)) (by simp)).setAt (V := M) (o := 2) (by simp) (.int .i64 ((r + 1 : Nat) : Int)))
      go_enter Try.func13, Try.ntmps13
      go_wp2_with fail
      refine (rstill_any h).mono ?_
      rw [hs]
      rintro e w1 ⟨rfl, rfl⟩
      go_wp2_with fail
      go_ret2
      exact ⟨by simp, H2.out, C2.out⟩
  · obtain rfl : a = 0 := by omega
    rw [wnt_no]
    have e1 : (false && stl N g) = false := rfl
    rw [e1, show dA false 0 = 0 from rfl, show dE false = 9 from rfl, show dW false 0 = 0 from rfl, show dR false r = r from rfl]
    clear e1
    go_enter Try.func13, Try.ntmps13
    go_wp2_with fail
    go_ret2
    exact ⟨by simp, h, Chg.refl _ _⟩
theorem rput_any (h : MT 29 w M V N g a r) : Calls Try.prog 15 #[(.pointer (some ⟨M, 0, none⟩)), .int .i64 z, .int .i64 s] w fun e w' => e = .returned (.int .i64 (putE N g a z s)) ∧ MT 29 w' M V N (putG N g a z s) a r ∧ Chg [M, V] w w' := by
  have hs := rstate_any (z := z) h
  by_cases hh : 0 ≤ z ∧ z < N
  · obtain ⟨h0, h1⟩ := hh
    have hB := inB_yes h0 h1
    rw [stI_yes g h0 h1] at hs
    have ht : z.toNat < N := by omega
    obtain ⟨x0, x1⟩ := h.ok z.toNat ht
    have n2 := h.n2
    by_cases hq : 0 ≤ s ∧ s ≤ 3
    · obtain ⟨s0, s1⟩ := hq
      have hS := isS_yes s0 s1
      have r0 := h.l0
      have r1 := h.l1
      cases hg : gsB a (g z.toNat) s
      · rw [putE_9 ⟨hB, hS⟩ hg, putG_9 hg]
        by_cases g3 : g z.toNat = 3
        · rw [g3, gsB_3] at hg
          rw [g3] at hs
          clear g3 x0 x1
          have hs3 : (s != 3) = true := by simpa using hg
          clear hg
          go_enter Try.func15, Try.ntmps15
          go_wp2_with fail
          refine hs.mono ?_
          rintro e w1 ⟨rfl, rfl⟩
          go_wp2_with fail
          go_ret
          exact ⟨by simp, h, Chg.refl _ _⟩
        · by_cases g1 : g z.toNat = 1
          · rw [g1, gsB_1] at hg
            rw [g1] at hs
            clear g1 g3 x0 x1
            obtain rfl : s = 0 := by
              refine Classical.byContradiction fun hn => ?_
              have : (s != 0) = true := by simpa using hn
              rw [this] at hg
              cases hg
            have ha : 0 < a := wnt_of (by simpa using hg)
            clear hg
            have hx : (0 : Int) < a := by omega
            go_enter Try.func15, Try.ntmps15
            go_wp2_with fail
            refine hs.mono ?_
            rintro e w1 ⟨rfl, rfl⟩
            go_wp2_with fail
            go_ret
            exact ⟨by simp, h, Chg.refl _ _⟩
          · rw [gsB_e g3 g1] at hg
            cases hg
      · rw [putE_0 ⟨hB, hS⟩ hg, putG_0 ⟨hB, hS⟩ hg]
        have fv := h.v.free z.toNat
        have rv := h.lv ht
        have H2 := hide (h.sv ht s0 s1)
        have C2 := hide (chg_at (L := [M, V]) w V z.toNat (.int .i64 s) (by simp))
        by_cases g3 : g z.toNat = 3
        · rw [g3, gsB_3] at hg
          obtain rfl : s = 3 := by simpa using hg
          have HG := hide g3
          rw [g3] at hs
          clear g3 x0 x1 hg
          by_cases ha : 0 < a
          · have hx : (0 : Int) < a := by omega
            go_enter Try.func15, Try.ntmps15
            go_wp2_with fail
            refine hs.mono ?_
            rintro e w1 ⟨rfl, rfl⟩
            go_wp2_with fail
            go_ret
            exact ⟨by simp, H2.out, C2.out⟩
          · obtain rfl : a = 0 := by omega
            go_enter Try.func15, Try.ntmps15
            go_wp2_with fail
            refine hs.mono ?_
            rintro e w1 ⟨rfl, rfl⟩
            go_wp2_with fail
            go_ret
            exact ⟨by simp, H2.out, C2.out⟩
        · by_cases g1 : g z.toNat = 1
          · rw [g1, gsB_1] at hg
            rw [g1] at hs
            clear g1 g3 x0 x1
            by_cases hz : s = 0
            · subst hz
              obtain rfl : a = 0 := wnt_not (by simpa using hg)
              clear hg
              go_enter Try.func15, Try.ntmps15
              go_wp2_with fail
              refine hs.mono ?_
              rintro e w1 ⟨rfl, rfl⟩
              go_wp2_with fail
              go_ret
              exact ⟨by simp, H2.out, C2.out⟩
            · have hz1 : (s == 0) = false := by simpa using hz
              clear hz hg
              by_cases ha : 0 < a
              · have hx : (0 : Int) < a := by omega
                go_enter Try.func15, Try.ntmps15
                go_wp2_with fail
                refine hs.mono ?_
                rintro e w1 ⟨rfl, rfl⟩
                go_wp2_with fail
                go_ret
                exact ⟨by simp, H2.out, C2.out⟩
              · obtain rfl : a = 0 := by omega
                go_enter Try.func15, Try.ntmps15
                go_wp2_with fail
                refine hs.mono ?_
                rintro e w1 ⟨rfl, rfl⟩
                go_wp2_with fail
                go_ret
                exact ⟨by simp, H2.out, C2.out⟩
          · generalize g z.toNat = x at *
            have b3 : (x == 3) = false := by simpa using g3
            have b1 : (x == 1) = false := by simpa using g1
            have b0 : ¬ x < 0 := by omega
            clear g3 g1 hg
            by_cases ha : 0 < a
            · have hx : (0 : Int) < a := by omega
              go_enter Try.func15, Try.ntmps15
              go_wp2_with fail
              refine hs.mono ?_
              rintro e w1 ⟨rfl, rfl⟩
              go_wp2_with fail
              go_ret
              exact ⟨by simp, H2.out, C2.out⟩
            · obtain rfl : a = 0 := by omega
              go_enter Try.func15, Try.ntmps15
              go_wp2_with fail
              refine hs.mono ?_
              rintro e w1 ⟨rfl, rfl⟩
              go_wp2_with fail
              go_ret
              exact ⟨by simp, H2.out, C2.out⟩
    · have hS := isS_no hq
      rw [putE_no (by rw [hS]; simp), putG_no (by rw [hS]; simp)]
      generalize g z.toNat = x at *
      have b0 : ¬ x < 0 := by omega
      by_cases q0 : s < 0
      · go_enter Try.func15, Try.ntmps15
        go_wp2_with fail
        refine hs.mono ?_
        rintro e w1 ⟨rfl, rfl⟩
        go_wp2_with fail
        go_ret
        exact ⟨by simp, h, Chg.refl _ _⟩
      · have q1 : 3 < s := by omega
        go_enter Try.func15, Try.ntmps15
        go_wp2_with fail
        refine hs.mono ?_
        rintro e w1 ⟨rfl, rfl⟩
        go_wp2_with fail
        go_ret
        exact ⟨by simp, h, Chg.refl _ _⟩
  · have hB := inB_no hh
    rw [putE_no (by rw [hB]; simp), putG_no (by rw [hB]; simp)]
    rw [stI_no g hh] at hs
    go_enter Try.func15, Try.ntmps15
    go_wp2_with fail
    refine hs.mono ?_
    rintro e w1 ⟨rfl, rfl⟩
    go_wp2_with fail
    go_ret
    exact ⟨by simp, h, Chg.refl _ _⟩
end
end Go.Proofs.Ytndjlhnmpddpbaa
