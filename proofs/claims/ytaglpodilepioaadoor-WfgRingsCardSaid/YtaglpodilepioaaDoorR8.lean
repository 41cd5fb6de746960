/- The document's search for a ring: one node more. -/
import Derived.Test.YtaglpodilepioaaDoorR7
namespace Go.Proofs.YtaglpodilepioaaDoor
open Go.RowKit
set_option linter.unusedSimpArgs false
set_option linter.unusedVariables false
set_option maxRecDepth 100000
set_option maxHeartbeats 8000000


def stepF (E : Gr) (s f : Nat) (t : List Nat) (k : Nat) : Option (List Nat) := if decide (s < k) && !(s :: t).contains k then lgr E s f (t ++ [k]) else none
theorem lgr_succ (E : Gr) (s f : Nat) (t : List Nat) : lgr E s (f + 1) t = (setL (E (t.getLastD s))).findSome? (stepF E s f t) := rfl
theorem longer_s {R : Nat} {L : EL} {s z f : Nat} (hl : L.length < 1000) (hz : z ≤ 64) (ih : LgC R L s z f) : LgC R L s z (f + 1) := by
  intro B n t v w hn hz2 hrow hG
  obtain ⟨b, off, c, rfl, _, hlast⟩ := row_at hrow (show (s :: t)[n - 1]? = _ by rw [← hn, Nat.add_sub_cancel]; exact last_at s t)
  obtain ⟨b2, off2, c2, he2, _, hfirst⟩ := row_at hrow (show (s :: t)[0]? = some s from rfl)
  simp only [Value.slice.injEq, Option.some.injEq, Addr.mk.injEq, and_true] at he2
  obtain ⟨⟨rfl, rfl⟩, -, rfl⟩ := he2
  obtain ⟨q, rfl⟩ : ∃ q, n = q + 1 := ⟨n - 1, by omega⟩
  rw [Nat.add_sub_cancel] at hlast
  have d1 := hlast _ (Ext.refl _)
  have hfirst : ∀ wx, Ext w wx → wx.cell? ⟨b, off, none⟩ = some (.int .i64 (s : Int)) := fun wx hx => by have := hfirst wx hx; rwa [Nat.add_zero] at this
  have HF := hide hfirst
  have HRW := hide hrow
  have HG := hide hG
  have HNX := rnext_any (t.getLastD s : Int) w hG hl
  rw [nxI_nat] at HNX
  have HNX := hide HNX
  have HLG := hide (lgr_succ (eg L) s f t)
  have HLEN := hide hn
  have E0 : ((q : Int) + 1 == (z : Int)) = false := by simp; omega
  have hq64 : q < 64 := by omega
  have HIH := hide ih
  have hMl := setL_len (eg L (t.getLastD s))
  have HZ := hide hz2
  generalize setL (eg L (t.getLastD s)) = M at *
  generalize t.getLastD s = x at *
  clear hlast hfirst hrow hG hn hz2 ih
  go_enter Tryd.func33, Tryd.ntmps33
  go_wp2_with (go_at_call 13; (with_reducible refine (HNX.out).mono ?_); rintro e5 w5 ⟨vN, rfl, hr, hx⟩; obtain ⟨A5, c5, rfl⟩ := own_sl hr; go_frame)
  have HR := hide hr
  have HX := hide hx
  clear hr hx HNX d1
  go_loopw [10] (fun y wr => ∃ i : Nat, i ≤ M.length ∧ y = .int .i64 (i : Int) ∧ (∀ j, j < i → ∀ u, M[j]? = some u → stepF (eg L) s f t u = none) ∧ Ext w5 wr) (fun y _ => M.length - (intOf y).toNat)
  case atStart => exact ⟨0, by omega, rfl, fun j hj => by omega, Ext.refl _⟩
  case round =>
    obtain ⟨i, hi, rfl, hno, hX⟩ := hrel
    have HX5 := hide hX
    have HK := hide hno
    clear hX hno
    by_cases hlt : i < M.length
    · obtain ⟨y, hy⟩ : ∃ y, M[i]? = some y := ⟨_, List.getElem?_eq_getElem hlt⟩
      obtain ⟨b3, off3, c3, he3, _, hc3⟩ := row_at HR.out hy
      simp only [Value.slice.injEq] at he3
      obtain ⟨rfl, -, rfl⟩ := he3
      have d1 : ∀ wx, Ext wr wx → wx.cell? ⟨b3, off3 + i, none⟩ = some (.int .i64 (y : Int)) := fun wx h => hc3 wx (HX5.out.trans h)
      have d2 : ∀ wx, Ext wr wx → wx.cell? ⟨b, off, none⟩ = some (.int .i64 (s : Int)) := fun wx h => HF.out wx (HX.out.trans (HX5.out.trans h))
      have HY := hide hy
      clear hy hc3
      by_cases hsy : s < y
      · have hsy2 : (s : Int) < (y : Int) := by omega
        have HHL := fun w1 (h1 : Ext wr w1) => hasl_any y w1 (own_ext HRW.out (HX.out.trans (HX5.out.trans h1))) (by omega)
        obtain ⟨cy, hcy⟩ : ∃ cy, (s :: t).contains y = cy := ⟨_, rfl⟩
        rw [hcy] at HHL
        have HHL := hide HHL
        have HCY := hide hcy
        clear hcy
        cases cy with
        | true =>
          have HFN := hide (show stepF (eg L) s f t y = none by unfold stepF; rw [HCY.out]; simp)
          have hW := Ext.refl wr
          go_wp2_with fail
          refine wp_region_ext (by kernel_rfl) (by kernel_rfl) ?_
          repeat
            with_reducible refine wpQuiet_step (fun K hK => ?_)
            go_simp
            first
            | (refine hK _ ?_; clear hK K)
            | (apply Exists.intro
               refine ⟨fun w1 h1 => ?_, hK _ ?_⟩
               (have hW := Ext.trans2 hW (by repeat (first | exact Ext.refl _ | exact Ext.alloc _ _ | exact Ext.drewN _ _ | assumption | refine Ext.trans ?_ (Ext.alloc _ _) | refine Ext.trans ?_ (Ext.drew _) | refine Ext.trans ?_ (by assumption))) h1; (try have hV := Ext.trans2 hV (by repeat (first | exact Ext.refl _ | exact Ext.alloc _ _ | exact Ext.drewN _ _ | assumption | refine Ext.trans ?_ (Ext.alloc _ _) | refine Ext.trans ?_ (Ext.drew _) | refine Ext.trans ?_ (by assumption))) h1); (first | rfl | (go_simp; done) | (go_simp; rfl) | (go_at_call 30; (with_reducible refine (HHL.out _ h1).mono ?_); rintro e w2 ⟨rfl, rfl⟩; exact ⟨rfl, h1⟩)))
               clear hK K)
          refine wpQuiet_nil (fun w' hw' => ?_)
          have hW := Ext.trans2 hW (by repeat (first | exact Ext.refl _ | exact Ext.alloc _ _ | exact Ext.drewN _ _ | assumption | refine Ext.trans ?_ (Ext.alloc _ _) | refine Ext.trans ?_ (Ext.drew _) | refine Ext.trans ?_ (by assumption))) hw'
          try have hV := Ext.trans2 hV (by repeat (first | exact Ext.refl _ | exact Ext.alloc _ _ | exact Ext.drewN _ _ | assumption | refine Ext.trans ?_ (Ext.alloc _ _) | refine Ext.trans ?_ (Ext.drew _) | refine Ext.trans ?_ (by assumption))) hw'
          clear hw'
          have HX6 := hide (HX5.out.trans hW)
          go_wp2_with fail
          go_roundw
          case rel => exact ⟨i + 1, by omega, by go_num, fun j hj u hu => by
            by_cases e : j = i
            · subst e
              rw [HY.out] at hu
              obtain rfl := Option.some.inj hu
              exact HFN.out
            · exact HK.out j (by omega) u hu, HX6.out⟩
          case measure => simp [intOf]; omega
        | false =>
          have HFN := hide (show stepF (eg L) s f t y = lgr (eg L) s f (t ++ [y]) by unfold stepF; rw [HCY.out]; simp [hsy])
          have hW := Ext.refl wr
          go_wp2_with fail
          refine wp_region_ext (by kernel_rfl) (by kernel_rfl) ?_
          repeat
            with_reducible refine wpQuiet_step (fun K hK => ?_)
            go_simp
            first
            | (refine hK _ ?_; clear hK K)
            | (apply Exists.intro
               refine ⟨fun w1 h1 => ?_, hK _ ?_⟩
               (have hW := Ext.trans2 hW (by repeat (first | exact Ext.refl _ | exact Ext.alloc _ _ | exact Ext.drewN _ _ | assumption | refine Ext.trans ?_ (Ext.alloc _ _) | refine Ext.trans ?_ (Ext.drew _) | refine Ext.trans ?_ (by assumption))) h1; (try have hV := Ext.trans2 hV (by repeat (first | exact Ext.refl _ | exact Ext.alloc _ _ | exact Ext.drewN _ _ | assumption | refine Ext.trans ?_ (Ext.alloc _ _) | refine Ext.trans ?_ (Ext.drew _) | refine Ext.trans ?_ (by assumption))) h1); (first | rfl | (go_simp; done) | (go_simp; rfl) | (go_at_call 30; (with_reducible refine (HHL.out _ h1).mono ?_); rintro e w2 ⟨rfl, rfl⟩; exact ⟨rfl, h1⟩)))
               clear hK K)
          refine wpQuiet_nil (fun w' hw' => ?_)
          have hW := Ext.trans2 hW (by repeat (first | exact Ext.refl _ | exact Ext.alloc _ _ | exact Ext.drewN _ _ | assumption | refine Ext.trans ?_ (Ext.alloc _ _) | refine Ext.trans ?_ (Ext.drew _) | refine Ext.trans ?_ (by assumption))) hw'
          try have hV := Ext.trans2 hV (by repeat (first | exact Ext.refl _ | exact Ext.alloc _ _ | exact Ext.drewN _ _ | assumption | refine Ext.trans ?_ (Ext.alloc _ _) | refine Ext.trans ?_ (Ext.drew _) | refine Ext.trans ?_ (by assumption))) hw'
          clear hw'
          have HX6 := hide (HX5.out.trans hW)
          go_wp2_with fail
          have HX7 := hide (HX.out.trans HX6.out)
          have HO7 := hide (own_ext HRW.out HX7.out)
          have d1 : ∀ wx, Ext w' wx → wx.cell? ⟨b3, off3 + i, none⟩ = some (.int .i64 (y : Int)) := fun wx h => d1 wx (hW.trans h)
          clear d2
          have hk := Ext.drew w'
          refine wp_region_held_drew (S := fun w2 => Ext w' w2) (by kernel_rfl) hk (fun hHeld => ?_)
          (refine held_take (i := 0) (v := ?_) rfl (by kernel_rfl) (by kernel_rfl) (by kernel_rfl) (fun _ _ _ h => h) (by rfl) ?_ (by assumption) ?_; rotate_left; (intro w hSw; (try dsimp only at hSw); (first | (go_simp; done) | (go_simp; with_reducible rfl))); (try simp only [Act.put, List.setIfInBounds_toArray, List.set_cons_zero, List.set_cons_succ]))
          (refine held_take (i := 1) (v := ?_) rfl (by kernel_rfl) (by kernel_rfl) (by kernel_rfl) (fun _ _ _ h => h) (by rfl) ?_ (by assumption) ?_; rotate_left; (intro w hSw; (try dsimp only at hSw); (first | (go_simp; done) | (go_simp; with_reducible rfl))); (try simp only [Act.put, List.setIfInBounds_toArray, List.set_cons_zero, List.set_cons_succ]))
          (refine held_take (i := 3) (v := ?_) rfl (by kernel_rfl) (by kernel_rfl) (by kernel_rfl) (fun _ _ _ h => h) (by rfl) ?_ (by assumption) ?_; rotate_left; (intro w hSw; (try dsimp only at hSw); (first | (go_simp; done) | (go_simp; with_reducible rfl))); (try simp only [Act.put, List.setIfInBounds_toArray, List.set_cons_zero, List.set_cons_succ]))
          (refine held_take (i := 4) (v := ?_) rfl (by kernel_rfl) (by kernel_rfl) (by kernel_rfl) (fun _ _ _ h => h) (by rfl) ?_ (by assumption) ?_; rotate_left; (intro w hSw; (try dsimp only at hSw); (first | (go_simp; done) | (go_simp; with_reducible rfl))); (try simp only [Act.put, List.setIfInBounds_toArray, List.set_cons_zero, List.set_cons_succ]))
          (refine held_take (i := 5) (v := ?_) rfl (by kernel_rfl) (by kernel_rfl) (by kernel_rfl) (fun _ _ _ h => h) (by rfl) ?_ (by assumption) ?_; rotate_left; (intro w hSw; (try dsimp only at hSw); (first | (go_simp; done) | (go_simp; with_reducible rfl))); (try simp only [Act.put, List.setIfInBounds_toArray, List.set_cons_zero, List.set_cons_succ]))
          (refine held_take (i := 6) (v := ?_) rfl (by kernel_rfl) (by kernel_rfl) (by kernel_rfl) (fun _ _ _ h => h) (by rfl) ?_ (by assumption) ?_; rotate_left; (intro w hSw; (try dsimp only at hSw); (first | (go_simp; done) | (go_simp; with_reducible rfl))); (try simp only [Act.put, List.setIfInBounds_toArray, List.set_cons_zero, List.set_cons_succ]))
          (refine held_take (i := 9) (v := ?_) rfl (by kernel_rfl) (by kernel_rfl) (by kernel_rfl) (fun _ _ _ h => h) (by rfl) ?_ (by assumption) ?_; rotate_left; (intro w hSw; (try dsimp only at hSw); (first | (go_simp; done) | (go_simp; with_reducible rfl))); (try simp only [Act.put, List.setIfInBounds_toArray, List.set_cons_zero, List.set_cons_succ]))
          clear d1
          refine wpAnyH_ready (rs := [2, 7]) (by kernel_rfl) (by simp) (held_cons rfl (fun K hK => ?_) (held_cons rfl (fun K hK => ?_) AllReadyH.nil))
          · rw [if_pos (by rfl)]
            refine wp_dup (l := s :: t) (n := q + 1) _ _ rfl rfl rfl (own_ext HO7.out hk) (by omega) ?_
            intro A6 c6 w6 ho6 hy6
            have hk0 := hk.size
            have hk := hk.trans hy6
            have HO6 := hide (own_base ho6 hk0)
            refine hK.out _ _ hk (fun hHeld => ?_)
            (try simp only [Act.put, List.setIfInBounds_toArray, List.set_cons_zero, List.set_cons_succ])
            refine wpAnyH_ready (rs := [7]) (by kernel_rfl) (by simp) (held_cons rfl (fun K hK => ?_) AllReadyH.nil)
            rw [if_pos (by rfl)]
            go_simp
            have HN8 := hide (Blk.new w6 #[.int .i64 (y : Int)] 3)
            have HO8 := hide (own_ext HO6.out (Ext.alloc w6 (.cells #[.int .i64 (y : Int)] 3)))
            have hk := hk.trans (Ext.alloc w6 (.cells #[.int .i64 (y : Int)] 3))
            generalize w6.alloc (.cells #[.int .i64 (y : Int)] 3) = w8 at *
            refine hK.out _ _ hk (fun hHeld => ?_)
            (try simp only [Act.put, List.setIfInBounds_toArray, List.set_cons_zero, List.set_cons_succ])
            refine wpAnyH_ready (rs := [8]) (by kernel_rfl) (by simp) (held_cons rfl (fun K hK => ?_) AllReadyH.nil)
            rw [if_pos (by rfl)]
            refine wp_one (l := s :: t) (n := q + 1) (y := y) (B := w'.heap.size) _ _ rfl rfl rfl HO8.out HN8.out (by omega) hk.size ?_
            intro A9 c9 w9 ho9 hy9
            have hk := hy9 w' hk (Nat.le_refl _)
            refine hK.out _ _ hk (fun hHeld => ?_)
            (try simp only [Act.put, List.setIfInBounds_toArray, List.set_cons_zero, List.set_cons_succ])
            refine wpAnyH_ready (rs := [10]) (by kernel_rfl) (by simp) (held_cons rfl (fun K hK => ?_) AllReadyH.nil)
            rw [if_pos (by rfl)]
            go_simp
            go_at_call 33
            refine (HIH.out w'.heap.size (q + 1 + 1) (t ++ [y]) _ w9 (by have := HLEN.out; rw [List.length_append, List.length_singleton]; omega) (by have := HZ.out; omega) ho9 (HG.out.ext (HX7.out.trans hk))).mono ?_
            rintro e w10 ⟨v10, b10, rfl, hA, hy10⟩
            have hk := hk.trans hy10
            have HA := hide hA
            clear hA
            refine hK.out _ _ hk (fun hHeld => ?_)
            (try simp only [Act.put, List.setIfInBounds_toArray, List.set_cons_zero, List.set_cons_succ])
            (refine held_take (i := 11) (v := ?_) rfl (by kernel_rfl) (by kernel_rfl) (by kernel_rfl) (fun _ _ _ h => h) (by rfl) ?_ (by assumption) ?_; rotate_left; (intro w hSw; (try dsimp only at hSw); (first | (go_simp; done) | (go_simp; with_reducible rfl))); (try simp only [Act.put, List.setIfInBounds_toArray, List.set_cons_zero, List.set_cons_succ]))
            (refine held_take (i := 12) (v := ?_) rfl (by kernel_rfl) (by kernel_rfl) (by kernel_rfl) (fun _ _ _ h => h) (by rfl) ?_ (by assumption) ?_; rotate_left; (intro w hSw; (try dsimp only at hSw); (first | (go_simp; done) | (go_simp; with_reducible rfl))); (try simp only [Act.put, List.setIfInBounds_toArray, List.set_cons_zero, List.set_cons_succ]))
            (refine held_take (i := 13) (v := ?_) rfl (by kernel_rfl) (by kernel_rfl) (by kernel_rfl) (fun _ _ _ h => h) (by rfl) ?_ (by assumption) ?_; rotate_left; (intro w hSw; (try dsimp only at hSw); (first | (go_simp; done) | (go_simp; with_reducible rfl))); (try simp only [Act.put, List.setIfInBounds_toArray, List.set_cons_zero, List.set_cons_succ]))
            (refine held_take (i := 14) (v := ?_) rfl (by kernel_rfl) (by kernel_rfl) (by kernel_rfl) (fun _ _ _ h => h) (by rfl) ?_ (by assumption) ?_; rotate_left; (intro w hSw; (try dsimp only at hSw); (first | (go_simp; done) | (go_simp; with_reducible rfl))); (try simp only [Act.put, List.setIfInBounds_toArray, List.set_cons_zero, List.set_cons_succ]))
            (refine held_take (i := 15) (v := ?_) rfl (by kernel_rfl) (by kernel_rfl) (by kernel_rfl) (fun _ _ _ h => h) (by rfl) ?_ (by assumption) ?_; rotate_left; (intro w hSw; (try dsimp only at hSw); (first | (go_simp; done) | (go_simp; with_reducible rfl))); (try simp only [Act.put, List.setIfInBounds_toArray, List.set_cons_zero, List.set_cons_succ]))
            refine wpAnyH_done (by kernel_rfl) ?_ _
            have HXE := hide (HX6.out.trans hk)
            clear hK K
            cases b10 with
            | true =>
              go_wp2_with fail
              go_ret2
              refine ⟨_, _, rfl, ?_, HX.out.trans HXE.out⟩
              obtain ⟨q1, q2⟩ := HA.out
              obtain ⟨r, hr⟩ := Option.isSome_iff_exists.1 q1.symm
              have hq : lgr (eg L) s (f + 1) t = some r := by rw [HLG.out]; exact fs_at M HK.out HY.out (by rw [HFN.out]; exact hr)
              exact ⟨by rw [hq]; rfl, fun r' hr' => by
                rw [hq] at hr'
                obtain rfl := Option.some.inj hr'
                exact q2 _ hr⟩
            | false =>
              have HFN2 := hide (show stepF (eg L) s f t y = none by
                rw [HFN.out]
                have := HA.out.1
                exact Option.isSome_eq_false_iff.1 this.symm |> fun h => by simpa using h)
              go_wp2_with fail
              go_roundw
              case rel => exact ⟨i + 1, by omega, by go_num, fun j hj u hu => by
                by_cases e : j = i
                · subst e
                  rw [HY.out] at hu
                  obtain rfl := Option.some.inj hu
                  exact HFN2.out
                · exact HK.out j (by omega) u hu, HXE.out⟩
              case measure => simp [intOf]; omega
          · rw [if_pos (by rfl)]
            go_simp
            have hN7 := (Blk.new w' #[.int .i64 (y : Int)] 3).ext (Ext.drew _)
            have hk := (Ext.alloc w' (.cells #[.int .i64 (y : Int)] 3)).trans (Ext.drew _)
            generalize (w'.alloc (.cells #[.int .i64 (y : Int)] 3)).drew = w7 at *
            have HN7 := hide hN7
            clear hN7
            refine hK.out _ _ hk (fun hHeld => ?_)
            (try simp only [Act.put, List.setIfInBounds_toArray, List.set_cons_zero, List.set_cons_succ])
            refine wpAnyH_ready (rs := [2]) (by kernel_rfl) (by simp) (held_cons rfl (fun K hK => ?_) AllReadyH.nil)
            rw [if_pos (by rfl)]
            refine wp_dup (l := s :: t) (n := q + 1) _ _ rfl rfl rfl (own_ext HO7.out hk) (by omega) ?_
            intro A6 c6 w6 ho6 hy6
            have hk0 := hk.size
            have hk := hk.trans hy6
            have HO6 := hide (own_base ho6 hk0)
            refine hK.out _ _ hk (fun hHeld => ?_)
            (try simp only [Act.put, List.setIfInBounds_toArray, List.set_cons_zero, List.set_cons_succ])
            have HN8 := hide (HN7.out.ext hy6)
            have HO8 := HO6
            refine wpAnyH_ready (rs := [8]) (by kernel_rfl) (by simp) (held_cons rfl (fun K hK => ?_) AllReadyH.nil)
            rw [if_pos (by rfl)]
            refine wp_one (l := s :: t) (n := q + 1) (y := y) (B := w'.heap.size) _ _ rfl rfl rfl HO8.out HN8.out (by omega) hk.size ?_
            intro A9 c9 w9 ho9 hy9
            have hk := hy9 w' hk (Nat.le_refl _)
            refine hK.out _ _ hk (fun hHeld => ?_)
            (try simp only [Act.put, List.setIfInBounds_toArray, List.set_cons_zero, List.set_cons_succ])
            refine wpAnyH_ready (rs := [10]) (by kernel_rfl) (by simp) (held_cons rfl (fun K hK => ?_) AllReadyH.nil)
            rw [if_pos (by rfl)]
            go_simp
            go_at_call 33
            refine (HIH.out w'.heap.size (q + 1 + 1) (t ++ [y]) _ w9 (by have := HLEN.out; rw [List.length_append, List.length_singleton]; omega) (by have := HZ.out; omega) ho9 (HG.out.ext (HX7.out.trans hk))).mono ?_
            rintro e w10 ⟨v10, b10, rfl, hA, hy10⟩
            have hk := hk.trans hy10
            have HA := hide hA
            clear hA
            refine hK.out _ _ hk (fun hHeld => ?_)
            (try simp only [Act.put, List.setIfInBounds_toArray, List.set_cons_zero, List.set_cons_succ])
            (refine held_take (i := 11) (v := ?_) rfl (by kernel_rfl) (by kernel_rfl) (by kernel_rfl) (fun _ _ _ h => h) (by rfl) ?_ (by assumption) ?_; rotate_left; (intro w hSw; (try dsimp only at hSw); (first | (go_simp; done) | (go_simp; with_reducible rfl))); (try simp only [Act.put, List.setIfInBounds_toArray, List.set_cons_zero, List.set_cons_succ]))
            (refine held_take (i := 12) (v := ?_) rfl (by kernel_rfl) (by kernel_rfl) (by kernel_rfl) (fun _ _ _ h => h) (by rfl) ?_ (by assumption) ?_; rotate_left; (intro w hSw; (try dsimp only at hSw); (first | (go_simp; done) | (go_simp; with_reducible rfl))); (try simp only [Act.put, List.setIfInBounds_toArray, List.set_cons_zero, List.set_cons_succ]))
            (refine held_take (i := 13) (v := ?_) rfl (by kernel_rfl) (by kernel_rfl) (by kernel_rfl) (fun _ _ _ h => h) (by rfl) ?_ (by assumption) ?_; rotate_left; (intro w hSw; (try dsimp only at hSw); (first | (go_simp; done) | (go_simp; with_reducible rfl))); (try simp only [Act.put, List.setIfInBounds_toArray, List.set_cons_zero, List.set_cons_succ]))
            (refine held_take (i := 14) (v := ?_) rfl (by kernel_rfl) (by kernel_rfl) (by kernel_rfl) (fun _ _ _ h => h) (by rfl) ?_ (by assumption) ?_; rotate_left; (intro w hSw; (try dsimp only at hSw); (first | (go_simp; done) | (go_simp; with_reducible rfl))); (try simp only [Act.put, List.setIfInBounds_toArray, List.set_cons_zero, List.set_cons_succ]))
            (refine held_take (i := 15) (v := ?_) rfl (by kernel_rfl) (by kernel_rfl) (by kernel_rfl) (fun _ _ _ h => h) (by rfl) ?_ (by assumption) ?_; rotate_left; (intro w hSw; (try dsimp only at hSw); (first | (go_simp; done) | (go_simp; with_reducible rfl))); (try simp only [Act.put, List.setIfInBounds_toArray, List.set_cons_zero, List.set_cons_succ]))
            refine wpAnyH_done (by kernel_rfl) ?_ _
            have HXE := hide (HX6.out.trans hk)
            clear hK K
            cases b10 with
            | true =>
              go_wp2_with fail
              go_ret2
              refine ⟨_, _, rfl, ?_, HX.out.trans HXE.out⟩
              obtain ⟨q1, q2⟩ := HA.out
              obtain ⟨r, hr⟩ := Option.isSome_iff_exists.1 q1.symm
              have hq : lgr (eg L) s (f + 1) t = some r := by rw [HLG.out]; exact fs_at M HK.out HY.out (by rw [HFN.out]; exact hr)
              exact ⟨by rw [hq]; rfl, fun r' hr' => by
                rw [hq] at hr'
                obtain rfl := Option.some.inj hr'
                exact q2 _ hr⟩
            | false =>
              have HFN2 := hide (show stepF (eg L) s f t y = none by
                rw [HFN.out]
                have := HA.out.1
                exact Option.isSome_eq_false_iff.1 this.symm |> fun h => by simpa using h)
              go_wp2_with fail
              go_roundw
              case rel => exact ⟨i + 1, by omega, by go_num, fun j hj u hu => by
                by_cases e : j = i
                · subst e
                  rw [HY.out] at hu
                  obtain rfl := Option.some.inj hu
                  exact HFN2.out
                · exact HK.out j (by omega) u hu, HXE.out⟩
              case measure => simp [intOf]; omega
      · have hsy2 : ¬ (s : Int) < (y : Int) := by omega
        have HFN := hide (show stepF (eg L) s f t y = none by unfold stepF; simp [hsy])
        have hW := Ext.refl wr
        go_wp2_with fail
        refine wp_region_ext (by kernel_rfl) (by kernel_rfl) ?_
        repeat
          with_reducible refine wpQuiet_step (fun K hK => ?_)
          go_simp
          first
          | (refine hK _ ?_; clear hK K)
          | (apply Exists.intro
             refine ⟨fun w1 h1 => ?_, hK _ ?_⟩
             (have hW := Ext.trans2 hW (by repeat (first | exact Ext.refl _ | exact Ext.alloc _ _ | exact Ext.drewN _ _ | assumption | refine Ext.trans ?_ (Ext.alloc _ _) | refine Ext.trans ?_ (Ext.drew _) | refine Ext.trans ?_ (by assumption))) h1; (try have hV := Ext.trans2 hV (by repeat (first | exact Ext.refl _ | exact Ext.alloc _ _ | exact Ext.drewN _ _ | assumption | refine Ext.trans ?_ (Ext.alloc _ _) | refine Ext.trans ?_ (Ext.drew _) | refine Ext.trans ?_ (by assumption))) h1); (first | rfl | (go_simp; done) | (go_simp; rfl) | fail))
             clear hK K)
        refine wpQuiet_nil (fun w' hw' => ?_)
        have hW := Ext.trans2 hW (by repeat (first | exact Ext.refl _ | exact Ext.alloc _ _ | exact Ext.drewN _ _ | assumption | refine Ext.trans ?_ (Ext.alloc _ _) | refine Ext.trans ?_ (Ext.drew _) | refine Ext.trans ?_ (by assumption))) hw'
        try have hV := Ext.trans2 hV (by repeat (first | exact Ext.refl _ | exact Ext.alloc _ _ | exact Ext.drewN _ _ | assumption | refine Ext.trans ?_ (Ext.alloc _ _) | refine Ext.trans ?_ (Ext.drew _) | refine Ext.trans ?_ (by assumption))) hw'
        clear hw'
        have HX6 := hide (HX5.out.trans hW)
        go_wp2_with fail
        go_roundw
        case rel => exact ⟨i + 1, by omega, by go_num, fun j hj u hu => by
          by_cases e : j = i
          · subst e
            rw [HY.out] at hu
            obtain rfl := Option.some.inj hu
            exact HFN.out
          · exact HK.out j (by omega) u hu, HX6.out⟩
        case measure => simp [intOf]; omega
    · obtain rfl : i = M.length := by omega
      have HQ := hide (show lgr (eg L) s (f + 1) t = none by rw [HLG.out]; exact fs_no M HK.out)
      go_wp2_with fail
      go_ret2
      exact ⟨_, _, rfl, ⟨by rw [HQ.out]; rfl, fun r hr => by rw [HQ.out] at hr; cases hr⟩, HX.out.trans HX5.out⟩
end Go.Proofs.YtaglpodilepioaaDoor
