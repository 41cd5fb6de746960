/-
  A law of layer 8 holds of every input: PermitPlays. No condition.
-/
import Derived.Test.YtleffmmlcbaooaaR2
import Derived.Test.YtleffmmlcbaooaaTail
import Derived.Deep.RegionHeld3
import Derived.Deep.DeepCutAuto
import Derived.Deep.CutBlock
namespace Go.Proofs.Ytleffmmlcbaooaa
open Go.ChangeShapes Go.WideShapes Go.ChangeAt Go.RowKit Go.Deep Go.Joins
set_option linter.unusedVariables false
set_option linter.unusedSimpArgs false

/-- One above the sleeper that was told last. -/
def low (l : List Nat) (q : Nat) : Int := if q = 0 then 0 else (l.getD (q - 1) 0 : Int) + 1
theorem low_next {l : List Nat} {q : Nat} (h : q < l.length) : low l (q + 1) = (l[q] : Int) + 1 := by
  unfold low
  rw [if_neg (by omega), Nat.add_sub_cancel, List.getD_eq_getElem?_getD, List.getElem?_eq_getElem h]
  rfl
theorem low_nn (l : List Nat) (q : Nat) : 0 ≤ low l q := by unfold low; split <;> omega
theorem low_le {l : List Nat} (ha : l.Pairwise (· < ·)) {q : Nat} (h : q < l.length) : low l q ≤ (l[q] : Int) := by
  unfold low
  split
  · omega
  · rw [List.getD_eq_getElem?_getD, List.getElem?_eq_getElem (show q - 1 < l.length by omega), Option.getD_some]
    have := List.pairwise_iff_getElem.1 ha (q - 1) q (by omega) h (by omega)
    omega
set_option maxHeartbeats 8000000 in
set_option maxRecDepth 100000 in
theorem lplays_any (C : Int) (A : Option Addr) (n c : Nat) (f : Nat → Stp) (w : World) (hn : n ≤ c) (hc : c ≤ maxLen) (hs : Stps w w.heap.size A n f) (hf : ∀ k, k < n → Okst (f k)) :
    Calls Try.prog 3 #[.int .i64 C, .slice A n c] w fun e w' => e = .returned (.bool true) ∧ Ext w w' := by
  have HF := hide hf
  clear hf
  by_cases hmay : 1 ≤ C ∧ C ≤ 256
  · obtain ⟨h1, h2⟩ := hmay
    obtain ⟨N, rfl⟩ := Int.eq_ofNat_of_zero_le (show 0 ≤ C by omega)
    go_enter Try.func3, Try.ntmps3
    go_wp2_with fail
    refine (new_in N _ (by omega) (by omega)).mono ?_
    rintro e w1 ⟨M, V, rfl, hm, hM, hV, hX⟩
    have l1 := hm.m.lt
    have l2 := hm.v.lt
    have z1 := hX.size
    go_wp2_with fail
    refine (rnew_in N _ (by omega) (by omega)).mono ?_
    rintro e w2 ⟨P, F, S, rfl, hp, hf, hs', npf, nps, nfs, gp, gf, gs, hx⟩
    have hr : RefT (w2.alloc (.cells #[.slice (some ⟨P, 0, none⟩) N N, .slice (some ⟨F, 0, none⟩) N N, .slice (some ⟨S, 0, none⟩) N N] 29)) w2.heap.size P F S N (fun _ => no3) := by
      have q1 := hp.lt
      have q2 := hf.lt
      have q3 := hs'.lt
      exact ⟨Blk.new w2 _ _, hp.ext (Ext.alloc _ _), hf.ext (Ext.alloc _ _), hs'.ext (Ext.alloc _ _), by omega, by omega, by omega, npf, nps, nfs, by omega, by omega, fun t h => (by cases h)⟩
    have z2 := hx.size
    have q1 := hp.lt
    have q2 := hf.lt
    have q3 := hs'.lt
    have hY := hx.trans (Ext.alloc w2 (.cells #[.slice (some ⟨P, 0, none⟩) N N, .slice (some ⟨F, 0, none⟩) N N, .slice (some ⟨S, 0, none⟩) N N] 29))
    have hm := hm.ext hY
    have hX := hX.trans hY
    have HT := hide (show ∀ t, t ∈ [V] → w.heap.size ≤ t by simp; omega)
    have HTR := hide (show ∀ t, t ∈ [P, F, S] → w.heap.size ≤ t by simp; omega)
    have DR := hide (show ∀ k, k ∈ [w2.heap.size, P, F, S] → k ∉ [V] by simp; omega)
    have DM := hide (show M ∉ [P, F, S] by simp; omega)
    have DV := hide (show V ∉ [P, F, S] by simp; omega)
    have SM := hide (show ∀ k, k ∈ [V] → k ∈ [V, P, F, S] by simp)
    have SR := hide (show ∀ k, k ∈ [P, F, S] → k ∈ [V, P, F, S] by simp)
    clear hM hV l1 l2 z1 hp hf hs' npf nps nfs gp gf gs hx z2 q1 q2 q3 hY
    go_wp2_with fail
    generalize w2.alloc (.cells #[.slice (some ⟨P, 0, none⟩) N N, .slice (some ⟨F, 0, none⟩) N N, .slice (some ⟨S, 0, none⟩) N N] 29) = w3 at *
    generalize w2.heap.size = R at *
    refine (short_any A n c _ hn hc).mono ?_
    rintro e w4 ⟨rfl, rfl⟩
    go_wp2_with fail
    go_loopw [65] (fun i wr => ∃ (j : Nat) (g : Tb), j ≤ min n 300 ∧ i = .int .i64 j ∧ TabT wr M V N g ∧ RefT wr R P F S N g ∧ Ext w wr) (fun i _ => min n 300 - (intOf i).toNat)
    case atStart => exact ⟨0, _, by omega, rfl, hm, hr, hX⟩
    case round =>
      clear hm hX hr
      obtain ⟨j, g, hj, rfl, hm, hr, hX⟩ := hrel
      by_cases hlt : j < min n 300
      · have hj2 : j < n := by omega
        obtain ⟨b, off, rfl, hb, r0, r1⟩ := (hs.chg hX (Nat.le_refl _)).rules hj2
        have hok := HF.out j hj2
        have k0 := hok.k0
        have k1 := hok.k1
        have HS := hide (show wr.heap.size ∉ [V, P, F, S] by have a2 := hm.v.lt; have a3 := hr.p.lt; have a4 := hr.f.lt; have a5 := hr.s.lt; simp; omega)
        have bs := Blk.new wr #[.int .u8 (f j).k, .int .i64 (f j).n] 35
        have rs := bs.ruleC HS.out
        have s0 : ∀ w', Chg [V, P, F, S] (wr.alloc (.cells #[.int .u8 (f j).k, .int .i64 (f j).n] 35)) w' → w'.cell? ⟨wr.heap.size, 0, none⟩ = some (.int .u8 (f j).k) := fun w' h => rs w' h 0
        have s1 : ∀ w', Chg [V, P, F, S] (wr.alloc (.cells #[.int .u8 (f j).k, .int .i64 (f j).n] 35)) w' → w'.cell? ⟨wr.heap.size, 1, none⟩ = some (.int .i64 (f j).n) := fun w' h => rs w' h 1
        have hm := hm.ext (Ext.alloc wr (.cells #[.int .u8 (f j).k, .int .i64 (f j).n] 35))
        have hr := hr.ext (Ext.alloc wr (.cells #[.int .u8 (f j).k, .int .i64 (f j).n] 35))
        have hX := hX.trans (Ext.alloc wr (.cells #[.int .u8 (f j).k, .int .i64 (f j).n] 35))
        have hV := Chg.refl [V, P, F, S] (wr.alloc (.cells #[.int .u8 (f j).k, .int .i64 (f j).n] 35))
        clear bs hok rs
        go_upto_block 2 with fail
        go_cut [11, 71] (fun v k5 wc => v = .bool true ∧ ∃ g', TabT wc M V N g' ∧ RefT wc R P F S N g' ∧ Ext w wc ∧ Chg [V, P, F, S] (wr.alloc (.cells #[.int .u8 (f j).k, .int .i64 (f j).n] 35)) wc)
        case first =>
          by_cases q1 : (f j).k % 5 = 1
          · go_wp2_with fail
            (refine (unpark_any hm).mono ?_; (rintro e w' ⟨rfl, hm, hc⟩; have hr := hr.chg hc DR.out; have hX := hX.turn hc HT.out; have hV := hV.trans (hc.mono SM.out); clear hc))
            go_wp2_with fail
            (refine (runpark_any hr).mono ?_; (rintro e w' ⟨rfl, hr, hc⟩; have hm := hm.chg hc DM.out DV.out; have hX := hX.turn hc HTR.out; have hV := hV.trans (hc.mono SR.out); clear hc))
            go_wp2_with fail
            go_meet
            case rel => exact ⟨rfl, _, hm, hr, hX, hV⟩
          · by_cases q2 : (f j).k % 5 = 2
            · go_wp2_with fail
              (refine (interrupt_any hm).mono ?_; (rintro e w' ⟨rfl, hm, hc⟩; have hr := hr.chg hc DR.out; have hX := hX.turn hc HT.out; have hV := hV.trans (hc.mono SM.out); clear hc))
              go_wp2_with fail
              (refine (rinterrupt_any hr).mono ?_; (rintro e w' ⟨rfl, hr, hc⟩; have hm := hm.chg hc DM.out DV.out; have hX := hX.turn hc HTR.out; have hV := hV.trans (hc.mono SR.out); clear hc))
              go_wp2_with fail
              go_meet
              case rel => exact ⟨rfl, _, hm, hr, hX, hV⟩
            · by_cases q3 : (f j).k % 5 = 3
              · go_wp2_with fail
                go_region_held3 (fun w' => w'.cell? ⟨wr.heap.size, 1, none⟩ = some (.int .i64 (f j).n)) (first | exact s1 _ hV | exact s1 _ (hV.trans (Chg.drew _ _)))
                  (first | (go_at_call 15; refine (take_any (hm.ext (Ext.drew _))).mono ?_; (have hm := hm.ext (Ext.drew _); have hr := hr.ext (Ext.drew _); have hX := hX.trans (Ext.drew _); have hV := hV.trans (Chg.drew _ _)); (rintro e w' ⟨rfl, hm, hc⟩; have hr := hr.chg hc DR.out; have hX := hX.turn hc HT.out; have hV := hV.trans (hc.mono SM.out); clear hc)) | (go_at_call 16; (refine (rtake_any hr).mono ?_; (rintro e w' ⟨rfl, hr, hc⟩; have hm := hm.chg hc DM.out DV.out; have hX := hX.turn hc HTR.out; have hV := hV.trans (hc.mono SR.out); clear hc))))
                go_wp2_with fail
                go_meet
                case rel => exact ⟨rfl, _, hm, hr, hX, hV⟩
              · go_wp2_with fail
                (refine (park_any hm).mono ?_; (rintro e w' ⟨rfl, hm, hc⟩; have hr := hr.chg hc DR.out; have hX := hX.turn hc HT.out; have hV := hV.trans (hc.mono SM.out); clear hc))
                go_wp2_with fail
                (refine (rpark_any hr).mono ?_; (rintro e w' ⟨rfl, hr, hc⟩; have hm := hm.chg hc DM.out DV.out; have hX := hX.turn hc HTR.out; have hV := hV.trans (hc.mono SR.out); clear hc))
                go_wp2_with fail
                go_meet
                case rel => exact ⟨rfl, _, hm, hr, hX, hV⟩
        case rest =>
          obtain ⟨rfl, g', hm0, hr0, hX0, hV⟩ := hcut
          have hz := (Blk.new wr #[.int .u8 (f j).k, .int .i64 (f j).n] 35).chg hV HS.out
          have hY := Ext.alloc wc (.cells #[.bool false, .bool false, .bool false] 41)
          have hw := Blk.new wc #[.bool false, .bool false, .bool false] 41
          have hm := hm0.ext hY
          have hr := hr0.ext hY
          have hX := hX0.trans hY
          have hz := hz.ext hY
          have z1 := hz.cell 1
          have lz := hV.size
          simp only [World.size_alloc] at lz
          have DZ := hide (show wr.heap.size ∉ [wc.heap.size] by simp; omega)
          have DMW := hide (show M ∉ [wc.heap.size] by have := hm0.m.lt; simp; omega)
          have DVW := hide (show V ∉ [wc.heap.size] by have := hm0.v.lt; simp; omega)
          have DRW := hide (show ∀ k, k ∈ [R, P, F, S] → k ∉ [wc.heap.size] by have a1 := hr0.r.lt; have a2 := hr0.p.lt; have a3 := hr0.f.lt; have a4 := hr0.s.lt; simp; omega)
          have HTW := hide (show ∀ t, t ∈ [wc.heap.size] → w.heap.size ≤ t by have := hX0.size; simp; omega)
          clear hV s0 s1 lz hm0 hr0 hX0 hY
          go_upto_if 151 with (go_at_call 19; refine (rhas_any hr).mono ?_; rintro e w5 ⟨rfl, rfl⟩)
          generalize wc.alloc (.cells #[.bool false, .bool false, .bool false] 41) = w5 at *
          generalize wc.heap.size = W at *
          generalize wr.heap.size = Z at *
          go_cut [] (fun wx => TabT wx M V N g' ∧ RefT wx R P F S N g' ∧ Ext w wx ∧ Blk wx W #[.bool (atB N g' (f j).n).y, .bool (atB N g' (f j).n).z, .bool (atB N g' (f j).n).x] 41 ∧ Blk wx Z #[.int .u8 (f j).k, .int .i64 (f j).n] 35)
          case first =>
            by_cases hin : 0 ≤ (f j).n ∧ (f j).n < N
            · obtain ⟨i0, i1⟩ := hin
              have it : (f j).n.toNat < N := by omega
              have hI := inB_yes i0 i1
              have E := hide (show atB N g' (f j).n = g' (f j).n.toNat from if_pos hI)
              have rr := hr.r.rule
              have rz := hz.rule
              have rp := fun wx hx => (hr.ext (w' := wx) hx).lp it
              have rf := fun wx hx => (hr.ext (w' := wx) hx).lf it
              have rs := fun wx hx => (hr.ext (w' := wx) hx).ls it
              have rw0 := hw.rule
              have rwf := hw.ruleF
              have hW := Ext.refl w5
              rw [hI]
              clear hI z1
              go_wp2_with fail
              refine wp_region_tail 19 (by kernel_rfl) (by kernel_rfl) ?_
              simp only [List.take_succ_cons, List.take_zero, List.drop_succ_cons, List.drop_zero]
              repeat
                with_reducible refine wpQuiet_step (fun K hK => ?_)
                go_simp
                first
                | (refine hK _ ?_; clear hK K)
                | (apply Exists.intro
                   refine ⟨fun w1 h1 => ?_, hK _ ?_⟩
                   (have hW := Ext.trans2 hW (by repeat (first | exact Ext.refl _ | exact Ext.alloc _ _ | exact Ext.drewN _ _ | assumption | refine Ext.trans ?_ (Ext.alloc _ _) | refine Ext.trans ?_ (Ext.drew _) | refine Ext.trans ?_ (by assumption))) h1; (try have hV := Ext.trans2 hV (by repeat (first | exact Ext.refl _ | exact Ext.alloc _ _ | exact Ext.drewN _ _ | assumption | refine Ext.trans ?_ (Ext.alloc _ _) | refine Ext.trans ?_ (Ext.drew _) | refine Ext.trans ?_ (by assumption))) h1); (first | rfl | (go_simp; done) | (go_simp; rfl) | fail))
                   clear hK K)
              refine wpQuiet_nil (fun w' hw' => ?_)
              have hW := Ext.trans2 hW (by repeat (first | exact Ext.refl _ | exact Ext.alloc _ _ | exact Ext.drewN _ _ | assumption | refine Ext.trans ?_ (Ext.alloc _ _) | refine Ext.trans ?_ (Ext.drew _) | refine Ext.trans ?_ (by assumption))) hw'
              try have hV := Ext.trans2 hV (by repeat (first | exact Ext.refl _ | exact Ext.alloc _ _ | exact Ext.drewN _ _ | assumption | refine Ext.trans ?_ (Ext.alloc _ _) | refine Ext.trans ?_ (Ext.drew _) | refine Ext.trans ?_ (by assumption))) hw'
              clear hw'
              have hm := hm.ext hW
              have hr := hr.ext hW
              have hX := hX.trans hW
              have hz := hz.ext hW
              have hw3 := (((hw.ext hW).set 0 (.bool (g' (f j).n.toNat).y)).set 1 (.bool (g' (f j).n.toNat).z)).set 2 (.bool (g' (f j).n.toNat).x)
              have hc := ((chg_at (T := [W]) w' W 0 (.bool (g' (f j).n.toNat).y) (by simp)).setV (o := 1) (.bool (g' (f j).n.toNat).z)).setV (o := 2) (.bool (g' (f j).n.toNat).x)
              have hm := hide (hm.chg hc DMW.out DVW.out)
              have hr := hide (hr.chg hc DRW.out)
              have hX := hide (hX.turn hc HTW.out)
              have hz := hide (hz.chg hc DZ.out)
              have hw3 := hide hw3
              clear hc rz
              go_wp2_with fail
              go_meet
              case rel => exact ⟨hm.out, hr.out, hX.out, by rw [E.out]; exact hw3.out, hz.out⟩
            · have hI := inB_no hin
              have E := hide (show atB N g' (f j).n = no3 from if_neg (by rw [hI]; simp))
              rw [hI]
              clear hI
              go_wp2_with fail
              go_meet
              case rel => exact ⟨hm, hr, hX, by rw [E.out]; exact hw, hz⟩
          case rest =>
            obtain ⟨hm, hr, hX, hw, hz⟩ := hcut
            have rz := hz.rule
            have rw0 := hw.rule
            have hW := Ext.refl wc
            go_wp2_with fail
            refine wp_region_ext (by kernel_rfl) (by kernel_rfl) ?_
            repeat
              with_reducible refine wpQuiet_step (fun K hK => ?_)
              go_simp
              first
              | (refine hK _ ?_; clear hK K)
              | (apply Exists.intro
                 refine ⟨fun w1 h1 => ?_, hK _ ?_⟩
                 (have hW := hW.trans h1; (first | rfl | (go_simp; done) | (go_simp; rfl) | (first | (go_at_call 20; refine (permit_any (hm.ext h1)).mono ?_; rintro e w2 ⟨rfl, hx⟩; exact ⟨rfl, h1.trans hx⟩) | (go_at_call 21; refine (flag_any (hm.ext h1)).mono ?_; rintro e w2 ⟨rfl, hx⟩; exact ⟨rfl, h1.trans hx⟩) | (go_at_call 22; refine (asleep_any (hm.ext h1)).mono ?_; rintro e w2 ⟨rfl, hx⟩; exact ⟨rfl, h1.trans hx⟩))))
                 clear hK K)
            refine wpQuiet_nil (fun w' hw' => ?_)
            have hm := hm.ext hw'
            have hr := hr.ext hw'
            have hX := hX.trans hw'
            clear rz rw0 hW hw hz hw'
            go_wp2_with fail
            refine (sleepers_any hm).mono ?_
            rintro e w6 ⟨v, rfl, hown, hx⟩
            have hm := hm.ext hx
            have hr := hr.ext hx
            have hX := hX.trans hx
            clear hx
            obtain ⟨A2, c2, rfl⟩ := own_len hown
            have HO := hide hown
            have hlen : (slp g' N).length ≤ 256 := by have := slp_len g' N; have := hm.n2; omega
            clear hown
            go_wp2_with fail
            go_loopw [25, 203] (fun nv i wq => ∃ (q : Nat), q ≤ (slp g' N).length ∧ i = .int .i64 q ∧ nv = .int .i64 (low (slp g' N) q) ∧ wq = w6) (fun _ i _ => (slp g' N).length - (intOf i).toNat)
            case atStart => exact ⟨0, by omega, rfl, rfl, rfl⟩
            case round =>
              obtain ⟨q, hq, rfl, rfl, rfl⟩ := hrel
              by_cases hql : q < (slp g' N).length
              · obtain ⟨gb, c3, hv, hg, hcell⟩ := own_at HO.out hql
                simp only [Value.slice.injEq] at hv
                obtain ⟨rfl, -, rfl⟩ := hv
                have hx := slp_mem.1 (List.getElem_mem hql)
                obtain ⟨hx1, hx2⟩ := hx
                have HL := hide (low_next hql)
                have hle := low_le (slp_asc g' N) hql
                have hl0 := low_nn (slp g' N) q
                generalize hxe : (slp g' N)[q] = x at *
                have HXE := hide hxe
                clear hxe
                have x0 : (0 : Int) ≤ (x : Int) := by omega
                have x1 : (x : Int) < N := by omega
                have hI := inB_yes x0 x1
                have rs := hr.ls hx1
                rw [hx2] at rs
                have rr := hr.r.cell
                have x3 : ¬ (x : Int) < low (slp g' N) q := by omega
                clear hx2
                go_wp2_with fail
                refine (rhas_any hr).mono ?_
                rintro e w7 ⟨rfl, rfl⟩
                rw [hI]
                go_wp2_with fail
                go_roundw
                case rel => exact ⟨q + 1, by omega, by go_num, by rw [HL.out], by first | rfl | trivial⟩
                case measure => simp [intOf]; omega
              · go_wp2_with fail
                go_roundw
                case rel => exact ⟨j + 1, g', by omega, by go_num, hm, hr, hX⟩
                case measure => simp [intOf]; omega
      · go_wp2_with fail
        refine (alive_any _).mono ?_
        rintro e w5 ⟨rfl, hx⟩
        have hX := hX.trans hx
        clear hx
        go_wp2_with fail
        go_ret
        exact ⟨rfl, hX⟩
  · by_cases h1 : 1 ≤ C
    · have h2 : ¬ C ≤ 256 := by omega
      go_enter Try.func3, Try.ntmps3
      go_wp2_with fail
      refine (new_out C _ hmay).mono ?_
      rintro e w1 ⟨rfl, hX⟩
      go_wp2_with fail
      refine (rnew_out C _ hmay).mono ?_
      rintro e w2 ⟨rfl, hx⟩
      have hX := hX.trans hx
      clear hx
      go_wp2_with fail
      refine (alive_any _).mono ?_
      rintro e w3 ⟨rfl, hx⟩
      go_wp2_with fail
      go_ret
      exact ⟨rfl, (hX.trans (Ext.alloc _ _)).trans hx⟩
    · go_enter Try.func3, Try.ntmps3
      go_wp2_with fail
      refine (new_out C _ hmay).mono ?_
      rintro e w1 ⟨rfl, hX⟩
      go_wp2_with fail
      refine (rnew_out C _ hmay).mono ?_
      rintro e w2 ⟨rfl, hx⟩
      have hX := hX.trans hx
      clear hx
      go_wp2_with fail
      refine (alive_any _).mono ?_
      rintro e w3 ⟨rfl, hx⟩
      go_wp2_with fail
      go_ret
      exact ⟨rfl, (hX.trans (Ext.alloc _ _)).trans hx⟩

theorem permitPlays_walk {H : Type} {enc : TypeId × Value → H} (W : World) (base : Nat) (args : Array Value) (ds : List (DataW H)) (p : List MemPlace)
    (hval0 : ∀ (j : Nat) t v, Try.f3.params[j]? = some t → args[j]? = some v → Value.okWide Try.prog W .any base t v)
    (hA0 : DataW.TrodAll enc Try.prog W 0 (fun _ => true) true Try.f3.params.toList args.toList ds p) (_hlt : ∀ x ∈ p, x.block < W.heap.size) :
    Calls Try.prog 3 args W fun e W' => e = .returned (.bool true) ∧ Ext W W' := by
  have hval := hval0
  have hA := hA0
  rw [Try.params3] at hA hval
  clear hval0 hA0
  obtain ⟨v0, v1, d0, d1, p0, p1, hargs, rfl, rfl, h0, h1⟩ := trodAll_two hA
  obtain rfl : args = #[v0, v1] := by cases args; simp_all
  obtain ⟨y, rfl, rfl, rfl, wy⟩ := open_int Try.underlying3 (hval 0 3 v0 rfl rfl) h0
  obtain ⟨A, n, c, f, rfl, hn, hc, hs, hf⟩ := open_steps (hval 1 22 v1 rfl rfl) h1
  exact lplays_any y A n c f W hn hc hs hf
set_option maxRecDepth 100000 in
theorem permitPlays_lifted (os : Os) (started : os.Started) (H : Type) (enc : TypeId × Value → H) :
    ReturnsInHanded {} Try.checked os 3 .any (Rows.permitPlaysSpec.pre6 enc Try.prog Try.f3 Rows.permitPlaysRow.domain false) (Rows.permitPlaysSpec.post enc Try.prog Try.f3 false true false false) :=
  law_lifted (fn := Try.f3) 4 os started (by kernel_rfl) Try.func3 rfl rfl Try.underlying4 (hread_of (by kernel_rfl))
    (fun l hl => by
      have hl2 : l.length = 2 := hl
      clear hl
      match l, hl2 with
      | [_, _], _ => rfl)
    (ChangeSpec.witness6 (enc := enc) (C := Try.checked) false ⟨#[], #[.int .i64 0, .slice none 0 0], []⟩ 8 (by kernel_rfl) (by kernel_rfl) (by kernel_rfl) (by kernel_rfl))
    (fun W base args ds p hval hA hlt => permitPlays_walk W base args ds p hval hA hlt)
theorem permitPlays_holds : Rows.PermitPlaysSaid :=
  OpenClaim.holds_of_wide 3 Try.f3 rfl rfl rfl rfl rfl rfl rfl ⟨rfl, rfl, rfl, rfl, rfl⟩ rfl rfl rfl rfl rfl (by kernel_rfl) Try.func3 (by kernel_rfl)
    (of_decide_eq_true (by kernel_rfl)) (by unfold Func.isWrapper; rw [if_neg (of_decide_eq_false (by kernel_rfl))]; exact ⟨rfl, rfl⟩)
    (fun os started H enc _ => permitPlays_lifted os started H enc)
end Go.Proofs.Ytleffmmlcbaooaa
