/-
  A law of layer 7 holds of every input: TimerPlays. No condition.
-/
import Derived.Test.YtgfhpgbklcjooaaS2
import Derived.Test.YtgfhpgbklcjooaaR4
import Derived.Deep.RegionHeld3
namespace Go.Proofs.Ytgfhpgbklcjooaa
open Go.ChangeShapes Go.WideShapes Go.ChangeAt Go.RowKit Go.Deep Go.Joins
set_option linter.unusedVariables false
set_option linter.unusedSimpArgs false

theorem al_r (w : World) : (zeroValue 27).run Try.prog w = .ok (.agg (rcells 0 noA)) w := by kernel_rfl
theorem RefT.chg {T' : List Nat} {w w' : World} {R : Nat} {T : Int} {f : Al} (h : RefT w R T f) (x : Chg T' w w') (hR : R ∉ T') : RefT w' R T f := Blk.chg h x hR
theorem sub_m {C m : Nat} : ∀ k, k ∈ [m] → k ∈ [C, m] := by simp
theorem set_cm {w : World} {C m : Nat} {now : Int} {f : Al} {z k : Int} (h : ClkT w C m now f) (hz : (ky z).wf = true) (hk : (ky k).wf = true) :
    Calls Try.prog 14 #[.pointer (some ⟨C, 0, none⟩), .int .i64 z, .int .i64 k] w fun e w' => e = .returned (.int .i64 (setE z k)) ∧ ClkT w' C m now (setF f now z k) ∧ Chg [C, m] w w' := (set_any h hz hk).mono fun _ _ ⟨a, b, c⟩ => ⟨a, b, c.mono sub_m⟩
theorem clear_cm {w : World} {C m : Nat} {now : Int} {f : Al} {z : Int} (h : ClkT w C m now f) (hz : (ky z).wf = true) :
    Calls Try.prog 9 #[.pointer (some ⟨C, 0, none⟩), .int .i64 z] w fun e w' => e = .returned (.bool (hasA f z)) ∧ ClkT w' C m now (clr f z) ∧ Chg [C, m] w w' := (clear_any h hz).mono fun _ _ ⟨a, b, c⟩ => ⟨a, b, c.mono sub_m⟩
set_option maxHeartbeats 2000000 in
set_option maxRecDepth 100000 in
theorem lplays_any (A : Option Addr) (n c : Nat) (f : Nat → Stp) (w : World) (hn : n ≤ c) (hc : c ≤ maxLen) (hs : Stps w w.heap.size A n f) (hf : ∀ k, k < n → Okst (f k)) :
    Calls Try.prog 3 #[.slice A n c] w fun e w' => e = .returned (.bool true) ∧ Ext w w' := by
  have HF := hide hf
  clear hf
  go_enter Try.func3, Try.ntmps3
  go_wp2_with fail
  refine (new_any _).mono ?_
  rintro e w1 ⟨C, m, rfl, hk, hC, hm, hX⟩
  have HA := al_r
  have l1 := hk.c.lt
  have l2 := hk.mp.lt
  have z1 := hX.size
  have hr : RefT (w1.alloc (.cells (rcells 0 noA) 27)) w1.heap.size 0 noA := Blk.new w1 _ _
  have hk := hk.ext (Ext.alloc w1 (.cells (rcells 0 noA) 27))
  have hX := hX.trans (Ext.alloc w1 (.cells (rcells 0 noA) 27))
  have HT := hide (show ∀ t, t ∈ [C, m] → w.heap.size ≤ t by simp; omega)
  have HTR := hide (show ∀ t, t ∈ [w1.heap.size] → w.heap.size ≤ t by simp; omega)
  have DR := hide (show w1.heap.size ∉ [C, m] by simp; omega)
  have DC := hide (show C ∉ [w1.heap.size] by simp; omega)
  have DM := hide (show m ∉ [w1.heap.size] by simp; omega)
  have SM := hide (show ∀ k, k ∈ [C, m] → k ∈ [C, m, w1.heap.size] by simp)
  have SR := hide (show ∀ k, k ∈ [w1.heap.size] → k ∈ [C, m, w1.heap.size] by simp)
  clear hC hm l1 l2 z1
  go_wp2_with fail
  clear HA
  generalize w1.alloc (.cells (rcells 0 noA) 27) = w2 at *
  generalize w1.heap.size = R at *
  refine (short_any A n c _ hn hc).mono ?_
  rintro e w3 ⟨rfl, rfl⟩
  go_wp2_with fail
  go_loopw [21] (fun i wr => ∃ (j : Nat) (T : Int) (al : Al), j ≤ min n 200 ∧ i = .int .i64 j ∧ ClkT wr C m T al ∧ RefT wr R T al ∧ Ext w wr) (fun i _ => min n 200 - (intOf i).toNat)
  case atStart => exact ⟨0, 0, _, by omega, rfl, hk, hr, hX⟩
  case round =>
    clear hk hX hr
    obtain ⟨j, T, al, hj, rfl, hk, hr, hX⟩ := hrel
    by_cases hlt : j < min n 200
    · have hj2 : j < n := by omega
      obtain ⟨b, off, rfl, hb, r0, r1, r2⟩ := (hs.chg hX (Nat.le_refl _)).rules hj2
      have hok := HF.out j hj2
      have wt := hok.wt
      have wn := hok.wn
      have k0 := hok.k0
      have k1 := hok.k1
      have T0 := hide hk.n0
      have T1 := hide hk.n1
      have OK := hide hk.ok
      have HRL := hide (Blk.lt hr)
      have HS := hide (show wr.heap.size ∉ [C, m, R] by have a1 := hk.c.lt; have a2 := hk.mp.lt; have a3 := Blk.lt hr; simp; omega)
      have bs := Blk.new wr #[.int .u8 (f j).k, .int .i64 (f j).t, .int .i64 (f j).n] 30
      have rs := bs.ruleC HS.out
      have s1 : ∀ w', Chg [C, m, R] (wr.alloc (.cells #[.int .u8 (f j).k, .int .i64 (f j).t, .int .i64 (f j).n] 30)) w' → w'.cell? ⟨wr.heap.size, 1, none⟩ = some (.int .i64 (f j).t) := fun w' h => rs w' h 1
      have s2 : ∀ w', Chg [C, m, R] (wr.alloc (.cells #[.int .u8 (f j).k, .int .i64 (f j).t, .int .i64 (f j).n] 30)) w' → w'.cell? ⟨wr.heap.size, 2, none⟩ = some (.int .i64 (f j).n) := fun w' h => rs w' h 2
      have hk := hk.ext (Ext.alloc wr (.cells #[.int .u8 (f j).k, .int .i64 (f j).t, .int .i64 (f j).n] 30))
      have hr := hr.chg ((Ext.alloc wr (.cells #[.int .u8 (f j).k, .int .i64 (f j).t, .int .i64 (f j).n] 30)).chg []) (by simp)
      have hX := hX.trans (Ext.alloc wr (.cells #[.int .u8 (f j).k, .int .i64 (f j).t, .int .i64 (f j).n] 30))
      have hV := Chg.refl [C, m, R] (wr.alloc (.cells #[.int .u8 (f j).k, .int .i64 (f j).t, .int .i64 (f j).n] 30))
      clear bs hok rs
      by_cases q1 : (f j).k % 4 = 1
      · go_wp2_with fail
        go_region_held3 (fun w' => w'.cell? ⟨wr.heap.size, 1, none⟩ = some (.int .i64 (f j).t)) (first | exact s1 _ hV | exact s1 _ (hV.trans (Chg.drew _ _)))
          (first | (go_at_call 9; refine (clear_cm (hk.ext (Ext.drew _)) wt).mono ?_; (have hk := hk.ext (Ext.drew _); have hr := hr.chg (Chg.drew [] _) (by simp); have hX := hX.trans (Ext.drew _); have hV := hV.trans (Chg.drew _ _)); rintro e w' ⟨rfl, hk, hc⟩; (have hr := hr.chg hc DR.out; have hX := hX.turn hc HT.out; have hV := hV.trans (hc.mono SM.out); clear hc)) | (go_at_call 10; refine (rclear_any hr OK.out).mono ?_; rintro e w' ⟨rfl, hr, hc⟩; (have hk := hk.chg hc DC.out DM.out; have hX := hX.turn hc HTR.out; have hV := hV.trans (hc.mono SR.out); clear hc)))
        generalize clr al (f j).t = g at *
        go_wp2_with fail
        refine (at_any hk wt).mono ?_
        rintro e w5 ⟨rfl, rfl⟩
        have rs := s1 _ hV
        have E5 : (ix g (f j).t != 0) = hasA g (f j).t := rfl
        by_cases z0 : 0 ≤ (f j).t
        · by_cases z1 : (f j).t < 256
          · have c1 := hr.l (t := (f j).t.toNat) (by omega)
            rw [← ix_pos g z0] at c1
            go_wp2_with fail
            refine (next_any hk).mono ?_
            rintro e w2 ⟨v, rfl, hv, hx⟩
            have hk := hk.ext hx; have hr := hr.chg (hx.chg []) (by simp); have hX := hX.trans hx; have hV := hV.trans (hx.chg _); clear hx
            go_wp2_with fail
            refine (rnext_any hr hk.ok).mono ?_
            rintro e w3 ⟨v2, rfl, hv2, rfl⟩
            obtain rfl := hv.one hv2
            clear hv hv2
            have rt : ∀ wx, Ext w2 wx → wx.cell? ⟨R, 0, none⟩ = some (.int .i64 T) := fun wx hx => RefT.t (Blk.ext hr hx)
            have hW := Ext.refl w2
            go_wp2_with fail
            refine wp_region_ext (by kernel_rfl) (by kernel_rfl) ?_
            repeat
              with_reducible refine wpQuiet_step (fun K hK => ?_)
              go_simp
              first
              | (refine hK _ ?_; clear hK K)
              | (apply Exists.intro
                 refine ⟨fun w1 h1 => ?_, hK _ ?_⟩
                 (have hW := hW.trans h1; (first | rfl | (go_simp; done) | (go_simp; rfl) | (go_at_call 19; refine (len_any (hk.ext h1)).mono ?_; rintro e w2 ⟨rfl, rfl⟩; exact ⟨rfl, h1⟩) | (go_at_call 20; refine (rlen_any (hr.chg (h1.chg []) (by simp))).mono ?_; rintro e w2 ⟨rfl, rfl⟩; exact ⟨rfl, h1⟩) | (go_at_call 21; refine (now_any (hk.ext h1)).mono ?_; rintro e w2 ⟨rfl, rfl⟩; exact ⟨rfl, h1⟩)))
                 clear hK K)
            refine wpQuiet_nil (fun w' hw' => ?_)
            have hk := hk.ext hw'; have hr := hr.chg (hw'.chg []) (by simp); have hX := hX.trans hw'; clear hw'
            go_wp2_with fail
            go_roundw
            case rel => exact ⟨j + 1, _, _, by omega, by go_num, hk, hr, hX⟩
            case measure => simp [intOf]; omega
          · have e0 : ix g (f j).t = 0 := ix_far hk.ok (by omega)
            have e1 : hasA g (f j).t = false := by unfold hasA; rw [e0]; rfl
            clear E5
            go_wp2_with fail
            refine (next_any hk).mono ?_
            rintro e w2 ⟨v, rfl, hv, hx⟩
            have hk := hk.ext hx; have hr := hr.chg (hx.chg []) (by simp); have hX := hX.trans hx; have hV := hV.trans (hx.chg _); clear hx
            go_wp2_with fail
            refine (rnext_any hr hk.ok).mono ?_
            rintro e w3 ⟨v2, rfl, hv2, rfl⟩
            obtain rfl := hv.one hv2
            clear hv hv2
            have rt : ∀ wx, Ext w2 wx → wx.cell? ⟨R, 0, none⟩ = some (.int .i64 T) := fun wx hx => RefT.t (Blk.ext hr hx)
            have hW := Ext.refl w2
            go_wp2_with fail
            refine wp_region_ext (by kernel_rfl) (by kernel_rfl) ?_
            repeat
              with_reducible refine wpQuiet_step (fun K hK => ?_)
              go_simp
              first
              | (refine hK _ ?_; clear hK K)
              | (apply Exists.intro
                 refine ⟨fun w1 h1 => ?_, hK _ ?_⟩
                 (have hW := hW.trans h1; (first | rfl | (go_simp; done) | (go_simp; rfl) | (go_at_call 19; refine (len_any (hk.ext h1)).mono ?_; rintro e w2 ⟨rfl, rfl⟩; exact ⟨rfl, h1⟩) | (go_at_call 20; refine (rlen_any (hr.chg (h1.chg []) (by simp))).mono ?_; rintro e w2 ⟨rfl, rfl⟩; exact ⟨rfl, h1⟩) | (go_at_call 21; refine (now_any (hk.ext h1)).mono ?_; rintro e w2 ⟨rfl, rfl⟩; exact ⟨rfl, h1⟩)))
                 clear hK K)
            refine wpQuiet_nil (fun w' hw' => ?_)
            have hk := hk.ext hw'; have hr := hr.chg (hw'.chg []) (by simp); have hX := hX.trans hw'; clear hw'
            go_wp2_with fail
            go_roundw
            case rel => exact ⟨j + 1, _, _, by omega, by go_num, hk, hr, hX⟩
            case measure => simp [intOf]; omega
        · have e0 : ix g (f j).t = 0 := ix_neg g (by omega)
          have e1 : hasA g (f j).t = false := by unfold hasA; rw [e0]; rfl
          clear E5
          go_wp2_with fail
          refine (next_any hk).mono ?_
          rintro e w2 ⟨v, rfl, hv, hx⟩
          have hk := hk.ext hx; have hr := hr.chg (hx.chg []) (by simp); have hX := hX.trans hx; have hV := hV.trans (hx.chg _); clear hx
          go_wp2_with fail
          refine (rnext_any hr hk.ok).mono ?_
          rintro e w3 ⟨v2, rfl, hv2, rfl⟩
          obtain rfl := hv.one hv2
          clear hv hv2
          have rt : ∀ wx, Ext w2 wx → wx.cell? ⟨R, 0, none⟩ = some (.int .i64 T) := fun wx hx => RefT.t (Blk.ext hr hx)
          have hW := Ext.refl w2
          go_wp2_with fail
          refine wp_region_ext (by kernel_rfl) (by kernel_rfl) ?_
          repeat
            with_reducible refine wpQuiet_step (fun K hK => ?_)
            go_simp
            first
            | (refine hK _ ?_; clear hK K)
            | (apply Exists.intro
               refine ⟨fun w1 h1 => ?_, hK _ ?_⟩
               (have hW := hW.trans h1; (first | rfl | (go_simp; done) | (go_simp; rfl) | (go_at_call 19; refine (len_any (hk.ext h1)).mono ?_; rintro e w2 ⟨rfl, rfl⟩; exact ⟨rfl, h1⟩) | (go_at_call 20; refine (rlen_any (hr.chg (h1.chg []) (by simp))).mono ?_; rintro e w2 ⟨rfl, rfl⟩; exact ⟨rfl, h1⟩) | (go_at_call 21; refine (now_any (hk.ext h1)).mono ?_; rintro e w2 ⟨rfl, rfl⟩; exact ⟨rfl, h1⟩)))
               clear hK K)
          refine wpQuiet_nil (fun w' hw' => ?_)
          have hk := hk.ext hw'; have hr := hr.chg (hw'.chg []) (by simp); have hX := hX.trans hw'; clear hw'
          go_wp2_with fail
          go_roundw
          case rel => exact ⟨j + 1, _, _, by omega, by go_num, hk, hr, hX⟩
          case measure => simp [intOf]; omega
      · by_cases q2 : (f j).k % 4 = 2
        · go_wp2_with fail
          go_region_held3 (fun w' => w'.cell? ⟨wr.heap.size, 2, none⟩ = some (.int .i64 (f j).n)) (first | exact s2 _ hV | exact s2 _ (hV.trans (Chg.drew _ _)))
            (first | (go_at_call 12; refine (tick_any (hk.ext (Ext.drew _)) wn).mono ?_; (have hk := hk.ext (Ext.drew _); have hr := hr.chg (Chg.drew [] _) (by simp); have hX := hX.trans (Ext.drew _); have hV := hV.trans (Chg.drew _ _)); rintro e w' ⟨v1, l1, rfl, hd1, hrow1, hk, hc⟩; (have hr := hr.chg hc DR.out; have hX := hX.turn hc HT.out; have hV := hV.trans (hc.mono SM.out); clear hc)) | (go_at_call 13; refine (rtick_any hr OK.out T0.out T1.out wn).mono ?_; rintro e w' ⟨v2, l2, rfl, hd2, hrow2, hr, hc⟩; obtain rfl := hd1.one hd2; have hrow1 := own_chg hrow1 hc (by have := HRL.out; simp; omega); (have hk := hk.chg hc DC.out DM.out; have hX := hX.turn hc HTR.out; have hV := hV.trans (hc.mono SR.out); clear hc)) | (go_at_call 11; refine (same_any hrow1 hrow2 (hd1.len OK.out)).mono ?_; rintro e w' ⟨rfl, hx⟩; have hk := hk.ext hx; have hr := hr.chg (hx.chg []) (by simp); have hX := hX.trans hx; have hV := hV.trans (hx.chg _); clear hx hrow1 hrow2 hd1 hd2))
          generalize rest al (tkT T (f j).n) = g at *
          generalize tkT T (f j).n = T at *
          go_wp2_with fail
          refine (at_any hk wt).mono ?_
          rintro e w5 ⟨rfl, rfl⟩
          have rs := s1 _ hV
          have E5 : (ix g (f j).t != 0) = hasA g (f j).t := rfl
          by_cases z0 : 0 ≤ (f j).t
          · by_cases z1 : (f j).t < 256
            · have c1 := hr.l (t := (f j).t.toNat) (by omega)
              rw [← ix_pos g z0] at c1
              go_wp2_with fail
              refine (next_any hk).mono ?_
              rintro e w2 ⟨v, rfl, hv, hx⟩
              have hk := hk.ext hx; have hr := hr.chg (hx.chg []) (by simp); have hX := hX.trans hx; have hV := hV.trans (hx.chg _); clear hx
              go_wp2_with fail
              refine (rnext_any hr hk.ok).mono ?_
              rintro e w3 ⟨v2, rfl, hv2, rfl⟩
              obtain rfl := hv.one hv2
              clear hv hv2
              have rt : ∀ wx, Ext w2 wx → wx.cell? ⟨R, 0, none⟩ = some (.int .i64 T) := fun wx hx => RefT.t (Blk.ext hr hx)
              have hW := Ext.refl w2
              go_wp2_with fail
              refine wp_region_ext (by kernel_rfl) (by kernel_rfl) ?_
              repeat
                with_reducible refine wpQuiet_step (fun K hK => ?_)
                go_simp
                first
                | (refine hK _ ?_; clear hK K)
                | (apply Exists.intro
                   refine ⟨fun w1 h1 => ?_, hK _ ?_⟩
                   (have hW := hW.trans h1; (first | rfl | (go_simp; done) | (go_simp; rfl) | (go_at_call 19; refine (len_any (hk.ext h1)).mono ?_; rintro e w2 ⟨rfl, rfl⟩; exact ⟨rfl, h1⟩) | (go_at_call 20; refine (rlen_any (hr.chg (h1.chg []) (by simp))).mono ?_; rintro e w2 ⟨rfl, rfl⟩; exact ⟨rfl, h1⟩) | (go_at_call 21; refine (now_any (hk.ext h1)).mono ?_; rintro e w2 ⟨rfl, rfl⟩; exact ⟨rfl, h1⟩)))
                   clear hK K)
              refine wpQuiet_nil (fun w' hw' => ?_)
              have hk := hk.ext hw'; have hr := hr.chg (hw'.chg []) (by simp); have hX := hX.trans hw'; clear hw'
              go_wp2_with fail
              go_roundw
              case rel => exact ⟨j + 1, _, _, by omega, by go_num, hk, hr, hX⟩
              case measure => simp [intOf]; omega
            · have e0 : ix g (f j).t = 0 := ix_far hk.ok (by omega)
              have e1 : hasA g (f j).t = false := by unfold hasA; rw [e0]; rfl
              clear E5
              go_wp2_with fail
              refine (next_any hk).mono ?_
              rintro e w2 ⟨v, rfl, hv, hx⟩
              have hk := hk.ext hx; have hr := hr.chg (hx.chg []) (by simp); have hX := hX.trans hx; have hV := hV.trans (hx.chg _); clear hx
              go_wp2_with fail
              refine (rnext_any hr hk.ok).mono ?_
              rintro e w3 ⟨v2, rfl, hv2, rfl⟩
              obtain rfl := hv.one hv2
              clear hv hv2
              have rt : ∀ wx, Ext w2 wx → wx.cell? ⟨R, 0, none⟩ = some (.int .i64 T) := fun wx hx => RefT.t (Blk.ext hr hx)
              have hW := Ext.refl w2
              go_wp2_with fail
              refine wp_region_ext (by kernel_rfl) (by kernel_rfl) ?_
              repeat
                with_reducible refine wpQuiet_step (fun K hK => ?_)
                go_simp
                first
                | (refine hK _ ?_; clear hK K)
                | (apply Exists.intro
                   refine ⟨fun w1 h1 => ?_, hK _ ?_⟩
                   (have hW := hW.trans h1; (first | rfl | (go_simp; done) | (go_simp; rfl) | (go_at_call 19; refine (len_any (hk.ext h1)).mono ?_; rintro e w2 ⟨rfl, rfl⟩; exact ⟨rfl, h1⟩) | (go_at_call 20; refine (rlen_any (hr.chg (h1.chg []) (by simp))).mono ?_; rintro e w2 ⟨rfl, rfl⟩; exact ⟨rfl, h1⟩) | (go_at_call 21; refine (now_any (hk.ext h1)).mono ?_; rintro e w2 ⟨rfl, rfl⟩; exact ⟨rfl, h1⟩)))
                   clear hK K)
              refine wpQuiet_nil (fun w' hw' => ?_)
              have hk := hk.ext hw'; have hr := hr.chg (hw'.chg []) (by simp); have hX := hX.trans hw'; clear hw'
              go_wp2_with fail
              go_roundw
              case rel => exact ⟨j + 1, _, _, by omega, by go_num, hk, hr, hX⟩
              case measure => simp [intOf]; omega
          · have e0 : ix g (f j).t = 0 := ix_neg g (by omega)
            have e1 : hasA g (f j).t = false := by unfold hasA; rw [e0]; rfl
            clear E5
            go_wp2_with fail
            refine (next_any hk).mono ?_
            rintro e w2 ⟨v, rfl, hv, hx⟩
            have hk := hk.ext hx; have hr := hr.chg (hx.chg []) (by simp); have hX := hX.trans hx; have hV := hV.trans (hx.chg _); clear hx
            go_wp2_with fail
            refine (rnext_any hr hk.ok).mono ?_
            rintro e w3 ⟨v2, rfl, hv2, rfl⟩
            obtain rfl := hv.one hv2
            clear hv hv2
            have rt : ∀ wx, Ext w2 wx → wx.cell? ⟨R, 0, none⟩ = some (.int .i64 T) := fun wx hx => RefT.t (Blk.ext hr hx)
            have hW := Ext.refl w2
            go_wp2_with fail
            refine wp_region_ext (by kernel_rfl) (by kernel_rfl) ?_
            repeat
              with_reducible refine wpQuiet_step (fun K hK => ?_)
              go_simp
              first
              | (refine hK _ ?_; clear hK K)
              | (apply Exists.intro
                 refine ⟨fun w1 h1 => ?_, hK _ ?_⟩
                 (have hW := hW.trans h1; (first | rfl | (go_simp; done) | (go_simp; rfl) | (go_at_call 19; refine (len_any (hk.ext h1)).mono ?_; rintro e w2 ⟨rfl, rfl⟩; exact ⟨rfl, h1⟩) | (go_at_call 20; refine (rlen_any (hr.chg (h1.chg []) (by simp))).mono ?_; rintro e w2 ⟨rfl, rfl⟩; exact ⟨rfl, h1⟩) | (go_at_call 21; refine (now_any (hk.ext h1)).mono ?_; rintro e w2 ⟨rfl, rfl⟩; exact ⟨rfl, h1⟩)))
                 clear hK K)
            refine wpQuiet_nil (fun w' hw' => ?_)
            have hk := hk.ext hw'; have hr := hr.chg (hw'.chg []) (by simp); have hX := hX.trans hw'; clear hw'
            go_wp2_with fail
            go_roundw
            case rel => exact ⟨j + 1, _, _, by omega, by go_num, hk, hr, hX⟩
            case measure => simp [intOf]; omega
        · go_wp2_with fail
          go_region_held3 (fun w' => w'.cell? ⟨wr.heap.size, 1, none⟩ = some (.int .i64 (f j).t) ∧ w'.cell? ⟨wr.heap.size, 2, none⟩ = some (.int .i64 (f j).n)) (first | exact ⟨s1 _ hV, s2 _ hV⟩ | exact ⟨s1 _ (hV.trans (Chg.drew _ _)), s2 _ (hV.trans (Chg.drew _ _))⟩)
            (first | (go_at_call 14; refine (set_cm (hk.ext (Ext.drew _)) wt wn).mono ?_; (have hk := hk.ext (Ext.drew _); have hr := hr.chg (Chg.drew [] _) (by simp); have hX := hX.trans (Ext.drew _); have hV := hV.trans (Chg.drew _ _)); rintro e w' ⟨rfl, hk, hc⟩; (have hr := hr.chg hc DR.out; have hX := hX.turn hc HT.out; have hV := hV.trans (hc.mono SM.out); clear hc)) | (go_at_call 15; refine (rset_any hr T0.out T1.out wn).mono ?_; rintro e w' ⟨rfl, hr, hc⟩; (have hk := hk.chg hc DC.out DM.out; have hX := hX.turn hc HTR.out; have hV := hV.trans (hc.mono SR.out); clear hc)))
          generalize setF al T (f j).t (f j).n = g at *
          go_wp2_with fail
          refine (at_any hk wt).mono ?_
          rintro e w5 ⟨rfl, rfl⟩
          have rs := s1 _ hV
          have E5 : (ix g (f j).t != 0) = hasA g (f j).t := rfl
          by_cases z0 : 0 ≤ (f j).t
          · by_cases z1 : (f j).t < 256
            · have c1 := hr.l (t := (f j).t.toNat) (by omega)
              rw [← ix_pos g z0] at c1
              go_wp2_with fail
              refine (next_any hk).mono ?_
              rintro e w2 ⟨v, rfl, hv, hx⟩
              have hk := hk.ext hx; have hr := hr.chg (hx.chg []) (by simp); have hX := hX.trans hx; have hV := hV.trans (hx.chg _); clear hx
              go_wp2_with fail
              refine (rnext_any hr hk.ok).mono ?_
              rintro e w3 ⟨v2, rfl, hv2, rfl⟩
              obtain rfl := hv.one hv2
              clear hv hv2
              have rt : ∀ wx, Ext w2 wx → wx.cell? ⟨R, 0, none⟩ = some (.int .i64 T) := fun wx hx => RefT.t (Blk.ext hr hx)
              have hW := Ext.refl w2
              go_wp2_with fail
              refine wp_region_ext (by kernel_rfl) (by kernel_rfl) ?_
              repeat
                with_reducible refine wpQuiet_step (fun K hK => ?_)
                go_simp
                first
                | (refine hK _ ?_; clear hK K)
                | (apply Exists.intro
                   refine ⟨fun w1 h1 => ?_, hK _ ?_⟩
                   (have hW := hW.trans h1; (first | rfl | (go_simp; done) | (go_simp; rfl) | (go_at_call 19; refine (len_any (hk.ext h1)).mono ?_; rintro e w2 ⟨rfl, rfl⟩; exact ⟨rfl, h1⟩) | (go_at_call 20; refine (rlen_any (hr.chg (h1.chg []) (by simp))).mono ?_; rintro e w2 ⟨rfl, rfl⟩; exact ⟨rfl, h1⟩) | (go_at_call 21; refine (now_any (hk.ext h1)).mono ?_; rintro e w2 ⟨rfl, rfl⟩; exact ⟨rfl, h1⟩)))
                   clear hK K)
              refine wpQuiet_nil (fun w' hw' => ?_)
              have hk := hk.ext hw'; have hr := hr.chg (hw'.chg []) (by simp); have hX := hX.trans hw'; clear hw'
              go_wp2_with fail
              go_roundw
              case rel => exact ⟨j + 1, _, _, by omega, by go_num, hk, hr, hX⟩
              case measure => simp [intOf]; omega
            · have e0 : ix g (f j).t = 0 := ix_far hk.ok (by omega)
              have e1 : hasA g (f j).t = false := by unfold hasA; rw [e0]; rfl
              clear E5
              go_wp2_with fail
              refine (next_any hk).mono ?_
              rintro e w2 ⟨v, rfl, hv, hx⟩
              have hk := hk.ext hx; have hr := hr.chg (hx.chg []) (by simp); have hX := hX.trans hx; have hV := hV.trans (hx.chg _); clear hx
              go_wp2_with fail
              refine (rnext_any hr hk.ok).mono ?_
              rintro e w3 ⟨v2, rfl, hv2, rfl⟩
              obtain rfl := hv.one hv2
              clear hv hv2
              have rt : ∀ wx, Ext w2 wx → wx.cell? ⟨R, 0, none⟩ = some (.int .i64 T) := fun wx hx => RefT.t (Blk.ext hr hx)
              have hW := Ext.refl w2
              go_wp2_with fail
              refine wp_region_ext (by kernel_rfl) (by kernel_rfl) ?_
              repeat
                with_reducible refine wpQuiet_step (fun K hK => ?_)
                go_simp
                first
                | (refine hK _ ?_; clear hK K)
                | (apply Exists.intro
                   refine ⟨fun w1 h1 => ?_, hK _ ?_⟩
                   (have hW := hW.trans h1; (first | rfl | (go_simp; done) | (go_simp; rfl) | (go_at_call 19; refine (len_any (hk.ext h1)).mono ?_; rintro e w2 ⟨rfl, rfl⟩; exact ⟨rfl, h1⟩) | (go_at_call 20; refine (rlen_any (hr.chg (h1.chg []) (by simp))).mono ?_; rintro e w2 ⟨rfl, rfl⟩; exact ⟨rfl, h1⟩) | (go_at_call 21; refine (now_any (hk.ext h1)).mono ?_; rintro e w2 ⟨rfl, rfl⟩; exact ⟨rfl, h1⟩)))
                   clear hK K)
              refine wpQuiet_nil (fun w' hw' => ?_)
              have hk := hk.ext hw'; have hr := hr.chg (hw'.chg []) (by simp); have hX := hX.trans hw'; clear hw'
              go_wp2_with fail
              go_roundw
              case rel => exact ⟨j + 1, _, _, by omega, by go_num, hk, hr, hX⟩
              case measure => simp [intOf]; omega
          · have e0 : ix g (f j).t = 0 := ix_neg g (by omega)
            have e1 : hasA g (f j).t = false := by unfold hasA; rw [e0]; rfl
            clear E5
            go_wp2_with fail
            refine (next_any hk).mono ?_
            rintro e w2 ⟨v, rfl, hv, hx⟩
            have hk := hk.ext hx; have hr := hr.chg (hx.chg []) (by simp); have hX := hX.trans hx; have hV := hV.trans (hx.chg _); clear hx
            go_wp2_with fail
            refine (rnext_any hr hk.ok).mono ?_
            rintro e w3 ⟨v2, rfl, hv2, rfl⟩
            obtain rfl := hv.one hv2
            clear hv hv2
            have rt : ∀ wx, Ext w2 wx → wx.cell? ⟨R, 0, none⟩ = some (.int .i64 T) := fun wx hx => RefT.t (Blk.ext hr hx)
            have hW := Ext.refl w2
            go_wp2_with fail
            refine wp_region_ext (by kernel_rfl) (by kernel_rfl) ?_
            repeat
              with_reducible refine wpQuiet_step (fun K hK => ?_)
              go_simp
              first
              | (refine hK _ ?_; clear hK K)
              | (apply Exists.intro
                 refine ⟨fun w1 h1 => ?_, hK _ ?_⟩
                 (have hW := hW.trans h1; (first | rfl | (go_simp; done) | (go_simp; rfl) | (go_at_call 19; refine (len_any (hk.ext h1)).mono ?_; rintro e w2 ⟨rfl, rfl⟩; exact ⟨rfl, h1⟩) | (go_at_call 20; refine (rlen_any (hr.chg (h1.chg []) (by simp))).mono ?_; rintro e w2 ⟨rfl, rfl⟩; exact ⟨rfl, h1⟩) | (go_at_call 21; refine (now_any (hk.ext h1)).mono ?_; rintro e w2 ⟨rfl, rfl⟩; exact ⟨rfl, h1⟩)))
                 clear hK K)
            refine wpQuiet_nil (fun w' hw' => ?_)
            have hk := hk.ext hw'; have hr := hr.chg (hw'.chg []) (by simp); have hX := hX.trans hw'; clear hw'
            go_wp2_with fail
            go_roundw
            case rel => exact ⟨j + 1, _, _, by omega, by go_num, hk, hr, hX⟩
            case measure => simp [intOf]; omega
    · go_wp2_with fail
      refine (alive_any _).mono ?_
      rintro e w3 ⟨rfl, hx⟩
      go_wp2_with fail
      go_ret
      exact ⟨rfl, hX.trans hx⟩

theorem timerPlays_walk {H : Type} {enc : TypeId × Value → H} (W : World) (base : Nat) (args : Array Value) (ds : List (DataW H)) (p : List MemPlace)
    (hval0 : ∀ (j : Nat) t v, Try.f3.params[j]? = some t → args[j]? = some v → Value.okWide Try.prog W .any base t v)
    (hA0 : DataW.TrodAll enc Try.prog W 0 (fun _ => true) true Try.f3.params.toList args.toList ds p) (_hlt : ∀ x ∈ p, x.block < W.heap.size) :
    Calls Try.prog 3 args W fun e W' => e = .returned (.bool true) ∧ Ext W W' := by
  have hval := hval0
  have hA := hA0
  rw [Try.params3] at hA hval
  clear hval0 hA0
  obtain ⟨v0, d0, rfl, rfl, h0⟩ := trodAll_one hA
  obtain ⟨A, n, c, f, rfl, hn, hc, hs, hf⟩ := open_steps (hval 0 22 v0 rfl rfl) h0
  exact lplays_any A n c f W hn hc hs hf
set_option maxRecDepth 100000 in
theorem timerPlays_lifted (os : Os) (started : os.Started) (H : Type) (enc : TypeId × Value → H) :
    ReturnsInHanded {} Try.checked os 3 .any (Rows.timerPlaysSpec.pre6 enc Try.prog Try.f3 Rows.timerPlaysRow.domain false) (Rows.timerPlaysSpec.post enc Try.prog Try.f3 false true false false) :=
  law_lifted (fn := Try.f3) 4 os started (by kernel_rfl) Try.func3 rfl rfl Try.underlying4 (hread_of (by kernel_rfl))
    (fun l hl => by
      have hl2 : l.length = 1 := hl
      clear hl
      match l, hl2 with
      | [_], _ => rfl)
    (ChangeSpec.witness6 (enc := enc) (C := Try.checked) false ⟨#[], #[.slice none 0 0], []⟩ 8 (by kernel_rfl) (by kernel_rfl) (by kernel_rfl) (by kernel_rfl))
    (fun W base args ds p hval hA hlt => timerPlays_walk W base args ds p hval hA hlt)
theorem timerPlays_holds : Rows.TimerPlaysSaid :=
  OpenClaim.holds_of_wide 3 Try.f3 rfl rfl rfl rfl rfl rfl rfl ⟨rfl, rfl, rfl, rfl, rfl⟩ rfl rfl rfl rfl rfl (by kernel_rfl) Try.func3 (by kernel_rfl)
    (of_decide_eq_true (by kernel_rfl)) (by unfold Func.isWrapper; rw [if_neg (of_decide_eq_false (by kernel_rfl))]; exact ⟨rfl, rfl⟩)
    (fun os started H enc _ => timerPlays_lifted os started H enc)
end Go.Proofs.Ytgfhpgbklcjooaa
