/-
  A law of layer 17 holds of every input: SafePlays. No condition.
-/
import Derived.Test.YtndjlhnmpddpbaaS1
import Derived.Deep.RegionHeld3
import Derived.Deep.DeepCutAuto
import Derived.Deep.CutBlock
namespace Go.Proofs.Ytndjlhnmpddpbaa
open Go.ChangeShapes Go.WideShapes Go.ChangeAt Go.RowKit Go.Deep Go.Joins
set_option linter.unusedVariables false
set_option linter.unusedSimpArgs false

theorem wnt_eq' (a : Nat) : wnt a = decide ((0 : Int) < (a : Int)) := by
  unfold wnt
  by_cases h : 0 < a
  · rw [decide_eq_true h, decide_eq_true (by omega)]
  · rw [decide_eq_false h, decide_eq_false (by omega)]
set_option maxHeartbeats 8000000 in
set_option maxRecDepth 100000 in
theorem lplays_any (C : Int) (A : Option Addr) (n c : Nat) (f : Nat → Stp) (w : World) (hn : n ≤ c) (hc : c ≤ maxLen) (hs : Stps w w.heap.size A n f) (hf : ∀ k, k < n → Okst (f k)) :
    Calls Try.prog 3 #[.int .i64 C, .slice A n c] w fun e w' => e = .returned (.bool true) ∧ Ext w w' := by
  have HF := hide hf
  clear hf
  by_cases hmay : 1 ≤ C ∧ C ≤ 256
  · obtain ⟨h1, h2⟩ := hmay
    obtain ⟨N, rfl⟩ := Int.eq_ofNat_of_zero_le (show 0 ≤ C by omega)
    go_enter Try.func3, Try.ntmps3
    go_wp2_with fail
    refine (new_in N _ (by omega) (by omega)).mono ?_
    rintro e w1 ⟨M, V, rfl, hm, hM, hV, hX⟩
    go_wp2_with fail
    refine (rnew_in N _ (by omega) (by omega)).mono ?_
    rintro e w2 ⟨V2, rfl, hv2, hV2, hx⟩
    have hr : MT 29 (w2.alloc (.cells #[.slice (some ⟨V2, 0, none⟩) N N, .int .i64 0, .int .i64 0] 29)) w2.heap.size V2 N (fun _ => 0) 0 0 :=
      ⟨Blk.new w2 _ _, hv2.ext (Ext.alloc _ _), by have := hv2.lt; omega, by omega, by omega, fun k _ => by omega⟩
    have l1 := hm.m.lt
    have l2 := hm.v.lt
    have l3 := hv2.lt
    have z1 := hX.size
    have z2 := hx.size
    have hY := hx.trans (Ext.alloc w2 (.cells #[.slice (some ⟨V2, 0, none⟩) N N, .int .i64 0, .int .i64 0] 29))
    have hm := hm.ext hY
    have hX := hX.trans hY
    have HT := hide (show ∀ t, t ∈ [M, V] → w.heap.size ≤ t by simp; omega)
    have HTR := hide (show ∀ t, t ∈ [w2.heap.size, V2] → w.heap.size ≤ t by simp; omega)
    have DR := hide (show w2.heap.size ∉ [M, V] by simp; omega)
    have DV2 := hide (show V2 ∉ [M, V] by simp; omega)
    have DM := hide (show M ∉ [w2.heap.size, V2] by simp; omega)
    have DV := hide (show V ∉ [w2.heap.size, V2] by simp; omega)
    have SM := hide (show ∀ k, k ∈ [M, V] → k ∈ [M, V, w2.heap.size, V2] by intro k hk; simp at hk ⊢; omega)
    have SR := hide (show ∀ k, k ∈ [w2.heap.size, V2] → k ∈ [M, V, w2.heap.size, V2] by intro k hk; simp at hk ⊢; omega)
    clear hM hV l1 l2 l3 z1 z2 hv2 hV2 hx hY
    go_wp2_with fail
    generalize w2.alloc (.cells #[.slice (some ⟨V2, 0, none⟩) N N, .int .i64 0, .int .i64 0] 29) = w3 at *
    generalize w2.heap.size = R at *
    refine (short_any A n c _ hn hc).mono ?_
    rintro e w4 ⟨rfl, rfl⟩
    go_wp2_with fail
    go_loopw [53] (fun i wr => ∃ (j a r : Nat) (g : Ti), j ≤ min n 300 ∧ a ≤ j ∧ r ≤ j ∧ i = .int .i64 j ∧ MT 48 wr M V N g a r ∧ MT 29 wr R V2 N g a r ∧ Ext w wr) (fun i _ => min n 300 - (intOf i).toNat)
    case atStart => exact ⟨0, 0, 0, _, by omega, by omega, by omega, rfl, hm, hr, hX⟩
    case round =>
      clear hm hX hr
      obtain ⟨j, a, r, g, hj, haj, hrj, rfl, hm, hr, hX⟩ := hrel
      by_cases hlt : j < min n 300
      · have hj2 : j < n := by omega
        obtain ⟨b, off, rfl, hb, r0, r1, r2⟩ := (hs.chg hX (Nat.le_refl _)).rules hj2
        have hok := HF.out j hj2
        have k0 := hok.k0
        have k1 := hok.k1
        have HS := hide (show wr.heap.size ∉ [M, V, R, V2] by have a1 := hm.m.lt; have a2 := hm.v.lt; have a3 := hr.m.lt; have a4 := hr.v.lt; simp; omega)
        have bs := Blk.new wr #[.int .u8 (f j).k, .int .i64 (f j).n, .int .i64 (f j).s] 35
        have rs := bs.ruleC HS.out
        have s0 : ∀ w', Chg [M, V, R, V2] (wr.alloc (.cells #[.int .u8 (f j).k, .int .i64 (f j).n, .int .i64 (f j).s] 35)) w' → w'.cell? ⟨wr.heap.size, 0, none⟩ = some (.int .u8 (f j).k) := fun w' h => rs w' h 0
        have s1 : ∀ w', Chg [M, V, R, V2] (wr.alloc (.cells #[.int .u8 (f j).k, .int .i64 (f j).n, .int .i64 (f j).s] 35)) w' → w'.cell? ⟨wr.heap.size, 1, none⟩ = some (.int .i64 (f j).n) := fun w' h => rs w' h 1
        have s2 : ∀ w', Chg [M, V, R, V2] (wr.alloc (.cells #[.int .u8 (f j).k, .int .i64 (f j).n, .int .i64 (f j).s] 35)) w' → w'.cell? ⟨wr.heap.size, 2, none⟩ = some (.int .i64 (f j).s) := fun w' h => rs w' h 2
        have hm := hm.ext (Ext.alloc wr (.cells #[.int .u8 (f j).k, .int .i64 (f j).n, .int .i64 (f j).s] 35))
        have hr := hr.ext (Ext.alloc wr (.cells #[.int .u8 (f j).k, .int .i64 (f j).n, .int .i64 (f j).s] 35))
        have hX := hX.trans (Ext.alloc wr (.cells #[.int .u8 (f j).k, .int .i64 (f j).n, .int .i64 (f j).s] 35))
        have hV := Chg.refl [M, V, R, V2] (wr.alloc (.cells #[.int .u8 (f j).k, .int .i64 (f j).n, .int .i64 (f j).s] 35))
        clear bs hok rs
        go_upto_block 2 with fail
        go_cut [11, 59] (fun v k4 wc => v = .bool true ∧ ∃ (a' r' : Nat) (g' : Ti), a' ≤ j + 1 ∧ r' ≤ j + 1 ∧ MT 48 wc M V N g' a' r' ∧ MT 29 wc R V2 N g' a' r' ∧ Ext w wc ∧ Chg [M, V, R, V2] (wr.alloc (.cells #[.int .u8 (f j).k, .int .i64 (f j).n, .int .i64 (f j).s] 35)) wc)
        case first =>
          by_cases q1 : (f j).k % 4 = 1
          · have ra := hr.l1
            have fa := hr.m.free 1
            have HR : Hid (MT 29 ((wr.alloc (.cells #[.int .u8 (f j).k, .int .i64 (f j).n, .int .i64 (f j).s] 35)).setCell ⟨R, 1, none⟩ (.int .i64 ((a : Int) + 1))) R V2 N g (a + 1) r) := hr.s1 (a + 1)
            have hC := chg_at (L := [R, V2]) (wr.alloc (.cells #[.int .u8 (f j).k, .int .i64 (f j).n, .int .i64 (f j).s] 35)) R 1 (.int .i64 ((a : Int) + 1)) (by simp)
            have HM := hide (hm.chg hC DM.out DV.out)
            have HX := hide (hX.turn hC HTR.out)
            have HV := hide (hV.trans (hC.mono SR.out))
            clear hC hm hX hV hr
            go_wp2_with fail
            have hm := HM.out
            have hr := HR.out
            have hX := HX.out
            have hV := HV.out
            clear HM HR HX HV ra fa
            have sr : ∀ w', MT 29 w' R V2 N g (a + 1) r → w'.cell? ⟨R, 1, none⟩ = some (.int .i64 ((a : Int) + 1)) := fun w' h => h.l1
            go_region_held3 (fun w' => w'.cell? ⟨R, 1, none⟩ = some (.int .i64 ((a : Int) + 1))) (first | exact sr _ hr | exact sr _ (hr.ext (Ext.drew _)))
              (first | (go_at_call 11; refine (request_any (hm.ext (Ext.drew _)) (by omega)).mono ?_; (have hm := hm.ext (Ext.drew _); have hr := hr.ext (Ext.drew _); have hX := hX.trans (Ext.drew _); have hV := hV.trans (Chg.drew _ _)); (rintro e w' ⟨rfl, hm, hc⟩; have hr := hr.chg hc DR.out DV2.out; have hX := hX.turn hc HT.out; have hV := hV.trans (hc.mono SM.out); clear hc)))
            go_wp2_with fail
            go_meet
            case rel => exact ⟨rfl, _, _, _, by omega, by omega, hm, hr, hX, hV⟩
          · by_cases q2 : (f j).k % 4 = 2
            · go_wp2_with fail
              (refine (done_any hm (by omega)).mono ?_; (rintro e w' ⟨rfl, hm, hc⟩; have hr := hr.chg hc DR.out DV2.out; have hX := hX.turn hc HT.out; have hV := hV.trans (hc.mono SM.out); clear hc))
              go_wp2_with fail
              (refine (rdone_any hr (by omega)).mono ?_; (rintro e w' ⟨rfl, hr, hc⟩; have hm := hm.chg hc DM.out DV.out; have hX := hX.turn hc HTR.out; have hV := hV.trans (hc.mono SR.out); clear hc))
              go_wp2_with fail
              go_meet
              case rel => exact ⟨rfl, _, _, _, (by unfold dW; split <;> omega), (by unfold dR; split <;> omega), hm, hr, hX, hV⟩
            · go_wp2_with fail
              go_region_held3 (fun w' => w'.cell? ⟨wr.heap.size, 1, none⟩ = some (.int .i64 (f j).n) ∧ w'.cell? ⟨wr.heap.size, 2, none⟩ = some (.int .i64 (f j).s)) (first | exact ⟨s1 _ hV, s2 _ hV⟩ | exact ⟨s1 _ (hV.trans (Chg.drew _ _)), s2 _ (hV.trans (Chg.drew _ _))⟩)
                (first | (go_at_call 14; refine (put_any (hm.ext (Ext.drew _))).mono ?_; (have hm := hm.ext (Ext.drew _); have hr := hr.ext (Ext.drew _); have hX := hX.trans (Ext.drew _); have hV := hV.trans (Chg.drew _ _)); (rintro e w' ⟨rfl, hm, hc⟩; have hr := hr.chg hc DR.out DV2.out; have hX := hX.turn hc HT.out; have hV := hV.trans (hc.mono SM.out); clear hc)) | (go_at_call 15; (refine (rput_any hr).mono ?_; (rintro e w' ⟨rfl, hr, hc⟩; have hm := hm.chg hc DM.out DV.out; have hX := hX.turn hc HTR.out; have hV := hV.trans (hc.mono SR.out); clear hc))))
              go_wp2_with fail
              go_meet
              case rel => exact ⟨rfl, _, _, _, by omega, by omega, hm, hr, hX, hV⟩
        case rest =>
          obtain ⟨rfl, a', r', g', ha', hr', hm, hr, hX, hV⟩ := hcut
          have rz := ((Blk.new wr #[.int .u8 (f j).k, .int .i64 (f j).n, .int .i64 (f j).s] 35).chg hV HS.out).rule
          have z1 : ∀ w', Ext wc w' → w'.cell? ⟨wr.heap.size, 1, none⟩ = some (.int .i64 (f j).n) := fun w' h => rz w' h 1
          have y1 : ∀ w', Ext wc w' → w'.cell? ⟨R, 1, none⟩ = some (.int .i64 (a' : Int)) := fun w' h => (hr.ext h).l1
          have y2 : ∀ w', Ext wc w' → w'.cell? ⟨R, 2, none⟩ = some (.int .i64 (r' : Int)) := fun w' h => (hr.ext h).l2
          clear rz s0 s1 s2 hV
          have hW := Ext.refl wc
          go_wp2_with fail
          refine wp_region_ext (by kernel_rfl) (by kernel_rfl) ?_
          repeat
            with_reducible refine wpQuiet_step (fun K hK => ?_)
            go_simp
            first
            | (refine hK _ ?_; clear hK K)
            | (apply Exists.intro
               refine ⟨fun w1 h1 => ?_, hK _ ?_⟩
               (have hW := hW.trans h1; (first | rfl | (go_simp; done) | (go_simp; rfl) | (first | (go_at_call 16; refine (state_any (hm.ext h1)).mono ?_; rintro e w2 ⟨rfl, rfl⟩; exact ⟨rfl, h1⟩) | (go_at_call 17; refine (rstate_any (hr.ext h1)).mono ?_; rintro e w2 ⟨rfl, rfl⟩; exact ⟨rfl, h1⟩) | (go_at_call 18; refine (wanted_any (hm.ext h1)).mono ?_; rw [wnt_eq']; rintro e w2 ⟨rfl, rfl⟩; exact ⟨rfl, h1⟩) | (go_at_call 19; refine (still_any (hm.ext h1)).mono ?_; rintro e w2 ⟨rfl, rfl⟩; exact ⟨rfl, h1⟩) | (go_at_call 20; refine (rstill_any (hr.ext h1)).mono ?_; rintro e w2 ⟨rfl, rfl⟩; exact ⟨rfl, h1⟩) | (go_at_call 21; refine (may_any (hm.ext h1)).mono ?_; rintro e w2 ⟨rfl, rfl⟩; exact ⟨rfl, h1⟩) | (go_at_call 22; refine (rmay_any (hr.ext h1)).mono ?_; rintro e w2 ⟨rfl, rfl⟩; exact ⟨rfl, h1⟩) | (go_at_call 23; refine (rounds_any (hm.ext h1)).mono ?_; rintro e w2 ⟨rfl, rfl⟩; exact ⟨rfl, h1⟩))))
               clear hK K)
          refine wpQuiet_nil (fun w' hw' => ?_)
          have hm := hm.ext hw'
          have hr := hr.ext hw'
          have hX := hX.trans hw'
          clear z1 y1 y2 hW hw'
          go_wp2_with fail
          go_roundw
          case rel => exact ⟨j + 1, a', r', g', by omega, ha', hr', by go_num, hm, hr, hX⟩
          case measure => simp [intOf]; omega
      · go_wp2_with fail
        refine (alive_any _).mono ?_
        rintro e w5 ⟨rfl, hx⟩
        have hX := hX.trans hx
        clear hx
        go_wp2_with fail
        go_ret
        exact ⟨rfl, hX⟩
  · by_cases h1 : 1 ≤ C
    · have h2 : ¬ C ≤ 256 := by omega
      go_enter Try.func3, Try.ntmps3
      go_wp2_with fail
      refine (new_out C _ hmay).mono ?_
      rintro e w1 ⟨rfl, rfl⟩
      go_wp2_with fail
      refine (rnew_out C _ hmay).mono ?_
      rintro e w2 ⟨rfl, hX⟩
      go_wp2_with fail
      refine (alive_any _).mono ?_
      rintro e w3 ⟨rfl, hx⟩
      go_wp2_with fail
      go_ret
      exact ⟨rfl, (hX.trans (Ext.alloc _ _)).trans hx⟩
    · go_enter Try.func3, Try.ntmps3
      go_wp2_with fail
      refine (new_out C _ hmay).mono ?_
      rintro e w1 ⟨rfl, rfl⟩
      go_wp2_with fail
      refine (rnew_out C _ hmay).mono ?_
      rintro e w2 ⟨rfl, hX⟩
      go_wp2_with fail
      refine (alive_any _).mono ?_
      rintro e w3 ⟨rfl, hx⟩
      go_wp2_with fail
      go_ret
      exact ⟨rfl, (hX.trans (Ext.alloc _ _)).trans hx⟩

set_option maxRecDepth 100000 in
theorem safePlays_walk {H : Type} {enc : TypeId × Value → H} (W : World) (base : Nat) (args : Array Value) (ds : List (DataW H)) (p : List MemPlace)
    (hval0 : ∀ (j : Nat) t v, Try.f3.params[j]? = some t → args[j]? = some v → Value.okWide Try.prog W .any base t v)
    (hA0 : DataW.TrodAll enc Try.prog W 0 (fun _ => true) true Try.f3.params.toList args.toList ds p) (_hlt : ∀ x ∈ p, x.block < W.heap.size) :
    Calls Try.prog 3 args W fun e W' => e = .returned (.bool true) ∧ Ext W W' := by
  have hval := hval0
  have hA := hA0
  rw [Try.params3] at hA hval
  clear hval0 hA0
  obtain ⟨v0, v1, d0, d1, p0, p1, hargs, rfl, rfl, h0, h1⟩ := trodAll_two hA
  obtain rfl : args = #[v0, v1] := by cases args; simp_all
  obtain ⟨y, rfl, rfl, rfl, wy⟩ := open_int Try.underlying3 (hval 0 3 v0 rfl rfl) h0
  obtain ⟨A, n, c, f, rfl, hn, hc, hs, hf⟩ := open_steps (hval 1 22 v1 rfl rfl) h1
  exact lplays_any y A n c f W hn hc hs hf
set_option maxRecDepth 100000 in
theorem safePlays_lifted (os : Os) (started : os.Started) (H : Type) (enc : TypeId × Value → H) :
    ReturnsInHanded {} Try.checked os 3 .any (Rows.safePlaysSpec.pre6 enc Try.prog Try.f3 Rows.safePlaysRow.domain false) (Rows.safePlaysSpec.post enc Try.prog Try.f3 false true false false) :=
  law_lifted (fn := Try.f3) 4 os started (by kernel_rfl) Try.func3 rfl rfl Try.underlying4 (hread_of (by kernel_rfl))
    (fun l hl => by
      have hl2 : l.length = 2 := hl
      clear hl
      match l, hl2 with
      | [_, _], _ => rfl)
    (ChangeSpec.witness6 (enc := enc) (C := Try.checked) false ⟨#[], #[.int .i64 0, .slice none 0 0], []⟩ 8 (by kernel_rfl) (by kernel_rfl) (by kernel_rfl) (by kernel_rfl))
    (fun W base args ds p hval hA hlt => safePlays_walk W base args ds p hval hA hlt)
theorem safePlays_holds : Rows.SafePlaysSaid :=
  OpenClaim.holds_of_wide 3 Try.f3 rfl rfl rfl rfl rfl rfl rfl ⟨rfl, rfl, rfl, rfl, rfl⟩ rfl rfl rfl rfl rfl (by kernel_rfl) Try.func3 (by kernel_rfl)
    (of_decide_eq_true (by kernel_rfl)) (by unfold Func.isWrapper; rw [if_neg (of_decide_eq_false (by kernel_rfl))]; exact ⟨rfl, rfl⟩)
    (fun os started H enc _ => safePlays_lifted os started H enc)
end Go.Proofs.Ytndjlhnmpddpbaa
