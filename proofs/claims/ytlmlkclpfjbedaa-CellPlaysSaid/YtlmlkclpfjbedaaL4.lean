/-
  A law of layer 3 holds of every input: CellPlays. No condition.
-/
import Derived.Test.YtlmlkclpfjbedaaC7
import Derived.Deep.RegionHeld3
namespace Go.Proofs.Ytlmlkclpfjbedaa
open Go.ChangeShapes Go.WideShapes Go.ChangeAt Go.RowKit Go.Deep Go.Joins
set_option linter.unusedVariables false
set_option linter.unusedSimpArgs false

theorem up_eq (ws : List Int) (a acc : Int) (h : acc ≤ 1000) : upI ws a acc = upN ws a acc := by
  unfold upI upN up
  split
  · rw [if_pos (by omega)]
  · rfl
theorem upN_le (ws : List Int) (a acc : Int) : upN ws a acc ≤ acc + 1 := by unfold upN; split <;> omega
theorem RefX.lt {w : World} {R base m : Nat} {N : Int} {ws : List Int} (h : RefX w R base N ws m) : R < w.heap.size := by
  obtain ⟨v, l, h⟩ := h
  exact h.b.lt
theorem RefX.n {w : World} {R base m : Nat} {N : Int} {ws : List Int} (h : RefX w R base N ws m) : ∀ w', Ext w w' → w'.cell? ⟨R, 2, none⟩ = some (.int .i64 N) := fun w' x => by
  obtain ⟨v, l, h⟩ := h
  exact (h.b.ext x).cell 2
theorem ref_new (w : World) (N : Nat) : RefX (w.alloc (.cells #[.int .i64 N, .slice none 0 0, .int .i64 0] 30)) w.heap.size (w.heap.size + 1) 0 (zeros N) 0 := by
  refine ⟨.slice none 0 0, [], ?_, own_nil _ _ _ _, by omega, fun a => ?_, by simp, by omega, by omega⟩
  · have e : (zeros N).length = N := by simp [zeros]
    rw [e]; exact Blk.new w _ _
  · unfold lookI
    split
    · simp [lookL, zeros, List.getD_eq_getElem?_getD, List.getElem?_replicate]; split <;> simp
    · rfl

set_option maxRecDepth 100000 in
set_option maxHeartbeats 2000000 in
theorem lplays_any (C : Int) (A : Option Addr) (n c : Nat) (f : Nat → Stp) (w : World) (hn : n ≤ c) (hc : c ≤ maxLen) (hs : Stps w w.heap.size A n f) (hf : ∀ k, k < n → Okst (f k)) :
    Calls Try.prog 3 #[.int .i64 C, .slice A n c] w fun e w' => e = .returned (.bool true) ∧ Ext w w' := by
  have HF := hide hf
  clear hf
  by_cases hmay : 1 ≤ C ∧ C ≤ 4096
  · obtain ⟨h1, h2⟩ := hmay
    obtain ⟨N, rfl⟩ := Int.eq_ofNat_of_zero_le (show 0 ≤ C by omega)
    go_enter Try.func3, Try.ntmps3
    go_wp2_with fail
    refine (new_in N _ (by omega) (by omega)).mono ?_
    rintro e w1 ⟨M, V, rfl, hm, hM, hV, hX⟩
    have l1 := hm.m.lt
    have l2 := hm.v.lt
    have z1 := hX.size
    have hz : (zeros N).length = N := by simp [zeros]
    have HZ := hide hz
    have hr := ref_new w1 N
    have HT := hide (low_MV hM hV)
    have HTR := hide (show ∀ t, t ∈ [w1.heap.size] → w.heap.size ≤ t by simp; omega)
    have DR := hide (show w1.heap.size ∉ [M, V] by simp; omega)
    have DB := hide (show ∀ t, t ∈ [M, V] → t < w1.heap.size + 1 by simp; omega)
    have DM := hide (show M ∉ [w1.heap.size] by simp; omega)
    have DV := hide (show V ∉ [w1.heap.size] by simp; omega)
    have SM := hide (show ∀ k, k ∈ [M, V] → k ∈ [M, V, w1.heap.size] by simp)
    have SR := hide (show ∀ k, k ∈ [w1.heap.size] → k ∈ [M, V, w1.heap.size] by simp)
    have hm := hm.ext (Ext.alloc w1 (.cells #[.int .i64 N, .slice none 0 0, .int .i64 0] 30))
    have hX := hX.trans (Ext.alloc w1 (.cells #[.int .i64 N, .slice none 0 0, .int .i64 0] 30))
    clear hM hV l1 l2 z1 hz
    go_wp2_with fail
    refine (short_any A n c _ hn hc).mono ?_
    rintro e w2 ⟨rfl, hx⟩
    have hm := hm.ext hx
    have hr := hr.ext hx
    have hX := hX.trans hx
    clear hx
    generalize w1.heap.size = R at *
    go_wp2_with fail
    go_loopw [56] (fun i wr => ∃ (j : Nat) (acc : Int) (ws : List Int), j ≤ min n 200 ∧ i = .int .i64 j ∧ MemT wr M V acc ws ∧ RefX wr R (R + 1) acc ws j ∧ ws.length = N ∧ acc ≤ j ∧ Ext w wr) (fun i _ => min n 200 - (intOf i).toNat)
    case atStart => exact ⟨0, 0, _, by omega, rfl, hm, hr, HZ.out, by omega, hX⟩
    case round =>
      clear hm hX hr
      obtain ⟨j, acc, ws, hj, rfl, hm, hr, hl, hacc, hX⟩ := hrel
      have HL := hide hl
      clear hl
      by_cases hlt : j < min n 200
      · have hj2 : j < n := by omega
        obtain ⟨b, off, rfl, hb, r0, r1, r2, r3⟩ := (hs.chg hX (Nat.le_refl _)).rules hj2
        have hk := HF.out j hj2
        have k0 := hk.k0
        have k1 := hk.k1
        have HS := hide (show wr.heap.size ∉ [M, V, R] by have a1 := hm.m.lt; have a2 := hm.v.lt; have a3 := hr.lt; simp; omega)
        have bs := Blk.new wr #[.int .u8 (f j).k, .int .i64 (f j).a, .int .u64 (f j).o, .int .u64 (f j).x] 34
        have rs := bs.ruleC HS.out
        have s1 : ∀ w', Chg [M, V, R] (wr.alloc (.cells #[.int .u8 (f j).k, .int .i64 (f j).a, .int .u64 (f j).o, .int .u64 (f j).x] 34)) w' → w'.cell? ⟨wr.heap.size, 1, none⟩ = some (.int .i64 (f j).a) := fun w' h => rs w' h 1
        have s2 : ∀ w', Chg [M, V, R] (wr.alloc (.cells #[.int .u8 (f j).k, .int .i64 (f j).a, .int .u64 (f j).o, .int .u64 (f j).x] 34)) w' → w'.cell? ⟨wr.heap.size, 2, none⟩ = some (.int .u64 (f j).o) := fun w' h => rs w' h 2
        have s3 : ∀ w', Chg [M, V, R] (wr.alloc (.cells #[.int .u8 (f j).k, .int .i64 (f j).a, .int .u64 (f j).o, .int .u64 (f j).x] 34)) w' → w'.cell? ⟨wr.heap.size, 3, none⟩ = some (.int .u64 (f j).x) := fun w' h => rs w' h 3
        have hm := hm.ext (Ext.alloc wr (.cells #[.int .u8 (f j).k, .int .i64 (f j).a, .int .u64 (f j).o, .int .u64 (f j).x] 34))
        have hr := hr.ext (Ext.alloc wr (.cells #[.int .u8 (f j).k, .int .i64 (f j).a, .int .u64 (f j).o, .int .u64 (f j).x] 34))
        have hX := hX.trans (Ext.alloc wr (.cells #[.int .u8 (f j).k, .int .i64 (f j).a, .int .u64 (f j).o, .int .u64 (f j).x] 34))
        have hV := Chg.refl [M, V, R] (wr.alloc (.cells #[.int .u8 (f j).k, .int .i64 (f j).a, .int .u64 (f j).o, .int .u64 (f j).x] 34))
        have UE := hide (up_eq ws (f j).a acc (by omega))
        have UL := hide (upN_le ws (f j).a acc)
        have hj3 : j < 200 := by omega
        clear bs hk rs
        rcases (by omega : (f j).k % 4 = 0 ∨ (f j).k % 4 = 1 ∨ (f j).k % 4 = 2 ∨ (f j).k % 4 = 3) with q | q | q | q
        · go_wp2_with fail
          go_region_held3 (fun w' => w'.cell? ⟨wr.heap.size, 1, none⟩ = some (.int .i64 (f j).a)) (first | exact s1 _ hV | exact s1 _ (hV.trans (Chg.drew _ _)))
            (first | (go_at_call 10; refine (load_any _ _ _ _ _ _ (hm.ext (Ext.drew _))).mono ?_; (have hm := hm.ext (Ext.drew _); have hr := hr.ext (Ext.drew _); have hX := hX.trans (Ext.drew _); have hV := hV.trans (Chg.drew _ _)); (rintro e w' ⟨rfl, hm, hc⟩; have hr := hr.chg hc DR.out DB.out; have hX := hX.turn hc HT.out; have hV := hV.trans (hc.mono SM.out); clear hc); rw [UE.out] at hm) | (go_at_call 11; (refine (rload_any _ _ _ _ _ _ _ hr hj3).mono ?_; (rintro e w' ⟨rfl, hr, hc⟩; have hm := hm.chg hc DM.out DV.out; have hX := hX.turn hc HTR.out; have hV := hV.trans (hc.mono SR.out); clear hc))))
          have HLN := hide HL.out
          have rn := hr.n
          have hW := Ext.refl w'
          go_wp2_with fail
          refine wp_region_ext (by kernel_rfl) (by kernel_rfl) ?_
          repeat
            with_reducible refine wpQuiet_step (fun K hK => ?_)
            go_simp
            first
            | (refine hK _ ?_; clear hK K)
            | (apply Exists.intro
               refine ⟨fun w1 h1 => ?_, hK _ ?_⟩
               (have hW := hW.trans h1; have hV := hV.trans (h1.chg _); (first | rfl | (go_simp; done) | (go_simp; rfl) | (go_at_call 17; refine (look_any _ _ _ _ _ _ (hm.ext h1)).mono ?_; rintro e w2 ⟨rfl, hb⟩; exact ⟨rfl, h1.trans hb⟩) | (go_at_call 16; refine (rlook_any _ _ _ _ _ _ _ (hr.ext h1) (by omega)).mono ?_; rintro e w2 ⟨rfl, hb⟩; exact ⟨rfl, h1.trans hb⟩) | (go_at_call 18; refine (count_any _ _ _ _ _ (hm.ext h1)).mono ?_; rintro e w2 ⟨rfl, hb⟩; exact ⟨rfl, h1.trans hb⟩) | (go_at_call 19; refine (len_any _ _ _ _ _ (hm.ext h1)).mono ?_; rintro e w2 ⟨rfl, hb⟩; rw [HLN.out]; exact ⟨rfl, h1.trans hb⟩)))
               clear hK K)
          refine wpQuiet_nil (fun w' hw' => ?_)
          have hm := hm.ext hw'; have hr := hr.ext hw'; have hX := hX.trans hw'; clear hw'
          go_wp2_with fail
          go_roundw
          case rel => exact ⟨j + 1, _, _, by omega, by go_num, hm, hr, HLN.out, by have := UL.out; omega, hX⟩
          case measure => simp [intOf]; omega
        · go_wp2_with fail
          go_region_held3 (fun w' => w'.cell? ⟨wr.heap.size, 1, none⟩ = some (.int .i64 (f j).a) ∧ w'.cell? ⟨wr.heap.size, 3, none⟩ = some (.int .u64 (f j).x)) (first | exact ⟨s1 _ hV, s3 _ hV⟩ | exact ⟨s1 _ (hV.trans (Chg.drew _ _)), s3 _ (hV.trans (Chg.drew _ _))⟩)
            (first | (go_at_call 12; refine (store_any _ _ _ _ _ _ _ (hm.ext (Ext.drew _))).mono ?_; (have hm := hm.ext (Ext.drew _); have hr := hr.ext (Ext.drew _); have hX := hX.trans (Ext.drew _); have hV := hV.trans (Chg.drew _ _)); (rintro e w' ⟨rfl, hm, hc⟩; have hr := hr.chg hc DR.out DB.out; have hX := hX.turn hc HT.out; have hV := hV.trans (hc.mono SM.out); clear hc); rw [UE.out] at hm) | (go_at_call 13; (refine (rstore_any _ _ _ _ _ _ _ _ hr hj3 hr.lt).mono ?_; (rintro e w' ⟨rfl, hr, hc⟩; have hm := hm.chg hc DM.out DV.out; have hX := hX.turn hc HTR.out; have hV := hV.trans (hc.mono SR.out); clear hc))))
          have HLN := hide ((setI_len ws (f j).a (f j).x).trans HL.out)
          have rn := hr.n
          have hW := Ext.refl w'
          go_wp2_with fail
          refine wp_region_ext (by kernel_rfl) (by kernel_rfl) ?_
          repeat
            with_reducible refine wpQuiet_step (fun K hK => ?_)
            go_simp
            first
            | (refine hK _ ?_; clear hK K)
            | (apply Exists.intro
               refine ⟨fun w1 h1 => ?_, hK _ ?_⟩
               (have hW := hW.trans h1; have hV := hV.trans (h1.chg _); (first | rfl | (go_simp; done) | (go_simp; rfl) | (go_at_call 17; refine (look_any _ _ _ _ _ _ (hm.ext h1)).mono ?_; rintro e w2 ⟨rfl, hb⟩; exact ⟨rfl, h1.trans hb⟩) | (go_at_call 16; refine (rlook_any _ _ _ _ _ _ _ (hr.ext h1) (by omega)).mono ?_; rintro e w2 ⟨rfl, hb⟩; exact ⟨rfl, h1.trans hb⟩) | (go_at_call 18; refine (count_any _ _ _ _ _ (hm.ext h1)).mono ?_; rintro e w2 ⟨rfl, hb⟩; exact ⟨rfl, h1.trans hb⟩) | (go_at_call 19; refine (len_any _ _ _ _ _ (hm.ext h1)).mono ?_; rintro e w2 ⟨rfl, hb⟩; rw [HLN.out]; exact ⟨rfl, h1.trans hb⟩)))
               clear hK K)
          refine wpQuiet_nil (fun w' hw' => ?_)
          have hm := hm.ext hw'; have hr := hr.ext hw'; have hX := hX.trans hw'; clear hw'
          go_wp2_with fail
          go_roundw
          case rel => exact ⟨j + 1, _, _, by omega, by go_num, hm, hr, HLN.out, by have := UL.out; omega, hX⟩
          case measure => simp [intOf]; omega
        · go_wp2_with fail
          (refine (cas_any _ _ _ _ _ _ _ _ hm).mono ?_; (rintro e w' ⟨rfl, hm, hc⟩; have hr := hr.chg hc DR.out DB.out; have hX := hX.turn hc HT.out; have hV := hV.trans (hc.mono SM.out); clear hc))
          rw [UE.out] at hm
          go_wp2_with fail
          (refine (rcas_any _ _ _ _ _ _ _ _ _ hr hj3 hr.lt).mono ?_; (rintro e w' ⟨rfl, hr, hc⟩; have hm := hm.chg hc DM.out DV.out; have hX := hX.turn hc HTR.out; have hV := hV.trans (hc.mono SR.out); clear hc))
          have HLN := hide ((casL_len ws (f j).a (f j).o (f j).x).trans HL.out)
          have rn := hr.n
          have hW := Ext.refl w'
          go_wp2_with fail
          refine wp_region_ext (by kernel_rfl) (by kernel_rfl) ?_
          repeat
            with_reducible refine wpQuiet_step (fun K hK => ?_)
            go_simp
            first
            | (refine hK _ ?_; clear hK K)
            | (apply Exists.intro
               refine ⟨fun w1 h1 => ?_, hK _ ?_⟩
               (have hW := hW.trans h1; have hV := hV.trans (h1.chg _); (first | rfl | (go_simp; done) | (go_simp; rfl) | (go_at_call 17; refine (look_any _ _ _ _ _ _ (hm.ext h1)).mono ?_; rintro e w2 ⟨rfl, hb⟩; exact ⟨rfl, h1.trans hb⟩) | (go_at_call 16; refine (rlook_any _ _ _ _ _ _ _ (hr.ext h1) (by omega)).mono ?_; rintro e w2 ⟨rfl, hb⟩; exact ⟨rfl, h1.trans hb⟩) | (go_at_call 18; refine (count_any _ _ _ _ _ (hm.ext h1)).mono ?_; rintro e w2 ⟨rfl, hb⟩; exact ⟨rfl, h1.trans hb⟩) | (go_at_call 19; refine (len_any _ _ _ _ _ (hm.ext h1)).mono ?_; rintro e w2 ⟨rfl, hb⟩; rw [HLN.out]; exact ⟨rfl, h1.trans hb⟩)))
               clear hK K)
          refine wpQuiet_nil (fun w' hw' => ?_)
          have hm := hm.ext hw'; have hr := hr.ext hw'; have hX := hX.trans hw'; clear hw'
          go_wp2_with fail
          go_roundw
          case rel => exact ⟨j + 1, _, _, by omega, by go_num, hm, hr, HLN.out, by have := UL.out; omega, hX⟩
          case measure => simp [intOf]; omega
        · go_wp2_with fail
          refine (rlook_any _ _ _ _ _ _ _ hr (by omega)).mono ?_
          rintro e w' ⟨rfl, hx⟩
          have hm := hm.ext hx; have hr := hr.ext hx; have hX := hX.trans hx; have hV := hV.trans (hx.chg _); clear hx
          go_wp2_with fail
          (refine (cas_any _ _ _ _ _ _ _ _ hm).mono ?_; (rintro e w' ⟨rfl, hm, hc⟩; have hr := hr.chg hc DR.out DB.out; have hX := hX.turn hc HT.out; have hV := hV.trans (hc.mono SM.out); clear hc))
          rw [UE.out] at hm
          go_wp2_with fail
          (refine (rcas_any _ _ _ _ _ _ _ _ _ hr hj3 hr.lt).mono ?_; (rintro e w' ⟨rfl, hr, hc⟩; have hm := hm.chg hc DM.out DV.out; have hX := hX.turn hc HTR.out; have hV := hV.trans (hc.mono SR.out); clear hc))
          have HLN := hide ((casL_len ws (f j).a (lookI ws (f j).a) (f j).x).trans HL.out)
          have rn := hr.n
          have hW := Ext.refl w'
          go_wp2_with fail
          refine wp_region_ext (by kernel_rfl) (by kernel_rfl) ?_
          repeat
            with_reducible refine wpQuiet_step (fun K hK => ?_)
            go_simp
            first
            | (refine hK _ ?_; clear hK K)
            | (apply Exists.intro
               refine ⟨fun w1 h1 => ?_, hK _ ?_⟩
               (have hW := hW.trans h1; have hV := hV.trans (h1.chg _); (first | rfl | (go_simp; done) | (go_simp; rfl) | (go_at_call 17; refine (look_any _ _ _ _ _ _ (hm.ext h1)).mono ?_; rintro e w2 ⟨rfl, hb⟩; exact ⟨rfl, h1.trans hb⟩) | (go_at_call 16; refine (rlook_any _ _ _ _ _ _ _ (hr.ext h1) (by omega)).mono ?_; rintro e w2 ⟨rfl, hb⟩; exact ⟨rfl, h1.trans hb⟩) | (go_at_call 18; refine (count_any _ _ _ _ _ (hm.ext h1)).mono ?_; rintro e w2 ⟨rfl, hb⟩; exact ⟨rfl, h1.trans hb⟩) | (go_at_call 19; refine (len_any _ _ _ _ _ (hm.ext h1)).mono ?_; rintro e w2 ⟨rfl, hb⟩; rw [HLN.out]; exact ⟨rfl, h1.trans hb⟩)))
               clear hK K)
          refine wpQuiet_nil (fun w' hw' => ?_)
          have hm := hm.ext hw'; have hr := hr.ext hw'; have hX := hX.trans hw'; clear hw'
          go_wp2_with fail
          go_roundw
          case rel => exact ⟨j + 1, _, _, by omega, by go_num, hm, hr, HLN.out, by have := UL.out; omega, hX⟩
          case measure => simp [intOf]; omega
      · go_wp2_with fail
        refine (alive_any _).mono ?_
        rintro e w3 ⟨rfl, hx⟩
        have hX := hX.trans hx
        clear hx
        go_wp2_with fail
        go_ret
        exact ⟨rfl, hX⟩
  · by_cases h1 : 1 ≤ C
    · have h2 : ¬ C ≤ 4096 := by omega
      go_enter Try.func3, Try.ntmps3
      go_wp2_with fail
      refine (new_out C _ hmay).mono ?_
      rintro e w1 ⟨rfl, hX⟩
      go_wp2_with fail
      refine (alive_any _).mono ?_
      rintro e w3 ⟨rfl, hx⟩
      have hX := hX.trans hx
      clear hx
      go_wp2_with fail
      go_ret
      exact ⟨rfl, hX⟩
    · go_enter Try.func3, Try.ntmps3
      go_wp2_with fail
      refine (new_out C _ hmay).mono ?_
      rintro e w1 ⟨rfl, hX⟩
      go_wp2_with fail
      refine (alive_any _).mono ?_
      rintro e w3 ⟨rfl, hx⟩
      have hX := hX.trans hx
      clear hx
      go_wp2_with fail
      go_ret
      exact ⟨rfl, hX⟩

theorem cellPlays_walk {H : Type} {enc : TypeId × Value → H} (W : World) (base : Nat) (args : Array Value) (ds : List (DataW H)) (p : List MemPlace)
    (hval0 : ∀ (j : Nat) t v, Try.f3.params[j]? = some t → args[j]? = some v → Value.okWide Try.prog W .any base t v)
    (hA0 : DataW.TrodAll enc Try.prog W 0 (fun _ => true) true Try.f3.params.toList args.toList ds p) (_hlt : ∀ x ∈ p, x.block < W.heap.size) :
    Calls Try.prog 3 args W fun e W' => e = .returned (.bool true) ∧ Ext W W' := by
  have hval := hval0
  have hA := hA0
  rw [Try.params3] at hA hval
  clear hval0 hA0
  obtain ⟨v0, v1, d0, d1, p0, p1, hargs, rfl, rfl, h0, h1⟩ := trodAll_two hA
  obtain rfl : args = #[v0, v1] := by cases args; simp_all
  obtain ⟨y, rfl, rfl, rfl, wy⟩ := open_int Try.underlying3 (hval 0 3 v0 rfl rfl) h0
  obtain ⟨A, n, c, f, rfl, hn, hc, hs, hf⟩ := open_steps (hval 1 22 v1 rfl rfl) h1
  exact lplays_any y A n c f W hn hc hs hf
set_option maxRecDepth 100000 in
theorem cellPlays_lifted (os : Os) (started : os.Started) (H : Type) (enc : TypeId × Value → H) :
    ReturnsInHanded {} Try.checked os 3 .any (Rows.cellPlaysSpec.pre6 enc Try.prog Try.f3 Rows.cellPlaysRow.domain false) (Rows.cellPlaysSpec.post enc Try.prog Try.f3 false true false false) :=
  law_lifted (fn := Try.f3) 4 os started (by kernel_rfl) Try.func3 rfl rfl Try.underlying4 (hread_of (by kernel_rfl))
    (fun l hl => by
      have hl2 : l.length = 2 := hl
      clear hl
      match l, hl2 with
      | [_, _], _ => rfl)
    (ChangeSpec.witness6 (enc := enc) (C := Try.checked) false ⟨#[], #[.int .i64 0, .slice none 0 0], []⟩ 8 (by kernel_rfl) (by kernel_rfl) (by kernel_rfl) (by kernel_rfl))
    (fun W base args ds p hval hA hlt => cellPlays_walk W base args ds p hval hA hlt)
theorem cellPlays_holds : Rows.CellPlaysSaid :=
  OpenClaim.holds_of_wide 3 Try.f3 rfl rfl rfl rfl rfl rfl rfl ⟨rfl, rfl, rfl, rfl, rfl⟩ rfl rfl rfl rfl rfl (by kernel_rfl) Try.func3 (by kernel_rfl)
    (of_decide_eq_true (by kernel_rfl)) (by unfold Func.isWrapper; rw [if_neg (of_decide_eq_false (by kernel_rfl))]; exact ⟨rfl, rfl⟩)
    (fun os started H enc _ => cellPlays_lifted os started H enc)
end Go.Proofs.Ytlmlkclpfjbedaa
