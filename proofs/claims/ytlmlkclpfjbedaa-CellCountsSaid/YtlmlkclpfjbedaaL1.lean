/-
  A law of layer 3 holds of every input: CellCounts. No condition.
-/
import Derived.Test.YtlmlkclpfjbedaaC7
namespace Go.Proofs.Ytlmlkclpfjbedaa
open Go.ChangeShapes Go.WideShapes Go.ChangeAt Go.RowKit Go.Deep Go.Joins
set_option linter.unusedVariables false
set_option linter.unusedSimpArgs false


set_option maxHeartbeats 1000000 in
theorem lcounts_any (C : Int) (A : Option Addr) (n c : Nat) (f : Nat → Stp) (w : World) (hC0 : 0 ≤ C) (hC1 : C ≤ 255) (hn : n ≤ c) (hc : c ≤ maxLen) (hs : Stps w w.heap.size A n f) (hf : ∀ k, k < n → Okst (f k)) :
    Calls Try.prog 6 #[.int .u8 C, .slice A n c] w fun e w' => e = .returned (.bool true) ∧ Ext w w' := by
  have HF := hide hf
  clear hf
  go_enter Try.func6, Try.ntmps6
  go_wp2_with fail
  refine (new_i (C + 1) _ (by omega) (by omega)).mono ?_
  rintro e w1 ⟨M, V, rfl, hm, hM, hV, hX⟩
  have HM := hide hM
  have HV := hide hV
  have hz : (zeros (C + 1).toNat).length = (C + 1).toNat := by simp [zeros]
  have HZ := hide hz
  have HT := hide (low_MV hM hV)
  clear hM hV hz
  go_wp2_with fail
  refine (short_any A n c _ hn hc).mono ?_
  rintro e w2 ⟨rfl, hx⟩
  have hm := hm.ext hx
  have hX := hX.trans hx
  clear hx
  go_wp2_with fail
  go_loopw [7, 26] (fun v i wr => ∃ (j : Nat) (acc : Int) (ws : List Int), j ≤ min n 200 ∧ i = .int .i64 j ∧ v = .int .i64 acc ∧ MemT wr M V acc ws ∧ ws.length = (C + 1).toNat ∧ acc ≤ 3 * j ∧ Ext w wr) (fun _ i _ => min n 200 - (intOf i).toNat)
  case atStart => exact ⟨0, 0, _, by omega, rfl, rfl, hm, HZ.out, by omega, hX⟩
  case round =>
    clear hm hX
    obtain ⟨j, acc, ws, hj, rfl, rfl, hm, hl, hacc, hX⟩ := hrel
    have HL := hide hl
    have h0 := hm.acc0
    clear hl
    by_cases hlt : j < min n 200
    · have hj2 : j < n := by omega
      obtain ⟨b, off, rfl, hb, r0, r1, r2, r3⟩ := (hs.chg hX (Nat.le_refl _)).rules hj2
      have hk := HF.out j hj2
      have a0 := hk.a0
      have a1 := hk.a1
      have HS := hide (far_MV hm)
      have bs := Blk.new wr #[.int .u8 (f j).k, .int .i64 (f j).a, .int .u64 (f j).o, .int .u64 (f j).x] 34
      have rs := bs.ruleC HS.out
      have hm := hm.ext (Ext.alloc wr (.cells #[.int .u8 (f j).k, .int .i64 (f j).a, .int .u64 (f j).o, .int .u64 (f j).x] 34))
      have hX := hX.trans (Ext.alloc wr (.cells #[.int .u8 (f j).k, .int .i64 (f j).a, .int .u64 (f j).o, .int .u64 (f j).x] 34))
      have hV := Chg.refl [M, V] (wr.alloc (.cells #[.int .u8 (f j).k, .int .i64 (f j).a, .int .u64 (f j).o, .int .u64 (f j).x] 34))
      have acc3 : acc ≤ 600 := by omega
      clear bs hk
      by_cases hr : 0 ≤ (f j).a ∧ (f j).a ≤ C
      · obtain ⟨q0, q1⟩ := hr
        have D := hide (show ∀ ws' acc', ws'.length = (C + 1).toNat → acc' ≤ 1000 → upI ws' (f j).a acc' = acc' + 1 from fun ws' acc' h1 h2 => by rw [upI_yes _ q0 (by omega)]; unfold up; rw [if_pos (by omega)])
        go_wp2_with fail
        (refine (load_any _ _ _ _ _ _ hm).mono ?_; rintro e w' ⟨rfl, hm, hc⟩; have hX := hX.turn hc HT.out; have hV := hV.trans hc; clear hc)
        rw [D.out _ _ HL.out (by omega)] at hm
        go_wp2_with fail
        (refine (look_any _ _ _ _ _ _ hm).mono ?_; rintro e w' ⟨rfl, hx⟩; have hm := hm.ext hx; have hX := hX.trans hx; have hV := hV.trans (hx.chg _); clear hx)
        go_wp2_with fail
        (refine (store_any _ _ _ _ _ (f j).x _ hm).mono ?_; rintro e w' ⟨rfl, hm, hc⟩; have hX := hX.turn hc HT.out; have hV := hV.trans hc; clear hc)
        rw [D.out _ _ HL.out (by omega)] at hm
        go_wp2_with fail
        (refine (cas_any _ _ _ _ _ (f j).o (f j).x _ hm).mono ?_; rintro e w' ⟨rfl, hm, hc⟩; have hX := hX.turn hc HT.out; have hV := hV.trans hc; clear hc)
        rw [D.out _ _ (by rw [setI_len]; exact HL.out) (by omega)] at hm
        go_wp2_with fail
        refine (all_any _ _ _ _ _ hm).mono ?_
        rintro e w7 ⟨g, rfl, _, _, hx⟩
        have hm := hm.ext hx; have hX := hX.trans hx; have hV := hV.trans (hx.chg _); clear hx
        go_wp2_with fail
        rw [show acc + 1 + 1 + 1 = acc + 3 by omega] at hm
        (refine (count_any _ _ _ _ _ hm).mono ?_; rintro e w' ⟨rfl, hx⟩; have hm := hm.ext hx; have hX := hX.trans hx; have hV := hV.trans (hx.chg _); clear hx)
        go_wp2_with fail
        go_roundw
        case rel =>
          have L1 := HL.out
          have L2 := setI_len ws (f j).a (f j).x
          have L3 := casL_len (setI ws (f j).a (f j).x) (f j).a (f j).o (f j).x
          exact ⟨j + 1, _, _, by omega, by go_num, rfl, hm, by rw [L3, L2, L1], by omega, hX⟩
        case measure => simp [intOf]; omega
      · have D := hide (show ∀ ws' acc', ws'.length = (C + 1).toNat → acc' ≤ 1000 → upI ws' (f j).a acc' = acc' from fun ws' acc' h1 h2 => upI_no _ (by omega))
        by_cases q0 : 0 ≤ (f j).a
        · have q1 : C < (f j).a := by omega
          clear hr
          go_wp2_with fail
          (refine (load_any _ _ _ _ _ _ hm).mono ?_; rintro e w' ⟨rfl, hm, hc⟩; have hX := hX.turn hc HT.out; have hV := hV.trans hc; clear hc)
          rw [D.out _ _ HL.out (by omega)] at hm
          go_wp2_with fail
          (refine (look_any _ _ _ _ _ _ hm).mono ?_; rintro e w' ⟨rfl, hx⟩; have hm := hm.ext hx; have hX := hX.trans hx; have hV := hV.trans (hx.chg _); clear hx)
          go_wp2_with fail
          (refine (store_any _ _ _ _ _ (f j).x _ hm).mono ?_; rintro e w' ⟨rfl, hm, hc⟩; have hX := hX.turn hc HT.out; have hV := hV.trans hc; clear hc)
          rw [D.out _ _ HL.out (by omega)] at hm
          go_wp2_with fail
          (refine (cas_any _ _ _ _ _ (f j).o (f j).x _ hm).mono ?_; rintro e w' ⟨rfl, hm, hc⟩; have hX := hX.turn hc HT.out; have hV := hV.trans hc; clear hc)
          rw [D.out _ _ (by rw [setI_len]; exact HL.out) (by omega)] at hm
          go_wp2_with fail
          refine (all_any _ _ _ _ _ hm).mono ?_
          rintro e w7 ⟨g, rfl, _, _, hx⟩
          have hm := hm.ext hx; have hX := hX.trans hx; have hV := hV.trans (hx.chg _); clear hx
          go_wp2_with fail
          skip
          (refine (count_any _ _ _ _ _ hm).mono ?_; rintro e w' ⟨rfl, hx⟩; have hm := hm.ext hx; have hX := hX.trans hx; have hV := hV.trans (hx.chg _); clear hx)
          go_wp2_with fail
          go_roundw
          case rel =>
            have L1 := HL.out
            have L2 := setI_len ws (f j).a (f j).x
            have L3 := casL_len (setI ws (f j).a (f j).x) (f j).a (f j).o (f j).x
            exact ⟨j + 1, _, _, by omega, by go_num, rfl, hm, by rw [L3, L2, L1], by omega, hX⟩
          case measure => simp [intOf]; omega
        · clear hr
          go_wp2_with fail
          (refine (load_any _ _ _ _ _ _ hm).mono ?_; rintro e w' ⟨rfl, hm, hc⟩; have hX := hX.turn hc HT.out; have hV := hV.trans hc; clear hc)
          rw [D.out _ _ HL.out (by omega)] at hm
          go_wp2_with fail
          (refine (look_any _ _ _ _ _ _ hm).mono ?_; rintro e w' ⟨rfl, hx⟩; have hm := hm.ext hx; have hX := hX.trans hx; have hV := hV.trans (hx.chg _); clear hx)
          go_wp2_with fail
          (refine (store_any _ _ _ _ _ (f j).x _ hm).mono ?_; rintro e w' ⟨rfl, hm, hc⟩; have hX := hX.turn hc HT.out; have hV := hV.trans hc; clear hc)
          rw [D.out _ _ HL.out (by omega)] at hm
          go_wp2_with fail
          (refine (cas_any _ _ _ _ _ (f j).o (f j).x _ hm).mono ?_; rintro e w' ⟨rfl, hm, hc⟩; have hX := hX.turn hc HT.out; have hV := hV.trans hc; clear hc)
          rw [D.out _ _ (by rw [setI_len]; exact HL.out) (by omega)] at hm
          go_wp2_with fail
          refine (all_any _ _ _ _ _ hm).mono ?_
          rintro e w7 ⟨g, rfl, _, _, hx⟩
          have hm := hm.ext hx; have hX := hX.trans hx; have hV := hV.trans (hx.chg _); clear hx
          go_wp2_with fail
          skip
          (refine (count_any _ _ _ _ _ hm).mono ?_; rintro e w' ⟨rfl, hx⟩; have hm := hm.ext hx; have hX := hX.trans hx; have hV := hV.trans (hx.chg _); clear hx)
          go_wp2_with fail
          go_roundw
          case rel =>
            have L1 := HL.out
            have L2 := setI_len ws (f j).a (f j).x
            have L3 := casL_len (setI ws (f j).a (f j).x) (f j).a (f j).o (f j).x
            exact ⟨j + 1, _, _, by omega, by go_num, rfl, hm, by rw [L3, L2, L1], by omega, hX⟩
          case measure => simp [intOf]; omega
    · go_wp2_with fail
      refine (alive_any _).mono ?_
      rintro e w3 ⟨rfl, hx⟩
      have hX := hX.trans hx
      clear hx
      go_wp2_with fail
      go_ret
      exact ⟨rfl, hX⟩

theorem cellCounts_walk {H : Type} {enc : TypeId × Value → H} (W : World) (base : Nat) (args : Array Value) (ds : List (DataW H)) (p : List MemPlace)
    (hval0 : ∀ (j : Nat) t v, Try.f6.params[j]? = some t → args[j]? = some v → Value.okWide Try.prog W .any base t v)
    (hA0 : DataW.TrodAll enc Try.prog W 0 (fun _ => true) true Try.f6.params.toList args.toList ds p) (_hlt : ∀ x ∈ p, x.block < W.heap.size) :
    Calls Try.prog 6 args W fun e W' => e = .returned (.bool true) ∧ Ext W W' := by
  have hval := hval0
  have hA := hA0
  rw [Try.params6] at hA hval
  clear hval0 hA0
  obtain ⟨v0, v1, d0, d1, p0, p1, hargs, rfl, rfl, h0, h1⟩ := trodAll_two hA
  obtain rfl : args = #[v0, v1] := by cases args; simp_all
  obtain ⟨y, rfl, rfl, rfl, wy⟩ := open_int Try.underlying5 (hval 0 5 v0 rfl rfl) h0
  obtain ⟨A, n, c, f, rfl, hn, hc, hs, hf⟩ := open_steps (hval 1 22 v1 rfl rfl) h1
  have hb := bounds_u8 wy
  exact lcounts_any y A n c f W (by omega) (by omega) hn hc hs hf
set_option maxRecDepth 100000 in
theorem cellCounts_lifted (os : Os) (started : os.Started) (H : Type) (enc : TypeId × Value → H) :
    ReturnsInHanded {} Try.checked os 6 .any (Rows.cellCountsSpec.pre6 enc Try.prog Try.f6 Rows.cellCountsRow.domain false) (Rows.cellCountsSpec.post enc Try.prog Try.f6 false true false false) :=
  law_lifted (fn := Try.f6) 4 os started (by kernel_rfl) Try.func6 rfl rfl Try.underlying4 (hread_of (by kernel_rfl))
    (fun l hl => by
      have hl2 : l.length = 2 := hl
      clear hl
      match l, hl2 with
      | [_, _], _ => rfl)
    (ChangeSpec.witness6 (enc := enc) (C := Try.checked) false ⟨#[], #[.int .u8 0, .slice none 0 0], []⟩ 8 (by kernel_rfl) (by kernel_rfl) (by kernel_rfl) (by kernel_rfl))
    (fun W base args ds p hval hA hlt => cellCounts_walk W base args ds p hval hA hlt)
theorem cellCounts_holds : Rows.CellCountsSaid :=
  OpenClaim.holds_of_wide 6 Try.f6 rfl rfl rfl rfl rfl rfl rfl ⟨rfl, rfl, rfl, rfl, rfl⟩ rfl rfl rfl rfl rfl (by kernel_rfl) Try.func6 (by kernel_rfl)
    (of_decide_eq_true (by kernel_rfl)) (by unfold Func.isWrapper; rw [if_neg (of_decide_eq_false (by kernel_rfl))]; exact ⟨rfl, rfl⟩)
    (fun os started H enc _ => cellCounts_lifted os started H enc)
end Go.Proofs.Ytlmlkclpfjbedaa
