/-
  A law of layer 8 holds of every input: PermitFlags. No condition.
-/
import Derived.Test.YtleffmmlcbaooaaS2
import Derived.Deep.RegionHeld3
namespace Go.Proofs.Ytleffmmlcbaooaa
open Go.ChangeShapes Go.WideShapes Go.ChangeAt Go.RowKit Go.Deep Go.Joins
set_option linter.unusedVariables false
set_option linter.unusedSimpArgs false


set_option maxHeartbeats 2000000 in
set_option maxRecDepth 100000 in
theorem lflags_any (A : Option Addr) (n c : Nat) (f : Nat → Stp) (w : World) (hn : n ≤ c) (hc : c ≤ maxLen) (hs : Stps w w.heap.size A n f) (hf : ∀ k, k < n → Okst (f k)) :
    Calls Try.prog 6 #[.slice A n c] w fun e w' => e = .returned (.bool true) ∧ Ext w w' := by
  have HF := hide hf
  clear hf
  go_enter Try.func6, Try.ntmps6
  go_wp2_with fail
  refine (new_in 4 _ (by omega) (by omega)).mono ?_
  rintro e w1 ⟨M, V, rfl, hm, hM, hV, hX⟩
  have HA := al_4
  have l1 := hm.m.lt
  have l2 := hm.v.lt
  have z1 := hX.size
  have ha : Ar4 (w1.alloc (.cells (rows1 4 (fun _ => false)) 45)) w1.heap.size (fun k => ((fun _ => no3) k).z) := Blk.new w1 _ _
  have hm := hm.ext (Ext.alloc w1 (.cells (rows1 4 (fun _ => false)) 45))
  have hX := hX.trans (Ext.alloc w1 (.cells (rows1 4 (fun _ => false)) 45))
  have HT := hide (show ∀ t, t ∈ [V] → w.heap.size ≤ t by simp; omega)
  have HTQ := hide (show ∀ t, t ∈ [w1.heap.size] → w.heap.size ≤ t by simp; omega)
  have DQ := hide (show w1.heap.size ∉ [V] by simp; omega)
  have DM := hide (show M ∉ [w1.heap.size] by simp; omega)
  have DV := hide (show V ∉ [w1.heap.size] by simp; omega)
  have SM := hide (show ∀ k, k ∈ [V] → k ∈ [V, w1.heap.size] by simp)
  have SQ := hide (show ∀ k, k ∈ [w1.heap.size] → k ∈ [V, w1.heap.size] by simp)
  clear hM hV l1 l2 z1
  go_wp2_with fail
  clear HA
  generalize w1.alloc (.cells (rows1 4 (fun _ => false)) 45) = w2 at *
  generalize w1.heap.size = Q at *
  refine (short_any A n c _ hn hc).mono ?_
  rintro e w3 ⟨rfl, rfl⟩
  go_wp2_with fail
  go_loopw [23] (fun i wr => ∃ (j : Nat) (g : Tb), j ≤ min n 300 ∧ i = .int .i64 j ∧ TabT wr M V 4 g ∧ Ar4 wr Q (fun k => (g k).z) ∧ Ext w wr) (fun i _ => min n 300 - (intOf i).toNat)
  case atStart => exact ⟨0, _, by omega, rfl, hm, ha, hX⟩
  case round =>
    clear hm hX ha
    obtain ⟨j, g, hj, rfl, hm, ha, hX⟩ := hrel
    by_cases hlt : j < min n 300
    · have hj2 : j < n := by omega
      obtain ⟨b, off, rfl, hb, r0, r1⟩ := (hs.chg hX (Nat.le_refl _)).rules hj2
      have hok := HF.out j hj2
      have k0 := hok.k0
      have k1 := hok.k1
      have HS := hide (show wr.heap.size ∉ [V, Q] by have a2 := hm.v.lt; have a3 := Blk.lt ha; simp; omega)
      have bs := Blk.new wr #[.int .u8 (f j).k, .int .i64 (f j).n] 35
      have rs := bs.ruleC HS.out
      have s0 : ∀ w', Chg [V, Q] (wr.alloc (.cells #[.int .u8 (f j).k, .int .i64 (f j).n] 35)) w' → w'.cell? ⟨wr.heap.size, 0, none⟩ = some (.int .u8 (f j).k) := fun w' h => rs w' h 0
      have s1 : ∀ w', Chg [V, Q] (wr.alloc (.cells #[.int .u8 (f j).k, .int .i64 (f j).n] 35)) w' → w'.cell? ⟨wr.heap.size, 1, none⟩ = some (.int .i64 (f j).n) := fun w' h => rs w' h 1
      have hm := hm.ext (Ext.alloc wr (.cells #[.int .u8 (f j).k, .int .i64 (f j).n] 35))
      have ha := ha.ext (Ext.alloc wr (.cells #[.int .u8 (f j).k, .int .i64 (f j).n] 35))
      have hX := hX.trans (Ext.alloc wr (.cells #[.int .u8 (f j).k, .int .i64 (f j).n] 35))
      have hV := Chg.refl [V, Q] (wr.alloc (.cells #[.int .u8 (f j).k, .int .i64 (f j).n] 35))
      obtain ⟨t, ht, et⟩ : ∃ t : Nat, t < 4 ∧ bits .and .i64 (f j).n 3 = (t : Int) := ⟨((f j).n % 4).toNat, by omega, by rw [and3]; omega⟩
      have ht0 : (0 : Int) ≤ (t : Int) := by omega
      have ht4 : (t : Int) < 4 := by omega
      clear bs hok rs
      by_cases q1 : (f j).k % 5 = 2
      · go_wp2_with fail
        refine (interrupt_n hm ht).mono ?_
        rintro e w4 ⟨rfl, hm, hc⟩
        (have ha := ha.chg hc DQ.out; have hX := hX.turn hc HT.out; have hV := hV.trans (hc.mono SM.out); clear hc)
        go_wp2_with fail
        refine (asleep_n hm ht).mono ?_
        rintro e w5 ⟨rfl, hx⟩
        (have hm := hm.ext hx; have ha := ha.ext hx; have hX := hX.trans hx; have hV := hV.trans (hx.chg _); clear hx)
        rw [upd3_same, show (intS (g t)).x = false from rfl]
        have fa := ha.free t
        have ra := ha.l ht
        obtain ⟨ha, hc⟩ := ha.put ht true
        have HA := hide (show Ar4 _ Q (fun k => (upd3 g t (intS (g t)) k).z) by rw [row_upd g t (intS (g t)) (·.z)]; exact ha)
        have HC := hide hc
        clear ha hc
        go_wp2_with fail
        have ha := HA.out
        have hc := HC.out
        clear HA HC fa ra
        (have hm := hm.chg hc DM.out DV.out; have hX := hX.turn hc HTQ.out; have hV := hV.trans (hc.mono SQ.out); clear hc)
        generalize upd3 g t (intS (g t)) = g2 at *
        clear hV s0 s1
        go_wp2_with fail
        go_loopw [57] (fun i wq => ∃ (k : Nat), k ≤ 4 ∧ i = .int .i64 k ∧ TabT wq M V 4 g2 ∧ Ar4 wq Q (fun k => (g2 k).z) ∧ Ext w wq) (fun i _ => 4 - (intOf i).toNat)
        case atStart => exact ⟨0, by omega, rfl, hm, ha, hX⟩
        case round =>
          clear hm ha hX
          obtain ⟨k, hk4, rfl, hm, ha, hX⟩ := hrel
          by_cases hkl : k < 4
          · have ra := fun wx (hx : Ext wr wx) => (ha.ext hx).l hkl
            have k4 : (k : Int) < 4 := by omega
            have hW := Ext.refl wr
            go_wp2_with fail
            refine wp_region_ext (by kernel_rfl) (by kernel_rfl) ?_
            repeat
              with_reducible refine wpQuiet_step (fun K hK => ?_)
              go_simp
              first
              | (refine hK _ ?_; clear hK K)
              | (apply Exists.intro
                 refine ⟨fun w1 h1 => ?_, hK _ ?_⟩
                 (have hW := hW.trans h1; (first | rfl | (go_simp; done) | (go_simp; rfl) | (go_at_call 21; refine (flag_n (hm.ext h1) hkl).mono ?_; rintro e w2 ⟨rfl, hx⟩; exact ⟨rfl, h1.trans hx⟩)))
                 clear hK K)
            refine wpQuiet_nil (fun w' hw' => ?_)
            go_wp2_with fail
            go_roundw
            case rel => exact ⟨k + 1, by omega, by go_num, hm.ext hw', ha.ext hw', hX.trans hw'⟩
            case measure => simp [intOf]; omega
          · go_wp2_with fail
            go_roundw
            case rel => exact ⟨j + 1, _, by omega, by go_num, hm, ha, hX⟩
            case measure => simp [intOf]; omega
      · by_cases q2 : (f j).k % 5 = 3
        · have sa : ∀ w', Ar4 w' Q (fun k => (g k).z) → w'.cell? ⟨Q, t, none⟩ = some (.bool (g t).z) := fun w' h => h.l ht
          go_wp2_with fail
          go_region_held3 (fun w' => w'.cell? ⟨Q, t, none⟩ = some (.bool (g t).z)) (first | exact sa _ ha | exact sa _ (ha.ext (Ext.drew _)))
            (first | (go_at_call 15; refine (take_n (hm.ext (Ext.drew _)) ht).mono ?_; (have hm := hm.ext (Ext.drew _); have ha := ha.ext (Ext.drew _); have hX := hX.trans (Ext.drew _); have hV := hV.trans (Chg.drew _ _)); rintro e w' ⟨rfl, hm, hc⟩; (have ha := ha.chg hc DQ.out; have hX := hX.turn hc HT.out; have hV := hV.trans (hc.mono SM.out); clear hc)))
          have fa := ha.free t
          have ra := ha.l ht
          obtain ⟨ha, hc⟩ := ha.put ht false
          have HA := hide (show Ar4 _ Q (fun k => (upd3 g t (takS (g t)) k).z) by rw [row_upd g t (takS (g t)) (·.z)]; exact ha)
          have HC := hide hc
          clear ha hc sa
          go_wp2_with fail
          have ha := HA.out
          have hc := HC.out
          clear HA HC fa ra
          (have hm := hm.chg hc DM.out DV.out; have hX := hX.turn hc HTQ.out; have hV := hV.trans (hc.mono SQ.out); clear hc)
          generalize upd3 g t (takS (g t)) = g2 at *
          clear hV s0 s1
          go_wp2_with fail
          go_loopw [57] (fun i wq => ∃ (k : Nat), k ≤ 4 ∧ i = .int .i64 k ∧ TabT wq M V 4 g2 ∧ Ar4 wq Q (fun k => (g2 k).z) ∧ Ext w wq) (fun i _ => 4 - (intOf i).toNat)
          case atStart => exact ⟨0, by omega, rfl, hm, ha, hX⟩
          case round =>
            clear hm ha hX
            obtain ⟨k, hk4, rfl, hm, ha, hX⟩ := hrel
            by_cases hkl : k < 4
            · have ra := fun wx (hx : Ext wr wx) => (ha.ext hx).l hkl
              have k4 : (k : Int) < 4 := by omega
              have hW := Ext.refl wr
              go_wp2_with fail
              refine wp_region_ext (by kernel_rfl) (by kernel_rfl) ?_
              repeat
                with_reducible refine wpQuiet_step (fun K hK => ?_)
                go_simp
                first
                | (refine hK _ ?_; clear hK K)
                | (apply Exists.intro
                   refine ⟨fun w1 h1 => ?_, hK _ ?_⟩
                   (have hW := hW.trans h1; (first | rfl | (go_simp; done) | (go_simp; rfl) | (go_at_call 21; refine (flag_n (hm.ext h1) hkl).mono ?_; rintro e w2 ⟨rfl, hx⟩; exact ⟨rfl, h1.trans hx⟩)))
                   clear hK K)
              refine wpQuiet_nil (fun w' hw' => ?_)
              go_wp2_with fail
              go_roundw
              case rel => exact ⟨k + 1, by omega, by go_num, hm.ext hw', ha.ext hw', hX.trans hw'⟩
              case measure => simp [intOf]; omega
            · go_wp2_with fail
              go_roundw
              case rel => exact ⟨j + 1, _, by omega, by go_num, hm, ha, hX⟩
              case measure => simp [intOf]; omega
        · go_wp2_with fail
          refine (park_n hm ht).mono ?_
          rintro e w4 ⟨rfl, hm, hc⟩
          (have ha := ha.chg hc DQ.out; have hX := hX.turn hc HT.out; have hV := hV.trans (hc.mono SM.out); clear hc)
          rw [← row_stay g t (parkS (g t)) (·.z) rfl] at ha
          generalize upd3 g t (parkS (g t)) = g2 at *
          clear hV s0 s1
          go_wp2_with fail
          go_loopw [57] (fun i wq => ∃ (k : Nat), k ≤ 4 ∧ i = .int .i64 k ∧ TabT wq M V 4 g2 ∧ Ar4 wq Q (fun k => (g2 k).z) ∧ Ext w wq) (fun i _ => 4 - (intOf i).toNat)
          case atStart => exact ⟨0, by omega, rfl, hm, ha, hX⟩
          case round =>
            clear hm ha hX
            obtain ⟨k, hk4, rfl, hm, ha, hX⟩ := hrel
            by_cases hkl : k < 4
            · have ra := fun wx (hx : Ext wr wx) => (ha.ext hx).l hkl
              have k4 : (k : Int) < 4 := by omega
              have hW := Ext.refl wr
              go_wp2_with fail
              refine wp_region_ext (by kernel_rfl) (by kernel_rfl) ?_
              repeat
                with_reducible refine wpQuiet_step (fun K hK => ?_)
                go_simp
                first
                | (refine hK _ ?_; clear hK K)
                | (apply Exists.intro
                   refine ⟨fun w1 h1 => ?_, hK _ ?_⟩
                   (have hW := hW.trans h1; (first | rfl | (go_simp; done) | (go_simp; rfl) | (go_at_call 21; refine (flag_n (hm.ext h1) hkl).mono ?_; rintro e w2 ⟨rfl, hx⟩; exact ⟨rfl, h1.trans hx⟩)))
                   clear hK K)
              refine wpQuiet_nil (fun w' hw' => ?_)
              go_wp2_with fail
              go_roundw
              case rel => exact ⟨k + 1, by omega, by go_num, hm.ext hw', ha.ext hw', hX.trans hw'⟩
              case measure => simp [intOf]; omega
            · go_wp2_with fail
              go_roundw
              case rel => exact ⟨j + 1, _, by omega, by go_num, hm, ha, hX⟩
              case measure => simp [intOf]; omega
    · go_wp2_with fail
      refine (alive_any _).mono ?_
      rintro e w3 ⟨rfl, hx⟩
      have hX := hX.trans hx
      clear hx
      go_wp2_with fail
      go_ret
      exact ⟨rfl, hX⟩

theorem permitFlags_walk {H : Type} {enc : TypeId × Value → H} (W : World) (base : Nat) (args : Array Value) (ds : List (DataW H)) (p : List MemPlace)
    (hval0 : ∀ (j : Nat) t v, Try.f6.params[j]? = some t → args[j]? = some v → Value.okWide Try.prog W .any base t v)
    (hA0 : DataW.TrodAll enc Try.prog W 0 (fun _ => true) true Try.f6.params.toList args.toList ds p) (_hlt : ∀ x ∈ p, x.block < W.heap.size) :
    Calls Try.prog 6 args W fun e W' => e = .returned (.bool true) ∧ Ext W W' := by
  have hval := hval0
  have hA := hA0
  rw [Try.params6] at hA hval
  clear hval0 hA0
  obtain ⟨v0, d0, rfl, rfl, h0⟩ := trodAll_one hA
  obtain ⟨A, n, c, f, rfl, hn, hc, hs, hf⟩ := open_steps (hval 0 22 v0 rfl rfl) h0
  exact lflags_any A n c f W hn hc hs hf
set_option maxRecDepth 100000 in
theorem permitFlags_lifted (os : Os) (started : os.Started) (H : Type) (enc : TypeId × Value → H) :
    ReturnsInHanded {} Try.checked os 6 .any (Rows.permitFlagsSpec.pre6 enc Try.prog Try.f6 Rows.permitFlagsRow.domain false) (Rows.permitFlagsSpec.post enc Try.prog Try.f6 false true false false) :=
  law_lifted (fn := Try.f6) 4 os started (by kernel_rfl) Try.func6 rfl rfl Try.underlying4 (hread_of (by kernel_rfl))
    (fun l hl => by
      have hl2 : l.length = 1 := hl
      clear hl
      match l, hl2 with
      | [_], _ => rfl)
    (ChangeSpec.witness6 (enc := enc) (C := Try.checked) false ⟨#[], #[.slice none 0 0], []⟩ 8 (by kernel_rfl) (by kernel_rfl) (by kernel_rfl) (by kernel_rfl))
    (fun W base args ds p hval hA hlt => permitFlags_walk W base args ds p hval hA hlt)
theorem permitFlags_holds : Rows.PermitFlagsSaid :=
  OpenClaim.holds_of_wide 6 Try.f6 rfl rfl rfl rfl rfl rfl rfl ⟨rfl, rfl, rfl, rfl, rfl⟩ rfl rfl rfl rfl rfl (by kernel_rfl) Try.func6 (by kernel_rfl)
    (of_decide_eq_true (by kernel_rfl)) (by unfold Func.isWrapper; rw [if_neg (of_decide_eq_false (by kernel_rfl))]; exact ⟨rfl, rfl⟩)
    (fun os started H enc _ => permitFlags_lifted os started H enc)
end Go.Proofs.Ytleffmmlcbaooaa
