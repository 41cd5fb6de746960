/-
  A law of layer 10 holds of every input: SlotsPlays: the tied card stands.
  Conditions: the library's table math/bits.deBruijn64tab holds when the call begins what the program's text lays; the card ties that to the text of the seat's pruned copy by the wider look, and says nothing of code outside that copy. No condition on the input.
-/
import Derived.Test.YtpadepamknbkoaaDoorG1
import Derived.Test.YtpadepamknbkoaaDoorT1
import Derived.Deep.DeepCutAuto
import Derived.Deep.CutBlock
namespace Go.Proofs.YtpadepamknbkoaaDoor
open Go.ChangeShapes Go.WideShapes Go.ChangeAt Go.RowKit Go.Deep Go.Joins
set_option linter.unusedVariables false
set_option maxRecDepth 100000
set_option linter.unusedSimpArgs false


theorem Tk.N {S S' : TS} {z a g e : Int} (h : Tk S z a g e S') : S'.N = S.N := by
  cases h with
  | own r k h => rfl
  | com k hz h hk => rfl
  | grow hz h hc hl => rfl
  | out => rfl
  | arg => rfl
theorem frS_N (S : TS) (z y : Int) : (frS S z y).N ≤ S.N + 1 := by
  unfold frS; split
  · exact Nat.le_refl _
  · exact Nat.le_succ _
theorem low_pos {w : World} (hT : Tb w) : 0 < w.heap.size := hT.1
set_option maxHeartbeats 8000000 in
theorem lplays_any (p q : Int) (A : Option Addr) (n0 c : Nat) (f : Nat → Stp) (w : World) (hT : Tb w) (hn : n0 ≤ c) (hc : c ≤ maxLen) (hs : Stps w w.heap.size A n0 f) (hf : ∀ k, k < n0 → Okst (f k)) :
    Calls Tryd.prog 3 #[.int .i64 p, .int .i64 q, .slice A n0 c] w fun e w' => e = .returned (.bool true) ∧ Ext w w' := by
  have HF := hide hf
  clear hf
  by_cases hmay : 1 ≤ p ∧ p ≤ 4096 ∧ 1 ≤ q ∧ q ≤ 64
  · obtain ⟨h1, h2, h3, h4⟩ := hmay
    obtain ⟨n, rfl⟩ := Int.eq_ofNat_of_zero_le (show 0 ≤ p by omega)
    obtain ⟨b, rfl⟩ := Int.eq_ofNat_of_zero_le (show 0 ≤ q by omega)
    have hB := Nat.le_refl w.heap.size
    go_enter Tryd.func3, Tryd.ntmps3
    go_wp2_with fail
    refine (new_in n b _ hT (by omega) (by omega) (by omega) (by omega)).mono ?_
    rintro e w1 ⟨M, rfl, hm, hX⟩
    go_wp2_with fail
    refine (rnew_in n b _ (by omega) (by omega) (by omega) (by omega)).mono ?_
    rintro e w2 ⟨r, rfl, hown, hx⟩
    have hY := hx.trans (Ext.alloc w2 (.cells #[.int .i64 (b : Int), .int .i64 0, .slice (some ⟨r, 0, none⟩) n n] 29))
    have hl0 : (TS.new n b).L.length = n := by unfold TS.new; simp
    have hr : RefT (w2.alloc (.cells #[.int .i64 (b : Int), .int .i64 0, .slice (some ⟨r, 0, none⟩) n n] 29)) w.heap.size w2.heap.size (TS.new n b) := by
      refine ⟨(hX.trans hx).size, r, n, ?_, ?_⟩
      · rw [hl0]; exact Blk.new w2 _ _
      · rw [hl0]; exact own_ext (own_low hown hX.size) (Ext.alloc _ _)
    have hm := hm.ext hY
    have hX := hX.trans hY
    have okn := new_ok (n := n) (b := b) (by omega) (by omega) (by omega) (by omega)
    clear hx hY hown
    by_cases hsm : (n : Int) ≤ 200
    · go_wp2_with fail
      generalize w2.alloc (.cells #[.int .i64 (b : Int), .int .i64 0, .slice (some ⟨r, 0, none⟩) n n] 29) = w3 at *
      generalize w2.heap.size = R at *
      refine (short_any A n0 c _ hn hc).mono ?_
      rintro e w4 ⟨rfl, rfl⟩
      go_wp2_with fail
      go_loopw [63] (fun i wr => ∃ (j : Nat) (S : TS), j ≤ min n0 120 ∧ i = .int .i64 j ∧ TabT wr w.heap.size M S ∧ RefT wr w.heap.size R S ∧ Ok S ∧ S.N ≤ j ∧ Ext w wr) (fun i _ => min n0 120 - (intOf i).toNat)
      case atStart => exact ⟨0, TS.new n b, by omega, rfl, hm, hr, okn, Nat.le_refl _, hX⟩
      case round =>
        clear hm hX hr okn hl0
        obtain ⟨j, S, hj, rfl, hm, hr, ok, hN, hX⟩ := hrel
        by_cases hlt : j < min n0 120
        · have hj2 : j < n0 := by omega
          obtain ⟨bb, off, rfl, hbb, r0, r1, r2⟩ := (hs.chg hX (Nat.le_refl _)).rules hj2
          have hok := HF.out j hj2
          have k0 := hok.k0
          have k1 := hok.k1
          have hz := Blk.new wr #[.int .u8 (f j).k, .int .i64 (f j).n, .int .i64 (f j).s] 35
          have hY := Ext.alloc wr (.cells #[.int .u8 (f j).k, .int .i64 (f j).n, .int .i64 (f j).s] 35)
          have hm := hm.ext hY
          have hr := hr.ext hY
          have hX := hX.trans hY
          have hN9 : S.N ≤ 900 := by omega
          clear hY hok
          go_upto_block 2 with fail
          obtain ⟨Z, hZ⟩ : ∃ Z, Z = wr.heap.size := ⟨_, rfl⟩
          rw [← hZ] at hz ⊢
          clear hZ
          generalize wr.alloc (.cells #[.int .u8 (f j).k, .int .i64 (f j).n, .int .i64 (f j).s] 35) = w5 at *
          go_cut [13, 69] (fun v13 k5 wc => ∃ (S' : TS), v13 = .bool true ∧ TabT wc w.heap.size M S' ∧ RefT wc w.heap.size R S' ∧ Ok S' ∧ S'.N ≤ j + 1 ∧ Ext w wc ∧ Blk wc Z #[.int .u8 (f j).k, .int .i64 (f j).n, .int .i64 (f j).s] 35)
          case first =>
            have r0 := hz.cell
            by_cases q1 : (f j).k % 4 = 1
            · go_wp2_with fail
              have hz5 := hz
              have hm := hm.ext (Ext.drew w5)
              have hr := hr.ext (Ext.drew w5)
              have hz := hz.ext (Ext.drew w5)
              have hX := hX.trans (Ext.drew w5)
              clear r0
              have ok2 := ok.fr (f j).n (f j).s
              have hN2 := frS_N S (f j).n (f j).s
              go_region_held3 (fun w' => w'.cell? ⟨Z, 1, none⟩ = some (.int .i64 (f j).n) ∧ w'.cell? ⟨Z, 2, none⟩ = some (.int .i64 (f j).s)) (first | exact ⟨hz.cell 1, hz.cell 2⟩ | exact ⟨hz5.cell 1, hz5.cell 2⟩)
                (first
                  | (go_at_call 11; refine (free_any hm ok _ _).mono ?_; rintro e w6 ⟨rfl, hm, hc⟩; have hr := hr.kp hc (by decide) (by decide); have hz := hc.blk hz (by decide); have hX := hc.ext hX hB; clear hc)
                  | (go_at_call 12; refine (rfree_any hr ok hN9).mono ?_; rintro e w6 ⟨rfl, hr, hc⟩; have hm := hm.kp hc hT.1 (by decide) (by decide) (by decide); have hz := hc.blk hz (by decide); have hX := hc.ext hX hB; clear hc))
              all_goals
                clear hz5
                go_wp2_with fail
                go_meet
                case rel => exact ⟨_, rfl, hm, hr, ok2, by omega, hX, hz⟩
            · by_cases q2 : (f j).k % 4 = 2
              · go_wp2_with fail
                have hz5 := hz
                have hm := hm.ext (Ext.drew w5)
                have hr := hr.ext (Ext.drew w5)
                have hz := hz.ext (Ext.drew w5)
                have hX := hX.trans (Ext.drew w5)
                clear r0
                have ok2 := ok.fl (f j).n
                go_region_held3 (fun w' => w'.cell? ⟨Z, 1, none⟩ = some (.int .i64 (f j).n)) (first | exact hz.cell 1 | exact hz5.cell 1)
                  (first
                    | (go_at_call 13; refine (flush_any hm ok _).mono ?_; rintro e w6 ⟨rfl, hm, hc⟩; have hr := hr.kp hc (by decide) (by decide); have hz := hc.blk hz (by decide); have hX := hc.ext hX hB; clear hc)
                    | (go_at_call 14; refine (rflush_any _ hr ok (by omega)).mono ?_; rintro e w6 ⟨rfl, hr, hc⟩; have hm := hm.kp hc hT.1 (by decide) (by decide) (by decide); have hz := hc.blk hz (by decide); have hX := hc.ext hX hB; clear hc))
                all_goals
                  clear hz5
                  go_wp2_with fail
                  go_meet
                  case rel => exact ⟨_, rfl, hm, hr, ok2, by show S.N ≤ j + 1; omega, hX, hz⟩
              · go_wp2_with fail
                refine (take_any hm ok _).mono ?_
                rintro e w6 ⟨a, g, er, S', rfl, hk, hm, hc⟩
                have ok2 := hk.ok ok
                have hN2 := hk.N
                have hr := hr.kp hc (by decide) (by decide)
                have hz := hc.blk hz (by decide)
                have hX := hc.ext hX hB
                clear hc r0
                have r0 := hz.cell
                go_wp2_with fail
                refine (rtake_any hk hr ok (by omega)).mono ?_
                rintro e w7 ⟨rfl, hr, hc⟩
                have hm := hm.kp hc hT.1 (by decide) (by decide) (by decide)
                have hz := hc.blk hz (by decide)
                have hX := hc.ext hX hB
                clear hc r0 hk
                go_wp2_with fail
                go_meet
                case rel => exact ⟨S', rfl, hm, hr, ok2, by omega, hX, hz⟩
          case rest =>
            clear hm hr ok hN hX hz r0 r1 r2 hN9
            obtain ⟨S, rfl, hm, hr, ok, hN, hX, hz⟩ := hcut
            have r0 := hz.cell
            go_wp2_with fail
            refine (told_any (f j) hm hr ok (by omega)).mono ?_
            rintro e w8 ⟨rfl, hx⟩
            have hm := hm.ext hx
            have hr := hr.ext hx
            have hX := hX.trans hx
            clear hx r0
            go_wp2_with fail
            go_roundw
            case rel => exact ⟨j + 1, S, by omega, by go_num, hm, hr, ok, hN, hX⟩
            case measure => simp [intOf]; omega
        · obtain rfl : j = min n0 120 := by omega
          go_wp2_with fail
          refine (alive_any _ (hT.ext hX)).mono ?_
          rintro e w1 ⟨rfl, hx⟩
          go_wp2_with fail
          go_ret
          exact ⟨rfl, hX.trans hx⟩
    · go_wp2_with fail
      refine (alive_any _ (hT.ext hX)).mono ?_
      rintro e w3 ⟨rfl, hx⟩
      go_wp2_with fail
      go_ret
      exact ⟨rfl, hX.trans hx⟩
  · go_enter Tryd.func3, Tryd.ntmps3
    go_wp2_with fail
    refine (new_out _ _ _ hmay).mono ?_
    rintro e w1 ⟨rfl, rfl⟩
    go_wp2_with fail
    refine (rnew_out _ _ _ hmay).mono ?_
    rintro e w2 ⟨rfl, hX⟩
    go_wp2_with fail
    refine (alive_any _ (hT.ext (hX.trans (Ext.alloc _ _)))).mono ?_
    rintro e w3 ⟨rfl, hx⟩
    go_wp2_with fail
    go_ret
    exact ⟨rfl, (hX.trans (Ext.alloc _ _)).trans hx⟩

theorem slotsPlays_walk {H : Type} {enc : TypeId × Value → H} (W : World) (base : Nat) (args : Array Value) (ds : List (DataW H)) (p : List MemPlace) (hG : Tb W)
    (hval0 : ∀ (j : Nat) t v, Tryd.f3.params[j]? = some t → args[j]? = some v → Value.okWide Tryd.prog W .any base t v)
    (hA0 : DataW.TrodAll enc Tryd.prog W 0 (fun _ => true) true Tryd.f3.params.toList args.toList ds p) (_hlt : ∀ x ∈ p, x.block < W.heap.size) :
    Calls Tryd.prog 3 args W fun e W' => e = .returned (.bool true) ∧ Ext W W' := by
  have hval := hval0
  have hA := hA0
  rw [Tryd.params3] at hA hval
  clear hval0 hA0
  obtain ⟨v0, v1, v2, d0, d1, d2, p0, p1, p2, hargs, rfl, rfl, h0, h1, h2⟩ := trodAll_three hA
  obtain rfl : args = #[v0, v1, v2] := by cases args; simp_all
  obtain ⟨x, rfl, rfl, rfl, wx⟩ := open_int Tryd.underlying3 (hval 0 3 v0 rfl rfl) h0
  obtain ⟨y, rfl, rfl, rfl, wy⟩ := open_int Tryd.underlying3 (hval 1 3 v1 rfl rfl) h1
  obtain ⟨A, n, c, f, rfl, hn, hc, hs, hf⟩ := open_steps (hval 2 22 v2 rfl rfl) h2
  exact lplays_any x y A n c f W hG hn hc hs hf
set_option maxRecDepth 100000 in
theorem slotsPlays_lifted (os : Os) (started : os.Started) (H : Type) (enc : TypeId × Value → H) :
    ReturnsInHanded {} Tryd.checked os 3 .any (fun w args => (Rows.slotsPlaysSpec.pre enc Tryd.prog Tryd.f3 [] false w args ∧ laidMetH Tryd.prog laidL w) ∧ sizedMet enc Tryd.prog Tryd.f3 (OpenSpec.ofChange Rows.slotsPlaysSpec) false w args) (Rows.slotsPlaysSpec.post enc Tryd.prog Tryd.f3 false true false false) :=
  law_lifted_laid (fn := Tryd.f3) 4 os started (by kernel_rfl) Tryd.func3 rfl rfl Tryd.underlying4 (hread_of (by kernel_rfl))
    (fun l hl => by
      have hl2 : l.length = 3 := hl
      clear hl
      match l, hl2 with
      | [_, _, _], _ => rfl)
    (ChangeSpec.witness_shaped (enc := enc) (C := Tryd.checked) (os := os) (X := fun w _ => laidMetH Tryd.prog laidL w) false (World.doorLaid Tryd.prog 100 os) #[.int .i64 0, .int .i64 0, .slice none 0 0] 8 rfl (World.shaped_of_RefB (by kernel_rfl) (by kernel_rfl)) (by kernel_rfl) (by kernel_rfl) (by kernel_rfl) (door_met os _))
    (fun W base args ds p hG hval hA hlt => slotsPlays_walk W base args ds p hG hval hA hlt)
theorem slotsPlays_row : Rows.SlotsPlaysSaid :=
  OpenClaim.holds_of_wide 3 Tryd.f3 rfl rfl rfl rfl rfl rfl rfl ⟨rfl, rfl, rfl, rfl, rfl⟩ rfl rfl rfl rfl rfl (by kernel_rfl) Tryd.func3 (by kernel_rfl)
    (of_decide_eq_true (by kernel_rfl)) (by unfold Func.isWrapper; rw [if_neg (of_decide_eq_false (by kernel_rfl))]; exact ⟨rfl, rfl⟩)
    (fun os started H enc _ => slotsPlays_lifted os started H enc)
theorem slotsPlays_holds : Rows.SlotsPlaysCardSaid :=
  Claim7.holds_tied_plain_at .later [] Rows.slotsPlaysCard.laidKinds true Rows.slotsPlaysCard.stood.harness false
    slotsPlays_row (fun _ h => by cases h) (by kernel_rfl) (fun _ h => by cases h) slotsPlays_row_tie rfl ⟨rfl, rfl⟩ (by kernel_rfl) rfl
    (fun f fn hf hfn => by
      obtain rfl : f = 3 := Option.some.inj ((show Tryd.prog.funcNamed Tryd.f3.name = some 3 by kernel_rfl).symm.trans hf) |>.symm
      obtain rfl : fn = Tryd.f3 := (Option.some.inj (Tryd.func3.symm.trans hfn)).symm
      exact ⟨by kernel_rfl, fun j t ht => by
        rw [Tryd.params3] at ht
        have hm : t ∈ [3, 3, 22] := by simpa using Array.mem_of_getElem? ht
        have hall : ([3, 3, 22].all fun u => !Tryd.prog.wantsStandIn u) = true := by kernel_rfl
        exact (show Tryd.prog.wantsStandIn t = false by simpa using List.all_eq_true.1 hall t hm)⟩)
    (by kernel_rfl)
end Go.Proofs.YtpadepamknbkoaaDoor
