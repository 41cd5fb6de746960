/-
  A law of layer 10 holds of every input: SlotsOnce: the tied card stands.
  Conditions: the library's table math/bits.deBruijn64tab holds when the call begins what the program's text lays; the card ties that to the text of the seat's pruned copy by the wider look, and says nothing of code outside that copy. No condition on the input.
-/
import Derived.Test.YtpadepamknbkoaaDoorG1
import Derived.Test.YtpadepamknbkoaaDoorO1
import Derived.Deep.DeepCutAuto
import Derived.Deep.CutBlock
import Derived.Deep.RegionHeld3
namespace Go.Proofs.YtpadepamknbkoaaDoor
open Go.ChangeShapes Go.WideShapes Go.ChangeAt Go.RowKit Go.Deep Go.Joins Go.Maps
set_option linter.unusedVariables false
set_option maxRecDepth 100000
set_option linter.unusedSimpArgs false


set_option maxHeartbeats 8000000 in
theorem lonce_any (p q : Nat) (A : Option Addr) (n0 c : Nat) (f : Nat → Stp) (w : World) (hT : Tb w) (hp : p ≤ 255) (hq : q ≤ 255) (hn : n0 ≤ c) (hc : c ≤ maxLen) (hs : Stps w w.heap.size A n0 f) (hf : ∀ k, k < n0 → Okst (f k)) :
    Calls Tryd.prog 4 #[.int .u8 (p : Int), .int .u8 (q : Int), .slice A n0 c] w fun e w' => e = .returned (.bool true) ∧ Ext w w' := by
  have HF := hide hf
  clear hf
  obtain ⟨n, hn1⟩ : ∃ n : Nat, (p : Int) % 12 + 1 = (n : Int) := ⟨p % 12 + 1, by omega⟩
  obtain ⟨b, hb1⟩ : ∃ b : Nat, (q : Int) % 5 + 1 = (b : Int) := ⟨q % 5 + 1, by omega⟩
  have n1 : 1 ≤ n := by omega
  have n2 : n ≤ 12 := by omega
  have b1 : 1 ≤ b := by omega
  have b2 : b ≤ 5 := by omega
  have hmm := @run_makeMap Tryd.prog
  have hB := Nat.le_refl w.heap.size
  have HB0 := hide (show 0 < w.heap.size from hT.1)
  go_enter Tryd.func4, Tryd.ntmps4
  go_wp2_with fail
  refine (new_in n b _ hT n1 (by omega) b1 (by omega)).mono ?_
  rintro e w1 ⟨M, rfl, hm, hX⟩
  go_wp2_with fail
  clear hn1 hb1
  have hmn := (BM.made w1 50 nkp okp).ext (Ext.alloc _ (.map #[] 0))
  have hmu := BM.made (w1.alloc (.map #[] 0)) 3 ky (fun _ => True)
  have hY := (Ext.alloc w1 (.map #[] 0)).trans (Ext.alloc (w1.alloc (.map #[] 0)) (.map #[] 0))
  have hm := hm.ext hY
  have hXs := hX.size
  have hX := hX.trans hY
  clear hY
  have mn1 : w.heap.size ≤ w1.heap.size := hXs
  have mn2 : w1.heap.size < (w1.alloc (.map #[] 0)).heap.size := by simp
  simp only [World.size_alloc] at hmu mn2
  have mn3 : w1.heap.size ≠ w1.heap.size + 1 := by omega
  generalize (w1.alloc (.map #[] 0)).alloc (.map #[] 0) = w2 at *
  obtain ⟨mn, hmn0⟩ : ∃ Z, Z = w1.heap.size := ⟨_, rfl⟩
  rw [← hmn0] at hmn hmu mn1 mn2 mn3 ⊢
  obtain ⟨mu, hmu0⟩ : ∃ Z, Z = mn + 1 := ⟨_, rfl⟩
  rw [← hmu0] at hmu mn2 mn3 ⊢
  clear hmn0 hmu0
  refine (short_any A n0 c _ hn hc).mono ?_
  rintro e w4 ⟨rfl, rfl⟩
  go_wp2_with fail
  go_loopw [12, 44] (fun vm i wr => ∃ (j many : Nat) (S : TS) (u : Int → Bool) (v : Int × Int → Bool), j ≤ min n0 120 ∧ i = .int .i64 j ∧ vm = .int .i64 (many : Int) ∧ TabT wr w.heap.size M S ∧ InvO S n j u v many ∧ MN wr mn j v ∧ MI wr mu j u ∧ Ext w wr) (fun _ i _ => min n0 120 - (intOf i).toNat)
  case atStart => exact ⟨0, 0, TS.new n b, _, _, by omega, rfl, rfl, hm, inv_new n1 (by omega) b1 (by omega), hmn, hmu, hX⟩
  case round =>
    clear hm hX hmn hmu
    obtain ⟨j, many, S, u, v, hj, rfl, rfl, hm, hI, hmn, hmu, hX⟩ := hrel
    by_cases hlt : j < min n0 120
    · have hj2 : j < n0 := by omega
      obtain ⟨bb, off, rfl, hbb, r0, r1, r2⟩ := (hs.chg hX (Nat.le_refl _)).rules hj2
      have hok := HF.out j hj2
      have k0 := hok.k0
      have k1 := hok.k1
      have hz := Blk.new wr #[.int .u8 (f j).k, .int .i64 (f j).n, .int .i64 (f j).s] 35
      have hY := Ext.alloc wr (.cells #[.int .u8 (f j).k, .int .i64 (f j).n, .int .i64 (f j).s] 35)
      have hm := hm.ext hY
      have hmn := hmn.ext hY
      have hmu := hmu.ext hY
      have hX := hX.trans hY
      clear hY hok
      obtain ⟨th, hth, hth2⟩ := and_small (f j).n 3 (by omega)
      obtain ⟨kk, hkk, hkk2⟩ := and_small (f j).s 15 (by omega)
      have hth : bits .and .i64 (f j).n 3 = (th : Int) := hth
      have hkk : bits .and .i64 (f j).s 15 = (kk : Int) := hkk
      go_upto_block 2 with fail
      clear hth
      obtain ⟨Z, hZ⟩ : ∃ Z, Z = wr.heap.size := ⟨_, rfl⟩
      rw [← hZ] at hz ⊢
      clear hZ
      generalize wr.alloc (.cells #[.int .u8 (f j).k, .int .i64 (f j).n, .int .i64 (f j).s] 35) = w5 at *
      have lkU : ∀ w', MI w' mu j u → (Instr.lookup 48 (.map (some mu)) (.int .i64 (kk : Int)) false).run Tryd.prog w' = .ok (.bool (u kk)) w' := fun w' h => h.look kI Tryd.underlying48 (kof (ky_wf (by omega) (by omega))) trivial
      have hjb : j ≤ 1000 := by omega
      go_cut [12, 53] (fun v12 k5 wc => ∃ (many' : Nat) (S' : TS) (u' : Int → Bool) (v' : Int × Int → Bool), v12 = .int .i64 (many' : Int) ∧ TabT wc w.heap.size M S' ∧ InvO S' n (j + 1) u' v' many' ∧ MN wc mn (j + 1) v' ∧ MI wc mu (j + 1) u' ∧ Ext w wc)
      case first =>
        have r0 := hz.cell
        by_cases q1 : (f j).k % 4 = 1
        · by_cases ha : (S.p kk).a = 1
          · obtain ⟨e1, m1, hI2⟩ := hI.free (z := (th : Int)) hjb (by omega) ha
            have p1 := fun w' (h : TabT w' w.heap.size M S) => free_any h hI.ok (th : Int) (kk : Int)
            rw [e1] at p1
            have hu : u (kk : Int) = true := by rw [hI.us, ha]; rfl
            rw [hu] at lkU
            have hml := hI2.le
            have HI := hide hI2
            have HZ := hide hz
            clear e1 hI hI2
            go_wp2_with fail
            go_region_held3 (fun w' => (Instr.lookup 48 (.map (some mu)) (.int .i64 (kk : Int)) false).run Tryd.prog w' = .ok (.bool true) w') (first | exact lkU _ hmu | exact lkU _ (hmu.ext (Ext.drew _)))
              (first | (go_at_call 11; refine (p1 _ (hm.ext (Ext.drew _))).mono ?_; rintro e w6 ⟨rfl, hm, hc⟩; have hX := hc.ext (hX.trans (Ext.drew _)) hB; have hmn := (hmn.ext (Ext.drew _)).kp hc; have hmu := (hmu.ext (Ext.drew _)).kp hc))
            all_goals
              have hlk := lkU _ hmu
              have HB := hide hmu
              have HM := hide hm
              have HN := hide hmn
              have HX := hide hX
              clear hmu hm hmn hX hc lkU p1
              go_wp2_with (first
                | (at_mapUpdate; refine wpList_put rfl _ _ _ 48 rfl kI Tryd.underlying48 rfl HB.out (by unfold maxLen; omega) _ (kk : Int) false rfl rfl (kof (ky_wf (by omega) (by omega))) (ky_key _) (ky_inj _) ?_; intro w12 hmu hg12; go_frame)
                | go_in)
              have hno := HB.out.noC
              have hm := HM.out.grown hg12 hno (by have := HB0.out; omega)
              have hX := Ext.grown HX.out hg12 (fun q hq => by cases hq; omega)
              have hmn := (HN.out.grown hg12 mn3).mono (Nat.le_succ j)
              go_meet
              case rel => exact ⟨many - 1, _, _, _, by go_num, hm, HI.out, hmn, hmu, hX⟩
          · obtain ⟨e1, e2, hI2⟩ := hI.free_no (z := (th : Int)) ha
            have p1 := fun w' (h : TabT w' w.heap.size M S) => free_any h hI.ok (th : Int) (kk : Int)
            rw [e1, e2] at p1
            have hu : u (kk : Int) = false := by rw [hI.us]; simpa using ha
            rw [hu] at lkU
            have HI := hide hI2.next
            have HZ := hide hz
            clear e1 e2 hI hI2
            go_wp2_with fail
            go_region_held3 (fun w' => (Instr.lookup 48 (.map (some mu)) (.int .i64 (kk : Int)) false).run Tryd.prog w' = .ok (.bool false) w') (first | exact lkU _ hmu | exact lkU _ (hmu.ext (Ext.drew _)))
              (first | (go_at_call 11; refine (p1 _ (hm.ext (Ext.drew _))).mono ?_; rintro e w6 ⟨rfl, hm, hc⟩; have hX := hc.ext (hX.trans (Ext.drew _)) hB; have hmn := (hmn.ext (Ext.drew _)).kp hc; have hmu := (hmu.ext (Ext.drew _)).kp hc))
            all_goals
              have hlk := lkU _ hmu
              have HB := hide hmu
              have HM := hide hm
              have HN := hide hmn
              have HX := hide hX
              clear hmu hm hmn hX hc lkU p1
              go_wp2_with (first
                | (at_mapUpdate; refine wpList_put rfl _ _ _ 48 rfl kI Tryd.underlying48 rfl HB.out (by unfold maxLen; omega) _ (kk : Int) false rfl rfl (kof (ky_wf (by omega) (by omega))) (ky_key _) (ky_inj _) ?_; intro w12 hmu hg12; go_frame)
                | go_in)
              have hno := HB.out.noC
              have hm := HM.out.grown hg12 hno (by have := HB0.out; omega)
              have hX := Ext.grown HX.out hg12 (fun q hq => by cases hq; omega)
              have hmn := (HN.out.grown hg12 mn3).mono (Nat.le_succ j)
              go_meet
              case rel => exact ⟨many, _, _, _, rfl, hm, HI.out, hmn, hmu, hX⟩
        · by_cases q2 : (f j).k % 4 = 2
          · go_wp2_with fail
            refine (flush_any hm hI.ok _).mono ?_
            rintro e w6 ⟨rfl, hm, hc⟩
            have hI2 := hI.next.asit (hI.ok.fl (th : Int)) (len_fl S _) (asit_fl hI.ok (th : Int))
            have hX := hc.ext hX hB
            have hmn := (hmn.kp hc).mono (Nat.le_succ j)
            have hmu := (hmu.kp hc).mono (Nat.le_succ j)
            clear hc r0 hz hI
            go_wp2_with fail
            go_meet
            case rel => exact ⟨many, _, _, _, rfl, hm, hI2, hmn, hmu, hX⟩
          · go_wp2_with fail
            refine (take_any hm hI.ok _).mono ?_
            rintro e w6 ⟨a, g, er, S', rfl, hk, hm, hc⟩
            have ok2 := hk.ok hI.ok
            have hX := hc.ext hX hB
            have hmn := hmn.kp hc
            have hmu := hmu.kp hc
            rcases hk.got hI.ok (by omega) with ⟨rfl, eS⟩ | ⟨rfl, k, rfl, g1, g2, g3, g4, g5, g6, g7⟩
            · rw [eS] at hm
              clear hc r0 hz hk ok2 eS
              have hI2 := hI.next
              have hmn := hmn.mono (Nat.le_succ j)
              have hmu := hmu.mono (Nat.le_succ j)
              go_wp2_with fail
              go_roundw
              case rel => exact ⟨j + 1, many, _, _, _, by omega, by go_num, rfl, hm, hI2, hmn, hmu, hX⟩
              case measure => simp [intOf]; omega
            · obtain ⟨f1, f2, hI2⟩ := hI.take ok2 g1 g2 g3 g4 g5 g6 g7
              have hkn : k < n := by rw [← hI.ln]; exact g1
              have hgb := hI.ok.g0 k
              rw [← g3] at hgb
              have wk : (Lit.int .i64 (k : Int)).wf = true := ky_wf (by omega) (by omega)
              have wg : (Lit.int .u32 g).wf = true := WalkArith.wf_u32 ⟨by omega, by omega⟩
              have lU := hmu.look (t := 48) (key := .int .i64 (k : Int)) (a := (k : Int)) kI Tryd.underlying48 (kof wk) trivial
              have lN := hmn.look (t := 47) (key := .agg #[.int .i64 (k : Int), .int .u32 g]) (a := ((k : Int), g)) kN Tryd.underlying47 (nk_of wk wg) ⟨wk, wg⟩
              rw [f1] at lU
              rw [f2] at lN
              have hml := hI2.le
              have HI := hide hI2.next
              have HU := hide hmu
              have HN := hide hmn
              have HM := hide hm
              have HX := hide hX
              clear hc r0 hz hk hI hI2 f1 f2 g1 g2 g3 g4 g5 g6 g7 hm hmn hmu hX ok2 lkU
              go_wp2_with (first
                | (at_mapUpdate; refine wpList_put rfl _ _ _ 47 rfl kN Tryd.underlying47 rfl HN.out (by unfold maxLen; omega) _ ((k : Int), g) true rfl rfl (nk_of wk wg) (nk_key _ _) (nkp_inj ⟨wk, wg⟩) ?_; intro w12 hmn hg12; have HU2 := hide (HU.out.grown hg12 mn3.symm); have HN2 := hide hmn; clear hmn; go_frame)
                | (at_mapUpdate; refine wpList_put rfl _ _ _ 48 rfl kI Tryd.underlying48 rfl HU2.out (by unfold maxLen; omega) _ (k : Int) true rfl rfl (kof wk) (ky_key _) (ky_inj _) ?_; intro w13 hmu hg13; go_frame)
                | go_in)
              have hno := HN.out.noC
              have hno2 := HU2.out.noC
              have hm := (HM.out.grown hg12 hno (by have := HB0.out; omega)).grown hg13 hno2 (by have := HB0.out; omega)
              have hX := Ext.grown (Ext.grown HX.out hg12 (fun q hq => by cases hq; omega)) hg13 (fun q hq => by cases hq; omega)
              have hmn := HN2.out.grown hg13 mn3
              go_meet
              case rel => exact ⟨many + 1, _, _, _, by go_num, hm, HI.out, hmn, hmu, hX⟩
      case rest =>
        clear hm hX hz r0 r1 r2 hI hmn hmu lkU
        obtain ⟨many', S', u', v', rfl, hm, hI, hmn, hmu, hX⟩ := hcut
        have hle := hI.le
        have hgn := hide hI.gone
        have hmm2 := hide hI.mn
        have hln := hide hI.ln
        have HI := hide hI
        have ok9 := hI.ok
        clear hI
        go_wp2_with fail
        refine (inuse_any hm ok9).mono ?_
        rw [← hmm2.out]
        rintro e w9 ⟨v9, rfl, hown, hx⟩
        obtain ⟨A9, c9, rfl⟩ := own_sl hown
        have hm := hm.ext hx
        have hmn := hmn.ext hx
        have hmu := hmu.ext hx
        have hX := hX.trans hx
        clear hx hown
        go_wp2_with fail
        refine (left_any hm ok9).mono ?_
        rw [hln.out, hgn.out]
        rintro e w10 ⟨rfl, hx⟩
        have hm := hm.ext hx
        have hmn := hmn.ext hx
        have hmu := hmu.ext hx
        have hX := hX.trans hx
        clear hx hgn hmm2 hln ok9
        go_wp2_with fail
        go_roundw
        case rel => exact ⟨j + 1, many', _, _, _, by omega, by go_num, rfl, hm, HI.out, hmn, hmu, hX⟩
        case measure => simp [intOf]; omega
    · obtain rfl : j = min n0 120 := by omega
      go_wp2_with fail
      refine (alive_any _ (hT.ext hX)).mono ?_
      rintro e w1 ⟨rfl, hx⟩
      go_wp2_with fail
      go_ret
      exact ⟨rfl, hX.trans hx⟩
theorem slotsOnce_walk {H : Type} {enc : TypeId × Value → H} (W : World) (base : Nat) (args : Array Value) (ds : List (DataW H)) (p : List MemPlace) (hG : Tb W)
    (hval0 : ∀ (j : Nat) t v, Tryd.f4.params[j]? = some t → args[j]? = some v → Value.okWide Tryd.prog W .any base t v)
    (hA0 : DataW.TrodAll enc Tryd.prog W 0 (fun _ => true) true Tryd.f4.params.toList args.toList ds p) (_hlt : ∀ x ∈ p, x.block < W.heap.size) :
    Calls Tryd.prog 4 args W fun e W' => e = .returned (.bool true) ∧ Ext W W' := by
  have hval := hval0
  have hA := hA0
  rw [Tryd.params4] at hA hval
  clear hval0 hA0
  obtain ⟨v0, v1, v2, d0, d1, d2, p0, p1, p2, hargs, rfl, rfl, h0, h1, h2⟩ := trodAll_three hA
  obtain rfl : args = #[v0, v1, v2] := by cases args; simp_all
  obtain ⟨x, rfl, rfl, rfl, wx⟩ := open_int Tryd.underlying5 (hval 0 5 v0 rfl rfl) h0
  obtain ⟨y, rfl, rfl, rfl, wy⟩ := open_int Tryd.underlying5 (hval 1 5 v1 rfl rfl) h1
  obtain ⟨A, n, c, f, rfl, hn, hc, hs, hf⟩ := open_steps (hval 2 22 v2 rfl rfl) h2
  have bx := bounds_u8 wx
  have by_ := bounds_u8 wy
  obtain ⟨x, rfl⟩ := Int.eq_ofNat_of_zero_le bx.1
  obtain ⟨y, rfl⟩ := Int.eq_ofNat_of_zero_le by_.1
  exact lonce_any x y A n c f W hG (by omega) (by omega) hn hc hs hf
set_option maxRecDepth 100000 in
theorem slotsOnce_lifted (os : Os) (started : os.Started) (H : Type) (enc : TypeId × Value → H) :
    ReturnsInHanded {} Tryd.checked os 4 .any (fun w args => (Rows.slotsOnceSpec.pre enc Tryd.prog Tryd.f4 [] false w args ∧ laidMetH Tryd.prog laidL w) ∧ sizedMet enc Tryd.prog Tryd.f4 (OpenSpec.ofChange Rows.slotsOnceSpec) false w args) (Rows.slotsOnceSpec.post enc Tryd.prog Tryd.f4 false true false false) :=
  law_lifted_laid (fn := Tryd.f4) 4 os started (by kernel_rfl) Tryd.func4 rfl rfl Tryd.underlying4 (hread_of (by kernel_rfl))
    (fun l hl => by
      have hl2 : l.length = 3 := hl
      clear hl
      match l, hl2 with
      | [_, _, _], _ => rfl)
    (ChangeSpec.witness_shaped (enc := enc) (C := Tryd.checked) (os := os) (X := fun w _ => laidMetH Tryd.prog laidL w) false (World.doorLaid Tryd.prog 100 os) #[.int .u8 0, .int .u8 0, .slice none 0 0] 8 rfl (World.shaped_of_RefB (by kernel_rfl) (by kernel_rfl)) (by kernel_rfl) (by kernel_rfl) (by kernel_rfl) (door_met os _))
    (fun W base args ds p hG hval hA hlt => slotsOnce_walk W base args ds p hG hval hA hlt)
theorem slotsOnce_row : Rows.SlotsOnceSaid :=
  OpenClaim.holds_of_wide 4 Tryd.f4 rfl rfl rfl rfl rfl rfl rfl ⟨rfl, rfl, rfl, rfl, rfl⟩ rfl rfl rfl rfl rfl (by kernel_rfl) Tryd.func4 (by kernel_rfl)
    (of_decide_eq_true (by kernel_rfl)) (by unfold Func.isWrapper; rw [if_neg (of_decide_eq_false (by kernel_rfl))]; exact ⟨rfl, rfl⟩)
    (fun os started H enc _ => slotsOnce_lifted os started H enc)
theorem slotsOnce_holds : Rows.SlotsOnceCardSaid :=
  Claim7.holds_tied_plain_at .later [] Rows.slotsOnceCard.laidKinds true Rows.slotsOnceCard.stood.harness false
    slotsOnce_row (fun _ h => by cases h) (by kernel_rfl) (fun _ h => by cases h) slotsOnce_row_tie rfl ⟨rfl, rfl⟩ (by kernel_rfl) rfl
    (fun f fn hf hfn => by
      obtain rfl : f = 4 := Option.some.inj ((show Tryd.prog.funcNamed Tryd.f4.name = some 4 by kernel_rfl).symm.trans hf) |>.symm
      obtain rfl : fn = Tryd.f4 := (Option.some.inj (Tryd.func4.symm.trans hfn)).symm
      exact ⟨by kernel_rfl, fun j t ht => by
        rw [Tryd.params4] at ht
        have hm : t ∈ [5, 5, 22] := by simpa using Array.mem_of_getElem? ht
        have hall : ([5, 5, 22].all fun u => !Tryd.prog.wantsStandIn u) = true := by kernel_rfl
        exact (show Tryd.prog.wantsStandIn t = false by simpa using List.all_eq_true.1 hall t hm)⟩)
    (by kernel_rfl)
end Go.Proofs.YtpadepamknbkoaaDoor
