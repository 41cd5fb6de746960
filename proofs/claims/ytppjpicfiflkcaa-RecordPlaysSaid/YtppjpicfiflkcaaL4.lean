/-
  A law of layer 9 holds of every input: RecordPlays. No condition.
-/
import Derived.Test.YtppjpicfiflkcaaT1
import Derived.Deep.RegionHeld3
namespace Go.Proofs.Ytppjpicfiflkcaa
open Go.ChangeShapes Go.WideShapes Go.ChangeAt Go.RowKit Go.Deep Go.Joins
set_option linter.unusedVariables false
set_option linter.unusedSimpArgs false
set_option maxRecDepth 100000

/-- A stack and the document's lie apart. -/
theorem St.apart {w : World} {M g R h : Nat} {N N2 : Int} {l m : List Rec} (a : St 58 38 w M g N l) (b : St 29 41 w R h N2 m) : (R ∉ [M, g] ∧ h ∉ [M, g]) ∧ (M ∉ [R, h] ∧ g ∉ [R, h]) := by
  obtain ⟨v, hM, ha⟩ := a
  obtain ⟨u, hR, hb⟩ := b
  have n1 : R ≠ M := by rintro rfl; exact absurd (Blk.type hR hM) (by decide)
  rcases ha with ⟨_, _, rfl⟩ | ⟨c1, d1, _, _, hg, _⟩
  · rcases hb with ⟨_, _, rfl⟩ | ⟨c2, d2, _, _, hh, _⟩
    · simp; omega
    · have n2 : h ≠ g := by rintro rfl; exact absurd (Blk.type hh hM) (by decide)
      simp; omega
  · have n2 : R ≠ g := by rintro rfl; exact absurd (Blk.type hR hg) (by decide)
    rcases hb with ⟨_, _, rfl⟩ | ⟨c2, d2, _, _, hh, _⟩
    · simp; omega
    · have n3 : h ≠ g := by rintro rfl; exact absurd (Blk.type hh hg) (by decide)
      have n4 : h ≠ M := by rintro rfl; exact absurd (Blk.type hh hM) (by decide)
      simp; omega
set_option maxHeartbeats 8000000 in
theorem lplays_any (C : Int) (A : Option Addr) (n c : Nat) (f : Nat → Stp) (w : World) (hn : n ≤ c) (hc : c ≤ maxLen) (hs : Stps w w.heap.size A n f) (hf : ∀ k, k < n → Okst (f k)) :
    Calls Try.prog 3 #[.int .i64 C, .slice A n c] w fun e w' => e = .returned (.bool true) ∧ Ext w w' := by
  have HF := hide hf
  clear hf
  by_cases hmay : 1 ≤ C ∧ C ≤ 512
  · obtain ⟨h1, h2⟩ := hmay
    obtain ⟨N, rfl⟩ := Int.eq_ofNat_of_zero_le (show 0 ≤ C by omega)
    have h0 : (0 : Int) < (N : Int) := by omega
    have h5 : (N : Int) ≤ 512 := by omega
    go_enter Try.func3, Try.ntmps3
    go_wp2_with fail
    refine (new_in N _ (by omega) (by omega)).mono ?_
    rintro e w1 ⟨M, rfl, hm, hM, hX⟩
    go_wp2_with fail
    refine (rnew_in N _ (by omega) (by omega)).mono ?_
    rintro e w2 ⟨rfl, hx⟩
    have hY := hx.trans (Ext.alloc w2 (.cells #[.int .i64 (N : Int), .slice none 0 0] 29))
    have hr : St 29 41 (w2.alloc (.cells #[.int .i64 (N : Int), .slice none 0 0] 29)) w2.heap.size w2.heap.size (N : Int) [] := ⟨_, Blk.new w2 _ _, .inl ⟨rfl, rfl, rfl⟩⟩
    have hR : w.heap.size ≤ w2.heap.size := by have := (hX.trans hx).size; exact this
    have hm := hm.ext hY
    have hX := hX.trans hY
    clear hx hY
    go_wp2_with fail
    generalize w2.alloc (.cells #[.int .i64 (N : Int), .slice none 0 0] 29) = w3 at *
    generalize w2.heap.size = R at *
    refine (short_any A n c _ hn hc).mono ?_
    rintro e w4 ⟨rfl, rfl⟩
    go_wp2_with fail
    go_loopw [57] (fun i wr => ∃ (j g h : Nat) (l : List Rec), j ≤ min n 200 ∧ i = .int .i64 j ∧ St 58 38 wr M g N l ∧ St 29 41 wr R h N l ∧ (l.length : Int) ≤ N ∧ w.heap.size ≤ g ∧ w.heap.size ≤ h ∧ Ext w wr) (fun i _ => min n 200 - (intOf i).toNat)
    case atStart => exact ⟨0, M, R, [], by omega, rfl, hm, hr, by simp, hM, hR, hX⟩
    case round =>
      clear hm hX hr
      obtain ⟨j, g, h, l, hj, rfl, hm, hr, hl, hg, hh, hX⟩ := hrel
      by_cases hlt : j < min n 200
      · have hj2 : j < n := by omega
        obtain ⟨b, off, rfl, hb, r0, r1, r2⟩ := (hs.chg hX (Nat.le_refl _)).rules hj2
        have hok := HF.out j hj2
        have k0 := hok.k0
        have k1 := hok.k1
        have hl1 : l.length ≤ 1000 := by omega
        have a1 := hm.ltM
        have a2 := hm.ltg
        have a3 := hr.ltM
        have a4 := hr.ltg
        have hz := Blk.new wr #[.int .u8 (f j).k, .int .i64 (f j).n, .int .u64 (f j).s] 36
        have ZM := hide (show wr.heap.size ∉ [M, g] by simp; omega)
        have ZR := hide (show wr.heap.size ∉ [R, h] by simp; omega)
        have hY := Ext.alloc wr (.cells #[.int .u8 (f j).k, .int .i64 (f j).n, .int .u64 (f j).s] 36)
        have hm := hm.ext hY
        have hr := hr.ext hY
        have hX := hX.trans hY
        have AP := hide (hm.apart hr)
        have LM := hide (low2 hM hg)
        have LR := hide (low2 hR hh)
        clear hY hok a1 a2 a3 a4
        go_upto_block 2 with fail
        obtain ⟨Z, hZ⟩ : ∃ Z, Z = wr.heap.size := ⟨_, rfl⟩
        rw [← hZ] at hz ZM ZR ⊢
        clear hZ
        generalize wr.alloc (.cells #[.int .u8 (f j).k, .int .i64 (f j).n, .int .u64 (f j).s] 36) = w5 at *
        go_cut [11, 63] (fun v k5 wc => v = .bool true ∧ ∃ (g' h' : Nat) (l' : List Rec), St 58 38 wc M g' N l' ∧ St 29 41 wc R h' N l' ∧ (l'.length : Int) ≤ N ∧ w.heap.size ≤ g' ∧ w.heap.size ≤ h' ∧ Ext w wc ∧ Blk wc Z #[.int .u8 (f j).k, .int .i64 (f j).n, .int .u64 (f j).s] 36)
        case first =>
          by_cases q1 : (f j).k % 4 = 1
          · obtain ⟨⟨ro, rs⟩, hgr⟩ : ∃ x, getR N l (topI l (f j).n) = x := ⟨_, rfl⟩
            obtain ⟨er, her⟩ : ∃ x, erA N l (topI l (f j).n) = x := ⟨_, rfl⟩
            have p1 := pop_any (a := (f j).n) hm hl1
            rw [hgr, her] at p1
            have HG := hide hgr
            have HE := hide her
            have r0 := hz.cell
            have HR := hide hr
            have HX := hide hX
            have HZ := hide hz
            clear hgr her hm hr hX hz
            go_wp2_with fail
            refine p1.mono ?_
            rintro e w6 ⟨rfl, hm, hc⟩
            have hY := Ext.alloc w6 (.cells #[.int .i64 ro, .int .u64 rs] 38)
            have hr := (HR.out.chg hc AP.out.1.1 AP.out.1.2).ext hY
            have hX := (HX.out.turn hc LM.out).trans hY
            have hz := (HZ.out.chg hc ZM.out).ext hY
            have hm := hm.ext hY
            have bx := Blk.new w6 #[.int .i64 ro, .int .u64 rs] 38
            have x1 := hr.ltM
            have x2 := hr.ltg
            have p2 := rpop_any (a := (f j).n) hr hR hh h0 hl1
            rw [HG.out, HE.out] at p2
            have HX := hide hX
            have HZ := hide hz
            have HM := hide hm
            have HBX := hide bx
            have y0 := HR.out.chg hc AP.out.1.1 AP.out.1.2
            have y1 := y0.ltM
            have y2 := y0.ltg
            have r0 := hz.cell
            clear p1 hY hr hX hz hm bx hc y0
            go_wp2_with fail
            refine p2.mono ?_
            rintro e w7 ⟨rfl, h2, hr, hh2, hc⟩
            have hY := Ext.alloc w7 (.cells #[.int .i64 ro, .int .u64 rs] 41)
            have hm := (HM.out.chg hc AP.out.2.1 AP.out.2.2).ext hY
            have hX := (HX.out.turn hc LR.out).trans hY
            have hz := (HZ.out.chg hc ZR.out).ext hY
            have bx := (HBX.out.chg hc (by simp; omega)).ext hY
            have hr := hr.ext hY
            have rx := bx.cell
            have hE := run_eqRS ro rs
            have HM := hide hm
            have HR := hide hr
            have HX := hide hX
            have HZ := hide hz
            have pl := popL_len N l (f j).n
            clear p2 hY hm hX hz bx hr hc r0
            go_wp2_with fail
            go_meet
            case rel => exact ⟨rfl, g, h2, _, HM.out, HR.out, by omega, hg, hh2, HX.out, HZ.out⟩
          · by_cases q2 : (f j).k % 4 = 2
            · have S0 := hz.cell
              go_wp2_with fail
              go_region_held3 (fun w' => w'.cell? ⟨Z, 1, none⟩ = some (.int .i64 (f j).n) ∧ w'.cell? ⟨Z, 2, none⟩ = some (.int .u64 (f j).s)) (first | exact ⟨hz.cell 1, hz.cell 2⟩ | exact ⟨(hz.ext (Ext.drew _)).cell 1, (hz.ext (Ext.drew _)).cell 2⟩)
                (first | (go_at_call 13; refine (save_any (f j).s (hm.ext (Ext.drew _))).mono ?_; rintro e w6 ⟨rfl, hm, hc⟩; have hr := (hr.ext (Ext.drew _)).chg hc AP.out.1.1 AP.out.1.2; have hX := (hX.trans (Ext.drew _)).turn hc LM.out; have hz := (hz.ext (Ext.drew _)).chg hc ZM.out; clear hc) | (go_at_call 14; refine (rsave_any (f j).s hr h0).mono ?_; rintro e w7 ⟨rfl, hr, hc⟩; have hm := hm.chg hc AP.out.2.1 AP.out.2.2; have hX := hX.turn hc LR.out; have hz := hz.chg hc ZR.out; clear hc))
              have sl := savL_len N (f j).n (f j).s l
              go_wp2_with fail
              go_meet
              case rel => exact ⟨by simp, g, h, _, hm, hr, by omega, hg, hh, hX, hz⟩
            · have p1 := push_any (a := (f j).n) (f j).s hm hM hg hl h5
              have r0 := hz.cell
              have HR := hide hr
              have HX := hide hX
              have HZ := hide hz
              have pc := pushL_cap (N := (N : Int)) (f j).n (f j).s hl
              clear hm hr hX hz
              go_wp2_with fail
              refine p1.mono ?_
              rintro e w6 ⟨rfl, g2, hm, hg2, hc⟩
              have hr := HR.out.chg hc AP.out.1.1 AP.out.1.2
              have hX := HX.out.turn hc LM.out
              have hz := HZ.out.chg hc ZM.out
              have AP2 := hide (hm.apart hr)
              have p2 := rpush_any (a := (f j).n) (f j).s hr hR hh h0 hl h5
              have HX := hide hX
              have HZ := hide hz
              have HM := hide hm
              have r0 := hz.cell
              clear p1 hr hX hz hm hc
              go_wp2_with fail
              refine p2.mono ?_
              rintro e w7 ⟨rfl, h2, hr, hh2, hc⟩
              have HM := hide (HM.out.chg hc AP2.out.2.1 AP2.out.2.2)
              have HX := hide (HX.out.turn hc LR.out)
              have HZ := hide (HZ.out.chg hc ZR.out)
              have HR := hide hr
              clear p2 hr hc r0
              go_wp2_with fail
              go_meet
              case rel => exact ⟨by simp, g2, h2, _, HM.out, HR.out, pc, hg2, hh2, HX.out, HZ.out⟩
        case rest =>
          obtain ⟨rfl, g', h', l', hm, hr, hl, hg, hh, hX, hz⟩ := hcut
          have p1 := told_any (a := (f j).n) hm hr h0 (by omega)
          have r0 := hz.cell
          have HM := hide hm
          have HR := hide hr
          clear hm hr
          go_wp2_with fail
          refine p1.mono ?_
          rintro e w6 ⟨rfl, hx⟩
          have hm := HM.out.ext hx
          have hr := HR.out.ext hx
          have hX := hX.trans hx
          clear p1 hz r0 hx
          go_wp2_with fail
          go_roundw
          case rel => exact ⟨j + 1, g', h', l', by omega, by go_num, hm, hr, hl, hg, hh, hX⟩
          case measure => simp [intOf]; omega
      · clear hm hr
        go_wp2_with fail
        refine (alive_any _).mono ?_
        rintro e w5 ⟨rfl, hx⟩
        go_wp2_with fail
        go_ret
        exact ⟨rfl, hX.trans hx⟩
  · by_cases h1 : 1 ≤ C
    · have h2 : ¬ C ≤ 512 := by omega
      go_enter Try.func3, Try.ntmps3
      go_wp2_with fail
      refine (new_out C _ hmay).mono ?_
      rintro e w1 ⟨rfl, rfl⟩
      go_wp2_with fail
      refine (rnew_out C _ hmay).mono ?_
      rintro e w2 ⟨rfl, hX⟩
      go_wp2_with fail
      refine (alive_any _).mono ?_
      rintro e w3 ⟨rfl, hx⟩
      go_wp2_with fail
      go_ret
      exact ⟨rfl, (hX.trans (Ext.alloc _ _)).trans hx⟩
    · go_enter Try.func3, Try.ntmps3
      go_wp2_with fail
      refine (new_out C _ hmay).mono ?_
      rintro e w1 ⟨rfl, rfl⟩
      go_wp2_with fail
      refine (rnew_out C _ hmay).mono ?_
      rintro e w2 ⟨rfl, hX⟩
      go_wp2_with fail
      refine (alive_any _).mono ?_
      rintro e w3 ⟨rfl, hx⟩
      go_wp2_with fail
      go_ret
      exact ⟨rfl, (hX.trans (Ext.alloc _ _)).trans hx⟩

set_option maxRecDepth 100000 in
theorem recordPlays_walk {H : Type} {enc : TypeId × Value → H} (W : World) (base : Nat) (args : Array Value) (ds : List (DataW H)) (p : List MemPlace)
    (hval0 : ∀ (j : Nat) t v, Try.f3.params[j]? = some t → args[j]? = some v → Value.okWide Try.prog W .any base t v)
    (hA0 : DataW.TrodAll enc Try.prog W 0 (fun _ => true) true Try.f3.params.toList args.toList ds p) (_hlt : ∀ x ∈ p, x.block < W.heap.size) :
    Calls Try.prog 3 args W fun e W' => e = .returned (.bool true) ∧ Ext W W' := by
  have hval := hval0
  have hA := hA0
  rw [Try.params3] at hA hval
  clear hval0 hA0
  obtain ⟨v0, v1, d0, d1, p0, p1, hargs, rfl, rfl, h0, h1⟩ := trodAll_two hA
  obtain rfl : args = #[v0, v1] := by cases args; simp_all
  obtain ⟨y, rfl, rfl, rfl, wy⟩ := open_int Try.underlying3 (hval 0 3 v0 rfl rfl) h0
  obtain ⟨A, n, c, f, rfl, hn, hc, hs, hf⟩ := open_steps (hval 1 22 v1 rfl rfl) h1
  exact lplays_any y A n c f W hn hc hs hf
set_option maxRecDepth 100000 in
theorem recordPlays_lifted (os : Os) (started : os.Started) (H : Type) (enc : TypeId × Value → H) :
    ReturnsInHanded {} Try.checked os 3 .any (Rows.recordPlaysSpec.pre6 enc Try.prog Try.f3 Rows.recordPlaysRow.domain false) (Rows.recordPlaysSpec.post enc Try.prog Try.f3 false true false false) :=
  law_lifted (fn := Try.f3) 4 os started (by kernel_rfl) Try.func3 rfl rfl Try.underlying4 (hread_of (by kernel_rfl))
    (fun l hl => by
      have hl2 : l.length = 2 := hl
      clear hl
      match l, hl2 with
      | [_, _], _ => rfl)
    (ChangeSpec.witness6 (enc := enc) (C := Try.checked) false ⟨#[], #[.int .i64 0, .slice none 0 0], []⟩ 8 (by kernel_rfl) (by kernel_rfl) (by kernel_rfl) (by kernel_rfl))
    (fun W base args ds p hval hA hlt => recordPlays_walk W base args ds p hval hA hlt)
theorem recordPlays_holds : Rows.RecordPlaysSaid :=
  OpenClaim.holds_of_wide 3 Try.f3 rfl rfl rfl rfl rfl rfl rfl ⟨rfl, rfl, rfl, rfl, rfl⟩ rfl rfl rfl rfl rfl (by kernel_rfl) Try.func3 (by kernel_rfl)
    (of_decide_eq_true (by kernel_rfl)) (by unfold Func.isWrapper; rw [if_neg (of_decide_eq_false (by kernel_rfl))]; exact ⟨rfl, rfl⟩)
    (fun os started H enc _ => recordPlays_lifted os started H enc)
end Go.Proofs.Ytppjpicfiflkcaa
