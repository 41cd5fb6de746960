/-
  A law of layer 12 holds of every input: QueuePlays. No condition.
-/
import Derived.Test.YtnmegokppbdhdaaB1
import Derived.Deep.DeepCutAuto
import Derived.Deep.CutBlock
namespace Go.Proofs.Ytnmegokppbdhdaa
open Go.ChangeShapes Go.WideShapes Go.ChangeAt Go.RowKit Go.Deep Go.Joins
set_option linter.unusedVariables false
set_option linter.unusedSimpArgs false
set_option maxRecDepth 100000

theorem okst_ext {W w : World} {s : Stp} (h : Okst W s) (x : Ext W w) : Okst w s := ⟨h.k0, h.k1, h.n0, h.c.ext x, h.len, h.cap, h.wf⟩
set_option maxHeartbeats 4000000 in
theorem plays_any {W : World} {A : Option Addr} {n c : Nat} {f : Nat → Stp} (hs : Stps W A n f) (hf : ∀ k, k < n → Okst W (f k)) (hn : n ≤ c) (hc : c ≤ maxLen) :
    Calls Try.prog 3 #[.slice A n c] W fun e w' => e = .returned (.bool true) ∧ Ext W w' := by
  obtain ⟨m, hm⟩ : ∃ m, m = min n 100 := ⟨_, rfl⟩
  have hfar := far_any hs hf hn hc hm
  have HF := hide hf
  clear hf
  cases e : decide (500 < farN f m) with
  | true =>
    rw [e] at hfar
    go_enter Try.func3, Try.ntmps3
    go_wp2_with fail
    refine hfar.mono ?_
    rintro e w1 ⟨rfl, hx⟩
    go_wp2_with fail
    refine (alive_any _).mono ?_
    rintro e w2 ⟨rfl, hx2⟩
    go_wp2_with fail
    go_ret
    exact ⟨rfl, hx.trans hx2⟩
  | false =>
    rw [e] at hfar
    have HL := hide (show ∀ k, k < m → (f k).ch.length ≤ 500 by
      intro k hk
      have h1 := farN_one f hk
      have h2 := of_decide_eq_false e
      omega)
    clear e
    go_enter Try.func3, Try.ntmps3
    go_wp2_with fail
    refine hfar.mono ?_
    rintro e w1 ⟨rfl, hx⟩
    clear hfar
    go_wp2_with fail
    refine (short_any A n c _ hn hc).mono ?_
    rintro e w2 ⟨rfl, rfl⟩
    rw [← hm]
    have hi0 : Bx (w1.alloc (Obj.cells #[.slice none 0 0] 27)) w1.heap.size [] := Bx.newN (Row.nil _)
    have hX0 := hx.trans (Ext.alloc w1 (Obj.cells #[.slice none 0 0] 27))
    obtain ⟨Q, hQ⟩ : ∃ Q, Q = w1.heap.size := ⟨_, rfl⟩
    rw [← hQ] at hi0 ⊢
    have HQ := hide (show W.heap.size ≤ Q by have := hx.size; omega)
    have HM := hide (show m ≤ n by omega)
    have HM2 := hide (show m ≤ 100 by omega)
    clear hx hm hQ
    go_wp2_with fail
    go_loopw [4, 29] (fun v i wr => ∃ (j : Nat) (xs : List Int) (A2 : Option Addr) (c2 : Nat), j ≤ m ∧ v = .slice A2 xs.length c2 ∧ i = .int .i64 (j : Int) ∧ Bx wr Q xs ∧ Row wr A2 xs.length c2 xs ∧ OkQ xs ∧ Ext W wr) (fun _ i _ => m - (intOf i).toNat)
    case atStart => exact ⟨0, [], none, 0, by omega, rfl, rfl, hi0, Row.nil _, okq_nil, hX0⟩
    case round =>
      clear hi0 hX0
      obtain ⟨j, xs, A1, c1, hj, rfl, rfl, hb, hr, ok, hX⟩ := hrel
      by_cases hlt : j < m
      · have hj2 : j < n := by have := HM.out; omega
        obtain ⟨b, off, rfl, r0, r1, r2⟩ := hs.rules hj2
        have okx := okst_ext (HF.out j hj2) hX
        have hcl := HL.out j hlt
        obtain ⟨x, hx⟩ : ∃ x, x = f j := ⟨_, rfl⟩
        rw [← hx] at r0 r1 r2 okx hcl
        clear hx
        have r0 := r0 wr hX
        have r1 := r1 wr hX
        have r2 := r2 wr hX
        have k0 := okx.k0
        have k1 := okx.k1
        have hl := ok.len
        have hY := Ext.alloc wr (.cells #[.int .u8 x.k, .int .i64 x.n, .slice x.a x.ch.length x.cp] 30)
        have hz := Blk.new wr #[.int .u8 x.k, .int .i64 x.n, .slice x.a x.ch.length x.cp] 30
        obtain ⟨Z, hZ⟩ : ∃ Z, Z = wr.heap.size := ⟨_, rfl⟩
        obtain ⟨A2, c2, hb1, hb2⟩ := hb.ext hY
        have hr := hr.ext hY
        have hX := hX.trans hY
        have okx := okst_ext okx hY
        have HZQ := hide (show Z ≠ Q by have := hb.lt; omega)
        rw [← hZ] at hz
        clear hb
        go_upto_block 2 with fail
        rw [← hZ]
        clear hZ
        generalize wr.alloc (.cells #[.int .u8 x.k, .int .i64 x.n, .slice x.a x.ch.length x.cp] 30) = w0 at *
        have hzr := hz.rule
        have hqr := hb1.rule
        have hx0 := Ext.refl w0
        go_cut [4, 7, 35] (fun r k7 k35 wc => ∃ (ys : List Int) (A3 : Option Addr) (c3 : Nat), r = .slice A3 ys.length c3 ∧ k7 = .bool true ∧ Bx wc Q ys ∧ Row wc A3 ys.length c3 ys ∧ OkQ ys ∧ Ext W wc ∧ Blk wc Z #[.int .u8 x.k, .int .i64 x.n, .slice x.a x.ch.length x.cp] 30)
        case first =>
          by_cases p0 : x.k % 4 = 0
          · have hcall := append_any x.n hb2 ok
            go_wp2_with fail
            refine hcall.mono ?_
            rintro e w1 ⟨A3, c3, rfl, hr3, hx, _⟩
            have hx2 := hx.trans (Ext.alloc w1 (Obj.cells #[.slice A3 (apL xs x.n).length c3] 27))
            have hrc := rappend_any x.n (hr.ext hx2) ok
            have hbx := Blk.new w1 #[Value.slice A3 (apL xs x.n).length c3] 27
            have hr3 := hr3.ext (Ext.alloc w1 (Obj.cells #[.slice A3 (apL xs x.n).length c3] 27))
            clear hcall hx
            go_wp2_with fail
            refine hrc.mono ?_
            rintro e w3 ⟨A4, c4, rfl, hr4, hx3⟩
            have hx4 := hx2.trans hx3
            have hq3 := (hb1.ext hx4).cell
            have hq3f := (hb1.ext hx4).free
            have hbx3 := (hbx.ext hx3).cell
            have HR3 := hide (hr3.ext hx3)
            have HR4 := hide hr4
            have HX4 := hide hx4
            clear hrc hbx hr3 hr4 hx3 hx2 hx4 hqr hzr hx0
            go_wp2_with fail
            go_meet
            case rel => exact ⟨apL xs x.n, A4, c4, rfl, by simp [hasQ], Bx.store (hb1.ext HX4.out) HR3.out, HR4.out.set (hb1.ext HX4.out) (by decide), ok.ap _, (hX.trans HX4.out).set (p := ⟨Q, 0, none⟩) HQ.out _, (hz.ext HX4.out).far (p := ⟨Q, 0, none⟩) HZQ.out _⟩
          · by_cases p1 : x.k % 4 = 1
            · have hcall := drain_any hb2 ok okx.c (by omega) okx.wf (c2 := x.cp)
              go_wp2_with fail
              refine hcall.mono ?_
              rintro e w1 ⟨A3, c3, rfl, hr3, hx⟩
              have hx2 := hx.trans (Ext.alloc w1 (Obj.cells #[.slice A3 (drL xs x.ch).length c3] 27))
              have hrc := rdrain_any (hr.ext hx2) ok (okx.c.ext hx2) (by omega) (c2 := x.cp)
              have hbx := Blk.new w1 #[Value.slice A3 (drL xs x.ch).length c3] 27
              have hr3 := hr3.ext (Ext.alloc w1 (Obj.cells #[.slice A3 (drL xs x.ch).length c3] 27))
              clear hcall hx
              go_wp2_with fail
              refine hrc.mono ?_
              rintro e w3 ⟨A4, c4, rfl, hr4, hx3⟩
              have hx4 := hx2.trans hx3
              have hq3 := (hb1.ext hx4).cell
              have hq3f := (hb1.ext hx4).free
              have hbx3 := (hbx.ext hx3).cell
              have HR3 := hide (hr3.ext hx3)
              have HR4 := hide hr4
              have HX4 := hide hx4
              clear hrc hbx hr3 hr4 hx3 hx2 hx4 hqr hzr hx0
              go_wp2_with fail
              go_meet
              case rel => exact ⟨drL xs x.ch, A4, c4, rfl, by simp [hasQ], Bx.store (hb1.ext HX4.out) HR3.out, HR4.out.set (hb1.ext HX4.out) (by decide), ok.dr _ _, (hX.trans HX4.out).set (p := ⟨Q, 0, none⟩) HQ.out _, (hz.ext HX4.out).far (p := ⟨Q, 0, none⟩) HZQ.out _⟩
            · by_cases p2 : x.k % 4 = 2
              · cases xs with
                | nil =>
                  have hcall := pop_any hb2 ok
                  simp only [List.tail_nil, List.length_nil] at hcall hqr ⊢
                  rw [show hdQ [] = -1 from rfl, show neQ [] = false from rfl] at hcall
                  go_wp2_with fail
                  refine hcall.mono ?_
                  rintro e w1 ⟨A3, c3, rfl, hr3, hx⟩
                  have hx2 := hx.trans (Ext.alloc w1 (Obj.cells #[.slice A3 0 c3] 27))
                  have hq3 := (hb1.ext hx2).cell
                  have hq3f := (hb1.ext hx2).free
                  have hbx3 := (Blk.new w1 #[Value.slice A3 0 c3] 27).cell
                  have HR3 := hide (hr3.ext (Ext.alloc w1 (Obj.cells #[.slice A3 0 c3] 27)))
                  have HX4 := hide hx2
                  clear hcall hx hx2 hr3 hqr hzr hx0
                  go_wp2_with fail
                  go_meet
                  case rel => exact ⟨[], A1, c1, rfl, by simp, Bx.store (hb1.ext HX4.out) HR3.out, (hr.ext HX4.out).set (hb1.ext HX4.out) (by decide), ok, (hX.trans HX4.out).set (p := ⟨Q, 0, none⟩) HQ.out _, (hz.ext HX4.out).far (p := ⟨Q, 0, none⟩) HZQ.out _⟩
                | cons y ys =>
                  have hcall := pop_any hb2 ok
                  simp only [List.tail_cons, List.length_cons] at hcall hqr hl hr ⊢
                  rw [show hdQ (y :: ys) = y from rfl, show neQ (y :: ys) = true by simp [neQ]] at hcall
                  obtain ⟨b9, off9, rfl, v0, v1, v2, hrr, A9, hA9, hrow9⟩ := hr.pop
                  have HR9 := hide hrow9
                  unfold maxLen at v1
                  go_wp2_with fail
                  refine hcall.mono ?_
                  rintro e w1 ⟨A3, c3, rfl, hr3, hx⟩
                  have hx2 := hx.trans (Ext.alloc w1 (Obj.cells #[.slice A3 ys.length c3] 27))
                  have hq3 := (hb1.ext hx2).cell
                  have hq3f := (hb1.ext hx2).free
                  have hbx3 := (Blk.new w1 #[Value.slice A3 ys.length c3] 27).cell
                  have hrr0 := hrr _ hx2
                  have HR3 := hide (hr3.ext (Ext.alloc w1 (Obj.cells #[.slice A3 ys.length c3] 27)))
                  have HX4 := hide hx2
                  clear hcall hx hx2 hr3 hqr hzr hx0 hrr hrow9
                  go_wp2_with fail
                  go_meet
                  case rel => exact ⟨ys, A9, c1 - 1, rfl, by simp, Bx.store (hb1.ext HX4.out) HR3.out, (HR9.out.ext HX4.out).set (hb1.ext HX4.out) (by decide), ok.tl, (hX.trans HX4.out).set (p := ⟨Q, 0, none⟩) HQ.out _, (hz.ext HX4.out).far (p := ⟨Q, 0, none⟩) HZQ.out _⟩
              · have hcall := remove_any x.n hb2 ok
                go_wp2_with fail
                refine hcall.mono ?_
                rintro e w1 ⟨A3, c3, rfl, hr3, hx⟩
                have hx2 := hx.trans (Ext.alloc w1 (Obj.cells #[.slice A3 (rmL xs x.n).length c3] 27))
                have hrc := rremove_any (t := x.n) (hr.ext hx2) ok
                have hbx := Blk.new w1 #[Value.slice A3 (rmL xs x.n).length c3] 27
                have hr3 := hr3.ext (Ext.alloc w1 (Obj.cells #[.slice A3 (rmL xs x.n).length c3] 27))
                clear hcall hx
                go_wp2_with fail
                refine hrc.mono ?_
                rintro e w3 ⟨A4, c4, rfl, hr4, hx3⟩
                have hx4 := hx2.trans hx3
                have hq3 := (hb1.ext hx4).cell
                have hq3f := (hb1.ext hx4).free
                have hbx3 := (hbx.ext hx3).cell
                have HR3 := hide (hr3.ext hx3)
                have HR4 := hide hr4
                have HX4 := hide hx4
                clear hrc hbx hr3 hr4 hx3 hx2 hx4 hqr hzr hx0
                go_wp2_with fail
                go_meet
                case rel => exact ⟨rmL xs x.n, A4, c4, rfl, by simp [hasQ], Bx.store (hb1.ext HX4.out) HR3.out, HR4.out.set (hb1.ext HX4.out) (by decide), ok.rm _, (hX.trans HX4.out).set (p := ⟨Q, 0, none⟩) HQ.out _, (hz.ext HX4.out).far (p := ⟨Q, 0, none⟩) HZQ.out _⟩
        case rest =>
          obtain ⟨ys, A3, c3, rfl, rfl, ⟨A5, c5, hb5, hr5⟩, hr3, ok5, hX5, hz5⟩ := hcut
          have hl5 := ok5.len
          have HS := hide (show ∀ w', Ext wc w' → w'.cell? ⟨Q, 0, none⟩ = some (.slice A5 ys.length c5) ∧ w'.cell? ⟨Z, 1, none⟩ = some (.int .i64 x.n) from fun w' y => ⟨hb5.rule w' y 0, hz5.rule w' y 1⟩)
          obtain ⟨s1, s2⟩ := HS.out wc (Ext.refl _)
          have AH := hide (fun w' (y : Ext wc w') => all_any (hr5.ext y) (by omega))
          have SH := hide (fun w' (y : Ext wc w') => (hr3.ext y).ch)
          have H1 := hide (fun w' (y : Ext wc w') => has_any (c := c5) x.n (hr5.ext y).ch (by omega))
          have H2 := hide (fun w' (y : Ext wc w') => rhas_any (c := c3) x.n (hr3.ext y).ch (by omega))
          have HB5 := hide hb5
          have HR5 := hide hr5
          have HR3 := hide hr3
          have HX5 := hide hX5
          generalize hasQ ys x.n = hh at *
          clear hb5 hr5 hr3 hX5 hz5 hqr hzr hx0 r0 r1 r2 hb1 hb2 hr hX hz hY okx
          go_wp2_with fail
          have hk := Ext.drew wc
          go_region_held3 (fun w' => w'.cell? ⟨Q, 0, none⟩ = some (.slice A5 ys.length c5) ∧ w'.cell? ⟨Z, 1, none⟩ = some (.int .i64 x.n)) (exact HS.out _ (by first | exact hk | exact hk.trans (Ext.drew _) | exact Ext.drew _))
            (first
              | (go_at_call 18; with_reducible refine (AH.out _ (by repeat (first | exact Ext.refl _ | assumption | exact Ext.alloc _ _ | exact Ext.drew _ | refine Ext.trans ?_ (Ext.alloc _ _) | refine Ext.trans ?_ (Ext.drew _)))).mono ?_; rintro e w6 ⟨A11, c11, rfl, hr11, hx⟩; have hk := (show Ext wc _ from (by repeat (first | exact Ext.refl _ | assumption | exact Ext.alloc _ _ | exact Ext.drew _ | refine Ext.trans ?_ (Ext.alloc _ _) | refine Ext.trans ?_ (Ext.drew _)))).trans hx)
              | (go_at_call 17; with_reducible refine (same_any hr11.ch (SH.out _ (by repeat (first | exact Ext.refl _ | assumption | exact Ext.alloc _ _ | exact Ext.drew _ | refine Ext.trans ?_ (Ext.alloc _ _) | refine Ext.trans ?_ (Ext.drew _)))) (by omega)).mono ?_; rintro e w6 ⟨rfl, hx⟩; have hk := (show Ext wc _ from (by repeat (first | exact Ext.refl _ | assumption | exact Ext.alloc _ _ | exact Ext.drew _ | refine Ext.trans ?_ (Ext.alloc _ _) | refine Ext.trans ?_ (Ext.drew _)))).trans hx)
              | (go_at_call 19; with_reducible refine (len_ext _ _ _ _).mono ?_; rintro e w6 ⟨rfl, hx⟩; have hk := (show Ext wc _ from (by repeat (first | exact Ext.refl _ | assumption | exact Ext.alloc _ _ | exact Ext.drew _ | refine Ext.trans ?_ (Ext.alloc _ _) | refine Ext.trans ?_ (Ext.drew _)))).trans hx)
              | (go_at_call 20; with_reducible refine (H1.out _ (by repeat (first | exact Ext.refl _ | assumption | exact Ext.alloc _ _ | exact Ext.drew _ | refine Ext.trans ?_ (Ext.alloc _ _) | refine Ext.trans ?_ (Ext.drew _)))).mono ?_; rintro e w6 ⟨rfl, hx⟩; have hk := (show Ext wc _ from (by repeat (first | exact Ext.refl _ | assumption | exact Ext.alloc _ _ | exact Ext.drew _ | refine Ext.trans ?_ (Ext.alloc _ _) | refine Ext.trans ?_ (Ext.drew _)))).trans hx)
              | (go_at_call 21; with_reducible refine (H2.out _ (by repeat (first | exact Ext.refl _ | assumption | exact Ext.alloc _ _ | exact Ext.drew _ | refine Ext.trans ?_ (Ext.alloc _ _) | refine Ext.trans ?_ (Ext.drew _)))).mono ?_; rintro e w6 ⟨rfl, rfl⟩))
          have HK := hide hk
          clear s1 s2
          have hm2 := HM2.out
          go_wp2_with fail
          go_roundw
          case rel => exact ⟨j + 1, ys, A3, c3, by omega, rfl, by go_num, ⟨A5, c5, HB5.out.ext HK.out, HR5.out.ext HK.out⟩, HR3.out.ext HK.out, ok5, HX5.out.trans HK.out⟩
          case measure => simp [intOf]; omega
      · obtain rfl : j = m := by omega
        go_wp2_with fail
        refine (alive_any _).mono ?_
        rintro e w3 ⟨rfl, hx⟩
        go_wp2_with fail
        go_ret
        exact ⟨rfl, hX.trans hx⟩

set_option maxRecDepth 100000 in
theorem queuePlays_walk {H : Type} {enc : TypeId × Value → H} (W : World) (base : Nat) (args : Array Value) (ds : List (DataW H)) (p : List MemPlace)
    (hval0 : ∀ (j : Nat) t v, Try.f3.params[j]? = some t → args[j]? = some v → Value.okWide Try.prog W .any base t v)
    (hA0 : DataW.TrodAll enc Try.prog W 0 (fun _ => true) true Try.f3.params.toList args.toList ds p) (_hlt : ∀ x ∈ p, x.block < W.heap.size) :
    Calls Try.prog 3 args W fun e W' => e = .returned (.bool true) ∧ Ext W W' := by
  have hval := hval0
  have hA := hA0
  rw [Try.params3] at hA hval
  clear hval0 hA0
  obtain ⟨v0, d0, rfl, rfl, h0⟩ := trodAll_one hA
  obtain ⟨A, n, c, f, rfl, hn, hc, hs, hf⟩ := open_steps (hval 0 22 v0 rfl rfl) h0
  exact plays_any hs hf hn hc
set_option maxRecDepth 100000 in
theorem queuePlays_lifted (os : Os) (started : os.Started) (H : Type) (enc : TypeId × Value → H) :
    ReturnsInHanded {} Try.checked os 3 .any (Rows.queuePlaysSpec.pre6 enc Try.prog Try.f3 Rows.queuePlaysRow.domain false) (Rows.queuePlaysSpec.post enc Try.prog Try.f3 false true false false) :=
  law_lifted (fn := Try.f3) 4 os started (by kernel_rfl) Try.func3 rfl rfl Try.underlying4 (hread_of (by kernel_rfl))
    (fun l hl => by
      have hl2 : l.length = 1 := hl
      clear hl
      match l, hl2 with
      | [_], _ => rfl)
    (ChangeSpec.witness6 (enc := enc) (C := Try.checked) false ⟨#[], #[.slice none 0 0], []⟩ 8 (by kernel_rfl) (by kernel_rfl) (by kernel_rfl) (by kernel_rfl))
    (fun W base args ds p hval hA hlt => queuePlays_walk W base args ds p hval hA hlt)
theorem queuePlays_holds : Rows.QueuePlaysSaid :=
  OpenClaim.holds_of_wide 3 Try.f3 rfl rfl rfl rfl rfl rfl rfl ⟨rfl, rfl, rfl, rfl, rfl⟩ rfl rfl rfl rfl rfl (by kernel_rfl) Try.func3 (by kernel_rfl)
    (of_decide_eq_true (by kernel_rfl)) (by unfold Func.isWrapper; rw [if_neg (of_decide_eq_false (by kernel_rfl))]; exact ⟨rfl, rfl⟩)
    (fun os started H enc _ => queuePlays_lifted os started H enc)
end Go.Proofs.Ytnmegokppbdhdaa
