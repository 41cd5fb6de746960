/-
  A law of layer 18 holds of every input: VmqPlays. No condition.
-/
import Derived.Test.YtonaibpenijomaaR7
import Derived.Deep.DeepCutAuto
import Derived.Deep.CutBlock
namespace Go.Proofs.Ytonaibpenijomaa
open Go.ChangeShapes Go.WideShapes Go.ChangeAt Go.RowKit Go.Deep Go.Joins
set_option linter.unusedVariables false
set_option linter.unusedSimpArgs false
set_option maxRecDepth 100000


set_option maxHeartbeats 8000000 in
theorem lplays_any (A : Option Addr) (n c : Nat) (f : Nat → Stp) (w : World) (hnc : n ≤ c) (hc : c ≤ maxLen) (hs : Stps w A n f) (hf : ∀ k, k < n → Okst (f k)) :
    Calls Try.prog 3 #[.slice A n c] w fun e w' => e = .returned (.bool true) ∧ Ext w w' := by
  go_enter Try.func3, Try.ntmps3
  go_wp2_with fail
  refine (new_any _).mono ?_
  rintro e w1 ⟨O1, C, rfl, hq, hO, hX⟩
  have hxa := Ext.alloc w1 (.cells #[.slice none 0 0] 27)
  have hp : PI w (w1.alloc (.cells #[.slice none 0 0] 27)) O1 [w1.heap.size] C w1.heap.size [] [] :=
    ⟨hq.ext hxa, rt_new w1, fun k hk => by have := hq.lt k hk; simp; omega, hO, fun k hk => by simp at hk; have := hX.size; omega, hX.trans hxa⟩
  clear hq hO hX hxa
  go_wp2_with fail
  generalize w1.alloc (.cells #[.slice none 0 0] 27) = w2 at *
  generalize w1.heap.size = X at *
  refine (short_any _ _ _ _ hnc hc).mono ?_
  rintro e w5 ⟨rfl, rfl⟩
  go_wp2_with fail
  have hNn : min n 400 ≤ n := Nat.min_le_left _ _
  have hN4 : min n 400 ≤ 400 := Nat.min_le_right _ _
  generalize min n 400 = N at *
  go_loopw [26] (fun i wr => ∃ (j : Nat) (O R : List Nat) (S : List En), j ≤ N ∧ i = .int .i64 (j : Int) ∧ PI w wr O R C X S S) (fun i _ => N - (intOf i).toNat)
  case atStart => exact ⟨0, _, _, _, by omega, rfl, hp⟩
  case round =>
    clear hp
    obtain ⟨j, O, R, S, hj, rfl, hp⟩ := hrel
    by_cases hlt : j < N
    · obtain ⟨b, off, rfl, r0, r1, r2, r3⟩ := hs.rules (k := j) (by omega)
      have okj := hf j (by omega)
      have p0 := r0 _ hp.e
      have p1 := r1 _ hp.e
      have p2 := r2 _ hp.e
      have p3 := r3 _ hp.e
      clear r0 r1 r2 r3
      generalize f j = s at *
      obtain ⟨kk, a, o, t⟩ := s
      simp only at p0 p1 p2 p3
      have hr : wfR (a, o) := okj.r
      have k0 : 0 ≤ kk := okj.k0
      have k1 : kk ≤ 255 := okj.k1
      have hxa := Ext.alloc wr (.cells #[.int .u8 kk, .int .i64 a, .int .i64 o, .int .i64 t] 32)
      have hB := Blk.new wr #[.int .u8 kk, .int .i64 a, .int .i64 o, .int .i64 t] 32
      have hp1 := hp.ext hxa
      have HNB := hide hp.out
      have HB := hide hB
      have HP := hide hp1
      have HBL := hide hB.lt
      have s0 := hB.rule
      clear okj hp hB hp1
      go_upto_if 33 with fail
      go_cut [7, 32, 33] (fun v x2 x3 wc => v = .bool true ∧ ∃ (O' R' : List Nat) (S' : List En), PI w wc O' R' C X S' S' ∧ Blk wc wr.heap.size #[.int .u8 kk, .int .i64 a, .int .i64 o, .int .i64 t] 32)
      case first =>
        have hp := HP.out
        clear p0 p1 p2 p3
        by_cases q1 : kk % 3 = 1
        · have q1b : (kk % 3 == 1) = true := by simpa using q1
          have QH := hide q1
          clear q1
          rcases S with _ | ⟨⟨⟨k1, o1⟩, l⟩, S1⟩
          · have hq := fun w => eq_rreq 0 0 0 0 w
            rw [eqQ_same] at hq
            go_wp2_with fail
            refine (next_none hp.q.any).mono ?_
            rintro e w3 ⟨rfl, hx3⟩
            have hxa3 := hx3.trans (Ext.alloc w3 (.cells #[.int .i64 0, .int .i64 0] 33))
            have hK3 := Blk.new w3 #[.int .i64 0, .int .i64 0] 33
            go_wp2_with fail
            refine (rnext_none (hp.ext hxa3).r).mono ?_
            rintro e w4 ⟨rfl, hx4⟩
            have hxa4 := hx4.trans (Ext.alloc w4 (.cells #[.int .i64 0, .int .i64 0, .slice none 0 0] 38))
            have rK := (hK3.ext hxa4).cell
            have rN := (Blk.new w4 #[.int .i64 0, .int .i64 0, .slice none 0 0] 38).cell
            have hsm := fun w => same_any (w := w) (A1 := none) (A2 := none) (c1 := 0) (c2 := 0) (l := []) (.inl rfl) (.inl rfl) (by simp)
            simp only [List.length_nil] at hsm
            clear hx3 hx4 hK3
            go_wp2_with fail
            refine (hsm _).mono ?_
            rintro e w5 ⟨rfl, hx5⟩
            go_wp2_with fail
            go_meet
            case rel => exact ⟨rfl, O, R, [], ((hp.ext hxa3).ext hxa4).ext hx5, ((HB.out.ext hxa3).ext hxa4).ext hx5⟩
          · have hq := fun w => eq_rreq k1 o1 k1 o1 w
            rw [eqQ_same] at hq
            have hlw := hp.q.ok.wlen (List.mem_cons_self ..)
            have hlS := hp.q.ok.len
            simp only [List.length_cons] at hlS
            simp only at hlw
            have HLW := hide hlw
            have HLS := hide hlS
            clear hlw hlS
            go_wp2_with fail
            refine (next_some hp.q).mono ?_
            rintro e w3 ⟨s3, rfl, hr3, hb3, hq3, hc3⟩
            have hp3 := hp.prog hq3 hc3 (Fr.refl _ _)
            have hB3 := HB.out.chg hc3 HNB.out.1
            obtain ⟨A3, c3, es3, hch3⟩ := own_ch hr3
            rw [es3]
            have hxa3 := Ext.alloc w3 (.cells #[.int .i64 k1, .int .i64 o1] 33)
            have hK3 := Blk.new w3 #[.int .i64 k1, .int .i64 o1] 33
            have ho3 := hp3.out
            simp only
            clear s0 hch3
            go_wp2_with fail
            refine (rnext_some (hp3.ext hxa3).r (by have := HLS.out; omega)).mono ?_
            rintro e w4 ⟨s4, rfl, hr4, hb4, hq4, hc4⟩
            have hp4 := (hp3.ext hxa3).ref hq4 hc4 (Fr.refl _ _)
            have hrow3 := own_chgB (own_ext hr3 hxa3) hc4 (fun k hk hk2 => hp.dis k (hb3 k hk) hk2)
            obtain ⟨A4, c4, es4, hch4⟩ := own_ch hr4
            rw [es4]
            rw [es3] at hrow3
            obtain ⟨A3', c3', ee, hch3⟩ := own_ch hrow3
            cases ee
            have hB4 := (hB3.ext hxa3).chg hc4 HNB.out.2
            have hK4 := hK3.chg hc4 ho3.2
            have hxa4 := Ext.alloc w4 (.cells #[.int .i64 k1, .int .i64 o1, .slice A4 l.length c4] 38)
            have rK := (hK4.ext hxa4).cell
            have rN := (Blk.new w4 #[.int .i64 k1, .int .i64 o1, .slice A4 l.length c4] 38).cell
            have HSM := hide (same_any (c1 := c3) (c2 := c4) (hch3.ext hxa4) (hch4.ext hxa4) (by have := HLW.out; omega))
            have HP4 := hide (hp4.ext hxa4)
            have HB4 := hide (hB4.ext hxa4)
            clear hr3 hb3 hq3 hc3 hr4 hb4 hq4 hc4 hrow3 hch3 hch4 es3 es4 hK3 hK4 hB3 hB4 hp3 hp4 hxa3 hxa4 ho3 hp
            simp only
            go_wp2_with fail
            refine HSM.out.mono ?_
            rintro e w5 ⟨rfl, hx5⟩
            go_wp2_with fail
            go_meet
            case rel => exact ⟨rfl, O, R, S1, HP4.out.ext hx5, HB4.out.ext hx5⟩
        · have q1b : (kk % 3 == 1) = false := by simpa using q1
          have QH := hide q1
          clear q1
          go_wp2_with fail
          refine (hp.ask t hr).mono ?_
          rintro e w3 ⟨rfl, O3, hp3, hc3, hf3⟩
          have hB3 := HB.out.chg hc3 HNB.out.1
          have r3 := hB3.cell
          have hn3 := hf3.out HNB.out.1 HBL.out
          have ok := hp.q.ok
          have hra := hp3.rask (k := a) (o := o) t ok
          generalize askB S (a, o) t = ab at *
          generalize askE S (a, o) t = ae at *
          generalize askS S (a, o) t = sn at *
          clear s0 hc3 hf3
          go_wp2_with fail
          refine hra.mono ?_
          rintro e w4 ⟨rfl, R4, hp4, hc4, hf4⟩
          have hB4 := hB3.chg hc4 HNB.out.2
          go_wp2_with fail
          go_meet
          case rel => exact ⟨rfl, O3, R4, sn, hp4, hB4⟩
      case rest =>
        clear p0 p1 p2 p3 s0 hxa
        obtain ⟨rfl, O', R', S', hp, hb⟩ := hcut
        have OK := hide hp.q.ok
        have hsl := hp.q.ok.len
        clear HNB HB HP HBL
        generalize wr.heap.size = Z at *
        go_wp2_with fail
        refine (all_any hp.q.any).mono ?_
        rintro e w6 ⟨v6, rfl, hown, hx6⟩
        obtain ⟨A6, c6, rfl⟩ := own_sl hown
        have hp6 := hp.ext hx6
        have rZ := (hb.ext hx6).rule
        obtain ⟨A8, c8, vs8, hr8⟩ := hp6.r
        have rX := hr8.x.rule
        have hW6 : Hid (∀ w', Ext w6 w' → Calls Try.prog 15 #[.pointer (some ⟨C, 0, none⟩), .int .i64 t] w' fun e w'' => e = .returned (.bool (waitsB S' t)) ∧ Ext w' w'') := hide fun w' x => waits_in t (hp6.q.ext x).any
        have hR6 : Hid (∀ w', Ext w6 w' → Calls Try.prog 16 #[.pointer (some ⟨X, 0, none⟩), .int .i64 t] w' fun e w'' => e = .returned (.bool (waitsB S' t)) ∧ Ext w' w'') := hide fun w' x => rwaits_ext t (hp6.r.ext x) OK.out
        have hL6 : Hid (∀ w', Ext w6 w' → Calls Try.prog 17 #[.pointer (some ⟨C, 0, none⟩)] w' fun e w'' => e = .returned (.int .i64 (S'.length : Int)) ∧ Ext w' w'') := hide fun w' x => len_any (hp6.q.ext x).any
        generalize waitsB S' t = wb at *
        have HP6 := hide hp6
        have HOWN := hide hown
        have HR8 := hide hr8
        have hW := Ext.refl w6
        clear hp hb hx6 hown hp6 hr8
        go_wp2_with fail
        refine wp_region_ext (by kernel_rfl) (by kernel_rfl) ?_
        repeat
          with_reducible refine wpQuiet_step (fun K hK => ?_)
          go_simp
          first
          | (refine hK _ ?_; clear hK K)
          | (apply Exists.intro
             refine ⟨fun w1 h1 => ?_, hK _ ?_⟩
             (have hW := Ext.trans2 hW (by repeat (first | exact Ext.refl _ | exact Ext.alloc _ _ | exact Ext.drewN _ _ | assumption | refine Ext.trans ?_ (Ext.alloc _ _) | refine Ext.trans ?_ (Ext.drew _) | refine Ext.trans ?_ (by assumption))) h1; (try have hV := Ext.trans2 hV (by repeat (first | exact Ext.refl _ | exact Ext.alloc _ _ | exact Ext.drewN _ _ | assumption | refine Ext.trans ?_ (Ext.alloc _ _) | refine Ext.trans ?_ (Ext.drew _) | refine Ext.trans ?_ (by assumption))) h1); (first | rfl | (go_simp; done) | (go_simp; rfl) | (first | (go_at_call 15; (with_reducible refine (hW6.out _ hW).mono ?_); rintro e w2 ⟨rfl, hb⟩; exact ⟨rfl, h1.trans hb⟩) | (go_at_call 16; (with_reducible refine (hR6.out _ hW).mono ?_); rintro e w2 ⟨rfl, hb⟩; exact ⟨rfl, h1.trans hb⟩) | (go_at_call 17; (with_reducible refine (hL6.out _ hW).mono ?_); rintro e w2 ⟨rfl, hb⟩; exact ⟨rfl, h1.trans hb⟩))))
             clear hK K)
        refine wpQuiet_nil (fun w' hw' => ?_)
        have hW := Ext.trans2 hW (by repeat (first | exact Ext.refl _ | exact Ext.alloc _ _ | exact Ext.drewN _ _ | assumption | refine Ext.trans ?_ (Ext.alloc _ _) | refine Ext.trans ?_ (Ext.drew _) | refine Ext.trans ?_ (by assumption))) hw'
        try have hV := Ext.trans2 hV (by repeat (first | exact Ext.refl _ | exact Ext.alloc _ _ | exact Ext.drewN _ _ | assumption | refine Ext.trans ?_ (Ext.alloc _ _) | refine Ext.trans ?_ (Ext.drew _) | refine Ext.trans ?_ (by assumption))) hw'
        clear hw'
        have HX6 := hide hW
        have hx7 := Ext.refl w'
        clear hW6 hR6 hL6
        go_wp2_with fail
        go_loopw [126] (fun i w9 => ∃ m : Nat, m ≤ S'.length ∧ i = .int .i64 (m : Int) ∧ Ext w' w9) (fun i _ => S'.length - (intOf i).toNat)
        case atStart => exact ⟨0, by omega, rfl, hx7⟩
        case round =>
          clear hx7
          obtain ⟨m, hm, rfl, hX9⟩ := hrel
          by_cases hlt2 : m < S'.length
          · have hx69 := HX6.out.trans hX9
            obtain ⟨b8, o8, rfl, _, q8⟩ := HR8.out.at_ hlt2
            obtain ⟨sB, sc8, es8⟩ := own_sl (HR8.out.rows m hlt2)
            have q0 := (q8 _ hx69).1
            have q1 := (q8 _ hx69).2.1
            have q2 := (q8 _ hx69).2.2
            rw [es8] at q2
            have hrw : ∀ wx, Ext wr wx → wx.ownsRow wc.heap.size 33 2 (.slice A6 S'.length c6) S'.length (rcells (ks S')) := fun wx x => own_ext HOWN.out (hx69.trans x)
            have hlk : m < (ks S').length := by rw [ks_len]; exact hlt2
            obtain ⟨g6, rfl, _, _⟩ := own_some HOWN.out (by omega)
            have hc6 : ∀ wx, Ext wr wx → wx.cell? ⟨g6, m * 2, none⟩ = some (.int .i64 (S'[m]).1.1) ∧ wx.cell? ⟨g6, m * 2 + 1, none⟩ = some (.int .i64 (S'[m]).1.2) := fun wx x => by
              have hcl := (hrw wx x).cells rfl
              obtain ⟨z0, z1⟩ := rcells_at (ks S') m hlk
              rw [ks_at _ hlk] at z0 z1
              have y0 := hcl _ _ z0
              have y1 := hcl _ _ z1
              rw [Addr.add_lit, Nat.zero_add] at y0 y1
              exact ⟨y0, y1⟩
            generalize (S'[m]).1.1 = x0 at *
            generalize (S'[m]).1.2 = x1 at *
            have hxn := Ext.alloc wr (.cells #[.int .i64 x0, .int .i64 x1, .slice sB (S'[m]).2.length sc8] 38)
            have hne := fun w => neq_rreq x0 x1 x0 x1 w
            rw [eqQ_same, Bool.not_true] at hne
            generalize (S'[m]).2.length = ln at *
            have c60 := fun wx x => (hc6 wx (hxn.trans x)).1
            have c61 := fun wx x => (hc6 wx (hxn.trans x)).2
            have rN := (Blk.new wr #[.int .i64 x0, .int .i64 x1, .slice sB ln sc8] 38).rule
            have hW := Ext.refl (wr.alloc (.cells #[.int .i64 x0, .int .i64 x1, .slice sB ln sc8] 38))
            have HX9 := hide (hX9.trans hxn)
            clear hc6 hrw hxn q8 hx69 rX hX9
            go_wp2_with fail
            refine wp_region_ext (by kernel_rfl) (by kernel_rfl) ?_
            repeat
              with_reducible refine wpQuiet_step (fun K hK => ?_)
              go_simp
              first
              | (refine hK _ ?_; clear hK K)
              | (apply Exists.intro
                 refine ⟨fun w1 h1 => ?_, hK _ ?_⟩
                 (have hW := Ext.trans2 hW (by repeat (first | exact Ext.refl _ | exact Ext.alloc _ _ | exact Ext.drewN _ _ | assumption | refine Ext.trans ?_ (Ext.alloc _ _) | refine Ext.trans ?_ (Ext.drew _) | refine Ext.trans ?_ (by assumption))) h1; (try have hV := Ext.trans2 hV (by repeat (first | exact Ext.refl _ | exact Ext.alloc _ _ | exact Ext.drewN _ _ | assumption | refine Ext.trans ?_ (Ext.alloc _ _) | refine Ext.trans ?_ (Ext.drew _) | refine Ext.trans ?_ (by assumption))) h1); (first | rfl | (go_simp; done) | (go_simp; rfl) | fail))
                 clear hK K)
            refine wpQuiet_nil (fun w' hw' => ?_)
            have hW := Ext.trans2 hW (by repeat (first | exact Ext.refl _ | exact Ext.alloc _ _ | exact Ext.drewN _ _ | assumption | refine Ext.trans ?_ (Ext.alloc _ _) | refine Ext.trans ?_ (Ext.drew _) | refine Ext.trans ?_ (by assumption))) hw'
            try have hV := Ext.trans2 hV (by repeat (first | exact Ext.refl _ | exact Ext.alloc _ _ | exact Ext.drewN _ _ | assumption | refine Ext.trans ?_ (Ext.alloc _ _) | refine Ext.trans ?_ (Ext.drew _) | refine Ext.trans ?_ (by assumption))) hw'
            clear hw'
            go_wp2_with fail
            go_roundw
            case rel => exact ⟨m + 1, by omega, by go_num, HX9.out.trans hW⟩
            case measure => simp [intOf]; omega
          · obtain rfl : m = S'.length := by omega
            go_wp2_with fail
            go_roundw
            case rel => exact ⟨j + 1, O', R', S', by omega, by go_num, HP6.out.ext (HX6.out.trans hX9)⟩
            case measure => simp [intOf]; omega
    · obtain rfl : j = N := by omega
      go_wp2_with fail
      refine (alive_any _).mono ?_
      rintro e w6 ⟨rfl, hx⟩
      go_wp2_with fail
      go_ret
      exact ⟨rfl, hp.e.trans hx⟩
set_option maxRecDepth 100000 in
theorem vmqPlays_walk {H : Type} {enc : TypeId × Value → H} (W : World) (base : Nat) (args : Array Value) (ds : List (DataW H)) (p : List MemPlace)
    (hval0 : ∀ (j : Nat) t v, Try.f3.params[j]? = some t → args[j]? = some v → Value.okWide Try.prog W .any base t v)
    (hA0 : DataW.TrodAll enc Try.prog W 0 (fun _ => true) true Try.f3.params.toList args.toList ds p) (_hlt : ∀ x ∈ p, x.block < W.heap.size) :
    Calls Try.prog 3 args W fun e W' => e = .returned (.bool true) ∧ Ext W W' := by
  have hval := hval0
  have hA := hA0
  rw [Try.params3] at hA hval
  clear hval0 hA0
  obtain ⟨v0, d0, rfl, rfl, h0⟩ := trodAll_one hA
  obtain ⟨A, n, c, f, rfl, hn, hc, hs, hf⟩ := open_steps (hval 0 22 v0 rfl rfl) h0
  exact lplays_any A n c f W hn hc hs hf
set_option maxRecDepth 100000 in
theorem vmqPlays_lifted (os : Os) (started : os.Started) (H : Type) (enc : TypeId × Value → H) :
    ReturnsInHanded {} Try.checked os 3 .any (Rows.vmqPlaysSpec.pre6 enc Try.prog Try.f3 Rows.vmqPlaysRow.domain false) (Rows.vmqPlaysSpec.post enc Try.prog Try.f3 false true false false) :=
  law_lifted (fn := Try.f3) 4 os started (by kernel_rfl) Try.func3 rfl rfl Try.underlying4 (hread_of (by kernel_rfl))
    (fun l hl => by
      have hl2 : l.length = 1 := hl
      clear hl
      match l, hl2 with
      | [_], _ => rfl)
    (ChangeSpec.witness6 (enc := enc) (C := Try.checked) false ⟨#[], #[.slice none 0 0], []⟩ 8 (by kernel_rfl) (by kernel_rfl) (by kernel_rfl) (by kernel_rfl))
    (fun W base args ds p hval hA hlt => vmqPlays_walk W base args ds p hval hA hlt)
theorem vmqPlays_holds : Rows.VmqPlaysSaid :=
  OpenClaim.holds_of_wide 3 Try.f3 rfl rfl rfl rfl rfl rfl rfl ⟨rfl, rfl, rfl, rfl, rfl⟩ rfl rfl rfl rfl rfl (by kernel_rfl) Try.func3 (by kernel_rfl)
    (of_decide_eq_true (by kernel_rfl)) (by unfold Func.isWrapper; rw [if_neg (of_decide_eq_false (by kernel_rfl))]; exact ⟨rfl, rfl⟩)
    (fun os started H enc _ => vmqPlays_lifted os started H enc)
end Go.Proofs.Ytonaibpenijomaa
