/-
  A law of layer 13 holds of every input: RingTurns. No condition.
-/
import Derived.Test.YtbkpmlcockkfnaaS2
import Derived.Deep.DeepCutAuto
import Derived.Deep.CutBlock
namespace Go.Proofs.Ytbkpmlcockkfnaa
open Go.ChangeShapes Go.WideShapes Go.ChangeAt Go.RowKit Go.Deep Go.Joins
set_option linter.unusedVariables false
set_option linter.unusedSimpArgs false
set_option maxRecDepth 100000


theorem run_neqX (a b : Int) (w : World) : Sem.run Try.prog (binOp .neq 32 (Value.agg #[.int .i64 a, .int .i64 b]) (Value.agg #[.int .i64 a, .int .i64 b])) w = .ok (.bool false) w := by
  go_simp
theorem Bx.far {w : World} {B g i : Nat} {l : List Wt} {cs : Array Value} {u : Value} (h : Bx w B l) (hb : Blk w g cs 25) (hne : g ≠ B) : Bx (w.setCell ⟨g, i, none⟩ u) B l := by
  obtain ⟨A, n, c, p, h1, h2⟩ := h
  exact ⟨A, n, c, p, h1.far (p := ⟨g, i, none⟩) (fun e => hne e.symm) _, h2.set hb (by decide)⟩
theorem Bx.far2 {w : World} {B g : Nat} {l : List Wt} {cs : Array Value} {u v : Value} (h : Bx w B l) (hb : Blk w g cs 25) (hne : g ≠ B) : Bx ((w.setCell ⟨g, 0, none⟩ u).setCell ⟨g, 1, none⟩ v) B l := (h.far hb hne).far (hb.set _ _) hne
theorem Row.set2 {w : World} {A : Option Addr} {n c g : Nat} {l : List Wt} {cs : Array Value} {u v : Value} (h : Row 32 w A n c l) (hb : Blk w g cs 25) : Row 32 ((w.setCell ⟨g, 0, none⟩ u).setCell ⟨g, 1, none⟩ v) A n c l := (h.set hb (by decide)).set (hb.set _ _) (by decide)
theorem Ext.set2 {W w : World} {g : Nat} {u v : Value} (h : Ext W w) (hg : W.heap.size ≤ g) : Ext W ((w.setCell ⟨g, 0, none⟩ u).setCell ⟨g, 1, none⟩ v) := (h.set (p := ⟨g, 0, none⟩) hg u).set (p := ⟨g, 1, none⟩) hg v
set_option maxHeartbeats 4000000 in
theorem turns_any {W : World} {A : Option Addr} {n c : Nat} {f : Nat → Stp} (hs : Stps W A n f) (hf : ∀ k, k < n → Okst (f k)) (hn : n ≤ c) (hc : c ≤ maxLen) :
    Calls Try.prog 5 #[.slice A n c] W fun e w' => e = .returned (.bool true) ∧ Ext W w' := by
  obtain ⟨m, hm⟩ : ∃ m, m = min n 100 := ⟨_, rfl⟩
  have HF := hide hf
  clear hf
  go_enter Try.func5, Try.ntmps5
  go_wp2_with fail
  refine (short_any A n c _ hn hc).mono ?_
  rintro e w2 ⟨rfl, rfl⟩
  rw [← hm]
  have hi0 := Bx.new0 W
  have hX0 := Ext.alloc W (Obj.cells #[.slice none 0 0, .int .i64 (0 : Int)] 25)
  obtain ⟨Q, hQ⟩ : ∃ Q, Q = W.heap.size := ⟨_, rfl⟩
  rw [← hQ] at hi0 ⊢
  have HQ := hide (show W.heap.size ≤ Q by omega)
  have HM := hide (show m ≤ n by omega)
  have HM2 := hide (show m ≤ 100 by omega)
  clear hm hQ
  go_wp2_with fail
  go_loopw [17] (fun i wr => ∃ (j : Nat) (xs : List Wt), j ≤ m ∧ i = .int .i64 (j : Int) ∧ Bx wr Q xs ∧ OkW xs ∧ Ext W wr) (fun i _ => m - (intOf i).toNat)
  case atStart => exact ⟨0, [], by omega, rfl, hi0, okw_nil, hX0⟩
  case round =>
    clear hi0 hX0
    obtain ⟨j, xs, hj, rfl, hb, ok, hX⟩ := hrel
    by_cases hlt : j < m
    · have hj2 : j < n := by have := HM.out; omega
      obtain ⟨b, off, rfl, r0, r1, r2⟩ := hs.rules hj2
      have okx := HF.out j hj2
      obtain ⟨x, hx⟩ : ∃ x, x = f j := ⟨_, rfl⟩
      rw [← hx] at r0 r1 r2 okx
      clear hx
      have r0 := r0 wr hX
      have r1 := r1 wr hX
      have r2 := r2 wr hX
      have k0 := okx.k0
      have k1 := okx.k1
      have hl := ok.len
      have hY := Ext.alloc wr (Obj.cells #[.int .u8 x.k, .int .i64 x.t, .int .i64 x.n] 31)
      have hz := Blk.new wr #[Value.int .u8 x.k, .int .i64 x.t, .int .i64 x.n] 31
      obtain ⟨A0, n0, c0, p0, hq, hr⟩ := hb.ext hY
      have hX := hX.trans hY
      have hn0 : n0 ≤ 65535 := by have := hr.len; omega
      obtain ⟨Z, hZ⟩ : ∃ Z, Z = wr.heap.size := ⟨_, rfl⟩
      rw [← hZ] at hz
      clear hb okx
      go_upto_region 5 with fail
      rw [← hZ]
      clear hZ hY r0 r1 r2
      generalize wr.alloc (Obj.cells #[.int .u8 x.k, .int .i64 x.t, .int .i64 x.n] 31) = w0 at *
      have q0 := hq.cell
      have z0 := hz.cell
      go_wp2_with fail
      refine (all_any hr hn0).mono ?_
      rintro e w1 ⟨A1, c1, rfl, hown, hx1⟩
      obtain ⟨A2, c2, e2, hr1, _⟩ := Row.of_own hown
      cases e2
      have q1 := (hq.ext hx1).cell
      have z1 := (hz.ext hx1).cell
      clear hown q0 z0
      go_wp2_with fail
      refine (do_any x.k x.t x.n (hr.ext hx1) ok hn0 k0 k1).mono ?_
      rintro e w2 ⟨A2, n2, c2, p2, rfl, hr2, hx2⟩
      have hq2 := (hq.ext hx1).ext hx2
      have q2 := hq2.cell
      clear q1 z1
      have oky := ok.do_ x.k x.t x.n
      generalize doL xs x.k x.t x.n = ys at *
      generalize doW xs x.k x.t = yw at *
      generalize doB xs x.k x.t x.n = yb at *
      have hY1 := (Ext.alloc w2 (Obj.cells #[.slice A2 n2 c2, .int .i64 (p2 : Int)] 25)).trans (Ext.alloc _ (Obj.cells #[.int .i64 yw.1, .int .i64 yw.2] 32))
      have q3 := (hq2.ext hY1).cell
      have hY := hY1.trans (Ext.alloc _ (Obj.cells #[.slice A0 n0 c0, .int .i64 (p0 : Int)] 25))
      have hrx := (hr.ext hx1).ext hx2
      have bQ : Bx _ Q xs := ⟨A0, n0, c0, p0, hq2.ext hY, hrx.ext hY⟩
      have bN := (Bx.new hr2).ext ((Ext.alloc _ (Obj.cells #[.int .i64 yw.1, .int .i64 yw.2] 32)).trans (Ext.alloc _ (Obj.cells #[.slice A0 n0 c0, .int .i64 (p0 : Int)] 25)))
      have bT := Bx.new (hrx.ext hY1)
      have hr1 := (hr1.ext hx2).ext hY
      have HX := hide (((hX.trans hx1).trans hx2).trans hY)
      have szw := ((hX.trans hx1).trans hx2).size
      have szq := hq2.lt
      simp only [World.size_alloc] at bT
      clear hX hx1 hx2 hY1 hY hrx hq hr hr2 hz q2
      go_upto_region 8 with fail
      obtain ⟨N, hN⟩ : ∃ N, N = w2.heap.size := ⟨_, rfl⟩
      obtain ⟨T, hT⟩ : ∃ T, T = w2.heap.size + 1 + 1 := ⟨_, rfl⟩
      rw [← hT] at bT ⊢
      rw [← hN] at bN ⊢
      have HTQ := hide (show T ≠ Q by omega)
      have HTN := hide (show T ≠ N by omega)
      have HTW := hide (show W.heap.size ≤ T by omega)
      clear hT hN szw szq q3
      generalize ((w2.alloc (Obj.cells #[.slice A2 n2 c2, .int .i64 (p2 : Int)] 25)).alloc (Obj.cells #[.int .i64 yw.1, .int .i64 yw.2] 32)).alloc (Obj.cells #[.slice A0 n0 c0, .int .i64 (p0 : Int)] 25) = w5 at *
      have hlen := hr1.1
      have HLEN := hide hlen
      clear hq2 hlen hl
      have x5 := HX.out
      have bT := bT.eq (tuK_zero xs).symm
      go_wp2_with fail
      go_loopw [33] (fun i wr => ∃ (k : Nat), k ≤ n0 ∧ i = .int .i64 (k : Int) ∧ Bx wr Q xs ∧ Bx wr N ys ∧ Bx wr T (tuK xs k) ∧ Row 32 wr A1 n0 c1 xs ∧ Ext W wr) (fun i _ => n0 - (intOf i).toNat)
      case atStart => exact ⟨0, by omega, rfl, bQ, bN, bT, hr1, x5⟩
      case round =>
        clear bQ bN bT hr1 x5 HX
        obtain ⟨k, hk, rfl, bQ, bN, bT, hr1, hX⟩ := hrel
        by_cases hlt2 : k < n0
        · obtain ⟨A3, n3, c3, p3, hb3, hr3⟩ := bT
          have E := hide (tuL_K xs (k := k) (by have := HLEN.out; omega))
          have hn3 : n3 ≤ 65535 := by have := hr3.len; rw [tuK_len] at this; have := HLEN.out; omega
          generalize tuK xs k = zs at *
          have q0 := hb3.cell
          have HB := hide hb3
          have HBQ := hide bQ
          have HBN := hide bN
          have HR1 := hide hr1
          have HX := hide hX
          have hcall := turn_any hr3 hn3
          clear hb3 bQ bN hr1 hX hr3
          go_wp2_with fail
          refine hcall.mono ?_
          rintro e w6 ⟨p4, rfl, hr4, hx4⟩
          have hb4 := HB.out.ext hx4
          have q1 := hb4.cell
          have q1f := hb4.free
          have HB4 := hide hb4
          have HR4 := hide hr4
          have HX4 := hide hx4
          clear q0 hb4 hr4 hx4 hcall
          go_wp2_with fail
          go_roundw
          case rel =>
            exact ⟨k + 1, by omega, by go_num, (HBQ.out.ext HX4.out).far2 HB4.out HTQ.out, (HBN.out.ext HX4.out).far2 HB4.out HTN.out, (Bx.store HB4.out HR4.out).eq E.out, (HR1.out.ext HX4.out).set2 HB4.out, (HX.out.trans HX4.out).set2 HTW.out⟩
          case measure => simp [intOf]; omega
        · obtain rfl : k = n0 := by omega
          have bT := bT.eq (show tuK xs k = xs by rw [HLEN.out, tuK_all])
          obtain ⟨A7, n7, c7, p7, hq7, hr7⟩ := bQ
          obtain ⟨A8, n8, c8, p8, hq8, hr8⟩ := bT
          obtain rfl : n7 = k := by have := hr7.len; have := HLEN.out; omega
          obtain rfl : n8 = n7 := by have := hr8.len; have := HLEN.out; omega
          have HBQ := hide hq7
          have HBT := hide hq8
          have HRQ := hide hr7
          have AQ := hide (fun w' (x : Ext wr w') => all_any (hr7.ext x) hn0)
          have AT := hide (fun w' (x : Ext wr w') => all_any (hr8.ext x) hn0)
          have HBN := hide bN
          have HR1 := hide hr1
          have HX := hide hX
          clear hq7 hq8 hr7 hr8 bN hr1 hX hk hlt2
          go_wp2_with fail
          have hk := Ext.drew wr
          go_region_held3 (fun w' => (w'.cell? ⟨Q, 0, none⟩ = some (.slice A7 n8 c7) ∧ w'.cell? ⟨Q, 1, none⟩ = some (.int .i64 (p7 : Int))) ∧ (w'.cell? ⟨T, 0, none⟩ = some (.slice A8 n8 c8) ∧ w'.cell? ⟨T, 1, none⟩ = some (.int .i64 (p8 : Int))))
            (exact ⟨two2 (HBQ.out.ext (by first | exact hk | exact hk.trans (Ext.drew _) | exact hk.trans (Ext.alloc _ _) | exact hk.trans ((Ext.alloc _ _).trans (Ext.drew _)) | exact hk.trans ((Ext.drew _).trans (Ext.alloc _ _)) | exact Ext.drew _ | exact Ext.refl _ | exact (Ext.alloc _ _).trans (Ext.drew _) | exact Ext.alloc _ _)), two2 (HBT.out.ext (by first | exact hk | exact hk.trans (Ext.drew _) | exact hk.trans (Ext.alloc _ _) | exact hk.trans ((Ext.alloc _ _).trans (Ext.drew _)) | exact hk.trans ((Ext.drew _).trans (Ext.alloc _ _)) | exact Ext.drew _ | exact Ext.refl _ | exact (Ext.alloc _ _).trans (Ext.drew _) | exact Ext.alloc _ _))⟩)
            (first
              | (go_at_call 14; with_reducible refine (AQ.out _ (by repeat (first | exact Ext.refl _ | assumption | exact Ext.alloc _ _ | exact Ext.drew _ | refine Ext.trans ?_ (Ext.alloc _ _) | refine Ext.trans ?_ (Ext.drew _)))).mono ?_; rintro e w6 ⟨A9, c9, rfl, hown9, hx9⟩; obtain ⟨hs9, hk, -⟩ := over hx9 (W := wr) (by repeat (first | exact Ext.refl _ | assumption | exact Ext.alloc _ _ | exact Ext.drew _ | refine Ext.trans ?_ (Ext.alloc _ _) | refine Ext.trans ?_ (Ext.drew _))); have HO9 := hide hown9; have H9 := hide (fun w' (x : Ext w6 w') => own_ext hown9 x); clear hown9 hs9)
              | (go_at_call 14; with_reducible refine (AT.out _ (by repeat (first | exact Ext.refl _ | assumption | exact Ext.alloc _ _ | exact Ext.drew _ | refine Ext.trans ?_ (Ext.alloc _ _) | refine Ext.trans ?_ (Ext.drew _)))).mono ?_; rintro e w7 ⟨A10, c10, rfl, hown10, hx10⟩; obtain ⟨hs10, hk, -⟩ := over hx10 (W := wr) (by repeat (first | exact Ext.refl _ | assumption | exact Ext.alloc _ _ | exact Ext.drew _ | refine Ext.trans ?_ (Ext.alloc _ _) | refine Ext.trans ?_ (Ext.drew _))); have H10 := hide (fun w' (x : Ext w7 w') => own_ext hown10 x); clear hown10 hs10))
          obtain ⟨A11, c11, e11, hr11, -⟩ := Row.of_own (H9.out w7 hx10)
          cases e11
          obtain ⟨A12, c12, e12, hr12, -⟩ := Row.of_own (H10.out w7 (Ext.refl _))
          cases e12
          have HC9 := hide hr11.ch
          have HC10 := hide hr12.ch
          have HC1 := hide (HR1.out.ext hk).ch
          have HQ9 := hide (show Bx w7 Q xs from ⟨A7, n8, c7, p7, HBQ.out.ext hk, HRQ.out.ext hk⟩)
          have HN9 := hide (HBN.out.ext hk)
          have HX9 := hide (HX.out.trans hk)
          clear hr11 hr12 hx9 hx10 hk H9 H10 HO9 AQ AT HR1 HRQ HBQ HBT HBN HX bT hr1
          go_wp2_with fail
          have hx0 := Ext.refl w7
          go_loopw [56] (fun i wr => ∃ (k : Nat), k ≤ n8 ∧ i = .int .i64 (k : Int) ∧ Ext w7 wr) (fun i _ => n8 - (intOf i).toNat)
          case atStart => exact ⟨0, by omega, rfl, hx0⟩
          case round =>
            clear hx0
            obtain ⟨k, hk, rfl, hX⟩ := hrel
            by_cases hlt3 : k < n8
            · have hkx : k < xs.length := by have := HLEN.out; omega
              obtain ⟨b1, o1, rfl, s1⟩ := (HC9.out.ext hX).at_ hkx
              obtain ⟨b2, o2, rfl, s2⟩ := (HC10.out.ext hX).at_ hkx
              obtain ⟨b3, o3, rfl, s3⟩ := (HC1.out.ext hX).at_ hkx
              generalize xs[k] = y at *
              have s1a := fun w' h => (s1 w' h).1
              have s1b := fun w' h => (s1 w' h).2
              have s2a := fun w' h => (s2 w' h).1
              have s2b := fun w' h => (s2 w' h).2
              have s3a := fun w' h => (s3 w' h).1
              have s3b := fun w' h => (s3 w' h).2
              have RN := run_neqX y.1 y.2
              have HXK := hide hX
              have hW := Ext.refl wr
              clear s1 s2 s3 hX hkx
              go_wp2_with fail
              refine wp_region_ext (by kernel_rfl) (by kernel_rfl) ?_
              repeat
                with_reducible refine wpQuiet_step (fun K hK => ?_)
                go_simp
                first
                | (refine hK _ ?_; clear hK K)
                | (apply Exists.intro
                   refine ⟨fun w1 h1 => ?_, hK _ ?_⟩
                   (have hW := Ext.trans2 hW (by repeat (first | exact Ext.refl _ | exact Ext.alloc _ _ | exact Ext.drewN _ _ | assumption | refine Ext.trans ?_ (Ext.alloc _ _) | refine Ext.trans ?_ (Ext.drew _) | refine Ext.trans ?_ (by assumption))) h1; (try have hV := Ext.trans2 hV (by repeat (first | exact Ext.refl _ | exact Ext.alloc _ _ | exact Ext.drewN _ _ | assumption | refine Ext.trans ?_ (Ext.alloc _ _) | refine Ext.trans ?_ (Ext.drew _) | refine Ext.trans ?_ (by assumption))) h1); (first | rfl | (go_simp; done) | (go_simp; rfl) | fail))
                   clear hK K)
              refine wpQuiet_nil (fun w' hw' => ?_)
              have hW := Ext.trans2 hW (by repeat (first | exact Ext.refl _ | exact Ext.alloc _ _ | exact Ext.drewN _ _ | assumption | refine Ext.trans ?_ (Ext.alloc _ _) | refine Ext.trans ?_ (Ext.drew _) | refine Ext.trans ?_ (by assumption))) hw'
              try have hV := Ext.trans2 hV (by repeat (first | exact Ext.refl _ | exact Ext.alloc _ _ | exact Ext.drewN _ _ | assumption | refine Ext.trans ?_ (Ext.alloc _ _) | refine Ext.trans ?_ (Ext.drew _) | refine Ext.trans ?_ (by assumption))) hw'
              clear hw'
              go_wp2_with fail
              go_roundw
              case rel => exact ⟨k + 1, by omega, by go_num, HXK.out.trans hW⟩
              case measure => simp [intOf]; omega
            · obtain rfl : k = n8 := by omega
              obtain ⟨A13, n13, c13, p13, h13, r13⟩ := HQ9.out.ext hX
              obtain ⟨A14, n14, c14, p14, h14, r14⟩ := HN9.out.ext hX
              have HX14 := hide (HX9.out.trans hX)
              have HB13 := hide h13
              have HR14 := hide r14
              have y1 := h13.cell
              have y1f := h13.free
              have y2 := h14.cell
              clear h13 h14 r13 r14 hX HC9 HC10 HC1 HQ9 HN9 HX9
              have hm2 := HM2.out
              go_wp2_with fail
              go_roundw
              case rel => exact ⟨j + 1, ys, by omega, by go_num, Bx.store HB13.out HR14.out, oky, HX14.out.set2 HQ.out⟩
              case measure => simp [intOf]; omega
    · obtain rfl : j = m := by omega
      go_wp2_with fail
      refine (alive_any _).mono ?_
      rintro e w3 ⟨rfl, hx⟩
      go_wp2_with fail
      go_ret
      exact ⟨rfl, hX.trans hx⟩

set_option maxRecDepth 100000 in
theorem ringTurns_walk {H : Type} {enc : TypeId × Value → H} (W : World) (base : Nat) (args : Array Value) (ds : List (DataW H)) (p : List MemPlace)
    (hval0 : ∀ (j : Nat) t v, Try.f5.params[j]? = some t → args[j]? = some v → Value.okWide Try.prog W .any base t v)
    (hA0 : DataW.TrodAll enc Try.prog W 0 (fun _ => true) true Try.f5.params.toList args.toList ds p) (_hlt : ∀ x ∈ p, x.block < W.heap.size) :
    Calls Try.prog 5 args W fun e W' => e = .returned (.bool true) ∧ Ext W W' := by
  have hval := hval0
  have hA := hA0
  rw [Try.params5] at hA hval
  clear hval0 hA0
  obtain ⟨v0, d0, rfl, rfl, h0⟩ := trodAll_one hA
  obtain ⟨A, n, c, f, rfl, hn, hc, hs, hf⟩ := open_steps (hval 0 22 v0 rfl rfl) h0
  exact turns_any hs hf hn hc
set_option maxRecDepth 100000 in
theorem ringTurns_lifted (os : Os) (started : os.Started) (H : Type) (enc : TypeId × Value → H) :
    ReturnsInHanded {} Try.checked os 5 .any (Rows.ringTurnsSpec.pre6 enc Try.prog Try.f5 Rows.ringTurnsRow.domain false) (Rows.ringTurnsSpec.post enc Try.prog Try.f5 false true false false) :=
  law_lifted (fn := Try.f5) 4 os started (by kernel_rfl) Try.func5 rfl rfl Try.underlying4 (hread_of (by kernel_rfl))
    (fun l hl => by
      have hl2 : l.length = 1 := hl
      clear hl
      match l, hl2 with
      | [_], _ => rfl)
    (ChangeSpec.witness6 (enc := enc) (C := Try.checked) false ⟨#[], #[.slice none 0 0], []⟩ 8 (by kernel_rfl) (by kernel_rfl) (by kernel_rfl) (by kernel_rfl))
    (fun W base args ds p hval hA hlt => ringTurns_walk W base args ds p hval hA hlt)
theorem ringTurns_holds : Rows.RingTurnsSaid :=
  OpenClaim.holds_of_wide 5 Try.f5 rfl rfl rfl rfl rfl rfl rfl ⟨rfl, rfl, rfl, rfl, rfl⟩ rfl rfl rfl rfl rfl (by kernel_rfl) Try.func5 (by kernel_rfl)
    (of_decide_eq_true (by kernel_rfl)) (by unfold Func.isWrapper; rw [if_neg (of_decide_eq_false (by kernel_rfl))]; exact ⟨rfl, rfl⟩)
    (fun os started H enc _ => ringTurns_lifted os started H enc)
end Go.Proofs.Ytbkpmlcockkfnaa
