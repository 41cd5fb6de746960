/-
  A law of layer 13 holds of every input: RingPlays. No condition.
-/
import Derived.Test.YtbkpmlcockkfnaaS2
import Derived.Test.YtbkpmlcockkfnaaHeld
import Derived.Deep.DeepCutAuto
import Derived.Deep.CutBlock
namespace Go.Proofs.Ytbkpmlcockkfnaa
open Go.ChangeShapes Go.WideShapes Go.ChangeAt Go.RowKit Go.Deep Go.Joins
set_option linter.unusedVariables false
set_option linter.unusedSimpArgs false
set_option maxRecDepth 100000


theorem Ext.set2 {W w : World} {g : Nat} {u v : Value} (h : Ext W w) (hg : W.heap.size ≤ g) : Ext W ((w.setCell ⟨g, 0, none⟩ u).setCell ⟨g, 1, none⟩ v) := (h.set (p := ⟨g, 0, none⟩) hg u).set (p := ⟨g, 1, none⟩) hg v
theorem Blk.farT {w : World} {g b : Nat} {cs ds : Array Value} {t s : TypeId} {u v : Value} (h : Blk w g cs t) (hb : Blk w b ds s) (ht : t ≠ s) : Blk ((w.setCell ⟨b, 0, none⟩ u).setCell ⟨b, 1, none⟩ v) g cs t := by
  have hne : g ≠ b := by rintro rfl; exact ht (h.type hb)
  exact (h.far (p := ⟨b, 0, none⟩) hne u).far (p := ⟨b, 1, none⟩) hne v
theorem Blk.set2 {w : World} {b : Nat} {x y u v : Value} {t : TypeId} (h : Blk w b #[x, y] t) : Blk ((w.setCell ⟨b, 0, none⟩ u).setCell ⟨b, 1, none⟩ v) b #[u, v] t := by
  have := (h.set 0 u).set 1 v
  rw [ra_set] at this
  exact this
theorem Rg.setT {w : World} {A : Option Addr} {n c p b : Nat} {l : List Wt} {x y u v : Value} {t : TypeId} (h : Rg w A n c p l) (hb : Blk w b #[x, y] t) (ht : t ≠ 32) : Rg ((w.setCell ⟨b, 0, none⟩ u).setCell ⟨b, 1, none⟩ v) A n c p l := (h.set hb ht).set (hb.set _ _) ht
theorem Row.setT {w : World} {E : TypeId} {A : Option Addr} {n c b : Nat} {l : List Wt} {x y u v : Value} {t : TypeId} (h : Row E w A n c l) (hb : Blk w b #[x, y] t) (ht : t ≠ E) : Row E ((w.setCell ⟨b, 0, none⟩ u).setCell ⟨b, 1, none⟩ v) A n c l := (h.set hb ht).set (hb.set _ _) ht
theorem ch_one {w : World} {b : Nat} {x y : Int} (hb : b < w.heap.size) (h0 : w.cell? ⟨b, 0, none⟩ = some (.int .i64 x)) (h1 : w.cell? ⟨b, 1, none⟩ = some (.int .i64 y)) : Ch w (some ⟨b, 0, none⟩) [(x, y)] := by
  refine .inr ⟨b, 0, rfl, hb, fun j hj => ?_⟩
  match j, hj with
  | 0, _ => exact ⟨h0, h1⟩
theorem same_one {w : World} {g1 d1 d2 : Nat} {A2 : Option Addr} {x y : Int} (h1 : Ch w (some ⟨g1, 0, none⟩) [(x, y)]) (h2 : Ch w A2 [(x, y)]) :
    Calls Try.prog 13 #[.slice (some ⟨g1, 0, none⟩) 1 d1, .slice A2 1 d2] w fun e w' => e = .returned (.bool true) ∧ Ext w w' := same_any h1 h2 rfl (by omega)
set_option maxHeartbeats 4000000 in
theorem plays_any {W : World} {A : Option Addr} {n c : Nat} {f : Nat → Stp} (hs : Stps W A n f) (hf : ∀ k, k < n → Okst (f k)) (hn : n ≤ c) (hc : c ≤ maxLen) :
    Calls Try.prog 3 #[.slice A n c] W fun e w' => e = .returned (.bool true) ∧ Ext W w' := by
  obtain ⟨m, hm⟩ : ∃ m, m = min n 100 := ⟨_, rfl⟩
  have HF := hide hf
  clear hf
  go_enter Try.func3, Try.ntmps3
  go_wp2_with fail
  refine (short_any A n c _ hn hc).mono ?_
  rintro e w2 ⟨rfl, rfl⟩
  rw [← hm]
  have hi0 := Bx.new0 W
  have hX0 := Ext.alloc W (Obj.cells #[.slice none 0 0, .int .i64 (0 : Int)] 25)
  obtain ⟨Q, hQ⟩ : ∃ Q, Q = W.heap.size := ⟨_, rfl⟩
  rw [← hQ] at hi0 ⊢
  have HQ := hide (show W.heap.size ≤ Q by omega)
  have HM := hide (show m ≤ n by omega)
  have HM2 := hide (show m ≤ 100 by omega)
  clear hm hQ
  go_wp2_with fail
  go_loopw [4, 17] (fun v i wr => ∃ (j : Nat) (xs : List Wt) (A2 : Option Addr) (k2 c2 : Nat), j ≤ m ∧ v = .slice A2 k2 c2 ∧ i = .int .i64 (j : Int) ∧ Bx wr Q xs ∧ Row 29 wr A2 k2 c2 xs ∧ OkW xs ∧ Ext W wr) (fun _ i _ => m - (intOf i).toNat)
  case atStart => exact ⟨0, [], none, 0, 0, by omega, rfl, rfl, hi0, Row.nil _ _, okw_nil, hX0⟩
  case round =>
    clear hi0 hX0
    obtain ⟨j, xs, B2, k2, d2, hj, rfl, rfl, hb, hrf, ok, hX⟩ := hrel
    by_cases hlt : j < m
    · have hj2 : j < n := by have := HM.out; omega
      have hm2 := HM2.out
      obtain ⟨b, off, rfl, r0, r1, r2⟩ := hs.rules hj2
      have okx := HF.out j hj2
      obtain ⟨x, hx⟩ : ∃ x, x = f j := ⟨_, rfl⟩
      rw [← hx] at r0 r1 r2 okx
      clear hx
      have r0 := r0 wr hX
      have r1 := r1 wr hX
      have r2 := r2 wr hX
      have k0 := okx.k0
      have k1 := okx.k1
      have hl := ok.len
      have hY := Ext.alloc wr (Obj.cells #[.int .u8 x.k, .int .i64 x.t, .int .i64 x.n] 31)
      have hz := Blk.new wr #[Value.int .u8 x.k, .int .i64 x.t, .int .i64 x.n] 31
      obtain ⟨A0, n0, c0, p0, hq, hr⟩ := hb.ext hY
      have hX := hX.trans hY
      have hrf := hrf.ext hY
      have hn0 : n0 ≤ 65535 := by have := hr.len; omega
      obtain ⟨Z, hZ⟩ : ∃ Z, Z = wr.heap.size := ⟨_, rfl⟩
      rw [← hZ] at hz
      clear hb okx
      go_upto_region 6 with fail
      rw [← hZ]
      clear hZ hY r0 r1 r2
      generalize wr.alloc (Obj.cells #[.int .u8 x.k, .int .i64 x.t, .int .i64 x.n] 31) = w0 at *
      have q0 := hq.cell
      have z0 := hz.cell
      go_wp2_with fail
      refine (do_any x.k x.t x.n hr ok hn0 k0 k1).mono ?_
      rintro e w1 ⟨A1, n1, c1, p1, rfl, hr1, hx1⟩
      obtain ⟨ys, hys⟩ : ∃ ys, ys = doL xs x.k x.t x.n := ⟨_, rfl⟩
      obtain ⟨yw, hyw⟩ : ∃ yw, yw = doW xs x.k x.t := ⟨_, rfl⟩
      obtain ⟨yb, hyb⟩ : ∃ yb, yb = doB xs x.k x.t x.n := ⟨_, rfl⟩
      have oky := ok.do_ x.k x.t x.n
      rw [← hys] at hr1 oky
      rw [← hyw, ← hyb]
      have HYS := hide hys
      have HYW := hide hyw
      have HYB := hide hyb
      have hY := (Ext.alloc w1 (Obj.cells #[.slice A1 n1 c1, .int .i64 (p1 : Int)] 25)).trans (Ext.alloc _ (Obj.cells #[.int .i64 yw.1, .int .i64 yw.2] 32))
      have hq1 := (hq.ext hx1).ext hY
      have hz1 := (hz.ext hx1).ext hY
      have hN1 := (Blk.new w1 #[Value.slice A1 n1 c1, .int .i64 (p1 : Int)] 25).ext (Ext.alloc _ (Obj.cells #[.int .i64 yw.1, .int .i64 yw.2] 32))
      have hV1 := Blk.new (w1.alloc (Obj.cells #[.slice A1 n1 c1, .int .i64 (p1 : Int)] 25)) #[Value.int .i64 yw.1, .int .i64 yw.2] 32
      have hX1 := (hX.trans hx1).trans hY
      have hr1 := hr1.ext hY
      have hrf1 := (hrf.ext hx1).ext hY
      rw [World.size_alloc] at hV1
      clear q0 z0 hr hq hz hrf hX hx1 hY hys hyw hyb
      go_upto_region 7 with fail
      obtain ⟨N, hN⟩ : ∃ N, N = w1.heap.size := ⟨_, rfl⟩
      rw [← hN] at hN1 hV1 ⊢
      clear hN
      generalize (w1.alloc (Obj.cells #[.slice A1 n1 c1, .int .i64 (p1 : Int)] 25)).alloc (Obj.cells #[.int .i64 yw.1, .int .i64 yw.2] 32) = w2 at *
      have hY := Ext.alloc w2 (Obj.cells #[.int .i64 0, .int .i64 0] 29)
      have hq2 := hq1.ext hY
      have hz2 := hz1.ext hY
      have hN2 := hN1.ext hY
      have hV2 := hV1.ext hY
      have hX2 := hX1.trans hY
      have hr2 := hr1.ext hY
      have hrf2 := hrf1.ext hY
      have hK2 := Blk.new w2 #[Value.int .i64 0, .int .i64 0] 29
      have z1 := hz2.cell
      obtain ⟨K, hK⟩ : ∃ K, K = w2.heap.size := ⟨_, rfl⟩
      have hszK := hX1.size
      rw [← hK] at hK2 hszK
      have HKW := hide hszK
      have hn1 := hr2.len
      have HN1 := hide hn1
      have hn10 : n1 ≤ 65535 := by have := oky.len; omega
      clear hq1 hz1 hN1 hV1 hX1 hr1 hrf1 hY hszK hn1
      go_upto_block 2 with fail
      rw [← hK]
      clear hK
      generalize w2.alloc (Obj.cells #[.int .i64 0, .int .i64 0] 29) = w3 at *
      go_cut [4, 11, 31] (fun v k11 k31 wc => ∃ (A3 : Option Addr) (c3 : Nat), v = .slice A3 n1 c3 ∧ k11 = .bool yb ∧ Row 29 wc A3 n1 c3 ys ∧ Blk wc Q #[Value.slice A0 n0 c0, .int .i64 (p0 : Int)] 25 ∧ Blk wc N #[Value.slice A1 n1 c1, .int .i64 (p1 : Int)] 25 ∧ Blk wc (N + 1) #[Value.int .i64 yw.1, .int .i64 yw.2] 32 ∧ Blk wc K #[Value.int .i64 yw.1, .int .i64 yw.2] 29 ∧ Rg wc A1 n1 c1 p1 ys ∧ Ext W wc)
      case first =>
        by_cases p1' : x.k % 4 = 1
        · have hcall := rremove_any x.t hrf2 ok
          rw [← doL_1 p1' xs x.t x.n, ← doB_1 p1' xs x.t x.n, ← doW_1 p1' xs x.t, ← HYS.out, ← HYW.out, ← HYB.out] at hcall
          have kf := hK2.free
          go_wp2_with fail
          refine hcall.mono ?_
          rintro e w4 ⟨A3, k3, c3, rfl, hr4, hx4, hn4⟩
          have hK4 := hK2.ext hx4
          have kc := hK4.cell
          have kf := hK4.free
          have hkn : k3 = n1 := by have := hr4.1; have := HN1.out; omega
          subst hkn
          have hne : ∀ b off, A3 = some ⟨b, off, none⟩ → b ≠ K := fun b off e => by have := hn4 b off e; have := hK2.lt; omega
          have HR4 := hide ((hr4.far (i := 0) (u := .int .i64 yw.1) hne).far (i := 1) (u := .int .i64 yw.2) hne)
          have HX4 := hide hx4
          clear hcall hr4 hn4 hne hx4
          go_wp2_with fail
          go_meet
          case rel => exact ⟨A3, c3, rfl, rfl, HR4.out, (hq2.ext HX4.out).farT hK4 (by decide), (hN2.ext HX4.out).farT hK4 (by decide), (hV2.ext HX4.out).farT hK4 (by decide), hK4.set2, (hr2.ext HX4.out).setT hK4 (by decide), (hX2.trans HX4.out).set2 HKW.out⟩
        · by_cases p2' : x.k % 4 = 2
          · have hcall := rturn_any hrf2 (by have := hrf2.1; omega)
            rw [← doL_2 p2' xs x.t x.n, ← HYS.out] at hcall
            have hyb := HYB.out
            rw [doB_2 p2'] at hyb
            subst hyb
            have hyw := HYW.out
            rw [doW_0 p1'] at hyw
            subst hyw
            go_wp2_with fail
            refine hcall.mono ?_
            rintro e w4 ⟨A3, c3, rfl, hr4, hx4⟩
            have hkn : k2 = n1 := by have := hr4.1; have := HN1.out; omega
            subst hkn
            have HR4 := hide hr4
            have HX4 := hide hx4
            clear hcall hr4 hx4
            go_wp2_with fail
            go_meet
            case rel => exact ⟨A3, c3, rfl, rfl, HR4.out, hq2.ext HX4.out, hN2.ext HX4.out, hV2.ext HX4.out, hK2.ext HX4.out, hr2.ext HX4.out, hX2.trans HX4.out⟩
          · have hcall := radd_any x.t x.n hrf2 (by have := hrf2.1; omega)
            rw [← doL_0 p1' p2' xs x.t x.n, ← doB_0 p1' p2' xs x.t x.n, ← HYS.out, ← HYB.out] at hcall
            have hyw := HYW.out
            rw [doW_0 p1'] at hyw
            subst hyw
            go_wp2_with fail
            refine hcall.mono ?_
            rintro e w4 ⟨A3, k3, c3, rfl, hr4, hx4⟩
            have hkn : k3 = n1 := by have := hr4.1; have := HN1.out; omega
            subst hkn
            have HR4 := hide hr4
            have HX4 := hide hx4
            clear hcall hr4 hx4
            go_wp2_with fail
            go_meet
            case rel => exact ⟨A3, c3, rfl, rfl, HR4.out, hq2.ext HX4.out, hN2.ext HX4.out, hV2.ext HX4.out, hK2.ext HX4.out, hr2.ext HX4.out, hX2.trans HX4.out⟩
      case rest =>
        obtain ⟨A3, c3, rfl, rfl, hx5, hq5, hN5, hV5, hK5, hr5, hX5⟩ := hcut
        have y1 := hq5.cell
        have y1f := hq5.free
        have y2 := hN5.cell
        go_upto_region 15 with fail
        have hq6 := hq5.set2 (u := .slice A1 n1 c1) (v := .int .i64 (p1 : Int))
        have hV6 := hV5.farT (u := .slice A1 n1 c1) (v := .int .i64 (p1 : Int)) hq5 (by decide)
        have hK6 := hK5.farT (u := .slice A1 n1 c1) (v := .int .i64 (p1 : Int)) hq5 (by decide)
        have hr6 := hr5.setT (u := .slice A1 n1 c1) (v := .int .i64 (p1 : Int)) hq5 (by decide)
        have hx6 := hx5.setT (u := .slice A1 n1 c1) (v := .int .i64 (p1 : Int)) hq5 (by decide)
        have hX6 := hX5.set2 (u := .slice A1 n1 c1) (v := .int .i64 (p1 : Int)) HQ.out
        clear y1 y1f y2 hx5 hq5 hN5 hV5 hK5 hr5 hX5
        generalize (wc.setCell ⟨Q, 0, none⟩ (.slice A1 n1 c1)).setCell ⟨Q, 1, none⟩ (.int .i64 (p1 : Int)) = w6 at *
        have hcall := first_any hr6 hn10
        have y3 := hq6.cell
        cases hys0 : ys with
        | nil =>
          rw [hys0, show hdW [] = (0, 0) from rfl, show neW [] = false from rfl] at hcall
          have hzero : n1 = 0 := by have := HN1.out; rw [hys0] at this; simp at this; omega
          subst hzero
          clear hys0
          go_wp2_with fail
          refine hcall.mono ?_
          rintro e w7 ⟨rfl, hx7⟩
          clear hcall
          have hY := hx7.trans (Ext.alloc w7 (Obj.cells #[.int .i64 0, .int .i64 0] 32))
          have HBQ := hide (hq6.ext hY)
          have HBV := hide (hV6.ext hY)
          have HBK := hide (hK6.ext hY)
          have HBF := hide (Blk.new w7 #[Value.int .i64 0, .int .i64 0] 32)
          have HRG := hide (hr6.ext hY)
          have HRX := hide (hx6.ext hY)
          have HXX := hide (hX6.trans hY)
          clear y3 hq6 hV6 hK6 hr6 hx6 hX6 hx7 hY
          go_upto_region 16 with fail
          generalize w7.heap.size = F at *
          generalize w7.alloc (Obj.cells #[.int .i64 0, .int .i64 0] 32) = w8 at *
          have AQ := hide (fun w' (y : Ext w8 w') => all_any (HRG.out.ext y) hn10)
          have XC := hide (fun w' (y : Ext w8 w') => (HRX.out.ext y).ch)
          have hk := Ext.drew w8
          refine wp_region_held_drew (S := (fun w' => ((w'.cell? ⟨Q, 0, none⟩ = some (.slice A1 0 c1) ∧ w'.cell? ⟨Q, 1, none⟩ = some (.int .i64 (p1 : Int))) ∧ (w'.cell? ⟨N + 1, 0, none⟩ = some (.int .i64 yw.1) ∧ w'.cell? ⟨N + 1, 1, none⟩ = some (.int .i64 yw.2))) ∧ ((w'.cell? ⟨K, 0, none⟩ = some (.int .i64 yw.1) ∧ w'.cell? ⟨K, 1, none⟩ = some (.int .i64 yw.2)) ∧ (w'.cell? ⟨F, 0, none⟩ = some (.int .i64 0) ∧ w'.cell? ⟨F, 1, none⟩ = some (.int .i64 0))))) (by kernel_rfl) (by with_reducible exact ⟨⟨two2 (HBQ.out.ext (by repeat (first | exact Ext.refl _ | assumption | exact Ext.alloc _ _ | exact Ext.drew _ | refine Ext.trans ?_ (Ext.alloc _ _) | refine Ext.trans ?_ (Ext.drew _)))), two2 (HBV.out.ext (by repeat (first | exact Ext.refl _ | assumption | exact Ext.alloc _ _ | exact Ext.drew _ | refine Ext.trans ?_ (Ext.alloc _ _) | refine Ext.trans ?_ (Ext.drew _))))⟩, ⟨two2 (HBK.out.ext (by repeat (first | exact Ext.refl _ | assumption | exact Ext.alloc _ _ | exact Ext.drew _ | refine Ext.trans ?_ (Ext.alloc _ _) | refine Ext.trans ?_ (Ext.drew _)))), two2 (HBF.out.ext (by repeat (first | exact Ext.refl _ | assumption | exact Ext.alloc _ _ | exact Ext.drew _ | refine Ext.trans ?_ (Ext.alloc _ _) | refine Ext.trans ?_ (Ext.drew _))))⟩⟩) (fun hHeld => ?_)
          (refine held_take (i := 0) (v := ?_) rfl (by kernel_rfl) (by kernel_rfl) (by kernel_rfl) (fun _ _ _ h => h) (by rfl) ?_ (by assumption) ?_; rotate_left; (intro w hSw; (try dsimp only at hSw); (first | (go_simp; done) | (go_simp; with_reducible rfl))); (try simp only [Act.put, List.setIfInBounds_toArray, List.set_cons_zero, List.set_cons_succ]))
          (refine held_take (i := 1) (v := ?_) rfl (by kernel_rfl) (by kernel_rfl) (by kernel_rfl) (fun _ _ _ h => h) (by rfl) ?_ (by assumption) ?_; rotate_left; (intro w hSw; (try dsimp only at hSw); (first | (go_simp; done) | (go_simp; with_reducible rfl))); (try simp only [Act.put, List.setIfInBounds_toArray, List.set_cons_zero, List.set_cons_succ]))
          (refine held_take (i := 2) (v := ?_) rfl (by kernel_rfl) (by kernel_rfl) (by kernel_rfl) (fun _ _ _ h => h) (by rfl) ?_ (by assumption) ?_; rotate_left; (intro w hSw; (try dsimp only at hSw); (first | (go_simp; done) | (go_simp; with_reducible rfl))); (try simp only [Act.put, List.setIfInBounds_toArray, List.set_cons_zero, List.set_cons_succ]))
          (refine held_take (i := 3) (v := ?_) rfl (by kernel_rfl) (by kernel_rfl) (by kernel_rfl) (fun _ _ _ h => h) (by rfl) ?_ (by assumption) ?_; rotate_left; (intro w hSw; (try dsimp only at hSw); (first | (go_simp; done) | (go_simp; with_reducible rfl))); (try simp only [Act.put, List.setIfInBounds_toArray, List.set_cons_zero, List.set_cons_succ]))
          (refine held_take (i := 4) (v := ?_) rfl (by kernel_rfl) (by kernel_rfl) (by kernel_rfl) (fun _ _ _ h => h) (by rfl) ?_ (by assumption) ?_; rotate_left; (intro w hSw; (try dsimp only at hSw); (first | (go_simp; done) | (go_simp; with_reducible rfl))); (try simp only [Act.put, List.setIfInBounds_toArray, List.set_cons_zero, List.set_cons_succ]))
          (refine held_take (i := 6) (v := ?_) rfl (by kernel_rfl) (by kernel_rfl) (by kernel_rfl) (fun _ _ _ h => h) (by rfl) ?_ (by assumption) ?_; rotate_left; (intro w hSw; (try dsimp only at hSw); (first | (go_simp; done) | (go_simp; with_reducible rfl))); (try simp only [Act.put, List.setIfInBounds_toArray, List.set_cons_zero, List.set_cons_succ]))
          refine wpAnyH_ready (rs := [5, 7]) (by kernel_rfl) (by simp) (held_cons rfl (fun K hK => ?_) (held_cons rfl (fun K hK => ?_) AllReadyH.nil))
          · go_simp
            (refine hK.out _ _ ?_ (fun hHeld => ?_))
            · with_reducible exact ⟨⟨two2 (HBQ.out.ext (by repeat (first | exact Ext.refl _ | assumption | exact Ext.alloc _ _ | exact Ext.drew _ | refine Ext.trans ?_ (Ext.alloc _ _) | refine Ext.trans ?_ (Ext.drew _)))), two2 (HBV.out.ext (by repeat (first | exact Ext.refl _ | assumption | exact Ext.alloc _ _ | exact Ext.drew _ | refine Ext.trans ?_ (Ext.alloc _ _) | refine Ext.trans ?_ (Ext.drew _))))⟩, ⟨two2 (HBK.out.ext (by repeat (first | exact Ext.refl _ | assumption | exact Ext.alloc _ _ | exact Ext.drew _ | refine Ext.trans ?_ (Ext.alloc _ _) | refine Ext.trans ?_ (Ext.drew _)))), two2 (HBF.out.ext (by repeat (first | exact Ext.refl _ | assumption | exact Ext.alloc _ _ | exact Ext.drew _ | refine Ext.trans ?_ (Ext.alloc _ _) | refine Ext.trans ?_ (Ext.drew _))))⟩⟩
            (try simp only [Act.put, List.setIfInBounds_toArray, List.set_cons_zero, List.set_cons_succ])
            refine wpAnyH_ready (rs := [7]) (by kernel_rfl) (by simp) (held_cons rfl (fun K hK => ?_) AllReadyH.nil)
            go_simp
            (refine hK.out _ _ ?_ (fun hHeld => ?_))
            · with_reducible exact ⟨⟨two2 (HBQ.out.ext (by repeat (first | exact Ext.refl _ | assumption | exact Ext.alloc _ _ | exact Ext.drew _ | refine Ext.trans ?_ (Ext.alloc _ _) | refine Ext.trans ?_ (Ext.drew _)))), two2 (HBV.out.ext (by repeat (first | exact Ext.refl _ | assumption | exact Ext.alloc _ _ | exact Ext.drew _ | refine Ext.trans ?_ (Ext.alloc _ _) | refine Ext.trans ?_ (Ext.drew _))))⟩, ⟨two2 (HBK.out.ext (by repeat (first | exact Ext.refl _ | assumption | exact Ext.alloc _ _ | exact Ext.drew _ | refine Ext.trans ?_ (Ext.alloc _ _) | refine Ext.trans ?_ (Ext.drew _)))), two2 (HBF.out.ext (by repeat (first | exact Ext.refl _ | assumption | exact Ext.alloc _ _ | exact Ext.drew _ | refine Ext.trans ?_ (Ext.alloc _ _) | refine Ext.trans ?_ (Ext.drew _))))⟩⟩
            (try simp only [Act.put, List.setIfInBounds_toArray, List.set_cons_zero, List.set_cons_succ])
            refine wpAnyH_ready (rs := [8]) (by kernel_rfl) (by simp) (held_cons rfl (fun K hK => ?_) AllReadyH.nil)
            go_simp
            refine (same_one (x := yw.1) (y := yw.2) (ch_one (by first | omega | (simp; done) | (simp; omega)) (by go_simp) (by go_simp)) (ch_one (by first | omega | (simp; done) | (simp; omega)) (by go_simp) (by go_simp))).mono ?_
            rintro e w10 ⟨rfl, hx10⟩
            obtain ⟨-, hk, -⟩ := over hx10 (W := w8) (by repeat (first | exact Ext.refl _ | assumption | exact Ext.alloc _ _ | exact Ext.drew _ | refine Ext.trans ?_ (Ext.alloc _ _) | refine Ext.trans ?_ (Ext.drew _)))
            (refine hK.out _ _ ?_ (fun hHeld => ?_))
            · with_reducible exact ⟨⟨two2 (HBQ.out.ext (by repeat (first | exact Ext.refl _ | assumption | exact Ext.alloc _ _ | exact Ext.drew _ | refine Ext.trans ?_ (Ext.alloc _ _) | refine Ext.trans ?_ (Ext.drew _)))), two2 (HBV.out.ext (by repeat (first | exact Ext.refl _ | assumption | exact Ext.alloc _ _ | exact Ext.drew _ | refine Ext.trans ?_ (Ext.alloc _ _) | refine Ext.trans ?_ (Ext.drew _))))⟩, ⟨two2 (HBK.out.ext (by repeat (first | exact Ext.refl _ | assumption | exact Ext.alloc _ _ | exact Ext.drew _ | refine Ext.trans ?_ (Ext.alloc _ _) | refine Ext.trans ?_ (Ext.drew _)))), two2 (HBF.out.ext (by repeat (first | exact Ext.refl _ | assumption | exact Ext.alloc _ _ | exact Ext.drew _ | refine Ext.trans ?_ (Ext.alloc _ _) | refine Ext.trans ?_ (Ext.drew _))))⟩⟩
            (try simp only [Act.put, List.setIfInBounds_toArray, List.set_cons_zero, List.set_cons_succ])
            (refine held_take (i := 9) (v := ?_) rfl (by kernel_rfl) (by kernel_rfl) (by kernel_rfl) (fun _ _ _ h => h) (by rfl) ?_ (by assumption) ?_; rotate_left; (intro w hSw; (try dsimp only at hSw); (first | (go_simp; done) | (go_simp; with_reducible rfl))); (try simp only [Act.put, List.setIfInBounds_toArray, List.set_cons_zero, List.set_cons_succ]))
            (refine held_take (i := 10) (v := ?_) rfl (by kernel_rfl) (by kernel_rfl) (by kernel_rfl) (fun _ _ _ h => h) (by rfl) ?_ (by assumption) ?_; rotate_left; (intro w hSw; (try dsimp only at hSw); (first | (go_simp; done) | (go_simp; with_reducible rfl))); (try simp only [Act.put, List.setIfInBounds_toArray, List.set_cons_zero, List.set_cons_succ]))
            (refine held_take (i := 11) (v := ?_) rfl (by kernel_rfl) (by kernel_rfl) (by kernel_rfl) (fun _ _ _ h => h) (by rfl) ?_ (by assumption) ?_; rotate_left; (intro w hSw; (try dsimp only at hSw); (first | (go_simp; done) | (go_simp; with_reducible rfl))); (try simp only [Act.put, List.setIfInBounds_toArray, List.set_cons_zero, List.set_cons_succ]))
            (refine held_take (i := 12) (v := ?_) rfl (by kernel_rfl) (by kernel_rfl) (by kernel_rfl) (fun _ _ _ h => h) (by rfl) ?_ (by assumption) ?_; rotate_left; (intro w hSw; (try dsimp only at hSw); (first | (go_simp; done) | (go_simp; with_reducible rfl))); (try simp only [Act.put, List.setIfInBounds_toArray, List.set_cons_zero, List.set_cons_succ]))
            (refine held_take (i := 14) (v := ?_) rfl (by kernel_rfl) (by kernel_rfl) (by kernel_rfl) (fun _ _ _ h => h) (by rfl) ?_ (by assumption) ?_; rotate_left; (intro w hSw; (try dsimp only at hSw); (first | (go_simp; done) | (go_simp; with_reducible rfl))); (try simp only [Act.put, List.setIfInBounds_toArray, List.set_cons_zero, List.set_cons_succ]))
            refine wpAnyH_ready (rs := [13]) (by kernel_rfl) (by simp) (held_cons rfl (fun K hK => ?_) AllReadyH.nil)
            go_simp
            refine (AQ.out _ hk).mono ?_
            rintro e w9 ⟨A9, c9, rfl, hown9, hx9⟩
            obtain ⟨A10, c10, e10, hr10, -⟩ := Row.of_own hown9
            cases e10
            have hk := hk.trans hx9
            (refine hK.out _ _ ?_ (fun hHeld => ?_))
            · with_reducible exact ⟨⟨two2 (HBQ.out.ext (by repeat (first | exact Ext.refl _ | assumption | exact Ext.alloc _ _ | exact Ext.drew _ | refine Ext.trans ?_ (Ext.alloc _ _) | refine Ext.trans ?_ (Ext.drew _)))), two2 (HBV.out.ext (by repeat (first | exact Ext.refl _ | assumption | exact Ext.alloc _ _ | exact Ext.drew _ | refine Ext.trans ?_ (Ext.alloc _ _) | refine Ext.trans ?_ (Ext.drew _))))⟩, ⟨two2 (HBK.out.ext (by repeat (first | exact Ext.refl _ | assumption | exact Ext.alloc _ _ | exact Ext.drew _ | refine Ext.trans ?_ (Ext.alloc _ _) | refine Ext.trans ?_ (Ext.drew _)))), two2 (HBF.out.ext (by repeat (first | exact Ext.refl _ | assumption | exact Ext.alloc _ _ | exact Ext.drew _ | refine Ext.trans ?_ (Ext.alloc _ _) | refine Ext.trans ?_ (Ext.drew _))))⟩⟩
            (try simp only [Act.put, List.setIfInBounds_toArray, List.set_cons_zero, List.set_cons_succ])
            refine wpAnyH_ready (rs := [15]) (by kernel_rfl) (by simp) (held_cons rfl (fun K hK => ?_) AllReadyH.nil)
            go_simp
            refine (same_any hr10.ch (XC.out _ hk) HN1.out (by omega)).mono ?_
            rintro e w11 ⟨rfl, hx11⟩
            have hk := hk.trans hx11
            (refine hK.out _ _ ?_ (fun hHeld => ?_))
            · with_reducible exact ⟨⟨two2 (HBQ.out.ext (by repeat (first | exact Ext.refl _ | assumption | exact Ext.alloc _ _ | exact Ext.drew _ | refine Ext.trans ?_ (Ext.alloc _ _) | refine Ext.trans ?_ (Ext.drew _)))), two2 (HBV.out.ext (by repeat (first | exact Ext.refl _ | assumption | exact Ext.alloc _ _ | exact Ext.drew _ | refine Ext.trans ?_ (Ext.alloc _ _) | refine Ext.trans ?_ (Ext.drew _))))⟩, ⟨two2 (HBK.out.ext (by repeat (first | exact Ext.refl _ | assumption | exact Ext.alloc _ _ | exact Ext.drew _ | refine Ext.trans ?_ (Ext.alloc _ _) | refine Ext.trans ?_ (Ext.drew _)))), two2 (HBF.out.ext (by repeat (first | exact Ext.refl _ | assumption | exact Ext.alloc _ _ | exact Ext.drew _ | refine Ext.trans ?_ (Ext.alloc _ _) | refine Ext.trans ?_ (Ext.drew _))))⟩⟩
            (try simp only [Act.put, List.setIfInBounds_toArray, List.set_cons_zero, List.set_cons_succ])
            (refine held_take (i := 16) (v := ?_) rfl (by kernel_rfl) (by kernel_rfl) (by kernel_rfl) (fun _ _ _ h => h) (by rfl) ?_ (by assumption) ?_; rotate_left; (intro w hSw; (try dsimp only at hSw); (first | (go_simp; done) | (go_simp; with_reducible rfl))); (try simp only [Act.put, List.setIfInBounds_toArray, List.set_cons_zero, List.set_cons_succ]))
            (refine held_take (i := 17) (v := ?_) rfl (by kernel_rfl) (by kernel_rfl) (by kernel_rfl) (fun _ _ _ h => h) (by rfl) ?_ (by assumption) ?_; rotate_left; (intro w hSw; (try dsimp only at hSw); (first | (go_simp; done) | (go_simp; with_reducible rfl))); (try simp only [Act.put, List.setIfInBounds_toArray, List.set_cons_zero, List.set_cons_succ]))
            (refine held_take (i := 18) (v := ?_) rfl (by kernel_rfl) (by kernel_rfl) (by kernel_rfl) (fun _ _ _ h => h) (by rfl) ?_ (by assumption) ?_; rotate_left; (intro w hSw; (try dsimp only at hSw); (first | (go_simp; done) | (go_simp; with_reducible rfl))); (try simp only [Act.put, List.setIfInBounds_toArray, List.set_cons_zero, List.set_cons_succ]))
            (refine held_take (i := 19) (v := ?_) rfl (by kernel_rfl) (by kernel_rfl) (by kernel_rfl) (fun _ _ _ h => h) (by rfl) ?_ (by assumption) ?_; rotate_left; (intro w hSw; (try dsimp only at hSw); (first | (go_simp; done) | (go_simp; with_reducible rfl))); (try simp only [Act.put, List.setIfInBounds_toArray, List.set_cons_zero, List.set_cons_succ]))
            (refine held_take (i := 21) (v := ?_) rfl (by kernel_rfl) (by kernel_rfl) (by kernel_rfl) (fun _ _ _ h => h) (by rfl) ?_ (by assumption) ?_; rotate_left; (intro w hSw; (try dsimp only at hSw); (first | (go_simp; done) | (go_simp; with_reducible rfl))); (try simp only [Act.put, List.setIfInBounds_toArray, List.set_cons_zero, List.set_cons_succ]))
            (refine held_take (i := 22) (v := ?_) rfl (by kernel_rfl) (by kernel_rfl) (by kernel_rfl) (fun _ _ _ h => h) (by rfl) ?_ (by assumption) ?_; rotate_left; (intro w hSw; (try dsimp only at hSw); (first | (go_simp; done) | (go_simp; with_reducible rfl))); (try simp only [Act.put, List.setIfInBounds_toArray, List.set_cons_zero, List.set_cons_succ]))
            refine wpAnyH_ready (rs := [20]) (by kernel_rfl) (by simp) (held_cons rfl (fun K hK => ?_) AllReadyH.nil)
            go_simp
            refine (len_any _ _ _ _ _).mono ?_
            rintro e w12 ⟨rfl, hx12⟩
            have hk := hk.trans hx12
            (refine hK.out _ _ ?_ (fun hHeld => ?_))
            · with_reducible exact ⟨⟨two2 (HBQ.out.ext (by repeat (first | exact Ext.refl _ | assumption | exact Ext.alloc _ _ | exact Ext.drew _ | refine Ext.trans ?_ (Ext.alloc _ _) | refine Ext.trans ?_ (Ext.drew _)))), two2 (HBV.out.ext (by repeat (first | exact Ext.refl _ | assumption | exact Ext.alloc _ _ | exact Ext.drew _ | refine Ext.trans ?_ (Ext.alloc _ _) | refine Ext.trans ?_ (Ext.drew _))))⟩, ⟨two2 (HBK.out.ext (by repeat (first | exact Ext.refl _ | assumption | exact Ext.alloc _ _ | exact Ext.drew _ | refine Ext.trans ?_ (Ext.alloc _ _) | refine Ext.trans ?_ (Ext.drew _)))), two2 (HBF.out.ext (by repeat (first | exact Ext.refl _ | assumption | exact Ext.alloc _ _ | exact Ext.drew _ | refine Ext.trans ?_ (Ext.alloc _ _) | refine Ext.trans ?_ (Ext.drew _))))⟩⟩
            (try simp only [Act.put, List.setIfInBounds_toArray, List.set_cons_zero, List.set_cons_succ])
            (refine held_take (i := 23) (v := ?_) rfl (by kernel_rfl) (by kernel_rfl) (by kernel_rfl) (fun _ _ _ h => h) (by rfl) ?_ (by assumption) ?_; rotate_left; (intro w hSw; (try dsimp only at hSw); (first | (go_simp; done) | (go_simp; with_reducible rfl))); (try simp only [Act.put, List.setIfInBounds_toArray, List.set_cons_zero, List.set_cons_succ]))
            (refine held_take (i := 24) (v := ?_) rfl (by kernel_rfl) (by kernel_rfl) (by kernel_rfl) (fun _ _ _ h => h) (by rfl) ?_ (by assumption) ?_; rotate_left; (intro w hSw; (try dsimp only at hSw); (first | (go_simp; done) | (go_simp; with_reducible rfl))); (try simp only [Act.put, List.setIfInBounds_toArray, List.set_cons_zero, List.set_cons_succ]))
            (refine held_take (i := 25) (v := ?_) rfl (by kernel_rfl) (by kernel_rfl) (by kernel_rfl) (fun _ _ _ h => h) (by rfl) ?_ (by assumption) ?_; rotate_left; (intro w hSw; (try dsimp only at hSw); (first | (go_simp; done) | (go_simp; with_reducible rfl))); (try simp only [Act.put, List.setIfInBounds_toArray, List.set_cons_zero, List.set_cons_succ]))
            (refine held_take (i := 26) (v := ?_) rfl (by kernel_rfl) (by kernel_rfl) (by kernel_rfl) (fun _ _ _ h => h) (by rfl) ?_ (by assumption) ?_; rotate_left; (intro w hSw; (try dsimp only at hSw); (first | (go_simp; done) | (go_simp; with_reducible rfl))); (try simp only [Act.put, List.setIfInBounds_toArray, List.set_cons_zero, List.set_cons_succ]))
            (refine held_take (i := 27) (v := ?_) rfl (by kernel_rfl) (by kernel_rfl) (by kernel_rfl) (fun _ _ _ h => h) (by rfl) ?_ (by assumption) ?_; rotate_left; (intro w hSw; (try dsimp only at hSw); (first | (go_simp; done) | (go_simp; with_reducible rfl))); (try simp only [Act.put, List.setIfInBounds_toArray, List.set_cons_zero, List.set_cons_succ]))
            (refine held_take (i := 28) (v := ?_) rfl (by kernel_rfl) (by kernel_rfl) (by kernel_rfl) (fun _ _ _ h => h) (by rfl) ?_ (by assumption) ?_; rotate_left; (intro w hSw; (try dsimp only at hSw); (first | (go_simp; done) | (go_simp; with_reducible rfl))); (try simp only [Act.put, List.setIfInBounds_toArray, List.set_cons_zero, List.set_cons_succ]))
            (refine held_take (i := 29) (v := ?_) rfl (by kernel_rfl) (by kernel_rfl) (by kernel_rfl) (fun _ _ _ h => h) (by rfl) ?_ (by assumption) ?_; rotate_left; (intro w hSw; (try dsimp only at hSw); (first | (go_simp; done) | (go_simp; with_reducible rfl))); (try simp only [Act.put, List.setIfInBounds_toArray, List.set_cons_zero, List.set_cons_succ]))
            (refine held_take (i := 30) (v := ?_) rfl (by kernel_rfl) (by kernel_rfl) (by kernel_rfl) (fun _ _ _ h => h) (by rfl) ?_ (by assumption) ?_; rotate_left; (intro w hSw; (try dsimp only at hSw); (first | (go_simp; done) | (go_simp; with_reducible rfl))); (try simp only [Act.put, List.setIfInBounds_toArray, List.set_cons_zero, List.set_cons_succ]))
            (refine held_take (i := 31) (v := ?_) rfl (by kernel_rfl) (by kernel_rfl) (by kernel_rfl) (fun _ _ _ h => h) (by rfl) ?_ (by assumption) ?_; rotate_left; (intro w hSw; (try dsimp only at hSw); (first | (go_simp; done) | (go_simp; with_reducible rfl))); (try simp only [Act.put, List.setIfInBounds_toArray, List.set_cons_zero, List.set_cons_succ]))
            (refine held_take (i := 32) (v := ?_) rfl (by kernel_rfl) (by kernel_rfl) (by kernel_rfl) (fun _ _ _ h => h) (by rfl) ?_ (by assumption) ?_; rotate_left; (intro w hSw; (try dsimp only at hSw); (first | (go_simp; done) | (go_simp; with_reducible rfl))); (try simp only [Act.put, List.setIfInBounds_toArray, List.set_cons_zero, List.set_cons_succ]))
            (refine held_take (i := 33) (v := ?_) rfl (by kernel_rfl) (by kernel_rfl) (by kernel_rfl) (fun _ _ _ h => h) (by rfl) ?_ (by assumption) ?_; rotate_left; (intro w hSw; (try dsimp only at hSw); (first | (go_simp; done) | (go_simp; with_reducible rfl))); (try simp only [Act.put, List.setIfInBounds_toArray, List.set_cons_zero, List.set_cons_succ]))
            (refine held_take (i := 34) (v := ?_) rfl (by kernel_rfl) (by kernel_rfl) (by kernel_rfl) (fun _ _ _ h => h) (by rfl) ?_ (by assumption) ?_; rotate_left; (intro w hSw; (try dsimp only at hSw); (first | (go_simp; done) | (go_simp; with_reducible rfl))); (try simp only [Act.put, List.setIfInBounds_toArray, List.set_cons_zero, List.set_cons_succ]))
            (refine held_skip (i := 35) rfl (by kernel_rfl) (by kernel_rfl) (by kernel_rfl) (fun _ _ _ h => h) (by rfl) (by assumption) ?_; (try simp only [Act.put, List.setIfInBounds_toArray, List.set_cons_zero, List.set_cons_succ]))
            (refine held_skip (i := 36) rfl (by kernel_rfl) (by kernel_rfl) (by kernel_rfl) (fun _ _ _ h => h) (by rfl) (by assumption) ?_; (try simp only [Act.put, List.setIfInBounds_toArray, List.set_cons_zero, List.set_cons_succ]))
            (refine held_skip (i := 37) rfl (by kernel_rfl) (by kernel_rfl) (by kernel_rfl) (fun _ _ _ h => h) (by rfl) (by assumption) ?_; (try simp only [Act.put, List.setIfInBounds_toArray, List.set_cons_zero, List.set_cons_succ]))
            (refine held_skip (i := 38) rfl (by kernel_rfl) (by kernel_rfl) (by kernel_rfl) (fun _ _ _ h => h) (by rfl) (by assumption) ?_; (try simp only [Act.put, List.setIfInBounds_toArray, List.set_cons_zero, List.set_cons_succ]))
            (refine held_skip (i := 39) rfl (by kernel_rfl) (by kernel_rfl) (by kernel_rfl) (fun _ _ _ h => h) (by rfl) (by assumption) ?_; (try simp only [Act.put, List.setIfInBounds_toArray, List.set_cons_zero, List.set_cons_succ]))
            (refine held_skip (i := 40) rfl (by kernel_rfl) (by kernel_rfl) (by kernel_rfl) (fun _ _ _ h => h) (by rfl) (by assumption) ?_; (try simp only [Act.put, List.setIfInBounds_toArray, List.set_cons_zero, List.set_cons_succ]))
            (refine held_take (i := 41) (v := ?_) rfl (by kernel_rfl) (by kernel_rfl) (by kernel_rfl) (fun _ _ _ h => h) (by rfl) ?_ (by assumption) ?_; rotate_left; (intro w hSw; (try dsimp only at hSw); (first | (go_simp; done) | (go_simp; with_reducible rfl))); (try simp only [Act.put, List.setIfInBounds_toArray, List.set_cons_zero, List.set_cons_succ]))
            (refine held_take (i := 42) (v := ?_) rfl (by kernel_rfl) (by kernel_rfl) (by kernel_rfl) (fun _ _ _ h => h) (by rfl) ?_ (by assumption) ?_; rotate_left; (intro w hSw; (try dsimp only at hSw); (first | (go_simp; done) | (go_simp; with_reducible rfl))); (try simp only [Act.put, List.setIfInBounds_toArray, List.set_cons_zero, List.set_cons_succ]))
            refine wpAnyH_done (by kernel_rfl) ?_ _
            have HK := hide hk
            clear hk AQ XC
            go_wp2_with fail
            go_roundw
            case rel => exact ⟨j + 1, ys, A3, 0, c3, by omega, rfl, by go_num, ⟨A1, 0, c1, p1, HBQ.out.ext HK.out, HRG.out.ext HK.out⟩, HRX.out.ext HK.out, oky, HXX.out.trans HK.out⟩
            case measure => simp [intOf]; omega
          · go_simp
            (refine hK.out _ _ ?_ (fun hHeld => ?_))
            · with_reducible exact ⟨⟨two2 (HBQ.out.ext (by repeat (first | exact Ext.refl _ | assumption | exact Ext.alloc _ _ | exact Ext.drew _ | refine Ext.trans ?_ (Ext.alloc _ _) | refine Ext.trans ?_ (Ext.drew _)))), two2 (HBV.out.ext (by repeat (first | exact Ext.refl _ | assumption | exact Ext.alloc _ _ | exact Ext.drew _ | refine Ext.trans ?_ (Ext.alloc _ _) | refine Ext.trans ?_ (Ext.drew _))))⟩, ⟨two2 (HBK.out.ext (by repeat (first | exact Ext.refl _ | assumption | exact Ext.alloc _ _ | exact Ext.drew _ | refine Ext.trans ?_ (Ext.alloc _ _) | refine Ext.trans ?_ (Ext.drew _)))), two2 (HBF.out.ext (by repeat (first | exact Ext.refl _ | assumption | exact Ext.alloc _ _ | exact Ext.drew _ | refine Ext.trans ?_ (Ext.alloc _ _) | refine Ext.trans ?_ (Ext.drew _))))⟩⟩
            (try simp only [Act.put, List.setIfInBounds_toArray, List.set_cons_zero, List.set_cons_succ])
            refine wpAnyH_ready (rs := [5]) (by kernel_rfl) (by simp) (held_cons rfl (fun K hK => ?_) AllReadyH.nil)
            go_simp
            (refine hK.out _ _ ?_ (fun hHeld => ?_))
            · with_reducible exact ⟨⟨two2 (HBQ.out.ext (by repeat (first | exact Ext.refl _ | assumption | exact Ext.alloc _ _ | exact Ext.drew _ | refine Ext.trans ?_ (Ext.alloc _ _) | refine Ext.trans ?_ (Ext.drew _)))), two2 (HBV.out.ext (by repeat (first | exact Ext.refl _ | assumption | exact Ext.alloc _ _ | exact Ext.drew _ | refine Ext.trans ?_ (Ext.alloc _ _) | refine Ext.trans ?_ (Ext.drew _))))⟩, ⟨two2 (HBK.out.ext (by repeat (first | exact Ext.refl _ | assumption | exact Ext.alloc _ _ | exact Ext.drew _ | refine Ext.trans ?_ (Ext.alloc _ _) | refine Ext.trans ?_ (Ext.drew _)))), two2 (HBF.out.ext (by repeat (first | exact Ext.refl _ | assumption | exact Ext.alloc _ _ | exact Ext.drew _ | refine Ext.trans ?_ (Ext.alloc _ _) | refine Ext.trans ?_ (Ext.drew _))))⟩⟩
            (try simp only [Act.put, List.setIfInBounds_toArray, List.set_cons_zero, List.set_cons_succ])
            refine wpAnyH_ready (rs := [8]) (by kernel_rfl) (by simp) (held_cons rfl (fun K hK => ?_) AllReadyH.nil)
            go_simp
            refine (same_one (x := yw.1) (y := yw.2) (ch_one (by first | omega | (simp; done) | (simp; omega)) (by go_simp) (by go_simp)) (ch_one (by first | omega | (simp; done) | (simp; omega)) (by go_simp) (by go_simp))).mono ?_
            rintro e w10 ⟨rfl, hx10⟩
            obtain ⟨-, hk, -⟩ := over hx10 (W := w8) (by repeat (first | exact Ext.refl _ | assumption | exact Ext.alloc _ _ | exact Ext.drew _ | refine Ext.trans ?_ (Ext.alloc _ _) | refine Ext.trans ?_ (Ext.drew _)))
            (refine hK.out _ _ ?_ (fun hHeld => ?_))
            · with_reducible exact ⟨⟨two2 (HBQ.out.ext (by repeat (first | exact Ext.refl _ | assumption | exact Ext.alloc _ _ | exact Ext.drew _ | refine Ext.trans ?_ (Ext.alloc _ _) | refine Ext.trans ?_ (Ext.drew _)))), two2 (HBV.out.ext (by repeat (first | exact Ext.refl _ | assumption | exact Ext.alloc _ _ | exact Ext.drew _ | refine Ext.trans ?_ (Ext.alloc _ _) | refine Ext.trans ?_ (Ext.drew _))))⟩, ⟨two2 (HBK.out.ext (by repeat (first | exact Ext.refl _ | assumption | exact Ext.alloc _ _ | exact Ext.drew _ | refine Ext.trans ?_ (Ext.alloc _ _) | refine Ext.trans ?_ (Ext.drew _)))), two2 (HBF.out.ext (by repeat (first | exact Ext.refl _ | assumption | exact Ext.alloc _ _ | exact Ext.drew _ | refine Ext.trans ?_ (Ext.alloc _ _) | refine Ext.trans ?_ (Ext.drew _))))⟩⟩
            (try simp only [Act.put, List.setIfInBounds_toArray, List.set_cons_zero, List.set_cons_succ])
            (refine held_take (i := 9) (v := ?_) rfl (by kernel_rfl) (by kernel_rfl) (by kernel_rfl) (fun _ _ _ h => h) (by rfl) ?_ (by assumption) ?_; rotate_left; (intro w hSw; (try dsimp only at hSw); (first | (go_simp; done) | (go_simp; with_reducible rfl))); (try simp only [Act.put, List.setIfInBounds_toArray, List.set_cons_zero, List.set_cons_succ]))
            (refine held_take (i := 10) (v := ?_) rfl (by kernel_rfl) (by kernel_rfl) (by kernel_rfl) (fun _ _ _ h => h) (by rfl) ?_ (by assumption) ?_; rotate_left; (intro w hSw; (try dsimp only at hSw); (first | (go_simp; done) | (go_simp; with_reducible rfl))); (try simp only [Act.put, List.setIfInBounds_toArray, List.set_cons_zero, List.set_cons_succ]))
            (refine held_take (i := 11) (v := ?_) rfl (by kernel_rfl) (by kernel_rfl) (by kernel_rfl) (fun _ _ _ h => h) (by rfl) ?_ (by assumption) ?_; rotate_left; (intro w hSw; (try dsimp only at hSw); (first | (go_simp; done) | (go_simp; with_reducible rfl))); (try simp only [Act.put, List.setIfInBounds_toArray, List.set_cons_zero, List.set_cons_succ]))
            (refine held_take (i := 12) (v := ?_) rfl (by kernel_rfl) (by kernel_rfl) (by kernel_rfl) (fun _ _ _ h => h) (by rfl) ?_ (by assumption) ?_; rotate_left; (intro w hSw; (try dsimp only at hSw); (first | (go_simp; done) | (go_simp; with_reducible rfl))); (try simp only [Act.put, List.setIfInBounds_toArray, List.set_cons_zero, List.set_cons_succ]))
            (refine held_take (i := 14) (v := ?_) rfl (by kernel_rfl) (by kernel_rfl) (by kernel_rfl) (fun _ _ _ h => h) (by rfl) ?_ (by assumption) ?_; rotate_left; (intro w hSw; (try dsimp only at hSw); (first | (go_simp; done) | (go_simp; with_reducible rfl))); (try simp only [Act.put, List.setIfInBounds_toArray, List.set_cons_zero, List.set_cons_succ]))
            refine wpAnyH_ready (rs := [13]) (by kernel_rfl) (by simp) (held_cons rfl (fun K hK => ?_) AllReadyH.nil)
            go_simp
            refine (AQ.out _ hk).mono ?_
            rintro e w9 ⟨A9, c9, rfl, hown9, hx9⟩
            obtain ⟨A10, c10, e10, hr10, -⟩ := Row.of_own hown9
            cases e10
            have hk := hk.trans hx9
            (refine hK.out _ _ ?_ (fun hHeld => ?_))
            · with_reducible exact ⟨⟨two2 (HBQ.out.ext (by repeat (first | exact Ext.refl _ | assumption | exact Ext.alloc _ _ | exact Ext.drew _ | refine Ext.trans ?_ (Ext.alloc _ _) | refine Ext.trans ?_ (Ext.drew _)))), two2 (HBV.out.ext (by repeat (first | exact Ext.refl _ | assumption | exact Ext.alloc _ _ | exact Ext.drew _ | refine Ext.trans ?_ (Ext.alloc _ _) | refine Ext.trans ?_ (Ext.drew _))))⟩, ⟨two2 (HBK.out.ext (by repeat (first | exact Ext.refl _ | assumption | exact Ext.alloc _ _ | exact Ext.drew _ | refine Ext.trans ?_ (Ext.alloc _ _) | refine Ext.trans ?_ (Ext.drew _)))), two2 (HBF.out.ext (by repeat (first | exact Ext.refl _ | assumption | exact Ext.alloc _ _ | exact Ext.drew _ | refine Ext.trans ?_ (Ext.alloc _ _) | refine Ext.trans ?_ (Ext.drew _))))⟩⟩
            (try simp only [Act.put, List.setIfInBounds_toArray, List.set_cons_zero, List.set_cons_succ])
            refine wpAnyH_ready (rs := [15]) (by kernel_rfl) (by simp) (held_cons rfl (fun K hK => ?_) AllReadyH.nil)
            go_simp
            refine (same_any hr10.ch (XC.out _ hk) HN1.out (by omega)).mono ?_
            rintro e w11 ⟨rfl, hx11⟩
            have hk := hk.trans hx11
            (refine hK.out _ _ ?_ (fun hHeld => ?_))
            · with_reducible exact ⟨⟨two2 (HBQ.out.ext (by repeat (first | exact Ext.refl _ | assumption | exact Ext.alloc _ _ | exact Ext.drew _ | refine Ext.trans ?_ (Ext.alloc _ _) | refine Ext.trans ?_ (Ext.drew _)))), two2 (HBV.out.ext (by repeat (first | exact Ext.refl _ | assumption | exact Ext.alloc _ _ | exact Ext.drew _ | refine Ext.trans ?_ (Ext.alloc _ _) | refine Ext.trans ?_ (Ext.drew _))))⟩, ⟨two2 (HBK.out.ext (by repeat (first | exact Ext.refl _ | assumption | exact Ext.alloc _ _ | exact Ext.drew _ | refine Ext.trans ?_ (Ext.alloc _ _) | refine Ext.trans ?_ (Ext.drew _)))), two2 (HBF.out.ext (by repeat (first | exact Ext.refl _ | assumption | exact Ext.alloc _ _ | exact Ext.drew _ | refine Ext.trans ?_ (Ext.alloc _ _) | refine Ext.trans ?_ (Ext.drew _))))⟩⟩
            (try simp only [Act.put, List.setIfInBounds_toArray, List.set_cons_zero, List.set_cons_succ])
            (refine held_take (i := 16) (v := ?_) rfl (by kernel_rfl) (by kernel_rfl) (by kernel_rfl) (fun _ _ _ h => h) (by rfl) ?_ (by assumption) ?_; rotate_left; (intro w hSw; (try dsimp only at hSw); (first | (go_simp; done) | (go_simp; with_reducible rfl))); (try simp only [Act.put, List.setIfInBounds_toArray, List.set_cons_zero, List.set_cons_succ]))
            (refine held_take (i := 17) (v := ?_) rfl (by kernel_rfl) (by kernel_rfl) (by kernel_rfl) (fun _ _ _ h => h) (by rfl) ?_ (by assumption) ?_; rotate_left; (intro w hSw; (try dsimp only at hSw); (first | (go_simp; done) | (go_simp; with_reducible rfl))); (try simp only [Act.put, List.setIfInBounds_toArray, List.set_cons_zero, List.set_cons_succ]))
            (refine held_take (i := 18) (v := ?_) rfl (by kernel_rfl) (by kernel_rfl) (by kernel_rfl) (fun _ _ _ h => h) (by rfl) ?_ (by assumption) ?_; rotate_left; (intro w hSw; (try dsimp only at hSw); (first | (go_simp; done) | (go_simp; with_reducible rfl))); (try simp only [Act.put, List.setIfInBounds_toArray, List.set_cons_zero, List.set_cons_succ]))
            (refine held_take (i := 19) (v := ?_) rfl (by kernel_rfl) (by kernel_rfl) (by kernel_rfl) (fun _ _ _ h => h) (by rfl) ?_ (by assumption) ?_; rotate_left; (intro w hSw; (try dsimp only at hSw); (first | (go_simp; done) | (go_simp; with_reducible rfl))); (try simp only [Act.put, List.setIfInBounds_toArray, List.set_cons_zero, List.set_cons_succ]))
            (refine held_take (i := 21) (v := ?_) rfl (by kernel_rfl) (by kernel_rfl) (by kernel_rfl) (fun _ _ _ h => h) (by rfl) ?_ (by assumption) ?_; rotate_left; (intro w hSw; (try dsimp only at hSw); (first | (go_simp; done) | (go_simp; with_reducible rfl))); (try simp only [Act.put, List.setIfInBounds_toArray, List.set_cons_zero, List.set_cons_succ]))
            (refine held_take (i := 22) (v := ?_) rfl (by kernel_rfl) (by kernel_rfl) (by kernel_rfl) (fun _ _ _ h => h) (by rfl) ?_ (by assumption) ?_; rotate_left; (intro w hSw; (try dsimp only at hSw); (first | (go_simp; done) | (go_simp; with_reducible rfl))); (try simp only [Act.put, List.setIfInBounds_toArray, List.set_cons_zero, List.set_cons_succ]))
            refine wpAnyH_ready (rs := [20]) (by kernel_rfl) (by simp) (held_cons rfl (fun K hK => ?_) AllReadyH.nil)
            go_simp
            refine (len_any _ _ _ _ _).mono ?_
            rintro e w12 ⟨rfl, hx12⟩
            have hk := hk.trans hx12
            (refine hK.out _ _ ?_ (fun hHeld => ?_))
            · with_reducible exact ⟨⟨two2 (HBQ.out.ext (by repeat (first | exact Ext.refl _ | assumption | exact Ext.alloc _ _ | exact Ext.drew _ | refine Ext.trans ?_ (Ext.alloc _ _) | refine Ext.trans ?_ (Ext.drew _)))), two2 (HBV.out.ext (by repeat (first | exact Ext.refl _ | assumption | exact Ext.alloc _ _ | exact Ext.drew _ | refine Ext.trans ?_ (Ext.alloc _ _) | refine Ext.trans ?_ (Ext.drew _))))⟩, ⟨two2 (HBK.out.ext (by repeat (first | exact Ext.refl _ | assumption | exact Ext.alloc _ _ | exact Ext.drew _ | refine Ext.trans ?_ (Ext.alloc _ _) | refine Ext.trans ?_ (Ext.drew _)))), two2 (HBF.out.ext (by repeat (first | exact Ext.refl _ | assumption | exact Ext.alloc _ _ | exact Ext.drew _ | refine Ext.trans ?_ (Ext.alloc _ _) | refine Ext.trans ?_ (Ext.drew _))))⟩⟩
            (try simp only [Act.put, List.setIfInBounds_toArray, List.set_cons_zero, List.set_cons_succ])
            (refine held_take (i := 23) (v := ?_) rfl (by kernel_rfl) (by kernel_rfl) (by kernel_rfl) (fun _ _ _ h => h) (by rfl) ?_ (by assumption) ?_; rotate_left; (intro w hSw; (try dsimp only at hSw); (first | (go_simp; done) | (go_simp; with_reducible rfl))); (try simp only [Act.put, List.setIfInBounds_toArray, List.set_cons_zero, List.set_cons_succ]))
            (refine held_take (i := 24) (v := ?_) rfl (by kernel_rfl) (by kernel_rfl) (by kernel_rfl) (fun _ _ _ h => h) (by rfl) ?_ (by assumption) ?_; rotate_left; (intro w hSw; (try dsimp only at hSw); (first | (go_simp; done) | (go_simp; with_reducible rfl))); (try simp only [Act.put, List.setIfInBounds_toArray, List.set_cons_zero, List.set_cons_succ]))
            (refine held_take (i := 25) (v := ?_) rfl (by kernel_rfl) (by kernel_rfl) (by kernel_rfl) (fun _ _ _ h => h) (by rfl) ?_ (by assumption) ?_; rotate_left; (intro w hSw; (try dsimp only at hSw); (first | (go_simp; done) | (go_simp; with_reducible rfl))); (try simp only [Act.put, List.setIfInBounds_toArray, List.set_cons_zero, List.set_cons_succ]))
            (refine held_take (i := 26) (v := ?_) rfl (by kernel_rfl) (by kernel_rfl) (by kernel_rfl) (fun _ _ _ h => h) (by rfl) ?_ (by assumption) ?_; rotate_left; (intro w hSw; (try dsimp only at hSw); (first | (go_simp; done) | (go_simp; with_reducible rfl))); (try simp only [Act.put, List.setIfInBounds_toArray, List.set_cons_zero, List.set_cons_succ]))
            (refine held_take (i := 27) (v := ?_) rfl (by kernel_rfl) (by kernel_rfl) (by kernel_rfl) (fun _ _ _ h => h) (by rfl) ?_ (by assumption) ?_; rotate_left; (intro w hSw; (try dsimp only at hSw); (first | (go_simp; done) | (go_simp; with_reducible rfl))); (try simp only [Act.put, List.setIfInBounds_toArray, List.set_cons_zero, List.set_cons_succ]))
            (refine held_take (i := 28) (v := ?_) rfl (by kernel_rfl) (by kernel_rfl) (by kernel_rfl) (fun _ _ _ h => h) (by rfl) ?_ (by assumption) ?_; rotate_left; (intro w hSw; (try dsimp only at hSw); (first | (go_simp; done) | (go_simp; with_reducible rfl))); (try simp only [Act.put, List.setIfInBounds_toArray, List.set_cons_zero, List.set_cons_succ]))
            (refine held_take (i := 29) (v := ?_) rfl (by kernel_rfl) (by kernel_rfl) (by kernel_rfl) (fun _ _ _ h => h) (by rfl) ?_ (by assumption) ?_; rotate_left; (intro w hSw; (try dsimp only at hSw); (first | (go_simp; done) | (go_simp; with_reducible rfl))); (try simp only [Act.put, List.setIfInBounds_toArray, List.set_cons_zero, List.set_cons_succ]))
            (refine held_take (i := 30) (v := ?_) rfl (by kernel_rfl) (by kernel_rfl) (by kernel_rfl) (fun _ _ _ h => h) (by rfl) ?_ (by assumption) ?_; rotate_left; (intro w hSw; (try dsimp only at hSw); (first | (go_simp; done) | (go_simp; with_reducible rfl))); (try simp only [Act.put, List.setIfInBounds_toArray, List.set_cons_zero, List.set_cons_succ]))
            (refine held_take (i := 31) (v := ?_) rfl (by kernel_rfl) (by kernel_rfl) (by kernel_rfl) (fun _ _ _ h => h) (by rfl) ?_ (by assumption) ?_; rotate_left; (intro w hSw; (try dsimp only at hSw); (first | (go_simp; done) | (go_simp; with_reducible rfl))); (try simp only [Act.put, List.setIfInBounds_toArray, List.set_cons_zero, List.set_cons_succ]))
            (refine held_take (i := 32) (v := ?_) rfl (by kernel_rfl) (by kernel_rfl) (by kernel_rfl) (fun _ _ _ h => h) (by rfl) ?_ (by assumption) ?_; rotate_left; (intro w hSw; (try dsimp only at hSw); (first | (go_simp; done) | (go_simp; with_reducible rfl))); (try simp only [Act.put, List.setIfInBounds_toArray, List.set_cons_zero, List.set_cons_succ]))
            (refine held_take (i := 33) (v := ?_) rfl (by kernel_rfl) (by kernel_rfl) (by kernel_rfl) (fun _ _ _ h => h) (by rfl) ?_ (by assumption) ?_; rotate_left; (intro w hSw; (try dsimp only at hSw); (first | (go_simp; done) | (go_simp; with_reducible rfl))); (try simp only [Act.put, List.setIfInBounds_toArray, List.set_cons_zero, List.set_cons_succ]))
            (refine held_take (i := 34) (v := ?_) rfl (by kernel_rfl) (by kernel_rfl) (by kernel_rfl) (fun _ _ _ h => h) (by rfl) ?_ (by assumption) ?_; rotate_left; (intro w hSw; (try dsimp only at hSw); (first | (go_simp; done) | (go_simp; with_reducible rfl))); (try simp only [Act.put, List.setIfInBounds_toArray, List.set_cons_zero, List.set_cons_succ]))
            (refine held_skip (i := 35) rfl (by kernel_rfl) (by kernel_rfl) (by kernel_rfl) (fun _ _ _ h => h) (by rfl) (by assumption) ?_; (try simp only [Act.put, List.setIfInBounds_toArray, List.set_cons_zero, List.set_cons_succ]))
            (refine held_skip (i := 36) rfl (by kernel_rfl) (by kernel_rfl) (by kernel_rfl) (fun _ _ _ h => h) (by rfl) (by assumption) ?_; (try simp only [Act.put, List.setIfInBounds_toArray, List.set_cons_zero, List.set_cons_succ]))
            (refine held_skip (i := 37) rfl (by kernel_rfl) (by kernel_rfl) (by kernel_rfl) (fun _ _ _ h => h) (by rfl) (by assumption) ?_; (try simp only [Act.put, List.setIfInBounds_toArray, List.set_cons_zero, List.set_cons_succ]))
            (refine held_skip (i := 38) rfl (by kernel_rfl) (by kernel_rfl) (by kernel_rfl) (fun _ _ _ h => h) (by rfl) (by assumption) ?_; (try simp only [Act.put, List.setIfInBounds_toArray, List.set_cons_zero, List.set_cons_succ]))
            (refine held_skip (i := 39) rfl (by kernel_rfl) (by kernel_rfl) (by kernel_rfl) (fun _ _ _ h => h) (by rfl) (by assumption) ?_; (try simp only [Act.put, List.setIfInBounds_toArray, List.set_cons_zero, List.set_cons_succ]))
            (refine held_skip (i := 40) rfl (by kernel_rfl) (by kernel_rfl) (by kernel_rfl) (fun _ _ _ h => h) (by rfl) (by assumption) ?_; (try simp only [Act.put, List.setIfInBounds_toArray, List.set_cons_zero, List.set_cons_succ]))
            (refine held_take (i := 41) (v := ?_) rfl (by kernel_rfl) (by kernel_rfl) (by kernel_rfl) (fun _ _ _ h => h) (by rfl) ?_ (by assumption) ?_; rotate_left; (intro w hSw; (try dsimp only at hSw); (first | (go_simp; done) | (go_simp; with_reducible rfl))); (try simp only [Act.put, List.setIfInBounds_toArray, List.set_cons_zero, List.set_cons_succ]))
            (refine held_take (i := 42) (v := ?_) rfl (by kernel_rfl) (by kernel_rfl) (by kernel_rfl) (fun _ _ _ h => h) (by rfl) ?_ (by assumption) ?_; rotate_left; (intro w hSw; (try dsimp only at hSw); (first | (go_simp; done) | (go_simp; with_reducible rfl))); (try simp only [Act.put, List.setIfInBounds_toArray, List.set_cons_zero, List.set_cons_succ]))
            refine wpAnyH_done (by kernel_rfl) ?_ _
            have HK := hide hk
            clear hk AQ XC
            go_wp2_with fail
            go_roundw
            case rel => exact ⟨j + 1, ys, A3, 0, c3, by omega, rfl, by go_num, ⟨A1, 0, c1, p1, HBQ.out.ext HK.out, HRG.out.ext HK.out⟩, HRX.out.ext HK.out, oky, HXX.out.trans HK.out⟩
            case measure => simp [intOf]; omega
        | cons yh yr =>
          rw [hys0, show hdW (yh :: yr) = yh from rfl, show neW (yh :: yr) = true by simp [neW]] at hcall
          have hpos : 0 < n1 := by have := HN1.out; rw [hys0] at this; simp at this; omega
          have HT1 := hide (show ys.take 1 = [(yh.1, yh.2)] by rw [hys0]; rfl)
          clear hys0
          go_wp2_with fail
          refine hcall.mono ?_
          rintro e w7 ⟨rfl, hx7⟩
          clear hcall
          have hY := hx7.trans (Ext.alloc w7 (Obj.cells #[.int .i64 yh.1, .int .i64 yh.2] 32))
          have HBQ := hide (hq6.ext hY)
          have HBV := hide (hV6.ext hY)
          have HBK := hide (hK6.ext hY)
          have HBF := hide (Blk.new w7 #[Value.int .i64 yh.1, .int .i64 yh.2] 32)
          have HRG := hide (hr6.ext hY)
          have HRX := hide (hx6.ext hY)
          have HXX := hide (hX6.trans hY)
          clear y3 hq6 hV6 hK6 hr6 hx6 hX6 hx7 hY
          go_upto_region 16 with fail
          generalize w7.heap.size = F at *
          generalize w7.alloc (Obj.cells #[.int .i64 yh.1, .int .i64 yh.2] 32) = w8 at *
          have AQ := hide (fun w' (y : Ext w8 w') => all_any (HRG.out.ext y) hn10)
          have XC := hide (fun w' (y : Ext w8 w') => (HRX.out.ext y).ch)
          have XT := hide (fun w' (y : Ext w8 w') => ((HRX.out.ext y).ch).take 1)
          rw [HT1.out] at XT
          have hc31 := HRX.out.2.1
          have hc32 := HRX.out.2.2.1
          unfold maxLen at hc32
          have hc33 : 1 ≤ c3 := by omega
          have hc34 : (1 : Int) ≤ (c3 : Int) := by omega
          have hk := Ext.drew w8
          go_region_held3 (fun w' => ((w'.cell? ⟨Q, 0, none⟩ = some (.slice A1 n1 c1) ∧ w'.cell? ⟨Q, 1, none⟩ = some (.int .i64 (p1 : Int))) ∧ (w'.cell? ⟨N + 1, 0, none⟩ = some (.int .i64 yw.1) ∧ w'.cell? ⟨N + 1, 1, none⟩ = some (.int .i64 yw.2))) ∧ ((w'.cell? ⟨K, 0, none⟩ = some (.int .i64 yw.1) ∧ w'.cell? ⟨K, 1, none⟩ = some (.int .i64 yw.2)) ∧ (w'.cell? ⟨F, 0, none⟩ = some (.int .i64 yh.1) ∧ w'.cell? ⟨F, 1, none⟩ = some (.int .i64 yh.2))))
            (with_reducible exact ⟨⟨two2 (HBQ.out.ext (by repeat (first | exact Ext.refl _ | assumption | exact Ext.alloc _ _ | exact Ext.drew _ | refine Ext.trans ?_ (Ext.alloc _ _) | refine Ext.trans ?_ (Ext.drew _)))), two2 (HBV.out.ext (by repeat (first | exact Ext.refl _ | assumption | exact Ext.alloc _ _ | exact Ext.drew _ | refine Ext.trans ?_ (Ext.alloc _ _) | refine Ext.trans ?_ (Ext.drew _))))⟩, ⟨two2 (HBK.out.ext (by repeat (first | exact Ext.refl _ | assumption | exact Ext.alloc _ _ | exact Ext.drew _ | refine Ext.trans ?_ (Ext.alloc _ _) | refine Ext.trans ?_ (Ext.drew _)))), two2 (HBF.out.ext (by repeat (first | exact Ext.refl _ | assumption | exact Ext.alloc _ _ | exact Ext.drew _ | refine Ext.trans ?_ (Ext.alloc _ _) | refine Ext.trans ?_ (Ext.drew _))))⟩⟩)
            (first
              | (go_at_call 14; with_reducible refine (AQ.out _ (by repeat (first | exact Ext.refl _ | assumption | exact Ext.alloc _ _ | exact Ext.drew _ | refine Ext.trans ?_ (Ext.alloc _ _) | refine Ext.trans ?_ (Ext.drew _)))).mono ?_; rintro e w9 ⟨A9, c9, rfl, hown9, hx9⟩; obtain ⟨-, hk, -⟩ := over hx9 (W := w8) (by repeat (first | exact Ext.refl _ | assumption | exact Ext.alloc _ _ | exact Ext.drew _ | refine Ext.trans ?_ (Ext.alloc _ _) | refine Ext.trans ?_ (Ext.drew _))); obtain ⟨A10, c10, e10, hr10, -⟩ := Row.of_own hown9; cases e10; have H10 := hide (fun w' (y : Ext w9 w') => (hr10.ext y).ch); clear hown9 hr10)
              | (go_at_call 13; with_reducible refine (same_any (H10.out _ (by repeat (first | exact Ext.refl _ | assumption | exact Ext.alloc _ _ | exact Ext.drew _ | refine Ext.trans ?_ (Ext.alloc _ _) | refine Ext.trans ?_ (Ext.drew _)))) (XC.out _ (by repeat (first | exact Ext.refl _ | assumption | exact Ext.alloc _ _ | exact Ext.drew _ | refine Ext.trans ?_ (Ext.alloc _ _) | refine Ext.trans ?_ (Ext.drew _)))) HN1.out (by omega)).mono ?_; rintro e w11 ⟨rfl, hx11⟩; obtain ⟨-, hk, -⟩ := over hx11 (W := w8) (by repeat (first | exact Ext.refl _ | assumption | exact Ext.alloc _ _ | exact Ext.drew _ | refine Ext.trans ?_ (Ext.alloc _ _) | refine Ext.trans ?_ (Ext.drew _))))
              | (go_at_call 15; with_reducible refine (len_any _ _ _ _ _).mono ?_; rintro e w12 ⟨rfl, hx12⟩; obtain ⟨-, hk, -⟩ := over hx12 (W := w8) (by repeat (first | exact Ext.refl _ | assumption | exact Ext.alloc _ _ | exact Ext.drew _ | refine Ext.trans ?_ (Ext.alloc _ _) | refine Ext.trans ?_ (Ext.drew _))))
              | (go_at_call 13; with_reducible refine (same_one (x := yw.1) (y := yw.2) ?_ ?_).mono ?_; exact ch_one (by first | omega | (simp; done) | (simp; omega)) (by go_simp) (by go_simp); exact ch_one (by first | omega | (simp; done) | (simp; omega)) (by go_simp) (by go_simp); rintro e w10 ⟨rfl, hx10⟩; obtain ⟨-, hk, -⟩ := over hx10 (W := w8) (by repeat (first | exact Ext.refl _ | assumption | exact Ext.alloc _ _ | exact Ext.drew _ | refine Ext.trans ?_ (Ext.alloc _ _) | refine Ext.trans ?_ (Ext.drew _))))
              | (go_at_call 13; with_reducible refine (same_one (x := yh.1) (y := yh.2) ?_ (XT.out _ (by repeat (first | exact Ext.refl _ | assumption | exact Ext.alloc _ _ | exact Ext.drew _ | refine Ext.trans ?_ (Ext.alloc _ _) | refine Ext.trans ?_ (Ext.drew _))))).mono ?_; exact ch_one (by first | omega | (simp; done) | (simp; omega)) (by go_simp) (by go_simp); rintro e w13 ⟨rfl, hx13⟩; obtain ⟨-, hk, -⟩ := over hx13 (W := w8) (by repeat (first | exact Ext.refl _ | assumption | exact Ext.alloc _ _ | exact Ext.drew _ | refine Ext.trans ?_ (Ext.alloc _ _) | refine Ext.trans ?_ (Ext.drew _)))))
          all_goals
            have HK := hide hk
            clear hk hc31 hc32 hc33 hc34 AQ XC XT HT1
            go_wp2_with fail
            go_roundw
            case rel => exact ⟨j + 1, ys, A3, n1, c3, by omega, rfl, by go_num, ⟨A1, n1, c1, p1, HBQ.out.ext HK.out, HRG.out.ext HK.out⟩, HRX.out.ext HK.out, oky, HXX.out.trans HK.out⟩
            case measure => simp [intOf]; omega
    · obtain rfl : j = m := by omega
      go_wp2_with fail
      refine (alive_any _).mono ?_
      rintro e w3 ⟨rfl, hx⟩
      go_wp2_with fail
      go_ret
      exact ⟨rfl, hX.trans hx⟩

set_option maxRecDepth 100000 in
theorem ringPlays_walk {H : Type} {enc : TypeId × Value → H} (W : World) (base : Nat) (args : Array Value) (ds : List (DataW H)) (p : List MemPlace)
    (hval0 : ∀ (j : Nat) t v, Try.f3.params[j]? = some t → args[j]? = some v → Value.okWide Try.prog W .any base t v)
    (hA0 : DataW.TrodAll enc Try.prog W 0 (fun _ => true) true Try.f3.params.toList args.toList ds p) (_hlt : ∀ x ∈ p, x.block < W.heap.size) :
    Calls Try.prog 3 args W fun e W' => e = .returned (.bool true) ∧ Ext W W' := by
  have hval := hval0
  have hA := hA0
  rw [Try.params3] at hA hval
  clear hval0 hA0
  obtain ⟨v0, d0, rfl, rfl, h0⟩ := trodAll_one hA
  obtain ⟨A, n, c, f, rfl, hn, hc, hs, hf⟩ := open_steps (hval 0 22 v0 rfl rfl) h0
  exact plays_any hs hf hn hc
set_option maxRecDepth 100000 in
theorem ringPlays_lifted (os : Os) (started : os.Started) (H : Type) (enc : TypeId × Value → H) :
    ReturnsInHanded {} Try.checked os 3 .any (Rows.ringPlaysSpec.pre6 enc Try.prog Try.f3 Rows.ringPlaysRow.domain false) (Rows.ringPlaysSpec.post enc Try.prog Try.f3 false true false false) :=
  law_lifted (fn := Try.f3) 4 os started (by kernel_rfl) Try.func3 rfl rfl Try.underlying4 (hread_of (by kernel_rfl))
    (fun l hl => by
      have hl2 : l.length = 1 := hl
      clear hl
      match l, hl2 with
      | [_], _ => rfl)
    (ChangeSpec.witness6 (enc := enc) (C := Try.checked) false ⟨#[], #[.slice none 0 0], []⟩ 8 (by kernel_rfl) (by kernel_rfl) (by kernel_rfl) (by kernel_rfl))
    (fun W base args ds p hval hA hlt => ringPlays_walk W base args ds p hval hA hlt)
theorem ringPlays_holds : Rows.RingPlaysSaid :=
  OpenClaim.holds_of_wide 3 Try.f3 rfl rfl rfl rfl rfl rfl rfl ⟨rfl, rfl, rfl, rfl, rfl⟩ rfl rfl rfl rfl rfl (by kernel_rfl) Try.func3 (by kernel_rfl)
    (of_decide_eq_true (by kernel_rfl)) (by unfold Func.isWrapper; rw [if_neg (of_decide_eq_false (by kernel_rfl))]; exact ⟨rfl, rfl⟩)
    (fun os started H enc _ => ringPlays_lifted os started H enc)
end Go.Proofs.Ytbkpmlcockkfnaa
