/-
  A law of layer 14 holds of every input: ModelClones. No condition.
-/
import Derived.Test.YtfphibmpbfgliaaS1
import Derived.Test.YtfphibmpbfgliaaE2
import Derived.Test.YtfphibmpbfgliaaHeld
namespace Go.Proofs.Ytfphibmpbfgliaa
open Go.ChangeShapes Go.WideShapes Go.ChangeAt Go.RowKit Go.Deep Go.Joins
set_option linter.unusedVariables false
set_option linter.unusedSimpArgs false
set_option maxRecDepth 100000
set_option maxHeartbeats 8000000


theorem built_z : Try.prog.built 64 [] = some zl := by kernel_rfl
def Z0 : St := st0 1 1 1
theorem nob_vals : ownA false Z0 0 = -1 ∧ cntA false Z0 0 = 0 ∧ hshA false Z0 0 = 0 ∧ flgA false Z0 0 = false ∧ watL false Z0 0 = [] ∧ lefL false Z0 0 = [] := ⟨rfl, rfl, rfl, rfl, rfl, rfl⟩
/-- One that nobody made, through the first loop's round. -/
theorem lclones_any (A : Option Addr) (n c : Nat) (f : Nat → Evt) (A2 : Option Addr) (n2 c2 : Nat) (f2 : Nat → Evt) (w : World) (hn : n ≤ c) (hc' : c ≤ maxLen) (hs : Stps w w.heap.size A n f) (hf : ∀ k, k < n → Okst (f k)) (hn2 : n2 ≤ c2) (hc2 : c2 ≤ maxLen) (hs2 : Stps w w.heap.size A2 n2 f2) (hf2 : ∀ k, k < n2 → Okst (f2 k)) :
    Calls Try.prog 6 #[.slice A n c, .slice A2 n2 c2] w fun e w' => e = .returned (.bool true) ∧ Ext w w' := by
  have HF := hide hf
  have HF2 := hide hf2
  have HS := hide hs
  have HS2 := hide hs2
  have BZ := built_z
  have hzs : zl.all (fun x => x.oneCell') = true := by decide +kernel
  clear hf hf2 hs hs2
  go_enter Try.func6, Try.ntmps6
  obtain ⟨zm, hzm⟩ : ∃ z, z = zl := ⟨_, rfl⟩
  rw [← hzm] at BZ
  have HZM := hide hzm
  clear hzm hzs
  go_wp2_with (first | (with_reducible refine wpList_build rfl 64 _ rfl ?_ ?_; (simp [Act.eval, BZ]); (simp [Act.eval, BZ]; go_frame)))
  have HZ0 : Hid (Blk ((w.alloc (.cells zm 64)).alloc (.cells #[.pointer none, .pointer (some ⟨w.heap.size, 0, none⟩)] 24)) w.heap.size zl 64) := hide (by rw [← HZM.out]; exact (Blk.new w zm 64).ext (Ext.alloc _ _))
  have HR0 := Blk.new (w.alloc (.cells zm 64)) #[.pointer none, .pointer (some ⟨w.heap.size, 0, none⟩)] 24
  rw [World.size_alloc] at HR0
  have HR0 := hide HR0
  have HX0 := hide ((Ext.alloc w (.cells zm 64)).trans (Ext.alloc _ (.cells #[.pointer none, .pointer (some ⟨w.heap.size, 0, none⟩)] 24)))
  clear BZ
  generalize (w.alloc (.cells zm 64)).alloc (.cells #[.pointer none, .pointer (some ⟨w.heap.size, 0, none⟩)] 24) = W0 at *
  go_loopw [19] (fun v wr => ∃ k : Nat, k ≤ 2 ∧ v = .int .i64 (k : Int) ∧ Ext W0 wr) (fun v _ => 2 - (intOf v).toNat)
  case atStart => exact ⟨0, by omega, rfl, Ext.refl _⟩
  case round =>
    obtain ⟨k, hk, rfl, hx⟩ := hrel
    by_cases k0 : k = 0
    · subst k0
      have hN : Any wr (.pointer none) false Z0 := .inl ⟨rfl, .inl rfl⟩
      have rr := (HR0.out.ext hx).cell
      have x0 := hx
      go_wp2_with fail
      refine (apply_nob hN 1 0 0 0 0).mono ?_
      rintro e w1 ⟨rfl, x1⟩
      go_wp2_with fail
      have co := owner_any (hN.ext x1) 0
      rw [nob_vals.1] at co
      refine co.mono ?_
      rintro e w2 ⟨rfl, x2⟩
      have x2 := x1.trans x2
      clear co
      go_wp2_with fail
      have co := count_any (hN.ext x2) 0
      rw [nob_vals.2.1] at co
      refine co.mono ?_
      rintro e w3 ⟨rfl, x3⟩
      have x3 := x2.trans x3
      clear co
      go_wp2_with fail
      have co := hash_any (hN.ext x3) 0
      rw [nob_vals.2.2.1] at co
      refine co.mono ?_
      rintro e w4 ⟨rfl, x4⟩
      have x4 := x3.trans x4
      clear co
      go_wp2_with fail
      have co := waiters_any (hN.ext x4) 0
      rw [nob_vals.2.2.2.2.1] at co
      refine co.mono ?_
      rintro e w5 ⟨v5, rfl, ho5, x5⟩
      obtain ⟨A5, c5, rfl⟩ := own_sl ho5
      have x5 := x4.trans x5
      clear co ho5
      go_wp2_with fail
      have co := left_any (hN.ext x5) 0
      rw [nob_vals.2.2.2.2.2] at co
      refine co.mono ?_
      rintro e w6 ⟨v6, rfl, ho6, x6⟩
      obtain ⟨A6, c6, rfl⟩ := own_sl ho6
      have x6 := x5.trans x6
      clear co ho6
      go_wp2_with fail
      have co := flag_any (hN.ext x6) 0
      rw [nob_vals.2.2.2.1] at co
      refine co.mono ?_
      rintro e w7 ⟨rfl, rfl⟩
      clear co
      go_wp2_with fail
      refine (clone_nob (hN.ext x6)).mono ?_
      rintro e w8 ⟨rfl, rfl⟩
      go_wp2_with fail
      have NN : ∀ w', Any w' (.pointer none) false Z0 := fun w' => .inl ⟨rfl, .inl rfl⟩
      refine (msame_no (hN.ext x6) (NN _) rfl).mono ?_
      rintro e w9 ⟨rfl, rfl⟩
      go_wp2_with fail
      go_roundw
      case rel => exact ⟨1, by omega, by go_num, hx.trans x6⟩
      case measure => simp [intOf]
    · by_cases k1 : k = 1
      · subst k1
        have hN : Any wr (.pointer (some ⟨w.heap.size, 0, none⟩)) false Z0 := .inl ⟨rfl, .inr ⟨_, rfl, HZ0.out.ext hx⟩⟩
        have rr := (HR0.out.ext hx).cell
        go_wp2_with fail
        refine (apply_nob hN 1 0 0 0 0).mono ?_
        rintro e w1 ⟨rfl, x1⟩
        go_wp2_with fail
        have co := owner_any (hN.ext x1) 0
        rw [nob_vals.1] at co
        refine co.mono ?_
        rintro e w2 ⟨rfl, x2⟩
        have x2 := x1.trans x2
        clear co
        go_wp2_with fail
        have co := count_any (hN.ext x2) 0
        rw [nob_vals.2.1] at co
        refine co.mono ?_
        rintro e w3 ⟨rfl, x3⟩
        have x3 := x2.trans x3
        clear co
        go_wp2_with fail
        have co := hash_any (hN.ext x3) 0
        rw [nob_vals.2.2.1] at co
        refine co.mono ?_
        rintro e w4 ⟨rfl, x4⟩
        have x4 := x3.trans x4
        clear co
        go_wp2_with fail
        have co := waiters_any (hN.ext x4) 0
        rw [nob_vals.2.2.2.2.1] at co
        refine co.mono ?_
        rintro e w5 ⟨v5, rfl, ho5, x5⟩
        obtain ⟨A5, c5, rfl⟩ := own_sl ho5
        have x5 := x4.trans x5
        clear co ho5
        go_wp2_with fail
        have co := left_any (hN.ext x5) 0
        rw [nob_vals.2.2.2.2.2] at co
        refine co.mono ?_
        rintro e w6 ⟨v6, rfl, ho6, x6⟩
        obtain ⟨A6, c6, rfl⟩ := own_sl ho6
        have x6 := x5.trans x6
        clear co ho6
        go_wp2_with fail
        have co := flag_any (hN.ext x6) 0
        rw [nob_vals.2.2.2.1] at co
        refine co.mono ?_
        rintro e w7 ⟨rfl, rfl⟩
        clear co
        go_wp2_with fail
        refine (clone_nob (hN.ext x6)).mono ?_
        rintro e w8 ⟨rfl, rfl⟩
        go_wp2_with fail
        have NN : ∀ w', Any w' (.pointer none) false Z0 := fun w' => .inl ⟨rfl, .inl rfl⟩
        refine (msame_no (hN.ext x6) (NN _) rfl).mono ?_
        rintro e w9 ⟨rfl, rfl⟩
        go_wp2_with fail
        go_roundw
        case rel => exact ⟨2, by omega, by go_num, hx.trans x6⟩
        case measure => simp [intOf]
      · obtain rfl : k = 2 := by omega
        have HX1 := hide (HX0.out.trans hx)
        clear hx HX0 HZ0 HR0 k0 k1
        obtain ⟨W1, hW1⟩ : ∃ W, W = wr := ⟨_, rfl⟩
        subst hW1
        have hnw := new_ok (n := 4) (m := 3) (k := 3) (by decide) W1
        go_wp2_with fail
        refine hnw.mono ?_
        rintro e w1 ⟨B, W, L, rfl, hm0, hB, hW, hL, hX1⟩
        have NN : ∀ w', Any w' (.pointer none) false Z0 := fun w' => .inl ⟨rfl, .inl rfl⟩
        go_wp2_with fail
        refine (msame_no hm0.any (NN _) rfl).mono ?_
        rintro e w2 ⟨rfl, rfl⟩
        have HM0 := hide hm0
        have lo : ∀ t, t ∈ [B, W, L] → w.heap.size ≤ t := by have := HX1.out.size; simp; omega
        have HX2 := hide (HX1.out.trans hX1)
        clear hnw hX1 hm0 hB hW hL
        go_wp2_with fail
        refine (short_any A n c _ hn hc').mono ?_
        rintro e w3 ⟨rfl, rfl⟩
        go_wp2_with fail
        go_loopw [80] (fun i wr => ∃ (j : Nat) (S : St), j ≤ min n 200 ∧ i = .int .i64 (j : Int) ∧ ModT wr B W L S ∧ Ext w wr) (fun i _ => min n 200 - (intOf i).toNat)
        case atStart => exact ⟨0, st0 4 3 3, by omega, rfl, HM0.out, HX2.out⟩
        case round =>
          clear HM0 HX2
          obtain ⟨j, S, hj, rfl, hm, hX⟩ := hrel
          by_cases hlt : j < min n 200
          · have hj2 : j < n := by omega
            obtain ⟨b, off, rfl, hb, r0, r1, r2, r3, r4⟩ := (HS.out.chg hX (Nat.le_refl _)).rules hj2
            have hok := HF.out j hj2
            have hx := Ext.alloc wr (.cells #[Value.int .i64 (f j).k, .int .i64 (f j).t, .int .i64 (f j).o, .int .i64 (f j).a, .int .i64 (f j).r] 41)
            have ct := fun w' => theirs_any (f j) w'
            unfold sc at ct
            have ca := fun w' (h : ModT w' B W L S) => apply_any h (f j).k (f j).t (f j).o (f j).a (f j).r hok.a
            generalize apS S (f j).k (f j).t (f j).o (f j).a (f j).r = S' at *
            generalize apE S (f j).k (f j).t (f j).o (f j).a (f j).r = er at *
            go_wp2_with fail
            refine (ct _).mono ?_
            rintro e w2 ⟨rfl, hx2⟩
            have hx2 := hx.trans hx2
            go_wp2_with fail
            refine (ca _ (hm.ext hx2)).mono ?_
            rintro e w3 ⟨rfl, hm3, hc3⟩
            have hX3 := (hX.trans hx2).turn hc3 lo
            clear ca ct hx hx2 hc3 r0 r1 r2 r3 r4 hm hX
            go_wp2_with fail
            go_roundw
            case rel => exact ⟨j + 1, S', by omega, by go_num, hm3, hX3⟩
            case measure => simp [intOf]; omega
          · have HX3 := hide hX
            have HM3 := hide hm
            clear hX hm
            go_wp2_with fail
            clear hlt hj
            refine (clone_any HM3.out).mono ?_
            rintro e w4 ⟨B1, W1', L1, rfl, hm4, hB1, hW1, hL1, hx4⟩
            have lm := HM3.out.lt
            have HMa := hide hm4
            have HMm := hide (HM3.out.ext hx4)
            have HX4 := hide (HX3.out.trans hx4)
            have ls := HX3.out.size
            clear hm4 hx4 HM3 HX3
            go_wp2_with fail
            refine (clone_any HMm.out).mono ?_
            rintro e w5 ⟨B2, W2, L2, rfl, hm5, hB2, hW2, hL2, hx5⟩
            have la := HMa.out.lt
            have lb := hm5.lt
            have HMb := hide hm5
            have HMa := hide (HMa.out.ext hx5)
            have HMm := hide (HMm.out.ext hx5)
            have HX5 := hide (HX4.out.trans hx5)
            have nab : ∀ t, t ∈ [B1, W1', L1] → t ∉ [B2, W2, L2] := by simp; omega
            have nba : ∀ t, t ∈ [B2, W2, L2] → t ∉ [B1, W1', L1] := by simp; omega
            have nma : ∀ t, t ∈ [B, W, L] → t ∉ [B1, W1', L1] := by simp; omega
            have nmb : ∀ t, t ∈ [B, W, L] → t ∉ [B2, W2, L2] := by simp; omega
            have loa : ∀ t, t ∈ [B1, W1', L1] → w.heap.size ≤ t := by simp; omega
            have lob : ∀ t, t ∈ [B2, W2, L2] → w.heap.size ≤ t := by simp; omega
            have lta : ∀ t, t ∈ [B1, W1', L1] → t < w5.heap.size := by have := hx5.size; simp; omega
            have ltb : ∀ t, t ∈ [B2, W2, L2] → t < w5.heap.size := by simp; omega
            clear hm5 hx5 HX4 lm ls la lb hB1 hW1 hL1 hB2 hW2 hL2
            go_wp2_with fail
            refine (msame_any HMa.out HMm.out).mono ?_
            rintro e w6 ⟨rfl, hx6⟩
            have sz6 := hx6.size
            have HMa := hide (HMa.out.ext hx6)
            have HMb := hide (HMb.out.ext hx6)
            have HMm := hide (HMm.out.ext hx6)
            have HX6 := hide (HX5.out.trans hx6)
            clear hx6 HX5
            go_wp2_with fail
            refine (msame_any HMm.out HMb.out).mono ?_
            rintro e w7 ⟨rfl, hx7⟩
            have sz7 := hx7.size
            have HMa := hide (HMa.out.ext hx7)
            have HMb := hide (HMb.out.ext hx7)
            have HMm := hide (HMm.out.ext hx7)
            have HX7 := hide (HX6.out.trans hx7)
            clear hx7 HX6
            go_wp2_with fail
            refine (short_any A2 n2 c2 _ hn2 hc2).mono ?_
            rintro e w8 ⟨rfl, rfl⟩
            go_wp2_with fail
            obtain ⟨W8, hW8⟩ : ∃ W, W = w7 := ⟨_, rfl⟩
            subst hW8
            go_loopw [106] (fun i wr => ∃ (j : Nat) (T : St), j ≤ min n2 200 ∧ i = .int .i64 (j : Int) ∧ ModT wr B1 W1' L1 T ∧ ModT wr B2 W2 L2 T ∧ ModT wr B W L S ∧ Ext w wr ∧ w5.heap.size ≤ wr.heap.size) (fun i _ => min n2 200 - (intOf i).toNat)
            case atStart => exact ⟨0, S, by omega, rfl, HMa.out, HMb.out, HMm.out, HX7.out, by omega⟩
            case round =>
              clear HMa HMb HMm HX7 sz6 sz7
              obtain ⟨j, T, hj, rfl, hma, hmb, hmm, hX, hsz⟩ := hrel
              by_cases hlt2 : j < min n2 200
              · have hj3 : j < n2 := by omega
                obtain ⟨b, off, rfl, hb, r0, r1, r2, r3, r4⟩ := (HS2.out.chg hX (Nat.le_refl _)).rules hj3
                have hok := HF2.out j hj3
                have hx := Ext.alloc wr (.cells #[Value.int .i64 (f2 j).k, .int .i64 (f2 j).t, .int .i64 (f2 j).o, .int .i64 (f2 j).a, .int .i64 (f2 j).r] 41)
                have ct := fun w' => theirs_any (f2 j) w'
                unfold sc at ct
                have ca := fun w' p q s (h : ModT w' p q s T) => apply_any h (f2 j).k (f2 j).t (f2 j).o (f2 j).a (f2 j).r hok.a
                generalize apS T (f2 j).k (f2 j).t (f2 j).o (f2 j).a (f2 j).r = T' at *
                generalize apE T (f2 j).k (f2 j).t (f2 j).o (f2 j).a (f2 j).r = er at *
                have HE := hide (Blk.new wr #[Value.int .i64 (f2 j).k, .int .i64 (f2 j).t, .int .i64 (f2 j).o, .int .i64 (f2 j).a, .int .i64 (f2 j).r] 41)
                have HMa := hide (hma.ext hx)
                have HMb := hide (hmb.ext hx)
                have HMm := hide (hmm.ext hx)
                have HX := hide (hX.trans hx)
                have hsz2 := hx.size
                clear hma hmb hmm hX
                go_wp2_with fail
                clear r0 r1 r2 r3 r4
                have hsz : w5.heap.size ≤ (wr.alloc (.cells #[Value.int .i64 (f2 j).k, .int .i64 (f2 j).t, .int .i64 (f2 j).o, .int .i64 (f2 j).a, .int .i64 (f2 j).r] 41)).heap.size := by omega
                clear hsz2 hx
                have ea : wr.heap.size ∉ [B1, W1', L1] := fun h => by have := lta _ h; omega
                have eb : wr.heap.size ∉ [B2, W2, L2] := fun h => by have := ltb _ h; omega
                generalize wr.alloc (.cells #[Value.int .i64 (f2 j).k, .int .i64 (f2 j).t, .int .i64 (f2 j).o, .int .i64 (f2 j).a, .int .i64 (f2 j).r] 41) = V0 at *
                generalize wr.heap.size = be at *
                have hy := Ext.drew V0
                have HE := hide (HE.out.ext hy)
                have HMa := hide (HMa.out.ext hy)
                have HMb := hide (HMb.out.ext hy)
                have HMm := hide (HMm.out.ext hy)
                have HX := hide (HX.out.trans hy)
                have hsz : w5.heap.size ≤ (V0.drew).heap.size := by have := hy.size; omega
                clear hy
                refine wp_region_held_drew (S := fun w' => ∀ i, w'.cell? ⟨be, i, none⟩ = #[Value.int .i64 (f2 j).k, .int .i64 (f2 j).t, .int .i64 (f2 j).o, .int .i64 (f2 j).a, .int .i64 (f2 j).r][i]?) (by kernel_rfl) (by exact HE.out.cell) (fun hHeld => ?_)
                generalize V0.drew = V1 at *
                (refine held_take (i := 0) (v := ?_) rfl (by kernel_rfl) (by kernel_rfl) (by kernel_rfl) (fun _ _ _ h => h) (by rfl) ?_ (by assumption) ?_; rotate_left; (intro w hSw; (try dsimp only at hSw); (first | (go_simp; done) | (go_simp; with_reducible rfl))); (try simp only [Act.put, List.setIfInBounds_toArray, List.set_cons_zero, List.set_cons_succ]))
                (refine held_take (i := 1) (v := ?_) rfl (by kernel_rfl) (by kernel_rfl) (by kernel_rfl) (fun _ _ _ h => h) (by rfl) ?_ (by assumption) ?_; rotate_left; (intro w hSw; (try dsimp only at hSw); (first | (go_simp; done) | (go_simp; with_reducible rfl))); (try simp only [Act.put, List.setIfInBounds_toArray, List.set_cons_zero, List.set_cons_succ]))
                (refine held_take (i := 4) (v := ?_) rfl (by kernel_rfl) (by kernel_rfl) (by kernel_rfl) (fun _ _ _ h => h) (by rfl) ?_ (by assumption) ?_; rotate_left; (intro w hSw; (try dsimp only at hSw); (first | (go_simp; done) | (go_simp; with_reducible rfl))); (try simp only [Act.put, List.setIfInBounds_toArray, List.set_cons_zero, List.set_cons_succ]))
                (refine held_take (i := 5) (v := ?_) rfl (by kernel_rfl) (by kernel_rfl) (by kernel_rfl) (fun _ _ _ h => h) (by rfl) ?_ (by assumption) ?_; rotate_left; (intro w hSw; (try dsimp only at hSw); (first | (go_simp; done) | (go_simp; with_reducible rfl))); (try simp only [Act.put, List.setIfInBounds_toArray, List.set_cons_zero, List.set_cons_succ]))
                refine wpAnyH_ready (rs := [2]) (by kernel_rfl) (by simp) (held_cons rfl (fun K hK => ?_) AllReadyH.nil)
                go_simp
                refine (ct V1).mono ?_
                rintro e v2 ⟨rfl, hy⟩
                have HE := hide (HE.out.ext hy)
                have HMa := hide (HMa.out.ext hy)
                have HMb := hide (HMb.out.ext hy)
                have HMm := hide (HMm.out.ext hy)
                have HX := hide (HX.out.trans hy)
                have hsz : w5.heap.size ≤ (v2).heap.size := by have := hy.size; omega
                clear hy
                (refine hK.out _ _ ?_ (fun hHeld => ?_))
                · exact HE.out.cell
                (try simp only [Act.put, List.setIfInBounds_toArray, List.set_cons_zero, List.set_cons_succ])
                refine wpAnyH_ready (rs := [3]) (by kernel_rfl) (by simp) (held_cons rfl (fun K hK => ?_) AllReadyH.nil)
                go_simp
                refine (ca _ _ _ _ HMa.out).mono ?_
                rintro e v3 ⟨rfl, hma, hc⟩
                have HMa := hide hma
                have HMb := hide (HMb.out.chg hc (nba _ (by simp)) (nba _ (by simp)) (nba _ (by simp)))
                have HMm := hide (HMm.out.chg hc (nma _ (by simp)) (nma _ (by simp)) (nma _ (by simp)))
                have HE := hide (HE.out.chg hc ea)
                have HX := hide (HX.out.turn hc loa)
                have hsz := Nat.le_trans hsz hc.size
                clear hma hc
                (refine hK.out _ _ ?_ (fun hHeld => ?_))
                · exact HE.out.cell
                (try simp only [Act.put, List.setIfInBounds_toArray, List.set_cons_zero, List.set_cons_succ])
                refine wpAnyH_ready (rs := [6]) (by kernel_rfl) (by simp) (held_cons rfl (fun K hK => ?_) AllReadyH.nil)
                go_simp
                refine (ct _).mono ?_
                rintro e v4 ⟨rfl, hy⟩
                have HE := hide (HE.out.ext hy)
                have HMa := hide (HMa.out.ext hy)
                have HMb := hide (HMb.out.ext hy)
                have HMm := hide (HMm.out.ext hy)
                have HX := hide (HX.out.trans hy)
                have hsz : w5.heap.size ≤ (v4).heap.size := by have := hy.size; omega
                clear hy
                (refine hK.out _ _ ?_ (fun hHeld => ?_))
                · exact HE.out.cell
                (try simp only [Act.put, List.setIfInBounds_toArray, List.set_cons_zero, List.set_cons_succ])
                refine wpAnyH_ready (rs := [7]) (by kernel_rfl) (by simp) (held_cons rfl (fun K hK => ?_) AllReadyH.nil)
                go_simp
                refine (ca _ _ _ _ HMb.out).mono ?_
                rintro e v5 ⟨rfl, hmb, hc⟩
                have HMb := hide hmb
                have HMa := hide (HMa.out.chg hc (nab _ (by simp)) (nab _ (by simp)) (nab _ (by simp)))
                have HMm := hide (HMm.out.chg hc (nmb _ (by simp)) (nmb _ (by simp)) (nmb _ (by simp)))
                have HE := hide (HE.out.chg hc eb)
                have HX := hide (HX.out.turn hc lob)
                have hsz := Nat.le_trans hsz hc.size
                clear hmb hc
                (refine hK.out _ _ ?_ (fun hHeld => ?_))
                · exact HE.out.cell
                (try simp only [Act.put, List.setIfInBounds_toArray, List.set_cons_zero, List.set_cons_succ])
                (refine held_take (i := 8) (v := ?_) rfl (by kernel_rfl) (by kernel_rfl) (by kernel_rfl) (fun _ _ _ h => h) (by rfl) ?_ (by assumption) ?_; rotate_left; (intro w hSw; (try dsimp only at hSw); (first | (go_simp; done) | (go_simp; with_reducible rfl))); (try simp only [Act.put, List.setIfInBounds_toArray, List.set_cons_zero, List.set_cons_succ]))
                (refine held_take (i := 9) (v := ?_) rfl (by kernel_rfl) (by kernel_rfl) (by kernel_rfl) (fun _ _ _ h => h) (by rfl) ?_ (by assumption) ?_; rotate_left; (intro w hSw; (try dsimp only at hSw); (first | (go_simp; done) | (go_simp; with_reducible rfl))); (try simp only [Act.put, List.setIfInBounds_toArray, List.set_cons_zero, List.set_cons_succ]))
                (refine held_take (i := 10) (v := ?_) rfl (by kernel_rfl) (by kernel_rfl) (by kernel_rfl) (fun _ _ _ h => h) (by rfl) ?_ (by assumption) ?_; rotate_left; (intro w hSw; (try dsimp only at hSw); (first | (go_simp; done) | (go_simp; with_reducible rfl))); (try simp only [Act.put, List.setIfInBounds_toArray, List.set_cons_zero, List.set_cons_succ]))
                (refine held_take (i := 11) (v := ?_) rfl (by kernel_rfl) (by kernel_rfl) (by kernel_rfl) (fun _ _ _ h => h) (by rfl) ?_ (by assumption) ?_; rotate_left; (intro w hSw; (try dsimp only at hSw); (first | (go_simp; done) | (go_simp; with_reducible rfl))); (try simp only [Act.put, List.setIfInBounds_toArray, List.set_cons_zero, List.set_cons_succ]))
                refine wpAnyH_ready (rs := [12]) (by kernel_rfl) (by simp) (held_cons rfl (fun K hK => ?_) AllReadyH.nil)
                go_simp
                refine (msame_any HMa.out HMb.out).mono ?_
                rintro e v6 ⟨rfl, hy⟩
                have HE := hide (HE.out.ext hy)
                have HMa := hide (HMa.out.ext hy)
                have HMb := hide (HMb.out.ext hy)
                have HMm := hide (HMm.out.ext hy)
                have HX := hide (HX.out.trans hy)
                have hsz : w5.heap.size ≤ (v6).heap.size := by have := hy.size; omega
                clear hy
                (refine hK.out _ _ ?_ (fun hHeld => ?_))
                · exact HE.out.cell
                (try simp only [Act.put, List.setIfInBounds_toArray, List.set_cons_zero, List.set_cons_succ])
                (refine held_take (i := 13) (v := ?_) rfl (by kernel_rfl) (by kernel_rfl) (by kernel_rfl) (fun _ _ _ h => h) (by rfl) ?_ (by assumption) ?_; rotate_left; (intro w hSw; (try dsimp only at hSw); (first | (go_simp; done) | (go_simp; with_reducible rfl))); (try simp only [Act.put, List.setIfInBounds_toArray, List.set_cons_zero, List.set_cons_succ]))
                (refine held_take (i := 14) (v := ?_) rfl (by kernel_rfl) (by kernel_rfl) (by kernel_rfl) (fun _ _ _ h => h) (by rfl) ?_ (by assumption) ?_; rotate_left; (intro w hSw; (try dsimp only at hSw); (first | (go_simp; done) | (go_simp; with_reducible rfl))); (try simp only [Act.put, List.setIfInBounds_toArray, List.set_cons_zero, List.set_cons_succ]))
                refine wpAnyH_done (by kernel_rfl) ?_ _
                go_wp2_with fail
                go_roundw
                case rel => exact ⟨j + 1, T', by omega, by go_num, HMa.out, HMb.out, HMm.out, HX.out, hsz⟩
                case measure => simp [intOf]; omega
              · have HX9 := hide hX
                have HMa := hide hma
                have HMm := hide hmm
                clear hX hma hmb hmm
                go_wp2_with fail
                refine (apply_any HMa.out 12 0 0 1 0 (wfI_of (by omega) (by omega))).mono ?_
                rintro e w10 ⟨rfl, -, hc10⟩
                have HMm := hide (HMm.out.chg hc10 (nma _ (by simp)) (nma _ (by simp)) (nma _ (by simp)))
                have HX10 := hide (HX9.out.turn hc10 loa)
                clear hc10 HX9 HMa
                go_wp2_with fail
                refine (clone_any HMm.out).mono ?_
                rintro e w11 ⟨B3, W3, L3, rfl, hm11, -, -, -, hx11⟩
                have HMm := hide (HMm.out.ext hx11)
                have HX11 := hide (HX10.out.trans hx11)
                have HMc := hide hm11
                clear hm11 hx11 HX10
                go_wp2_with fail
                refine (msame_any HMm.out HMc.out).mono ?_
                rintro e w12 ⟨rfl, hx12⟩
                have HX12 := hide (HX11.out.trans hx12)
                clear hx12 HX11
                go_wp2_with fail
                refine (alive_any _).mono ?_
                rintro e w13 ⟨rfl, hx13⟩
                go_wp2_with fail
                go_ret
                exact ⟨rfl, HX12.out.trans hx13⟩
set_option maxRecDepth 100000 in
theorem modelClones_walk {H : Type} {enc : TypeId × Value → H} (W : World) (base : Nat) (args : Array Value) (ds : List (DataW H)) (p : List MemPlace)
    (hval0 : ∀ (j : Nat) t v, Try.f6.params[j]? = some t → args[j]? = some v → Value.okWide Try.prog W .any base t v)
    (hA0 : DataW.TrodAll enc Try.prog W 0 (fun _ => true) true Try.f6.params.toList args.toList ds p) (_hlt : ∀ x ∈ p, x.block < W.heap.size) :
    Calls Try.prog 6 args W fun e W' => e = .returned (.bool true) ∧ Ext W W' := by
  have hval := hval0
  have hA := hA0
  rw [Try.params6] at hA hval
  clear hval0 hA0
  obtain ⟨v0, v1, d0, d1, p0, p1, hargs, rfl, rfl, h0, h1⟩ := trodAll_two hA
  obtain rfl : args = #[v0, v1] := by cases args; simp_all
  obtain ⟨A, n, c, f, rfl, hn, hc, hs, hf⟩ := open_steps (hval 0 23 v0 rfl rfl) h0
  obtain ⟨A2, n2, c2, f2, rfl, hn2, hc2, hs2, hf2⟩ := open_steps (hval 1 23 v1 rfl rfl) h1
  exact lclones_any A n c f A2 n2 c2 f2 W hn hc hs hf hn2 hc2 hs2 hf2
set_option maxRecDepth 100000 in
theorem modelClones_lifted (os : Os) (started : os.Started) (H : Type) (enc : TypeId × Value → H) :
    ReturnsInHanded {} Try.checked os 6 .any (Rows.modelClonesSpec.pre6 enc Try.prog Try.f6 Rows.modelClonesRow.domain false) (Rows.modelClonesSpec.post enc Try.prog Try.f6 false true false false) :=
  law_lifted (fn := Try.f6) 4 os started (by kernel_rfl) Try.func6 rfl rfl Try.underlying4 (hread_of (by kernel_rfl))
    (fun l hl => by
      have hl2 : l.length = 2 := hl
      clear hl
      match l, hl2 with
      | [_, _], _ => rfl)
    (ChangeSpec.witness6 (enc := enc) (C := Try.checked) false ⟨#[], #[.slice none 0 0, .slice none 0 0], []⟩ 8 (by kernel_rfl) (by kernel_rfl) (by kernel_rfl) (by kernel_rfl))
    (fun W base args ds p hval hA hlt => modelClones_walk W base args ds p hval hA hlt)
theorem modelClones_holds : Rows.ModelClonesSaid :=
  OpenClaim.holds_of_wide 6 Try.f6 rfl rfl rfl rfl rfl rfl rfl ⟨rfl, rfl, rfl, rfl, rfl⟩ rfl rfl rfl rfl rfl (by kernel_rfl) Try.func6 (by kernel_rfl)
    (of_decide_eq_true (by kernel_rfl)) (by unfold Func.isWrapper; rw [if_neg (of_decide_eq_false (by kernel_rfl))]; exact ⟨rfl, rfl⟩)
    (fun os started H enc _ => modelClones_lifted os started H enc)
end Go.Proofs.Ytfphibmpbfgliaa
