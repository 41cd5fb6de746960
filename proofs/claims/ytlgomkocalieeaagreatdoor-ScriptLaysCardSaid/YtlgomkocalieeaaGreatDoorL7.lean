/- A law of layer 24 holds of every input: ScriptLays. No condition. -/
import Derived.Test.YtlgomkocalieeaaGreatDoorLB
import Derived.Test.YtlgomkocalieeaaGreatDoorQB
namespace Go.Proofs.YtlgomkocalieeaaGreatDoor
open Go.RowKit
set_option linter.unusedSimpArgs false
set_option linter.unusedVariables false
set_option maxRecDepth 100000
set_option maxHeartbeats 8000000

def layL (x : Cf) (ps : List (List Op3)) (ts : List Tr) : List UInt8 := if mayS x ps ts = 0 then scB x ps ts else []
theorem lay_one {x : Cf} {ps : List (List Op3)} {ts : List Tr} {e : Ending} {w' : World} (h : LayR x ps ts e w') :
    ∃ A c, e = .returned (.tuple #[.slice A (layL x ps ts).length c, .int .i64 (mayS x ps ts)]) ∧ By w' A (layL x ps ts) := by
  unfold LayR at h
  unfold layL
  rcases h with ⟨hne, rfl⟩ | ⟨h0, A, c, rfl, _, _, hb⟩
  · rw [if_neg hne]
    exact ⟨none, 0, rfl, .inl rfl⟩
  · rw [if_pos h0, h0]
    exact ⟨A, c, rfl, hb⟩
theorem lays_any {w : World} {A B A2 B2 : Option Addr} {ps ps2 : List (List Op3)} {ts ts2 : List Tr} (c d c2 d2 : Nat) (x x2 : Cf) (hb0 : 0 ≤ x.b) (hb1 : x.b < 256) (hd0 : 0 ≤ x.d) (hd1 : x.d < 18446744073709551616)
    (h : Scr w A B ps ts) (h2 : Scr w A2 B2 ps2 ts2) (hc : ps.length ≤ c) (hc2 : ps2.length ≤ c2) (hG : GlobW w) :
    Calls Tryz.prog 3 #[.agg #[.int .i64 x.t, .int .i64 x.o, .int .i64 x.c, .int .i64 x.s, .int .i64 x.p, .int .i64 x.n, .int .u8 x.b, .int .i64 x.r, .int .i64 x.v, .int .u64 x.d, .slice A ps.length c, .slice B ts.length d], .agg #[.int .i64 x2.t, .int .i64 x2.o, .int .i64 x2.c, .int .i64 x2.s, .int .i64 x2.p, .int .i64 x2.n, .int .u8 x2.b, .int .i64 x2.r, .int .i64 x2.v, .int .u64 x2.d, .slice A2 ps2.length c2, .slice B2 ts2.length d2]] w fun e w' => e = .returned (.bool true) ∧ Ext w w' := by
  have hX1 := Ext.alloc w (.cells #[.int .i64 x.t, .int .i64 x.o, .int .i64 x.c, .int .i64 x.s, .int .i64 x.p, .int .i64 x.n, .int .u8 x.b, .int .i64 x.r, .int .i64 x.v, .int .u64 x.d, .slice A ps.length c, .slice B ts.length d] 28)
  have hX2 := Ext.alloc (w.alloc (.cells #[.int .i64 x.t, .int .i64 x.o, .int .i64 x.c, .int .i64 x.s, .int .i64 x.p, .int .i64 x.n, .int .u8 x.b, .int .i64 x.r, .int .i64 x.v, .int .u64 x.d, .slice A ps.length c, .slice B ts.length d] 28)) (.cells #[.int .i64 x2.t, .int .i64 x2.o, .int .i64 x2.c, .int .i64 x2.s, .int .i64 x2.p, .int .i64 x2.n, .int .u8 x2.b, .int .i64 x2.r, .int .i64 x2.v, .int .u64 x2.d, .slice A2 ps2.length c2, .slice B2 ts2.length d2] 28)
  have hbb1 := (Blk.new w #[.int .i64 x.t, .int .i64 x.o, .int .i64 x.c, .int .i64 x.s, .int .i64 x.p, .int .i64 x.n, .int .u8 x.b, .int .i64 x.r, .int .i64 x.v, .int .u64 x.d, .slice A ps.length c, .slice B ts.length d] 28).ext hX2
  have hbb2 := Blk.new (w.alloc (.cells #[.int .i64 x.t, .int .i64 x.o, .int .i64 x.c, .int .i64 x.s, .int .i64 x.p, .int .i64 x.n, .int .u8 x.b, .int .i64 x.r, .int .i64 x.v, .int .u64 x.d, .slice A ps.length c, .slice B ts.length d] 28)) #[.int .i64 x2.t, .int .i64 x2.o, .int .i64 x2.c, .int .i64 x2.s, .int .i64 x2.p, .int .i64 x2.n, .int .u8 x2.b, .int .i64 x2.r, .int .i64 x2.v, .int .u64 x2.d, .slice A2 ps2.length c2, .slice B2 ts2.length d2] 28
  simp only [World.size_alloc] at hbb2
  have hX := hX1.trans hX2
  have H1 := hide (h.ext hX)
  have H2 := hide (h2.ext hX)
  have HG := hide (hG.ext hX)
  have HX := hide hX
  have HB1 := hide hbb1
  have HB2 := hide hbb2
  have q1 := hbb1.cell
  have q2 := hbb2.cell
  have hf1 := far_any c d x (h.ext hX) hc
  have hf2 := fun w' hw => far_any (w := w') c2 d2 x2 ((h2.ext hX).ext hw) hc2
  clear h h2 hG hX1 hX2 hX hbb1 hbb2
  go_enter Tryz.func3, Tryz.ntmps3
  go_wp2_with fail
  generalize (w.alloc (.cells #[.int .i64 x.t, .int .i64 x.o, .int .i64 x.c, .int .i64 x.s, .int .i64 x.p, .int .i64 x.n, .int .u8 x.b, .int .i64 x.r, .int .i64 x.v, .int .u64 x.d, .slice A ps.length c, .slice B ts.length d] 28)).alloc (.cells #[.int .i64 x2.t, .int .i64 x2.o, .int .i64 x2.c, .int .i64 x2.s, .int .i64 x2.p, .int .i64 x2.n, .int .u8 x2.b, .int .i64 x2.r, .int .i64 x2.v, .int .u64 x2.d, .slice A2 ps2.length c2, .slice B2 ts2.length d2] 28) = W0 at *
  generalize w.heap.size = g at *
  refine hf1.mono ?_
  rintro e w1 ⟨⟨b, rfl, hr⟩, hx1⟩
  have HX1 := hide hx1
  have HF2 := hide (hf2 w1 hx1)
  have q1 := (HB1.out.ext hx1).cell
  have q2 := (HB2.out.ext hx1).cell
  clear hf1 hf2 hx1
  cases b with
  | true =>
    clear hr
    have hal := alive_any w1 (HG.out.ext HX1.out)
    go_wp2_with fail
    refine hal.mono ?_
    rintro e w2 ⟨rfl, hx2⟩
    go_wp2_with fail
    go_ret
    exact ⟨by simp, HX.out.trans (HX1.out.trans hx2)⟩
  | false =>
    obtain ⟨hp1, ht1⟩ := hr rfl
    go_wp2_with fail
    refine HF2.out.mono ?_
    rintro e w2 ⟨⟨b, rfl, hr⟩, hx2⟩
    have HX2 := hide (HX1.out.trans hx2)
    clear q1 q2 hx2
    have q1 := (HB1.out.ext HX2.out).cell
    have q2 := (HB2.out.ext HX2.out).cell
    cases b with
    | true =>
      clear hr
      have hal := alive_any w2 (HG.out.ext HX2.out)
      go_wp2_with fail
      refine hal.mono ?_
      rintro e w3 ⟨rfl, hx3⟩
      go_wp2_with fail
      go_ret
      exact ⟨by simp, HX.out.trans (HX2.out.trans hx3)⟩
    | false =>
      obtain ⟨hp2, ht2⟩ := hr rfl
      have hth := theirs_any c d x (H1.out.ext HX2.out) ht1
      clear hr
      go_wp2_with fail
      refine hth.mono ?_
      rintro e w3 ⟨⟨B3, d3, rfl, hsc⟩, hx3⟩
      have HX3 := hide (HX2.out.trans hx3)
      have hlay := lay_any c d3 x hb0 hb1 hd0 hd1 hsc (HG.out.ext HX3.out)
      clear hth q1 q2 hx3 hsc
      go_wp2_with fail
      refine hlay.mono ?_
      rintro e w4 ⟨hlr, hx4⟩
      obtain ⟨A4, c4, rfl, hby4⟩ := lay_one hlr
      have HX4 := hide (HX3.out.trans hx4)
      have HBY4 := hide hby4
      have q1 := (HB1.out.ext HX4.out).cell
      have q2 := (HB2.out.ext HX4.out).cell
      have hrl := rlay_any c d x hb0 hb1 hd0 hd1 (H1.out.ext HX4.out)
      clear hlay hlr hx4 hby4
      go_wp2_with fail
      refine hrl.mono ?_
      rintro e w5 ⟨hlr, hx5⟩
      obtain ⟨A5, c5, rfl, hby5⟩ := lay_one hlr
      have HX5 := hide (HX4.out.trans hx5)
      have HV4 := hide (fun w' (h : Ext w5 w') => conv_by c4 (HBY4.out.ext (hx5.trans h)))
      have HV5 := hide (fun w' (h : Ext w5 w') => conv_by c5 (hby5.ext h))
      have HMAY := hide (fun (w' : World) (B' : Option Addr) (d' : Nat) (k : Ext w5 w') (s : Scr w' A B' ps ts) => smay_any c d' x hd0 hd1 s (HG.out.ext (HX5.out.trans k)))
      have HRMAY := hide (fun (w' : World) (k : Ext w5 w') => rsmay_any c d x (H1.out.ext (HX5.out.trans k)))
      have HS1 := hide (H1.out.ext HX5.out)
      have HS2 := hide (H2.out.ext HX5.out)
      clear hrl hlr hx5 hby5 q1 q2
      generalize layL x ps ts = L at *
      generalize mayS x ps ts = er at *
      go_wp2_with fail
      have HA := hide (HB1.out.ext HX5.out)
      have HB := hide (HB2.out.ext HX5.out)
      have hk := Ext.drew w5
      refine wp_region_held_drew (S := fun w' => Ext w5 w') (by kernel_rfl) hk (fun hHeld => ?_)
      (refine held_take (i := 0) (v := ?_) rfl (by kernel_rfl) (by kernel_rfl) (by kernel_rfl) (fun _ _ _ h => h) (by rfl) ?_ (by assumption) ?_; rotate_left; (intro w hSw; (try dsimp only at hSw); (first | (go_simp; done) | (go_simp; with_reducible rfl))); (try simp only [Act.put, List.setIfInBounds_toArray, List.set_cons_zero, List.set_cons_succ]))
      have v4 := HV4.out
      (refine held_take (i := 1) (v := ?_) rfl (by kernel_rfl) (by kernel_rfl) (by kernel_rfl) (fun _ _ _ h => h) (by rfl) ?_ (by assumption) ?_; rotate_left; (intro w hSw; (try dsimp only at hSw); (first | (go_simp; done) | (go_simp; with_reducible rfl))); (try simp only [Act.put, List.setIfInBounds_toArray, List.set_cons_zero, List.set_cons_succ]))
      clear v4
      (refine held_take (i := 2) (v := ?_) rfl (by kernel_rfl) (by kernel_rfl) (by kernel_rfl) (fun _ _ _ h => h) (by rfl) ?_ (by assumption) ?_; rotate_left; (intro w hSw; (try dsimp only at hSw); (first | (go_simp; done) | (go_simp; with_reducible rfl))); (try simp only [Act.put, List.setIfInBounds_toArray, List.set_cons_zero, List.set_cons_succ]))
      have v5 := HV5.out
      (refine held_take (i := 3) (v := ?_) rfl (by kernel_rfl) (by kernel_rfl) (by kernel_rfl) (fun _ _ _ h => h) (by rfl) ?_ (by assumption) ?_; rotate_left; (intro w hSw; (try dsimp only at hSw); (first | (go_simp; done) | (go_simp; with_reducible rfl))); (try simp only [Act.put, List.setIfInBounds_toArray, List.set_cons_zero, List.set_cons_succ]))
      clear v5
      (refine held_take (i := 4) (v := ?_) rfl (by kernel_rfl) (by kernel_rfl) (by kernel_rfl) (fun _ _ _ h => h) (by rfl) ?_ (by assumption) ?_; rotate_left; (intro w hSw; (try dsimp only at hSw); (first | (go_simp; done) | (go_simp; with_reducible rfl))); (try simp only [Act.put, List.setIfInBounds_toArray, List.set_cons_zero, List.set_cons_succ]))
      (refine held_take (i := 5) (v := ?_) rfl (by kernel_rfl) (by kernel_rfl) (by kernel_rfl) (fun _ _ _ h => h) (by rfl) ?_ (by assumption) ?_; rotate_left; (intro w hSw; (try dsimp only at hSw); (first | (go_simp; done) | (go_simp; with_reducible rfl))); (try simp only [Act.put, List.setIfInBounds_toArray, List.set_cons_zero, List.set_cons_succ]))
      (refine held_take (i := 6) (v := ?_) rfl (by kernel_rfl) (by kernel_rfl) (by kernel_rfl) (fun _ _ _ h => h) (by rfl) ?_ (by assumption) ?_; rotate_left; (intro w hSw; (try dsimp only at hSw); (first | (go_simp; done) | (go_simp; with_reducible rfl))); (try simp only [Act.put, List.setIfInBounds_toArray, List.set_cons_zero, List.set_cons_succ]))
      (refine held_take (i := 7) (v := ?_) rfl (by kernel_rfl) (by kernel_rfl) (by kernel_rfl) (fun _ _ _ h => h) (by rfl) ?_ (by assumption) ?_; rotate_left; (intro w hSw; (try dsimp only at hSw); (first | (go_simp; done) | (go_simp; with_reducible rfl))); (try simp only [Act.put, List.setIfInBounds_toArray, List.set_cons_zero, List.set_cons_succ]))
      (refine held_take (i := 8) (v := ?_) rfl (by kernel_rfl) (by kernel_rfl) (by kernel_rfl) (fun _ _ _ h => h) (by rfl) ?_ (by assumption) ?_; rotate_left; (intro w hSw; (try dsimp only at hSw); (first | (go_simp; done) | (go_simp; with_reducible rfl))); (try simp only [Act.put, List.setIfInBounds_toArray, List.set_cons_zero, List.set_cons_succ]))
      (refine held_take (i := 9) (v := ?_) rfl (by kernel_rfl) (by kernel_rfl) (by kernel_rfl) (fun _ _ _ h => h) (by rfl) ?_ (by assumption) ?_; rotate_left; (intro w hSw; (try dsimp only at hSw); (first | (go_simp; done) | (go_simp; with_reducible rfl))); (try simp only [Act.put, List.setIfInBounds_toArray, List.set_cons_zero, List.set_cons_succ]))
      (refine held_take (i := 10) (v := ?_) rfl (by kernel_rfl) (by kernel_rfl) (by kernel_rfl) (fun _ _ _ h => h) (by rfl) ?_ (by assumption) ?_; rotate_left; (intro w hSw; (try dsimp only at hSw); (first | (go_simp; done) | (go_simp; with_reducible rfl))); (try simp only [Act.put, List.setIfInBounds_toArray, List.set_cons_zero, List.set_cons_succ]))
      refine wpAnyH_take (i := 11) (at_drop rfl) (by kernel_rfl) (by kernel_rfl) (by kernel_rfl) (fun _ _ _ h => h) (yieldsIf_load_mid (by rfl) 28 _ rfl g 0 rfl (#[.int .i64 x.t, .int .i64 x.o, .int .i64 x.c, .int .i64 x.s, .int .i64 x.p, .int .i64 x.n, .int .u8 x.b, .int .i64 x.r, .int .i64 x.v, .int .u64 x.d, .slice A ps.length c, .slice B ts.length d] : Array Value).toList _ (fun w h => blk_rng (HA.out.ext h)) Tryz.underlying28 rfl (inf_rscr _ rfl)) (by assumption) ?_
      rw [Array.toArray_toList]
      (try simp only [Act.put, List.setIfInBounds_toArray, List.set_cons_zero, List.set_cons_succ])
      refine wpAnyH_take (i := 14) (at_drop rfl) (by kernel_rfl) (by kernel_rfl) (by kernel_rfl) (fun _ _ _ h => h) (yieldsIf_load_mid (by rfl) 28 _ rfl g 0 rfl (#[.int .i64 x.t, .int .i64 x.o, .int .i64 x.c, .int .i64 x.s, .int .i64 x.p, .int .i64 x.n, .int .u8 x.b, .int .i64 x.r, .int .i64 x.v, .int .u64 x.d, .slice A ps.length c, .slice B ts.length d] : Array Value).toList _ (fun w h => blk_rng (HA.out.ext h)) Tryz.underlying28 rfl (inf_rscr _ rfl)) (by assumption) ?_
      rw [Array.toArray_toList]
      (try simp only [Act.put, List.setIfInBounds_toArray, List.set_cons_zero, List.set_cons_succ])
      refine wpAnyH_ready (rs := [12]) (by kernel_rfl) (by simp) (held_cons rfl (fun K hK => ?_) AllReadyH.nil)
      rw [if_pos (by rfl)]
      go_simp
      go_at_call 9
      refine (theirs_any c d x (HS1.out.ext hk) ht1).mono ?_
      rintro e w6 ⟨⟨B6, d6, rfl, hsc6⟩, hy⟩
      have hk := hk.trans hy
      refine hK.out _ _ hk (fun hHeld => ?_)
      (try simp only [Act.put, List.setIfInBounds_toArray, List.set_cons_zero, List.set_cons_succ])
      refine wpAnyH_ready (rs := [13]) (by kernel_rfl) (by simp) (held_cons rfl (fun K hK => ?_) AllReadyH.nil)
      rw [if_pos (by rfl)]
      go_simp
      go_at_call 11
      refine (HMAY.out _ _ _ hk hsc6).mono ?_
      rintro e w7 ⟨rfl, hy⟩
      have hk := hk.trans hy
      refine hK.out _ _ hk (fun hHeld => ?_)
      (try simp only [Act.put, List.setIfInBounds_toArray, List.set_cons_zero, List.set_cons_succ])
      refine wpAnyH_ready (rs := [15]) (by kernel_rfl) (by simp) (held_cons rfl (fun K hK => ?_) AllReadyH.nil)
      rw [if_pos (by rfl)]
      go_simp
      go_at_call 12
      refine (HRMAY.out _ hk).mono ?_
      rintro e w8 ⟨rfl, hy⟩
      have hk := hk.trans hy
      refine hK.out _ _ hk (fun hHeld => ?_)
      (try simp only [Act.put, List.setIfInBounds_toArray, List.set_cons_zero, List.set_cons_succ])
      clear hsc6
      (refine held_take (i := 16) (v := ?_) rfl (by kernel_rfl) (by kernel_rfl) (by kernel_rfl) (fun _ _ _ h => h) (by rfl) ?_ (by assumption) ?_; rotate_left; (intro w hSw; (try dsimp only at hSw); (first | (go_simp; done) | (go_simp; with_reducible rfl))); (try simp only [Act.put, List.setIfInBounds_toArray, List.set_cons_zero, List.set_cons_succ]))
      (refine held_take (i := 17) (v := ?_) rfl (by kernel_rfl) (by kernel_rfl) (by kernel_rfl) (fun _ _ _ h => h) (by rfl) ?_ (by assumption) ?_; rotate_left; (intro w hSw; (try dsimp only at hSw); (first | (go_simp; done) | (go_simp; with_reducible rfl))); (try simp only [Act.put, List.setIfInBounds_toArray, List.set_cons_zero, List.set_cons_succ]))
      (refine held_take (i := 18) (v := ?_) rfl (by kernel_rfl) (by kernel_rfl) (by kernel_rfl) (fun _ _ _ h => h) (by rfl) ?_ (by assumption) ?_; rotate_left; (intro w hSw; (try dsimp only at hSw); (first | (go_simp; done) | (go_simp; with_reducible rfl))); (try simp only [Act.put, List.setIfInBounds_toArray, List.set_cons_zero, List.set_cons_succ]))
      refine wpAnyH_take (i := 19) (at_drop rfl) (by kernel_rfl) (by kernel_rfl) (by kernel_rfl) (fun _ _ _ h => h) (yieldsIf_load_mid (by rfl) 28 _ rfl g 0 rfl (#[.int .i64 x.t, .int .i64 x.o, .int .i64 x.c, .int .i64 x.s, .int .i64 x.p, .int .i64 x.n, .int .u8 x.b, .int .i64 x.r, .int .i64 x.v, .int .u64 x.d, .slice A ps.length c, .slice B ts.length d] : Array Value).toList _ (fun w h => blk_rng (HA.out.ext h)) Tryz.underlying28 rfl (inf_rscr _ rfl)) (by assumption) ?_
      rw [Array.toArray_toList]
      (try simp only [Act.put, List.setIfInBounds_toArray, List.set_cons_zero, List.set_cons_succ])
      refine wpAnyH_take (i := 21) (at_drop rfl) (by kernel_rfl) (by kernel_rfl) (by kernel_rfl) (fun _ _ _ h => h) (yieldsIf_load_mid (by rfl) 28 _ rfl (g + 1) 0 rfl (#[.int .i64 x2.t, .int .i64 x2.o, .int .i64 x2.c, .int .i64 x2.s, .int .i64 x2.p, .int .i64 x2.n, .int .u8 x2.b, .int .i64 x2.r, .int .i64 x2.v, .int .u64 x2.d, .slice A2 ps2.length c2, .slice B2 ts2.length d2] : Array Value).toList _ (fun w h => blk_rng (HB.out.ext h)) Tryz.underlying28 rfl (inf_rscr _ rfl)) (by assumption) ?_
      rw [Array.toArray_toList]
      (try simp only [Act.put, List.setIfInBounds_toArray, List.set_cons_zero, List.set_cons_succ])
      refine wpAnyH_take (i := 24) (at_drop rfl) (by kernel_rfl) (by kernel_rfl) (by kernel_rfl) (fun _ _ _ h => h) (yieldsIf_load_mid (by rfl) 28 _ rfl g 0 rfl (#[.int .i64 x.t, .int .i64 x.o, .int .i64 x.c, .int .i64 x.s, .int .i64 x.p, .int .i64 x.n, .int .u8 x.b, .int .i64 x.r, .int .i64 x.v, .int .u64 x.d, .slice A ps.length c, .slice B ts.length d] : Array Value).toList _ (fun w h => blk_rng (HA.out.ext h)) Tryz.underlying28 rfl (inf_rscr _ rfl)) (by assumption) ?_
      rw [Array.toArray_toList]
      (try simp only [Act.put, List.setIfInBounds_toArray, List.set_cons_zero, List.set_cons_succ])
      refine wpAnyH_take (i := 25) (at_drop rfl) (by kernel_rfl) (by kernel_rfl) (by kernel_rfl) (fun _ _ _ h => h) (yieldsIf_load_mid (by rfl) 28 _ rfl (g + 1) 0 rfl (#[.int .i64 x2.t, .int .i64 x2.o, .int .i64 x2.c, .int .i64 x2.s, .int .i64 x2.p, .int .i64 x2.n, .int .u8 x2.b, .int .i64 x2.r, .int .i64 x2.v, .int .u64 x2.d, .slice A2 ps2.length c2, .slice B2 ts2.length d2] : Array Value).toList _ (fun w h => blk_rng (HB.out.ext h)) Tryz.underlying28 rfl (inf_rscr _ rfl)) (by assumption) ?_
      rw [Array.toArray_toList]
      (try simp only [Act.put, List.setIfInBounds_toArray, List.set_cons_zero, List.set_cons_succ])
      refine wpAnyH_ready (rs := [20]) (by kernel_rfl) (by simp) (held_cons rfl (fun K hK => ?_) AllReadyH.nil)
      rw [if_pos (by rfl)]
      go_simp
      go_at_call 9
      refine (theirs_any c d x (HS1.out.ext hk) ht1).mono ?_
      rintro e w9 ⟨⟨B9, d9, rfl, hsc9⟩, hy⟩
      have hk := hk.trans hy
      refine hK.out _ _ hk (fun hHeld => ?_)
      (try simp only [Act.put, List.setIfInBounds_toArray, List.set_cons_zero, List.set_cons_succ])
      have HC9 := hide hsc9
      refine wpAnyH_ready (rs := [22]) (by kernel_rfl) (by simp) (held_cons rfl (fun K hK => ?_) AllReadyH.nil)
      rw [if_pos (by rfl)]
      go_simp
      go_at_call 9
      refine (theirs_any c2 d2 x2 (HS2.out.ext hk) ht2).mono ?_
      rintro e w10 ⟨⟨B10, d10, rfl, hsc10⟩, hy⟩
      have hk := hk.trans hy
      refine hK.out _ _ hk (fun hHeld => ?_)
      (try simp only [Act.put, List.setIfInBounds_toArray, List.set_cons_zero, List.set_cons_succ])
      have HC10 := hide (HC9.out.ext hy)
      refine wpAnyH_ready (rs := [23]) (by kernel_rfl) (by simp) (held_cons rfl (fun K hK => ?_) AllReadyH.nil)
      obtain ⟨sb, hsb⟩ : ∃ sb : Bool, (decide (x = x2) && (decide (ps = ps2) && decide (ts = ts2))) = sb := ⟨_, rfl⟩
      have hsm := same_any c d9 c2 d10 x x2 HC10.out hsc10
      have hrs := fun (w' : World) (k : Ext w5 w') => rsame_any c d c2 d2 x x2 (HS1.out.ext k) (HS2.out.ext k)
      rw [hsb] at hsm
      simp only [hsb] at hrs
      have HRS := hide hrs
      clear hrs hsb
      rw [if_pos (by rfl)]
      go_simp
      go_at_call 13
      refine (hsm).mono ?_
      rintro e w11 ⟨rfl, hy⟩
      have hk := hk.trans hy
      refine hK.out _ _ hk (fun hHeld => ?_)
      (try simp only [Act.put, List.setIfInBounds_toArray, List.set_cons_zero, List.set_cons_succ])
      clear hsm hsc10 hsc9
      refine wpAnyH_ready (rs := [26]) (by kernel_rfl) (by simp) (held_cons rfl (fun K hK => ?_) AllReadyH.nil)
      rw [if_pos (by rfl)]
      go_simp
      go_at_call 14
      refine (HRS.out _ hk).mono ?_
      rintro e w12 ⟨rfl, hy⟩
      have hk := hk.trans hy
      refine hK.out _ _ hk (fun hHeld => ?_)
      (try simp only [Act.put, List.setIfInBounds_toArray, List.set_cons_zero, List.set_cons_succ])
      (refine held_take (i := 27) (v := ?_) rfl (by kernel_rfl) (by kernel_rfl) (by kernel_rfl) (fun _ _ _ h => h) (by rfl) ?_ (by assumption) ?_; rotate_left; (intro w hSw; (try dsimp only at hSw); (first | (go_simp; done) | (go_simp; with_reducible rfl))); (try simp only [Act.put, List.setIfInBounds_toArray, List.set_cons_zero, List.set_cons_succ]))
      (refine held_take (i := 28) (v := ?_) rfl (by kernel_rfl) (by kernel_rfl) (by kernel_rfl) (fun _ _ _ h => h) (by rfl) ?_ (by assumption) ?_; rotate_left; (intro w hSw; (try dsimp only at hSw); (first | (go_simp; done) | (go_simp; with_reducible rfl))); (try simp only [Act.put, List.setIfInBounds_toArray, List.set_cons_zero, List.set_cons_succ]))
      (refine held_take (i := 29) (v := ?_) rfl (by kernel_rfl) (by kernel_rfl) (by kernel_rfl) (fun _ _ _ h => h) (by rfl) ?_ (by assumption) ?_; rotate_left; (intro w hSw; (try dsimp only at hSw); (first | (go_simp; done) | (go_simp; with_reducible rfl))); (try simp only [Act.put, List.setIfInBounds_toArray, List.set_cons_zero, List.set_cons_succ]))
      refine wpAnyH_take (i := 30) (at_drop rfl) (by kernel_rfl) (by kernel_rfl) (by kernel_rfl) (fun _ _ _ h => h) (yieldsIf_load_mid (by rfl) 28 _ rfl g 0 rfl (#[.int .i64 x.t, .int .i64 x.o, .int .i64 x.c, .int .i64 x.s, .int .i64 x.p, .int .i64 x.n, .int .u8 x.b, .int .i64 x.r, .int .i64 x.v, .int .u64 x.d, .slice A ps.length c, .slice B ts.length d] : Array Value).toList _ (fun w h => blk_rng (HA.out.ext h)) Tryz.underlying28 rfl (inf_rscr _ rfl)) (by assumption) ?_
      rw [Array.toArray_toList]
      (try simp only [Act.put, List.setIfInBounds_toArray, List.set_cons_zero, List.set_cons_succ])
      refine wpAnyH_take (i := 32) (at_drop rfl) (by kernel_rfl) (by kernel_rfl) (by kernel_rfl) (fun _ _ _ h => h) (yieldsIf_load_mid (by rfl) 28 _ rfl g 0 rfl (#[.int .i64 x.t, .int .i64 x.o, .int .i64 x.c, .int .i64 x.s, .int .i64 x.p, .int .i64 x.n, .int .u8 x.b, .int .i64 x.r, .int .i64 x.v, .int .u64 x.d, .slice A ps.length c, .slice B ts.length d] : Array Value).toList _ (fun w h => blk_rng (HA.out.ext h)) Tryz.underlying28 rfl (inf_rscr _ rfl)) (by assumption) ?_
      rw [Array.toArray_toList]
      (try simp only [Act.put, List.setIfInBounds_toArray, List.set_cons_zero, List.set_cons_succ])
      refine wpAnyH_ready (rs := [31]) (by kernel_rfl) (by simp) (held_cons rfl (fun K hK => ?_) AllReadyH.nil)
      rw [if_pos (by rfl)]
      go_simp
      go_at_call 9
      refine (theirs_any c d x (HS1.out.ext hk) ht1).mono ?_
      rintro e w13 ⟨⟨B13, d13, rfl, hsc13⟩, hy⟩
      have hk := hk.trans hy
      refine hK.out _ _ hk (fun hHeld => ?_)
      (try simp only [Act.put, List.setIfInBounds_toArray, List.set_cons_zero, List.set_cons_succ])
      have HC13 := hide hsc13
      clear hsc13
      refine wpAnyH_ready (rs := [33]) (by kernel_rfl) (by simp) (held_cons rfl (fun K hK => ?_) AllReadyH.nil)
      rw [if_pos (by rfl)]
      go_simp
      go_at_call 9
      refine (theirs_any c d x (HS1.out.ext hk) ht1).mono ?_
      rintro e w14 ⟨⟨B14, d14, rfl, hsc14⟩, hy⟩
      have hk := hk.trans hy
      refine hK.out _ _ hk (fun hHeld => ?_)
      (try simp only [Act.put, List.setIfInBounds_toArray, List.set_cons_zero, List.set_cons_succ])
      have hsm : Calls Tryz.prog 13 #[.agg #[.int .i64 x.t, .int .i64 x.o, .int .i64 x.c, .int .i64 x.s, .int .i64 x.p, .int .i64 x.n, .int .u8 x.b, .int .i64 x.r, .int .i64 x.v, .int .u64 x.d, .slice A ps.length c, .slice B13 ts.length d13], .agg #[.int .i64 x.t, .int .i64 x.o, .int .i64 x.c, .int .i64 x.s, .int .i64 x.p, .int .i64 x.n, .int .u8 x.b, .int .i64 x.r, .int .i64 x.v, .int .u64 x.d, .slice A ps.length c, .slice B14 ts.length d14]] w14 (fun e w' => e = .returned (.bool true) ∧ Ext w14 w') :=
        (same_any c d13 c d14 x x (HC13.out.ext hy) hsc14).mono (fun e w' ⟨q1, q2⟩ => ⟨by rw [q1]; simp, q2⟩)
      refine wpAnyH_ready (rs := [34]) (by kernel_rfl) (by simp) (held_cons rfl (fun K hK => ?_) AllReadyH.nil)
      rw [if_pos (by rfl)]
      go_simp
      go_at_call 13
      refine (hsm).mono ?_
      rintro e w15 ⟨rfl, hy⟩
      have hk := hk.trans hy
      refine hK.out _ _ hk (fun hHeld => ?_)
      (try simp only [Act.put, List.setIfInBounds_toArray, List.set_cons_zero, List.set_cons_succ])
      clear hsm hsc14
      (refine held_take (i := 35) (v := ?_) rfl (by kernel_rfl) (by kernel_rfl) (by kernel_rfl) (fun _ _ _ h => h) (by rfl) ?_ (by assumption) ?_; rotate_left; (intro w hSw; (try dsimp only at hSw); (first | (go_simp; done) | (go_simp; with_reducible rfl))); (try simp only [Act.put, List.setIfInBounds_toArray, List.set_cons_zero, List.set_cons_succ]))
      (refine held_take (i := 36) (v := ?_) rfl (by kernel_rfl) (by kernel_rfl) (by kernel_rfl) (fun _ _ _ h => h) (by rfl) ?_ (by assumption) ?_; rotate_left; (intro w hSw; (try dsimp only at hSw); (first | (go_simp; done) | (go_simp; with_reducible rfl))); (try simp only [Act.put, List.setIfInBounds_toArray, List.set_cons_zero, List.set_cons_succ]))
      refine wpAnyH_ready (rs := [37]) (by kernel_rfl) (by simp) (held_cons rfl (fun K hK => ?_) AllReadyH.nil)
      rw [if_pos (by rfl)]
      go_simp
      go_at_call 7
      refine (alive_any _ (HG.out.ext (HX5.out.trans hk))).mono ?_
      rintro e w16 ⟨rfl, hy⟩
      have hk := hk.trans hy
      refine hK.out _ _ hk (fun hHeld => ?_)
      (try simp only [Act.put, List.setIfInBounds_toArray, List.set_cons_zero, List.set_cons_succ])
      (refine held_take (i := 38) (v := ?_) rfl (by kernel_rfl) (by kernel_rfl) (by kernel_rfl) (fun _ _ _ h => h) (by rfl) ?_ (by assumption) ?_; rotate_left; (intro w hSw; (try dsimp only at hSw); (first | (go_simp; done) | (go_simp; with_reducible rfl))); (try simp only [Act.put, List.setIfInBounds_toArray, List.set_cons_zero, List.set_cons_succ]))
      (refine held_take (i := 39) (v := ?_) rfl (by kernel_rfl) (by kernel_rfl) (by kernel_rfl) (fun _ _ _ h => h) (by rfl) ?_ (by assumption) ?_; rotate_left; (intro w hSw; (try dsimp only at hSw); (first | (go_simp; done) | (go_simp; with_reducible rfl))); (try simp only [Act.put, List.setIfInBounds_toArray, List.set_cons_zero, List.set_cons_succ]))
      refine wpAnyH_done (by kernel_rfl) ?_ _
      go_wp2_with fail
      go_ret
      exact ⟨by simp, HX.out.trans (HX5.out.trans hk)⟩
end Go.Proofs.YtlgomkocalieeaaGreatDoor
