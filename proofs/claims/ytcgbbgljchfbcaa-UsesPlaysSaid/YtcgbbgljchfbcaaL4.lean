/-
  A law of layer 11 holds of every input: UsesPlays. No condition.
-/
import Derived.Test.YtcgbbgljchfbcaaS1
import Derived.Deep.RegionHeld3
import Derived.BigRegion
namespace Go.Proofs.Ytcgbbgljchfbcaa
open Go.ChangeShapes Go.WideShapes Go.ChangeAt Go.RowKit Go.Deep Go.Joins
set_option linter.unusedVariables false
set_option linter.unusedSimpArgs false
set_option maxRecDepth 100000

theorem own_Sl {w : World} {base n c : Nat} {e : TypeId} {A : Option Addr} {xs : List Value} (h : w.ownsRow base e 3 (.slice A n c) n xs) : Sl w w.heap.size 3 A n xs := by
  obtain ⟨_, _, e1, h1⟩ := Sl.of_own h
  cases e1
  exact h1
theorem same_own {w : World} {b1 b2 c1 c2 : Nat} {t1 t2 : TypeId} {A1 A2 : Option Addr} {l : List Pr} (h1 : w.ownsRow b1 t1 3 (.slice A1 l.length c1) l.length (pcells l)) (h2 : w.ownsRow b2 t2 3 (.slice A2 l.length c2) l.length (pcells l)) (hl : l.length ≤ 4096) :
    Calls Try.prog 11 #[.slice A1 l.length c1, .slice A2 l.length c2] w fun e w' => e = .returned (.bool true) ∧ Ext w w' := same_any (own_Sl h1) (own_Sl h2) hl
theorem same_one {w : World} {b1 b2 : Nat} {t1 t2 : TypeId} {p : Pr} (h1 : Blk w b1 #[.int .i64 p.s, .int .i64 p.o, .int .i64 p.t] t1) (h2 : Blk w b2 #[.int .i64 p.s, .int .i64 p.o, .int .i64 p.t] t2) :
    Calls Try.prog 11 #[.slice (some ⟨b1, 0, none⟩) 1 1, .slice (some ⟨b2, 0, none⟩) 1 1] w fun e w' => e = .returned (.bool true) ∧ Ext w w' := same_any (l := [p]) h1.sl h2.sl (by simp)
set_option maxHeartbeats 8000000 in
theorem lplays_any (A : Option Addr) (n c : Nat) (f : Nat → Stp) (w : World) (hn : n ≤ c) (hc : c ≤ maxLen) (hs : Stps w w.heap.size A n f) (hf : ∀ k, k < n → Okst (f k)) :
    Calls Try.prog 3 #[.slice A n c] w fun e w' => e = .returned (.bool true) ∧ Ext w w' := by
  have HF := hide hf
  clear hf
  go_enter Try.func3, Try.ntmps3
  go_wp2_with fail
  refine (new_any _).mono ?_
  rintro e w1 ⟨C, m1, m2, rfl, hm, hC, h1, h2, hX⟩
  have hA := Ext.alloc w1 (.cells #[.slice none 0 0] 27)
  have hr : RefT (w1.alloc (.cells #[.slice none 0 0] 27)) (w1.heap.size + 1) w1.heap.size [] := ⟨_, Blk.new w1 #[.slice none 0 0] 27, own_nil _ _ _ _⟩
  have lC := hm.c.lt
  have l1 := hm.a.lt
  have l2 := hm.b.lt
  have hXs := hX.size
  have hm := hm.ext hA
  have hX := hX.trans hA
  go_wp2_with fail
  generalize w1.alloc (.cells #[.slice none 0 0] 27) = wq at *
  have lw := hA.size
  have lR := hr.lt
  clear hA
  generalize w1.heap.size = R at *
  refine (short_any A n c _ hn hc).mono ?_
  rintro e w2 ⟨rfl, rfl⟩
  go_wp2_with fail
  go_loopw [27] (fun i wr => ∃ (j : Nat) (S : List Pr), j ≤ min n 200 ∧ i = .int .i64 j ∧ BookT wr C m1 m2 S ∧ RefT wr (R + 1) R S ∧ Ext w wr) (fun i _ => min n 200 - (intOf i).toNat)
  case atStart => exact ⟨0, [], by omega, rfl, hm, hr, hX⟩
  case round =>
    clear hm hX hr lw
    obtain ⟨j, S, hj, rfl, hm, hr, hX⟩ := hrel
    by_cases hlt : j < min n 200
    · have hj2 : j < n := by omega
      obtain ⟨b, off, rfl, hb, r0, r1, r2, r3⟩ := (hs.chg hX (Nat.le_refl _)).rules hj2
      obtain ⟨k0, k1, hs0, ho0, ht0⟩ := HF.out j hj2
      obtain ⟨x, hx⟩ : ∃ x, x = f j := ⟨_, rfl⟩
      rw [← hx] at r0 r1 r2 r3 k0 k1 hs0 ho0 ht0
      clear hx
      have lR := hr.lt
      have hA := Ext.alloc wr (.cells #[.int .u8 x.k, .int .i64 x.p.s, .int .i64 x.p.o, .int .i64 x.p.t] 32)
      have hA2 := Ext.alloc (wr.alloc (.cells #[.int .u8 x.k, .int .i64 x.p.s, .int .i64 x.p.o, .int .i64 x.p.t] 32)) (.cells #[.int .i64 x.p.s, .int .i64 x.p.o, .int .i64 x.p.t] 33)
      have hz1 := Blk.new wr #[.int .u8 x.k, .int .i64 x.p.s, .int .i64 x.p.o, .int .i64 x.p.t] 32
      have hz2 := Blk.new (wr.alloc (.cells #[.int .u8 x.k, .int .i64 x.p.s, .int .i64 x.p.o, .int .i64 x.p.t] 32)) #[.int .i64 x.p.s, .int .i64 x.p.o, .int .i64 x.p.t] 33
      have q0 := fun w' (y : Ext (wr.alloc (.cells #[.int .u8 x.k, .int .i64 x.p.s, .int .i64 x.p.o, .int .i64 x.p.t] 32)) w') => (hz1.ext y).cell
      have q1 := hz1.cell
      simp only [World.size_alloc] at hz2
      have hz1 := hz1.ext hA2
      have q2 := hz1.cell
      have q3 := hz2.cell
      have hm := hm.ext (hA.trans hA2)
      have hr := hr.ext (hA.trans hA2)
      have hX := hX.trans (hA.trans hA2)
      have ok := hm.ok
      have HX := hide hX
      have HM := hide hm
      have HR := hide hr
      have HZ1 := hide hz1
      have HZ2 := hide hz2
      have sW : ((wr.alloc (.cells #[.int .u8 x.k, .int .i64 x.p.s, .int .i64 x.p.o, .int .i64 x.p.t] 32)).alloc (.cells #[.int .i64 x.p.s, .int .i64 x.p.o, .int .i64 x.p.t] 33)).heap.size = wr.heap.size + 2 := by simp
      clear hm hX hA hA2 hr hz1 hz2 q0
      by_cases hk : x.k % 3 = 1
      · go_wp2_with fail
        generalize (wr.alloc (.cells #[.int .u8 x.k, .int .i64 x.p.s, .int .i64 x.p.o, .int .i64 x.p.t] 32)).alloc (.cells #[.int .i64 x.p.s, .int .i64 x.p.o, .int .i64 x.p.t] 33) = w3 at *
        generalize wr.heap.size = Z at *
        clear q1 q2 q3
        have RD := hide (fun w' h1 h2 => rdrop_any (w := w') (B := R + 1) (R := R) (S := S) x.p.s h1 ok (by omega) h2)
        have ok2 := ok.drop x.p.s
        refine (drop_in HM.out hs0).mono ?_
        rintro e w4 ⟨rfl, hm, hc⟩
        generalize dropR S x.p.s = d at *
        generalize dropE S x.p.s = er at *
        generalize dropS S x.p.s = S2 at *
        have s4 := hc.size
        have HR := hide (HR.out.chg hc (by simp; omega) (by intro t ht; simp at ht; omega))
        have HX := hide (HX.out.turn hc (low2 (by omega) (by omega)))
        have HZ2 := hide (HZ2.out.chg hc (by simp; omega))
        have hA := Ext.alloc w4 (.cells #[.int .i64 d.s, .int .i64 d.o, .int .i64 d.t] 33)
        have hd1 := Blk.new w4 #[.int .i64 d.s, .int .i64 d.o, .int .i64 d.t] 33
        have r2 := (HZ2.out.ext hA).cell
        have HM := hide (hm.ext hA)
        have HX := hide (HX.out.trans hA)
        have HR := hide (HR.out.ext hA)
        have HZ2 := hide (HZ2.out.ext hA)
        have HD1 := hide hd1
        have sA : (w4.alloc (.cells #[.int .i64 d.s, .int .i64 d.o, .int .i64 d.t] 33)).heap.size = w4.heap.size + 1 := by simp
        clear hm hc hA hd1
        go_wp2_with fail
        generalize w4.alloc (.cells #[.int .i64 d.s, .int .i64 d.o, .int .i64 d.t] 33) = w5 at *
        generalize w4.heap.size = z4 at *
        refine (RD.out _ HR.out (by omega)).mono ?_
        rintro e w6 ⟨rfl, hr, hc⟩
        clear r2
        have hm := HM.out.chg hc (by simp; omega) (by simp; omega) (by simp; omega)
        have hX := HX.out.turn hc (by intro t ht; simp at ht; omega)
        have hz2 := HZ2.out.chg hc (by simp; omega)
        have hd := HD1.out.chg hc (by simp; omega)
        have s6 := hc.size
        clear hc
        have hA := Ext.alloc w6 (.cells #[.int .i64 d.s, .int .i64 d.o, .int .i64 d.t] 30)
        have he := Blk.new w6 #[.int .i64 d.s, .int .i64 d.o, .int .i64 d.t] 30
        have hd := hd.ext hA
        have r5 := hd.cell
        have r6 := he.cell
        have hm := hm.ext hA
        have HRR := hide (hr.ext hA)
        have hX := hX.trans hA
        have hz2 := hz2.ext hA
        have HM := hide hm
        have HX := hide hX
        have HZ := hide hz2
        have HD := hide hd
        have HE := hide he
        clear hA hm hX hz2 hd he hr
        go_wp2_with fail
        have hA := (Ext.alloc _ (.cells #[.int .i64 d.s, .int .i64 d.o, .int .i64 d.t] 33)).trans (Ext.alloc ((w6.alloc (.cells #[.int .i64 d.s, .int .i64 d.o, .int .i64 d.t] 30)).alloc (.cells #[.int .i64 d.s, .int .i64 d.o, .int .i64 d.t] 33)) (.cells #[.int .i64 d.s, .int .i64 d.o, .int .i64 d.t] 30))
        have hf1 := (Blk.new (w6.alloc (.cells #[.int .i64 d.s, .int .i64 d.o, .int .i64 d.t] 30)) #[.int .i64 d.s, .int .i64 d.o, .int .i64 d.t] 33).ext (Ext.alloc _ (.cells #[.int .i64 d.s, .int .i64 d.o, .int .i64 d.t] 30))
        have hf2 := Blk.new ((w6.alloc (.cells #[.int .i64 d.s, .int .i64 d.o, .int .i64 d.t] 30)).alloc (.cells #[.int .i64 d.s, .int .i64 d.o, .int .i64 d.t] 33)) #[.int .i64 d.s, .int .i64 d.o, .int .i64 d.t] 30
        simp only [World.size_alloc] at hf1 hf2
        refine (same_one hf1 hf2).mono ?_
        rintro e w7 ⟨rfl, hx⟩
        have hm := HM.out.ext (hA.trans hx)
        have HRR := hide (HRR.out.ext (hA.trans hx))
        have hX := HX.out.trans (hA.trans hx)
        have hz2 := HZ.out.ext (hA.trans hx)
        clear hA hx hf1 hf2 r5 r6 HM HX HZ HD HE HD1 HZ2
        have hr := HRR.out
        have HS := hide hm.ok
        have HL := hide hm.ok.len
        have r2 := hz2.cell
        have HM := hide hm
        have HR := hide hr
        have HX := hide hX
        have HZ := hide hz2
        clear hm hr hX hz2
        go_wp2_with fail
        refine (slot_any HM.out.any ho0).mono ?_
        rintro e w4 ⟨rfl, hx⟩
        have HM := hide (HM.out.ext hx)
        have HR := hide (HR.out.ext hx)
        have HX := hide (HX.out.trans hx)
        have HZ := hide (HZ.out.ext hx)
        have r2 := HZ.out.cell
        clear hx
        go_wp2_with fail
        refine (rslot_any _ HR.out HL.out).mono ?_
        rintro e w5 ⟨rfl, rfl⟩
        go_wp2_with fail
        refine (obj_any HM.out.any hs0).mono ?_
        rintro e w5 ⟨rfl, hx⟩
        have HM := hide (HM.out.ext hx)
        have HR := hide (HR.out.ext hx)
        have HX := hide (HX.out.trans hx)
        have HZ := hide (HZ.out.ext hx)
        have r2 := HZ.out.cell
        clear hx
        go_wp2_with fail
        refine (robj_any _ HR.out HL.out).mono ?_
        rintro e w6 ⟨rfl, rfl⟩
        go_wp2_with fail
        clear r2
        generalize slotA S2 x.p.o = g1 at *
        generalize slotB S2 x.p.o = g2 at *
        generalize objA S2 x.p.s = g3 at *
        generalize objB S2 x.p.s = g4 at *
        obtain ⟨vr, hb, hrow⟩ := HR.out
        obtain ⟨Ar, cr, rfl⟩ := own_sl hrow
        have HLO := hide (Nat.le_trans (ofT_le S2 x.p.t) HL.out)
        have hbA := hb
        have hzA := HZ.out
        have hm := HM.out.ext (Ext.drew _)
        have hb := hb.ext (Ext.drew _)
        have hrow := own_ext hrow (Ext.drew _)
        have hz2 := hzA.ext (Ext.drew _)
        have hX := HX.out.trans (Ext.drew _)
        clear HM HX HZ HR
        go_region_held3 (fun w' => w'.cell? ⟨R, 0, none⟩ = some (.slice Ar S2.length cr) ∧ w'.cell? ⟨Z + 1, 2, none⟩ = some (.int .i64 x.p.t))
          (first | exact ⟨hb.cell 0, hz2.cell 2⟩ | exact ⟨hbA.cell 0, hzA.cell 2⟩)
          (first
            | (go_at_call 18; refine (all_any hm.any).mono ?_; rintro e w7 ⟨v7, rfl, ho1, hx⟩; obtain ⟨A7, c7, rfl⟩ := own_sl ho1; have hm := hm.ext hx; have hb := hb.ext hx; have hrow := own_ext hrow hx; have hz2 := hz2.ext hx; have hX := hX.trans hx; (try have ho1 := own_ext ho1 hx); (try have ho2 := own_ext ho2 hx); (try have ho3 := own_ext ho3 hx); clear hx)
            | (go_at_call 11; with_reducible refine (same_own ho1 hrow HL.out).mono ?_; rintro e w7 ⟨rfl, hx⟩; have hm := hm.ext hx; have hb := hb.ext hx; have hrow := own_ext hrow hx; have hz2 := hz2.ext hx; have hX := hX.trans hx; (try have ho1 := own_ext ho1 hx); (try have ho2 := own_ext ho2 hx); (try have ho3 := own_ext ho3 hx); clear hx)
            | (go_at_call 11; with_reducible refine (same_own ho2 ho3 HLO.out).mono ?_; rintro e w7 ⟨rfl, hx⟩; have hm := hm.ext hx; have hb := hb.ext hx; have hrow := own_ext hrow hx; have hz2 := hz2.ext hx; have hX := hX.trans hx; (try have ho1 := own_ext ho1 hx); (try have ho2 := own_ext ho2 hx); (try have ho3 := own_ext ho3 hx); clear hx)
            | (go_at_call 19; refine (of_any hm.any x.p.t).mono ?_; rintro e w7 ⟨v7, rfl, ho2, hx⟩; obtain ⟨A7, c7, rfl⟩ := own_sl ho2; have hm := hm.ext hx; have hb := hb.ext hx; have hrow := own_ext hrow hx; have hz2 := hz2.ext hx; have hX := hX.trans hx; (try have ho1 := own_ext ho1 hx); (try have ho2 := own_ext ho2 hx); (try have ho3 := own_ext ho3 hx); clear hx)
            | (go_at_call 20; refine (rof_any x.p.t ⟨_, hb, hrow⟩ HL.out).mono ?_; rintro e w7 ⟨v7, rfl, ho3, hx⟩; obtain ⟨A7, c7, rfl⟩ := own_sl ho3; have hm := hm.ext hx; have hb := hb.ext hx; have hrow := own_ext hrow hx; have hz2 := hz2.ext hx; have hX := hX.trans hx; (try have ho1 := own_ext ho1 hx); (try have ho2 := own_ext ho2 hx); (try have ho3 := own_ext ho3 hx); clear hx)
            | (go_at_call 21; refine (len_any hm.any).mono ?_; rintro e w7 ⟨rfl, hx⟩; have hm := hm.ext hx; have hb := hb.ext hx; have hrow := own_ext hrow hx; have hz2 := hz2.ext hx; have hX := hX.trans hx; (try have ho1 := own_ext ho1 hx); (try have ho2 := own_ext ho2 hx); (try have ho3 := own_ext ho3 hx); clear hx))
        all_goals
          have HRR := hide (show RefT _ (R + 1) R S2 from ⟨_, hb, hrow⟩)
          have HM := hide hm
          have HX := hide hX
          clear hbA hzA hm hb hrow hz2 hX
          go_wp2_with fail
          go_roundw
          case rel => exact ⟨j + 1, S2, by omega, by go_num, HM.out, HRR.out, HX.out⟩
          case measure => simp [intOf]; omega
      · go_wp2_with fail
        generalize (wr.alloc (.cells #[.int .u8 x.k, .int .i64 x.p.s, .int .i64 x.p.o, .int .i64 x.p.t] 32)).alloc (.cells #[.int .i64 x.p.s, .int .i64 x.p.o, .int .i64 x.p.t] 33) = w3 at *
        generalize wr.heap.size = Z at *
        clear q1 q2 q3
        have hzA := HZ1.out
        have hzB := HZ2.out
        have hX0 := Ext.drew w3
        have hm := HM.out.ext hX0
        have hr := HR.out.ext hX0
        have hX := HX.out.trans hX0
        have hz1 := hzA.ext hX0
        have hz2 := hzB.ext hX0
        have lw3 : R + 1 ≤ w3.drew.heap.size := by have := hX0.size; omega
        have ok2 := ok.add x.p
        clear hX0
        go_region_held3 (fun w' => (w'.cell? ⟨Z, 1, none⟩ = some (.int .i64 x.p.s) ∧ w'.cell? ⟨Z, 2, none⟩ = some (.int .i64 x.p.o) ∧ w'.cell? ⟨Z, 3, none⟩ = some (.int .i64 x.p.t)) ∧ (w'.cell? ⟨Z + 1, 0, none⟩ = some (.int .i64 x.p.s) ∧ w'.cell? ⟨Z + 1, 1, none⟩ = some (.int .i64 x.p.o) ∧ w'.cell? ⟨Z + 1, 2, none⟩ = some (.int .i64 x.p.t)))
          (first | exact ⟨⟨hz1.cell 1, hz1.cell 2, hz1.cell 3⟩, ⟨hz2.cell 0, hz2.cell 1, hz2.cell 2⟩⟩ | exact ⟨⟨hzA.cell 1, hzA.cell 2, hzA.cell 3⟩, ⟨hzB.cell 0, hzB.cell 1, hzB.cell 2⟩⟩)
          (first
            | (go_at_call 12; refine (add_in hm ⟨hs0, ho0⟩).mono ?_; rintro e w6 ⟨rfl, hm, hc⟩; have hr := hr.chg hc (by simp; omega) (by intro t ht; simp at ht; omega); have hz1 := hz1.chg hc (by simp; omega); have hz2 := hz2.chg hc (by simp; omega); have hX := hX.turn hc (low2 (by omega) (by omega)); have lw3 := Nat.le_trans lw3 hc.size; clear hc)
            | (go_at_call 13; refine (radd_any x.p hr ok (by omega) lw3).mono ?_; rintro e w6 ⟨rfl, hr, hc⟩; have hm := hm.chg hc (by simp; omega) (by simp; omega) (by simp; omega); have hz1 := hz1.chg hc (by simp; omega); have hz2 := hz2.chg hc (by simp; omega); have hX := hX.turn hc (by intro t ht; simp at ht; omega); have lw3 := Nat.le_trans lw3 hc.size; clear hc))
        clear hzA hzB hz1 lw3
        have HRR := hide hr
        clear hr
        go_wp2_with fail
        generalize addS S x.p = S2 at *
        have hr := HRR.out
        have HS := hide hm.ok
        have HL := hide hm.ok.len
        have r2 := hz2.cell
        have HM := hide hm
        have HR := hide hr
        have HX := hide hX
        have HZ := hide hz2
        clear hm hr hX hz2
        go_wp2_with fail
        refine (slot_any HM.out.any ho0).mono ?_
        rintro e w4 ⟨rfl, hx⟩
        have HM := hide (HM.out.ext hx)
        have HR := hide (HR.out.ext hx)
        have HX := hide (HX.out.trans hx)
        have HZ := hide (HZ.out.ext hx)
        have r2 := HZ.out.cell
        clear hx
        go_wp2_with fail
        refine (rslot_any _ HR.out HL.out).mono ?_
        rintro e w5 ⟨rfl, rfl⟩
        go_wp2_with fail
        refine (obj_any HM.out.any hs0).mono ?_
        rintro e w5 ⟨rfl, hx⟩
        have HM := hide (HM.out.ext hx)
        have HR := hide (HR.out.ext hx)
        have HX := hide (HX.out.trans hx)
        have HZ := hide (HZ.out.ext hx)
        have r2 := HZ.out.cell
        clear hx
        go_wp2_with fail
        refine (robj_any _ HR.out HL.out).mono ?_
        rintro e w6 ⟨rfl, rfl⟩
        go_wp2_with fail
        clear r2
        generalize slotA S2 x.p.o = g1 at *
        generalize slotB S2 x.p.o = g2 at *
        generalize objA S2 x.p.s = g3 at *
        generalize objB S2 x.p.s = g4 at *
        obtain ⟨vr, hb, hrow⟩ := HR.out
        obtain ⟨Ar, cr, rfl⟩ := own_sl hrow
        have HLO := hide (Nat.le_trans (ofT_le S2 x.p.t) HL.out)
        have hbA := hb
        have hzA := HZ.out
        have hm := HM.out.ext (Ext.drew _)
        have hb := hb.ext (Ext.drew _)
        have hrow := own_ext hrow (Ext.drew _)
        have hz2 := hzA.ext (Ext.drew _)
        have hX := HX.out.trans (Ext.drew _)
        clear HM HX HZ HR
        go_region_held3 (fun w' => w'.cell? ⟨R, 0, none⟩ = some (.slice Ar S2.length cr) ∧ w'.cell? ⟨Z + 1, 2, none⟩ = some (.int .i64 x.p.t))
          (first | exact ⟨hb.cell 0, hz2.cell 2⟩ | exact ⟨hbA.cell 0, hzA.cell 2⟩)
          (first
            | (go_at_call 18; refine (all_any hm.any).mono ?_; rintro e w7 ⟨v7, rfl, ho1, hx⟩; obtain ⟨A7, c7, rfl⟩ := own_sl ho1; have hm := hm.ext hx; have hb := hb.ext hx; have hrow := own_ext hrow hx; have hz2 := hz2.ext hx; have hX := hX.trans hx; (try have ho1 := own_ext ho1 hx); (try have ho2 := own_ext ho2 hx); (try have ho3 := own_ext ho3 hx); clear hx)
            | (go_at_call 11; with_reducible refine (same_own ho1 hrow HL.out).mono ?_; rintro e w7 ⟨rfl, hx⟩; have hm := hm.ext hx; have hb := hb.ext hx; have hrow := own_ext hrow hx; have hz2 := hz2.ext hx; have hX := hX.trans hx; (try have ho1 := own_ext ho1 hx); (try have ho2 := own_ext ho2 hx); (try have ho3 := own_ext ho3 hx); clear hx)
            | (go_at_call 11; with_reducible refine (same_own ho2 ho3 HLO.out).mono ?_; rintro e w7 ⟨rfl, hx⟩; have hm := hm.ext hx; have hb := hb.ext hx; have hrow := own_ext hrow hx; have hz2 := hz2.ext hx; have hX := hX.trans hx; (try have ho1 := own_ext ho1 hx); (try have ho2 := own_ext ho2 hx); (try have ho3 := own_ext ho3 hx); clear hx)
            | (go_at_call 19; refine (of_any hm.any x.p.t).mono ?_; rintro e w7 ⟨v7, rfl, ho2, hx⟩; obtain ⟨A7, c7, rfl⟩ := own_sl ho2; have hm := hm.ext hx; have hb := hb.ext hx; have hrow := own_ext hrow hx; have hz2 := hz2.ext hx; have hX := hX.trans hx; (try have ho1 := own_ext ho1 hx); (try have ho2 := own_ext ho2 hx); (try have ho3 := own_ext ho3 hx); clear hx)
            | (go_at_call 20; refine (rof_any x.p.t ⟨_, hb, hrow⟩ HL.out).mono ?_; rintro e w7 ⟨v7, rfl, ho3, hx⟩; obtain ⟨A7, c7, rfl⟩ := own_sl ho3; have hm := hm.ext hx; have hb := hb.ext hx; have hrow := own_ext hrow hx; have hz2 := hz2.ext hx; have hX := hX.trans hx; (try have ho1 := own_ext ho1 hx); (try have ho2 := own_ext ho2 hx); (try have ho3 := own_ext ho3 hx); clear hx)
            | (go_at_call 21; refine (len_any hm.any).mono ?_; rintro e w7 ⟨rfl, hx⟩; have hm := hm.ext hx; have hb := hb.ext hx; have hrow := own_ext hrow hx; have hz2 := hz2.ext hx; have hX := hX.trans hx; (try have ho1 := own_ext ho1 hx); (try have ho2 := own_ext ho2 hx); (try have ho3 := own_ext ho3 hx); clear hx))
        all_goals
          have HRR := hide (show RefT _ (R + 1) R S2 from ⟨_, hb, hrow⟩)
          have HM := hide hm
          have HX := hide hX
          clear hbA hzA hm hb hrow hz2 hX
          go_wp2_with fail
          go_roundw
          case rel => exact ⟨j + 1, S2, by omega, by go_num, HM.out, HRR.out, HX.out⟩
          case measure => simp [intOf]; omega
    · go_wp2_with fail
      refine (alive_any _).mono ?_
      rintro e w3 ⟨rfl, hx⟩
      go_wp2_with fail
      go_ret
      exact ⟨rfl, hX.trans hx⟩

set_option maxRecDepth 100000 in
theorem usesPlays_walk {H : Type} {enc : TypeId × Value → H} (W : World) (base : Nat) (args : Array Value) (ds : List (DataW H)) (p : List MemPlace)
    (hval0 : ∀ (j : Nat) t v, Try.f3.params[j]? = some t → args[j]? = some v → Value.okWide Try.prog W .any base t v)
    (hA0 : DataW.TrodAll enc Try.prog W 0 (fun _ => true) true Try.f3.params.toList args.toList ds p) (_hlt : ∀ x ∈ p, x.block < W.heap.size) :
    Calls Try.prog 3 args W fun e W' => e = .returned (.bool true) ∧ Ext W W' := by
  have hval := hval0
  have hA := hA0
  rw [Try.params3] at hA hval
  clear hval0 hA0
  obtain ⟨v0, d0, rfl, rfl, h0⟩ := trodAll_one hA
  obtain ⟨A, n, c, f, rfl, hn, hc, hs, hf⟩ := open_steps (hval 0 22 v0 rfl rfl) h0
  exact lplays_any A n c f W hn hc hs hf
set_option maxRecDepth 100000 in
theorem usesPlays_lifted (os : Os) (started : os.Started) (H : Type) (enc : TypeId × Value → H) :
    ReturnsInHanded {} Try.checked os 3 .any (Rows.usesPlaysSpec.pre6 enc Try.prog Try.f3 Rows.usesPlaysRow.domain false) (Rows.usesPlaysSpec.post enc Try.prog Try.f3 false true false false) :=
  law_lifted (fn := Try.f3) 4 os started (by kernel_rfl) Try.func3 rfl rfl Try.underlying4 (hread_of (by kernel_rfl))
    (fun l hl => by
      have hl2 : l.length = 1 := hl
      clear hl
      match l, hl2 with
      | [_], _ => rfl)
    (ChangeSpec.witness6 (enc := enc) (C := Try.checked) false ⟨#[], #[.slice none 0 0], []⟩ 8 (by kernel_rfl) (by kernel_rfl) (by kernel_rfl) (by kernel_rfl))
    (fun W base args ds p hval hA hlt => usesPlays_walk W base args ds p hval hA hlt)
theorem usesPlays_holds : Rows.UsesPlaysSaid :=
  OpenClaim.holds_of_wide 3 Try.f3 rfl rfl rfl rfl rfl rfl rfl ⟨rfl, rfl, rfl, rfl, rfl⟩ rfl rfl rfl rfl rfl (by kernel_rfl) Try.func3 (by kernel_rfl)
    (of_decide_eq_true (by kernel_rfl)) (by unfold Func.isWrapper; rw [if_neg (of_decide_eq_false (by kernel_rfl))]; exact ⟨rfl, rfl⟩)
    (fun os started H enc _ => usesPlays_lifted os started H enc)
end Go.Proofs.Ytcgbbgljchfbcaa
