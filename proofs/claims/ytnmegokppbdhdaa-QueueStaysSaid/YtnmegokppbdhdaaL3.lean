/-
  A law of layer 12 holds of every input: QueueStays. No condition.
-/
import Derived.Test.YtnmegokppbdhdaaO2
namespace Go.Proofs.Ytnmegokppbdhdaa
open Go.ChangeShapes Go.WideShapes Go.ChangeAt Go.RowKit Go.Deep Go.Joins
set_option linter.unusedVariables false
set_option linter.unusedSimpArgs false
set_option maxRecDepth 100000

theorem okst_ext {W w : World} {s : Stp} (h : Okst W s) (x : Ext W w) : Okst w s := ⟨h.k0, h.k1, h.n0, h.c.ext x, h.len, h.cap, h.wf⟩
set_option maxHeartbeats 8000000 in
theorem stays_any {W : World} {A : Option Addr} {n c : Nat} {f : Nat → Stp} (hs : Stps W A n f) (hf : ∀ k, k < n → Okst W (f k)) (hn : n ≤ c) (hc : c ≤ maxLen) :
    Calls Try.prog 4 #[.slice A n c] W fun e w' => e = .returned (.bool true) ∧ Ext W w' := by
  obtain ⟨m, hm⟩ : ∃ m, m = min n 100 := ⟨_, rfl⟩
  have hfar := far_any hs hf hn hc hm
  have HF := hide hf
  clear hf
  cases e : decide (500 < farN f m) with
  | true =>
    rw [e] at hfar
    go_enter Try.func4, Try.ntmps4
    go_wp2_with fail
    refine hfar.mono ?_
    rintro e w1 ⟨rfl, hx⟩
    go_wp2_with fail
    refine (alive_any _).mono ?_
    rintro e w2 ⟨rfl, hx2⟩
    go_wp2_with fail
    go_ret
    exact ⟨rfl, hx.trans hx2⟩
  | false =>
    rw [e] at hfar
    have HL := hide (show ∀ k, k < m → (f k).ch.length ≤ 500 by
      intro k hk
      have h1 := farN_one f hk
      have h2 := of_decide_eq_false e
      omega)
    clear e
    go_enter Try.func4, Try.ntmps4
    go_wp2_with fail
    refine hfar.mono ?_
    rintro e w1 ⟨rfl, hx⟩
    clear hfar
    go_wp2_with fail
    refine (short_any A n c _ hn hc).mono ?_
    rintro e w2 ⟨rfl, rfl⟩
    rw [← hm]
    have hi0 : Bx (w1.alloc (Obj.cells #[.slice none 0 0] 27)) w1.heap.size [] := Bx.newN (Row.nil _)
    have hX0 := hx.trans (Ext.alloc w1 (Obj.cells #[.slice none 0 0] 27))
    obtain ⟨Q, hQ⟩ : ∃ Q, Q = w1.heap.size := ⟨_, rfl⟩
    rw [← hQ] at hi0 ⊢
    have hlQ : W.heap.size ≤ Q := by have := hx.size; omega
    have hI0 : InvS W (w1.alloc (Obj.cells #[.slice none 0 0] 27)) Q none 0 none 0 [] [] [] :=
      ⟨hi0, okq_nil, RowV.nil _ _, RowV.nil _ _, fun d hd => (by simp at hd), fun d hd => (by simp at hd), fun a ha => (by cases ha), fun a ha => (by cases ha), hX0, hlQ⟩
    have HM := hide (show m ≤ n by omega)
    have HM2 := hide (show m ≤ 100 by omega)
    clear hx hm hQ hi0 hX0
    go_wp2_with fail
    go_loopw [3, 4, 28] (fun va vl i wr => ∃ (j : Nat) (Aa : Option Addr) (ca : Nat) (Al : Option Addr) (cl : Nat) (EA EL : List Qd) (lq : List Int), j ≤ m ∧ va = .slice Aa EA.length ca ∧ vl = .slice Al EL.length cl ∧ i = .int .i64 (j : Int) ∧ EA.length ≤ 60 ∧ EA.map (·.l) = EL.map (·.l) ∧ InvS W wr Q Aa ca Al cl EA EL lq) (fun _ _ i _ => m - (intOf i).toNat)
    case atStart => exact ⟨0, none, 0, none, 0, [], [], [], by omega, rfl, rfl, rfl, by simp, rfl, hI0⟩
    case round =>
      clear hI0
      obtain ⟨j, Aa, ca, Al, cl, EA, EL, lq, hj, rfl, rfl, rfl, hEA, hEE, hI⟩ := hrel
      have hEL : EL.length = EA.length := by have := congrArg List.length hEE; simpa using this.symm
      by_cases hlt : j < m
      · have hj2 : j < n := by have := HM.out; omega
        have hm2 := HM2.out
        obtain ⟨b, off, rfl, r0, r1, r2⟩ := hs.rules hj2
        have okx := okst_ext (HF.out j hj2) hI.x
        have hcl := HL.out j hlt
        obtain ⟨x, hx⟩ : ∃ x, x = f j := ⟨_, rfl⟩
        rw [← hx] at r0 r1 r2 okx hcl
        clear hx
        have r0 := r0 wr hI.x
        have r1 := r1 wr hI.x
        have r2 := r2 wr hI.x
        have k0 := okx.k0
        have k1 := okx.k1
        have ok := hI.ok
        have hl := ok.len
        have hY := Ext.alloc wr (.cells #[.int .u8 x.k, .int .i64 x.n, .slice x.a x.ch.length x.cp] 30)
        have hz := Blk.new wr #[.int .u8 x.k, .int .i64 x.n, .slice x.a x.ch.length x.cp] 30
        have hI1 := hI.ext hY
        have okx := okst_ext okx hY
        obtain ⟨Z, hZ⟩ : ∃ Z, Z = wr.heap.size := ⟨_, rfl⟩
        rw [← hZ] at hz
        clear hI
        go_upto_region 9 with fail
        rw [← hZ]
        clear hZ
        generalize wr.alloc (.cells #[.int .u8 x.k, .int .i64 x.n, .slice x.a x.ch.length x.cp] 30) = w0 at *
        obtain ⟨A2, c2, hb1, hb2⟩ := hI1.q
        have hzr := hz.rule
        have hqr := hb1.rule
        have e0 := Ext.refl w0
        have HI := hide hI1
        clear hI1
        have hcall := append_any x.n hb2 ok
        go_wp2_with fail
        refine hcall.mono ?_
        rintro e w1 ⟨A3, c3, rfl, hr3, hx3, _⟩
        clear hcall
        have e1y := hx3.trans (Ext.alloc w1 (Obj.cells #[.slice A3 (apL lq x.n).length c3] 27))
        have e1 := e0.trans e1y
        have p1 := Blk.new w1 #[Value.slice A3 (apL lq x.n).length c3] 27
        have hr3 := hr3.ext (Ext.alloc w1 (Obj.cells #[.slice A3 (apL lq x.n).length c3] 27))
        have hcall := drain_any (hb2.ext e1) ok (okx.c.ext e1) (by omega) okx.wf (c2 := x.cp)
        go_wp2_with fail
        refine hcall.mono ?_
        rintro e w2 ⟨A4, c4, rfl, hr4, hx4⟩
        clear hcall
        have e2y := hx4.trans (Ext.alloc w2 (Obj.cells #[.slice A4 (drL lq x.ch).length c4] 27))
        have e2 := e1.trans e2y
        have p2 := Blk.new w2 #[Value.slice A4 (drL lq x.ch).length c4] 27
        have hr4 := hr4.ext (Ext.alloc w2 (Obj.cells #[.slice A4 (drL lq x.ch).length c4] 27))
        have hcall := pop_any (hb2.ext e2) ok
        have okt := ok.tail
        obtain ⟨lt, hlt9⟩ : ∃ lt, lt = lq.tail := ⟨_, rfl⟩
        rw [← hlt9] at hcall okt
        clear hlt9
        go_wp2_with fail
        refine hcall.mono ?_
        rintro e w3 ⟨A5, c5, rfl, hr5, hx5⟩
        clear hcall
        have e3y := hx5.trans (Ext.alloc w3 (Obj.cells #[.slice A5 lt.length c5] 27))
        have e3 := e2.trans e3y
        have p3 := Blk.new w3 #[Value.slice A5 lt.length c5] 27
        have hr5 := hr5.ext (Ext.alloc w3 (Obj.cells #[.slice A5 lt.length c5] 27))
        have hcall := remove_any x.n (hb2.ext e3) ok
        go_wp2_with fail
        refine hcall.mono ?_
        rintro e w4 ⟨A6, c6, rfl, hr6, hx6⟩
        clear hcall
        have e4y := hx6.trans (Ext.alloc w4 (Obj.cells #[.slice A6 (rmL lq x.n).length c6] 27))
        have e4 := e3.trans e4y
        have p4 := Blk.new w4 #[Value.slice A6 (rmL lq x.n).length c6] 27
        have hr6 := hr6.ext (Ext.alloc w4 (Obj.cells #[.slice A6 (rmL lq x.n).length c6] 27))
        go_upto_region 13 with fail
        have B1 := p1.ext (e2y.trans (e3y.trans e4y))
        have B2 := p2.ext (e3y.trans e4y)
        have B3 := p3.ext e4y
        have B4 := p4
        have R1 : OkD _ ⟨A3, c3, apL lq x.n⟩ := ⟨hr3.ext (e2y.trans (e3y.trans e4y)), by have := (ok.ap x.n).len; simp only; omega⟩
        have R2 : OkD _ ⟨A4, c4, drL lq x.ch⟩ := ⟨hr4.ext (e3y.trans e4y), by have := (ok.dr x.ch x.ch.length).len; rw [show drK lq x.ch x.ch.length = drL lq x.ch from rfl] at this; simp only; omega⟩
        have R3 : OkD _ ⟨A5, c5, lt⟩ := ⟨hr5.ext e4y, by have := okt.len; simp only; omega⟩
        have R4 : OkD _ ⟨A6, c6, rmL lq x.n⟩ := ⟨hr6, by have := (ok.rm x.n).len; simp only; omega⟩
        have HI5 := hide (HI.out.ext e4)
        have hz5 := hz.ext e4
        have hq5 := hb1.ext e4
        have o1 := ok.ap x.n
        have o2 := ok.dr x.ch x.ch.length
        rw [show drK lq x.ch x.ch.length = drL lq x.ch from rfl] at o2
        have o4 := ok.rm x.n
        have m0 := hb1.lt
        have y1 := hx3.size
        have y2 := hx4.size
        have y3 := hx5.size
        have y4 := hx6.size
        simp only [World.size_alloc] at y1 y2 y3 y4
        have m1 : w1.heap.size ≠ Q := by omega
        have m2 : w2.heap.size ≠ Q := by omega
        have m3 : w3.heap.size ≠ Q := by omega
        have m4 : w4.heap.size ≠ Q := by omega
        clear hx3 hx4 hx5 hx6 m0 y1 y2 y3 y4 p1 p2 p3 p4 hr3 hr4 hr5 hr6 e1y e2y e3y e4y e0 e1 e2 e3 e4 hqr hzr
        generalize apL lq x.n = l1 at *
        generalize drL lq x.ch = l2 at *
        generalize rmL lq x.n = l4 at *
        generalize w4.alloc (Obj.cells #[.slice A6 l4.length c6] 27) = w5 at *
        generalize w1.heap.size = N1 at B1 m1 ⊢
        generalize w2.heap.size = N2 at B2 m2 ⊢
        generalize w3.heap.size = N3 at B3 m3 ⊢
        generalize w4.heap.size = N4 at B4 m4 ⊢
        obtain ⟨As, cs, ls, hsel, hrs, oks⟩ : ∃ As cs ls, ([.slice A3 l1.length c3, .slice A4 l2.length c4, .slice A5 lt.length c5, .slice A6 l4.length c6] : List Value)[(x.k % 4).toNat]? = some (.slice As ls.length cs) ∧ Row w5 As ls.length cs ls ∧ OkQ ls := by
          have q : (x.k % 4).toNat = 0 ∨ (x.k % 4).toNat = 1 ∨ (x.k % 4).toNat = 2 ∨ (x.k % 4).toNat = 3 := by omega
          rcases q with q | q | q | q <;> rw [q]
          · exact ⟨A3, c3, l1, rfl, R1.1, o1⟩
          · exact ⟨A4, c4, l2, rfl, R2.1, o2⟩
          · exact ⟨A5, c5, lt, rfl, R3.1, okt⟩
          · exact ⟨A6, c6, l4, rfl, R4.1, o4⟩
        have d1 := B1.cell
        have d2 := B2.cell
        have d3 := B3.cell
        have d4 := B4.cell
        have cz := hz5.rule
        have f5 := fun o => Ext.alloc w5 o
        have dq := hq5.rule
        have dqf := hq5.ruleF
        go_upto_region 14 with fail
        have hE5 := Ext.alloc w5 (.cells #[.slice A3 l1.length c3, .slice A4 l2.length c4, .slice A5 lt.length c5, .slice A6 l4.length c6] 27)
        have hq6 := hq5.ext hE5
        have HI6 := hide ((HI5.out.ext hE5).setQ hq6 (hrs.ext hE5) oks)
        have T1 := (B1.ext hE5).far (p := ⟨Q, 0, none⟩) m1 (.slice As ls.length cs)
        have T2 := (B2.ext hE5).far (p := ⟨Q, 0, none⟩) m2 (.slice As ls.length cs)
        have T3 := (B3.ext hE5).far (p := ⟨Q, 0, none⟩) m3 (.slice As ls.length cs)
        have T4 := (B4.ext hE5).far (p := ⟨Q, 0, none⟩) m4 (.slice As ls.length cs)
        have S1 := (R1.ext hE5).set (i := 0) (u := .slice As ls.length cs) hq6 (by decide)
        have S2 := (R2.ext hE5).set (i := 0) (u := .slice As ls.length cs) hq6 (by decide)
        have S3 := (R3.ext hE5).set (i := 0) (u := .slice As ls.length cs) hq6 (by decide)
        have S4 := (R4.ext hE5).set (i := 0) (u := .slice As ls.length cs) hq6 (by decide)
        clear R1 R2 R3 R4 B1 B2 B3 B4 d1 d2 d3 d4 dq dqf f5 cz hq5 hq6 hz5 hE5 HI5 hrs o1 o2 o4 okt hsel
        generalize (w5.alloc (.cells #[.slice A3 l1.length c3, .slice A4 l2.length c4, .slice A5 lt.length c5, .slice A6 l4.length c6] 27)).setCell ⟨Q, 0, none⟩ (.slice As ls.length cs) = w6 at *
        have t1 := T1.cell
        have t2 := T2.cell
        have t3 := T3.cell
        have t4 := T4.cell
        obtain ⟨R, hR⟩ : ∃ R : List Qd, R = [⟨A3, c3, l1⟩, ⟨A4, c4, l2⟩, ⟨A5, c5, lt⟩, ⟨A6, c6, l4⟩] := ⟨_, rfl⟩
        have HLit : Hid (LitT (w6.alloc (.cells #[.slice A3 l1.length c3, .slice A4 l2.length c4, .slice A5 lt.length c5, .slice A6 l4.length c6] 27)) w6.heap.size R Aa) :=
          ⟨by rw [hR]; exact Blk.new _ _ _, fun d hd => by
            rw [hR] at hd
            simp only [List.mem_cons, List.not_mem_nil, or_false] at hd
            rcases hd with rfl | rfl | rfl | rfl
            · exact S1.ext (Ext.alloc _ _)
            · exact S2.ext (Ext.alloc _ _)
            · exact S3.ext (Ext.alloc _ _)
            · exact S4.ext (Ext.alloc _ _), fun a ha => by have := HI6.out.a.lt a ha; omega⟩
        have HI7 := hide (HI6.out.ext (Ext.alloc w6 (.cells #[.slice A3 l1.length c3, .slice A4 l2.length c4, .slice A5 lt.length c5, .slice A6 l4.length c6] 27)))
        have hRl : R.length = 4 := by rw [hR]; rfl
        clear T1 T2 T3 T4 S1 S2 S3 S4 hR HI6
        go_wp2_with fail
        generalize w6.alloc (.cells #[.slice A3 l1.length c3, .slice A4 l2.length c4, .slice A5 lt.length c5, .slice A6 l4.length c6] 27) = w7 at *
        generalize w6.heap.size = L at HLit ⊢
        have hi7 := HI7.out
        have hl7 := HLit.out
        go_loopw [3, 4, 75] (fun va vl i wr => ∃ (k : Nat) (Ab : Option Addr) (cb : Nat) (Am : Option Addr) (cm : Nat) (EB EM : List Qd), k ≤ 4 ∧ va = .slice Ab EB.length cb ∧ vl = .slice Am EM.length cm ∧ i = .int .i64 (k : Int) ∧ EB.length = EA.length + k ∧ EB.map (·.l) = EM.map (·.l) ∧ InvS W wr Q Ab cb Am cm EB EM ls ∧ LitT wr L R Ab) (fun _ _ i _ => 4 - (intOf i).toNat)
        case atStart => exact ⟨0, Aa, ca, Al, cl, EA, EL, by omega, rfl, by rw [hEL], rfl, by omega, hEE, hi7, hl7⟩
        case round =>
          clear hi7 hl7
          obtain ⟨k, Ab, cb, Am, cm, EB, EM, hk, rfl, rfl, rfl, hEB, hEM, hI, hL⟩ := hrel
          have hEMl : EM.length = EB.length := by have := congrArg List.length hEM; simpa using this.symm
          have hbB : EB.length ≤ 64 := by omega
          have hbM : EM.length ≤ 64 := by omega
          have HEB := hide hEB
          have HEM := hide hEM
          have HEMl := hide hEMl
          clear hEB hEM hEMl
          by_cases hlt2 : k < 4
          · have hkR : k < R.length := by omega
            obtain ⟨⟨a7, c7, l7⟩, hxd⟩ : ∃ d, d = R[k] := ⟨_, rfl⟩
            have hcell : wr.cell? ⟨L, k, none⟩ = some (.slice a7 l7.length c7) := by
              rw [hL.b.cell, List.getElem?_toArray, List.getElem?_map, List.getElem?_eq_getElem hkR, ← hxd]; rfl
            have hokd : OkD wr ⟨a7, c7, l7⟩ := by rw [hxd]; exact hL.r _ (List.getElem_mem hkR)
            clear hxd
            have hw2 := (Ext.alloc wr (Obj.cells #[.slice a7 l7.length c7] 27)).trans (Ext.alloc _ (.cells #[.slice a7 l7.length c7] 27))
            have HI2 := hide (hI.ext hw2)
            have HL2 := hide (hL.ext hw2)
            have HD2 := hide (hokd.ext hw2)
            have HA2 := hide ((hI.ext hw2).a)
            have HX2 := hide ((Blk.new wr #[Value.slice a7 l7.length c7] 27).ext (Ext.alloc _ (.cells #[.slice a7 l7.length c7] 27)))
            have HLA := hide hI.a.lt
            have HLS := hide hI.s.lt
            have hsz2 := hw2.size
            have HSZ := hide (show wr.heap.size < ((wr.alloc (Obj.cells #[.slice a7 l7.length c7] 27)).alloc (.cells #[.slice a7 l7.length c7] 27)).heap.size by simp; omega)
            clear hI hL hokd hw2 hsz2
            go_upto_region 18 with (first
              | (at_builtin; (refine wpList_rowv (t := 46) (e := 27) (A := Ab) (n := EB.length) (c := cb) (xs := EB.map qd) (g0 := wr.heap.size + 1) (cx := 1) (u := .slice a7 l7.length c7) rfl _ _ rfl Try.underlying46 inf_q rfl rfl HA2.out rfl (by go_simp) rfl (by omega) (by omega) ?_; intro A8a c8a w3 g8 hr8 hc8 hty8 hor8 hA8; have HR8 := hide hr8; have HC8 := hide hc8; have HTY8 := hide hty8; have HOR8 := hide hor8; have HA8 := hide hA8; have HX3 := hide (HX2.out.chg hc8 (by (intro q; rw [List.mem_singleton] at q; rcases hor8 with q2 | ⟨a, q2, q3⟩; (have := HSZ.out; omega); (have := HLA.out a q2; omega)))); have q9 := HX3.out.cell; clear hr8 hc8 hty8 hor8 hA8; go_frame))
              | go_in)
            have hI3 := HI2.out.appA (x := ⟨a7, c7, l7⟩) HD2.out HR8.out HC8.out HTY8.out HOR8.out HA8.out
            have hi8 : ∀ cs, ¬ Blk _ g8 cs 3 := fun cs hb => absurd (HTY8.out _ _ hb) (by decide)
            have hD3 := HD2.out.chg HC8.out hi8
            have HL3 := hide (HL2.out.appA HC8.out HTY8.out HOR8.out HA8.out)
            have HI3 := hide hI3
            have HD3 := hide hD3
            have hl70 := hD3.2
            simp only at hl70
            clear hI3 hD3 hi8 HI2 HL2 HD2 HA2 HR8 HC8 HTY8 HOR8 HA8 HSZ HLS HLA HX2 hcell
            go_wp2_with fail
            refine (all_any HD3.out.1 (by simpa using hl70)).mono ?_
            rintro e w4 ⟨A9, c9, rfl, hr9, hx4⟩
            have hw5 := hx4.trans (Ext.alloc w4 (.cells #[.slice A9 l7.length c9] 25))
            have HI5 := hide (HI3.out.ext hw5)
            have HL5 := hide (HL3.out.ext hw5)
            have HS5 := hide ((HI3.out.ext hw5).s)
            have HD5 : Hid (OkD _ ⟨A9, c9, l7⟩) := ⟨hr9.ext (Ext.alloc w4 (.cells #[.slice A9 l7.length c9] 25)), by simpa using hl70⟩
            clear hr9 hx4 hw5 q9
            go_wp2_with (first
              | (at_builtin; (refine wpList_rowv (t := 47) (e := 25) (A := Am) (n := EM.length) (c := cm) (xs := EM.map qd) (g0 := w4.heap.size) (cx := 1) (u := .slice A9 l7.length c9) rfl _ _ rfl Try.underlying47 inf_sint rfl rfl HS5.out rfl (by go_simp) rfl (by omega) (by omega) ?_; intro A8 c8 w9 g8 hr8 hc8 hty8 hor8 hA8; have HR8 := hide hr8; have HC8 := hide hc8; have HTY8 := hide hty8; have HOR8 := hide hor8; have HA8 := hide hA8; clear hr8 hc8 hty8 hor8 hA8; go_frame))
              | go_in)
            go_roundw
            case rel =>
              have h1 := HI5.out.appS (x := ⟨A9, c9, l7⟩) HD5.out HR8.out HC8.out HTY8.out HOR8.out HA8.out
              have h2 := HL5.out.appS HC8.out HTY8.out
              exact ⟨k + 1, A8a, c8a, A8, c8, EB ++ [⟨a7, c7, l7⟩], EM ++ [⟨A9, c9, l7⟩], by omega, by simp, by simp, by go_num, by have := HEB.out; simp; omega, by have := HEM.out; simp [this], h1, h2⟩
            case measure => simp [intOf]; omega
          · obtain rfl : k = 4 := by omega
            by_cases hcut : 60 < EB.length
            · obtain ⟨d, hd⟩ : ∃ d, d = EB.length - 60 := ⟨_, rfl⟩
              have hml := HEMl.out
              obtain ⟨g, goff, rfl, hra⟩ := hI.a.drop (k := d) (by omega)
              obtain ⟨g2, goff2, rfl, hrs⟩ := hI.s.drop (k := d) (by omega)
              have hI9 := hide (hI.cut hra hrs)
              have ha1 := hI.a.2.1
              have ha2 := hI.a.2.2.1
              have hs1 := hI.s.2.1
              have hs2 := hI.s.2.2.1
              unfold maxLen at ha2 hs2
              have gw : IntKind.i64.wrap ((EB.length : Int) - 60) = (d : Int) := by rw [IntKind.wrap_i64]; omega
              have z0 : ¬ cb = d := by omega
              have z1 : ¬ cm = d := by omega
              have z2 : d ≤ EB.length := by omega
              have z3 : d ≤ EM.length := by omega
              have z4 : EB.length ≤ cb := ha1
              have z5 : EM.length ≤ cm := hs1
              have HD := hide hd
              have HML := hide hml
              clear hI hL hra hrs hml hd ha1 hs1
              go_wp2_with fail
              go_region
              go_wp2_with fail
              go_roundw
              case rel =>
                have e1 : (EB.drop d).length = EB.length - d := List.length_drop
                have e2 : (EM.drop d).length = EM.length - d := List.length_drop
                refine ⟨j + 1, some ⟨g, goff + d, none⟩, cb - d, some ⟨g2, goff2 + d, none⟩, cm - d, EB.drop d, EM.drop d, ls, by omega, by rw [e1], by rw [e2], by go_num, by have := HD.out; omega, ?_, hI9.out.ext (Ext.drew _)⟩
                rw [List.map_drop, List.map_drop, HEM.out]
              case measure => simp [intOf]; omega
            · have HII := hide hI
              clear hI hL
              go_wp2_with fail
              go_roundw
              case rel => exact ⟨j + 1, Ab, cb, Am, cm, EB, EM, ls, by omega, rfl, rfl, by go_num, by omega, HEM.out, HII.out⟩
              case measure => simp [intOf]; omega
      · obtain rfl : j = m := by omega
        obtain ⟨W1, hW1⟩ : ∃ W, W = wr := ⟨_, rfl⟩
        subst hW1
        have hx0 := Ext.refl W1
        have HI := hide hI
        have HEE := hide hEE
        have HEL := hide hEL
        have hbM : EL.length ≤ 60 := by omega
        clear hI hEE hEL
        go_wp2_with fail
        go_loopw [104] (fun i wr => ∃ k : Nat, k ≤ EA.length ∧ i = .int .i64 (k : Int) ∧ Ext W1 wr) (fun i _ => EA.length - (intOf i).toNat)
        case atStart => exact ⟨0, by omega, rfl, hx0⟩
        case round =>
          clear hx0
          obtain ⟨k, hk, rfl, hX⟩ := hrel
          by_cases hlt2 : k < EA.length
          · have hkL : k < EL.length := by have := HEL.out; omega
            have hI2 := HI.out.ext hX
            obtain ⟨g, goff, rfl, hca⟩ := hI2.a.at_ hlt2
            obtain ⟨g2, goff2, rfl, hcl⟩ := hI2.s.at_ hkL
            have hea := hI2.ea _ (List.getElem_mem hlt2)
            have hel := hI2.es _ (List.getElem_mem hkL)
            have hll : (EA[k]).l = (EL[k]).l := by
              have := congrArg (·[k]?) HEE.out
              simpa [hlt2, hkL] using this
            rw [List.getElem?_map, List.getElem?_eq_getElem hlt2] at hca
            rw [List.getElem?_map, List.getElem?_eq_getElem hkL] at hcl
            obtain ⟨⟨a7, c7, l7⟩, hx7⟩ : ∃ d, d = EA[k] := ⟨_, rfl⟩
            obtain ⟨⟨a8, c8, l8⟩, hx8⟩ : ∃ d, d = EL[k] := ⟨_, rfl⟩
            rw [← hx7] at hca hea hll
            rw [← hx8] at hcl hel hll
            simp only at hll
            subst hll
            have q1 : wr.cell? ⟨g, goff + k, none⟩ = some (.slice a7 l7.length c7) := hca wr (Ext.refl _)
            have hY := Ext.alloc wr (Obj.cells #[.slice a7 l7.length c7] 27)
            have hz := Blk.new wr #[Value.slice a7 l7.length c7] 27
            have HS : Hid (∀ w', Ext (wr.alloc (Obj.cells #[.slice a7 l7.length c7] 27)) w' → w'.cell? ⟨wr.heap.size, 0, none⟩ = some (.slice a7 l7.length c7) ∧ w'.cell? ⟨g2, goff2 + k, none⟩ = some (.slice a8 l7.length c8)) := fun w' y => ⟨hz.rule w' y 0, hcl w' (hY.trans y)⟩
            have hl70 := hea.2
            simp only at hl70
            have AH := hide (fun w' (y : Ext (wr.alloc (Obj.cells #[.slice a7 l7.length c7] 27)) w') => all_any ((hea.1).ext (hY.trans y)) (by simpa using hl70))
            have SH := hide (fun w' (y : Ext (wr.alloc (Obj.cells #[.slice a7 l7.length c7] 27)) w') => ((hel.1).ext (hY.trans y)).ch)
            have H2 : decide ((EL.length : Int) ≤ (k : Int)) = false := by simp; omega
            have H3 : ¬ (EL.length : Int) ≤ (k : Int) := by omega
            have H4 : decide (EL.length ≤ k) = false := by simp; omega
            have H5 : ¬ EL.length ≤ k := by omega
            have HX := hide (hX.trans hY)
            have HK := hide hkL
            clear hI2 hca hcl hea hel hx7 hx8 hX
            go_wp2_with fail
            generalize wr.alloc (Obj.cells #[.slice a7 l7.length c7] 27) = w2 at *
            generalize wr.heap.size = X at HS ⊢
            obtain ⟨s1, s2⟩ := HS.out w2 (Ext.refl _)
            have hk := Ext.drew w2
            go_region_held3 (fun w' => w'.cell? ⟨X, 0, none⟩ = some (.slice a7 l7.length c7) ∧ w'.cell? ⟨g2, goff2 + k, none⟩ = some (.slice a8 l7.length c8)) (exact HS.out _ (by first | exact hk | exact hk.trans (Ext.drew _) | exact Ext.drew _))
              (first
                | (go_at_call 18; with_reducible refine (AH.out _ (by repeat (first | exact Ext.refl _ | assumption | exact Ext.alloc _ _ | exact Ext.drew _ | refine Ext.trans ?_ (Ext.alloc _ _) | refine Ext.trans ?_ (Ext.drew _)))).mono ?_; rintro e w6 ⟨A11, c11, rfl, hr11, hx⟩; have hk := (show Ext w2 _ from (by repeat (first | exact Ext.refl _ | assumption | exact Ext.alloc _ _ | exact Ext.drew _ | refine Ext.trans ?_ (Ext.alloc _ _) | refine Ext.trans ?_ (Ext.drew _)))).trans hx)
                | (go_at_call 17; with_reducible refine (same_any hr11.ch (SH.out _ (by repeat (first | exact Ext.refl _ | assumption | exact Ext.alloc _ _ | exact Ext.drew _ | refine Ext.trans ?_ (Ext.alloc _ _) | refine Ext.trans ?_ (Ext.drew _)))) (by omega)).mono ?_; rintro e w6 ⟨rfl, hx⟩; have hk := (show Ext w2 _ from (by repeat (first | exact Ext.refl _ | assumption | exact Ext.alloc _ _ | exact Ext.drew _ | refine Ext.trans ?_ (Ext.alloc _ _) | refine Ext.trans ?_ (Ext.drew _)))).trans hx))
            have HKK := hide hk
            clear s1 s2
            go_wp2_with fail
            go_roundw
            case rel => exact ⟨k + 1, by omega, by go_num, HX.out.trans HKK.out⟩
            case measure => simp [intOf]; omega
          · obtain rfl : k = EA.length := by omega
            have hx9 := HI.out.x
            go_wp2_with fail
            refine (alive_any _).mono ?_
            rintro e w3 ⟨rfl, hx⟩
            go_wp2_with fail
            go_ret
            exact ⟨rfl, (hx9.trans hX).trans hx⟩

set_option maxRecDepth 100000 in
theorem queueStays_walk {H : Type} {enc : TypeId × Value → H} (W : World) (base : Nat) (args : Array Value) (ds : List (DataW H)) (p : List MemPlace)
    (hval0 : ∀ (j : Nat) t v, Try.f4.params[j]? = some t → args[j]? = some v → Value.okWide Try.prog W .any base t v)
    (hA0 : DataW.TrodAll enc Try.prog W 0 (fun _ => true) true Try.f4.params.toList args.toList ds p) (_hlt : ∀ x ∈ p, x.block < W.heap.size) :
    Calls Try.prog 4 args W fun e W' => e = .returned (.bool true) ∧ Ext W W' := by
  have hval := hval0
  have hA := hA0
  rw [Try.params4] at hA hval
  clear hval0 hA0
  obtain ⟨v0, d0, rfl, rfl, h0⟩ := trodAll_one hA
  obtain ⟨A, n, c, f, rfl, hn, hc, hs, hf⟩ := open_steps (hval 0 22 v0 rfl rfl) h0
  exact stays_any hs hf hn hc
set_option maxRecDepth 100000 in
theorem queueStays_lifted (os : Os) (started : os.Started) (H : Type) (enc : TypeId × Value → H) :
    ReturnsInHanded {} Try.checked os 4 .any (Rows.queueStaysSpec.pre6 enc Try.prog Try.f4 Rows.queueStaysRow.domain false) (Rows.queueStaysSpec.post enc Try.prog Try.f4 false true false false) :=
  law_lifted (fn := Try.f4) 4 os started (by kernel_rfl) Try.func4 rfl rfl Try.underlying4 (hread_of (by kernel_rfl))
    (fun l hl => by
      have hl2 : l.length = 1 := hl
      clear hl
      match l, hl2 with
      | [_], _ => rfl)
    (ChangeSpec.witness6 (enc := enc) (C := Try.checked) false ⟨#[], #[.slice none 0 0], []⟩ 8 (by kernel_rfl) (by kernel_rfl) (by kernel_rfl) (by kernel_rfl))
    (fun W base args ds p hval hA hlt => queueStays_walk W base args ds p hval hA hlt)
theorem queueStays_holds : Rows.QueueStaysSaid :=
  OpenClaim.holds_of_wide 4 Try.f4 rfl rfl rfl rfl rfl rfl rfl ⟨rfl, rfl, rfl, rfl, rfl⟩ rfl rfl rfl rfl rfl (by kernel_rfl) Try.func4 (by kernel_rfl)
    (of_decide_eq_true (by kernel_rfl)) (by unfold Func.isWrapper; rw [if_neg (of_decide_eq_false (by kernel_rfl))]; exact ⟨rfl, rfl⟩)
    (fun os started H enc _ => queueStays_lifted os started H enc)
end Go.Proofs.Ytnmegokppbdhdaa
