/-
  A law of layer 11 holds of every input: UsesOnce. No condition.
-/
import Derived.Test.YtcgbbgljchfbcaaM1
import Derived.BigRegion
namespace Go.Proofs.Ytcgbbgljchfbcaa
open Go.ChangeShapes Go.WideShapes Go.ChangeAt Go.RowKit Go.Deep Go.Joins
set_option linter.unusedVariables false
set_option linter.unusedSimpArgs false
set_option maxRecDepth 100000

set_option maxHeartbeats 4000000 in
theorem lonce_any (A : Option Addr) (n c : Nat) (f : Nat → Stp) (w : World) (hn : n ≤ c) (hc : c ≤ maxLen) (hs : Stps w w.heap.size A n f) (hf : ∀ k, k < n → Okst (f k)) :
    Calls Try.prog 6 #[.slice A n c] w fun e w' => e = .returned (.bool true) ∧ Ext w w' := by
  have HF := hide hf
  clear hf
  have hmm := @run_makeMap Try.prog
  go_enter Try.func6, Try.ntmps6
  go_wp2_with fail
  refine (new_any _).mono ?_
  rintro e w1 ⟨C, m1, m2, rfl, hm, hC, h1, h2, hX⟩
  go_wp2_with fail
  refine (short_any A n c _ hn hc).mono ?_
  rintro e w2 ⟨rfl, rfl⟩
  go_wp2_with fail
  go_loopw [20] (fun i wr => ∃ (j : Nat) (S : List Pr), j ≤ min n 200 ∧ i = .int .i64 j ∧ BookT wr C m1 m2 S ∧ Ext w wr) (fun i _ => min n 200 - (intOf i).toNat)
  case atStart => exact ⟨0, [], by omega, rfl, hm, hX⟩
  case round =>
    clear hm hX
    obtain ⟨j, S, hj, rfl, hm, hX⟩ := hrel
    by_cases hlt : j < min n 200
    · have hj2 : j < n := by omega
      obtain ⟨b, off, rfl, hb, r0, r1, r2, r3⟩ := (hs.chg hX (Nat.le_refl _)).rules hj2
      have hok := HF.out j hj2
      have hA := Ext.alloc wr (.cells #[.int .u8 (f j).k, .int .i64 (f j).p.s, .int .i64 (f j).p.o, .int .i64 (f j).p.t] 32)
      have HM := hide (hm.ext hA)
      have HX := hide (hX.trans hA)
      have k0 := hok.k0
      have k1 := hok.k1
      clear hm hX hA
      by_cases hk : (f j).k % 3 = 1
      · go_wp2_with fail
        refine (drop_in HM.out hok.s0).mono ?_
        rintro e w2 ⟨rfl, hm, hc⟩
        have hX := HX.out.turn hc (low2 (by omega) (by omega))
        clear hc
        go_wp2_with fail
        go_roundw
        case rel => exact ⟨j + 1, _, by omega, by go_num, hm, hX⟩
        case measure => simp [intOf]; omega
      · go_wp2_with fail
        refine (add_in HM.out ⟨hok.s0, hok.o0⟩).mono ?_
        rintro e w2 ⟨rfl, hm, hc⟩
        have hX := HX.out.turn hc (low2 (by omega) (by omega))
        clear hc
        go_wp2_with fail
        go_roundw
        case rel => exact ⟨j + 1, _, by omega, by go_num, hm, hX⟩
        case measure => simp [intOf]; omega
    · have hl := hm.ok.len
      have HOK := hide hm.ok
      have l1 := hm.a.lt
      have l2 := hm.b.lt
      have lC := hm.c.lt
      clear hj hs
      have hb1 := (BM.made wr).ext (Ext.alloc _ (.map #[] 0))
      have hb2 := BM.made (wr.alloc (.map #[] 0))
      have hA := (Ext.alloc wr (.map #[] 0)).trans (Ext.alloc (wr.alloc (.map #[] 0)) (.map #[] 0))
      have HM := hide (hm.ext hA)
      have HX := hide (hX.trans hA)
      have HB1 := hide hb1
      simp only [World.size_alloc] at hb2
      have HB2 := hide hb2
      clear hm hA hb1 hb2
      go_wp2_with fail
      generalize hq1 : (wr.alloc (.map #[] 0)).alloc (.map #[] 0) = wa at *
      have sA : wa.heap.size = wr.heap.size + 2 := by rw [← hq1]; simp
      clear hq1
      have N12 : wr.heap.size ≠ wr.heap.size + 1 := by omega
      obtain ⟨mu2, hu2⟩ : ∃ Z, Z = wr.heap.size + 1 := ⟨_, rfl⟩
      have sU2 : mu2 < wa.heap.size := by omega
      have sU1 : wr.heap.size < wa.heap.size := by omega
      rw [← hu2] at HB2 N12 ⊢
      have xw := HX.out.size
      have XW : w.heap.size ≤ wr.heap.size := hX.size
      have XU : w.heap.size ≤ mu2 := by omega
      have nC2 : C ≠ mu2 := by omega
      have n12 : m1 ≠ mu2 := by omega
      have n22 : m2 ≠ mu2 := by omega
      clear hX sA hu2
      generalize wr.heap.size = mu1 at *
      refine (all_any HM.out.any).mono ?_
      rintro e w2 ⟨v, rfl, hown, hx⟩
      have HM := hide (HM.out.ext hx)
      have HX := hide (HX.out.trans hx)
      have HB1 := hide (HB1.out.ext hx)
      have HB2 := hide (HB2.out.ext hx)
      have hx2s := hx.size
      clear hx
      obtain ⟨A2, c2, rfl⟩ := own_sl hown
      have HO := hide hown
      go_wp2_with fail
      go_loopw [51] (fun i wq => ∃ q : Nat, q ≤ S.length ∧ i = .int .i64 (q : Int) ∧ Chg [mu1, mu2] w2 wq ∧ BM wq mu1 q (inS (S.take q)) ∧ BM wq mu2 q (inO (S.take q))) (fun i _ => S.length - (intOf i).toNat)
      case atStart => exact ⟨0, by omega, rfl, Chg.refl _ _, HB1.out, HB2.out⟩
      case round =>
        rename World => wq
        obtain ⟨q, hq, rfl, hW, hb1, hb2⟩ := hrel
        by_cases hql : q < S.length
        · have hsl := own_chg HO.out hW (by intro t ht; simp at ht; omega)
          obtain ⟨_, _, e2, hs2⟩ := Sl.of_own hsl
          cases e2
          obtain ⟨b1, o1, rfl, r0, r1, r2⟩ := hs2.pr hql
          have hgm : S[q] ∈ S := List.getElem_mem hql
          have hok := HOK.out.rng _ hgm
          have w1 := ky_wf (z := (S[q]).o) (by have := hok.o0; omega) (by have := hok.o1; omega)
          have w2 := ky_wf (z := (S[q]).s) (by have := hok.s0; omega) (by have := hok.s1; omega)
          have F1 := hide (inS_no HOK.out hql)
          have F2 := hide (inO_no HOK.out hql)
          have F3 := hide (inS_snoc hql)
          have F4 := hide (inO_snoc hql)
          clear hgm hok hsl hs2
          generalize S[q] = g at *
          have hA := Ext.alloc wq (.cells #[.int .i64 g.s, .int .i64 g.o, .int .i64 g.t] 33)
          have hg := Blk.new wq #[.int .i64 g.s, .int .i64 g.o, .int .i64 g.t] 33
          have hb1 := hb1.ext hA
          have hb2 := hb2.ext hA
          have hc1 := hW.trans (hA.chg _)
          have lq := hc1.size
          have rg := hg.cell
          have k1 := hb1.look w2
          have k2 := hb2.look w1
          rw [F1.out] at k1
          rw [F2.out] at k2
          have hX' := Ext.drew (wq.alloc (.cells #[.int .i64 g.s, .int .i64 g.o, .int .i64 g.t] 33))
          obtain ⟨v1, s1, hb1', g1⟩ := (hb1.ext hX').set (by unfold maxLen; omega) w2 true
          obtain ⟨v2, s2, hb2', g2⟩ := ((hb2.ext hX').grown g1 (Ne.symm N12)).set (by unfold maxLen; omega) w1 true
          have hb1' := hb1'.grown g2 N12
          have c1 := (hX'.chg [mu1, mu2]).trans (Chg.of_grown g1 (by simp))
          have c2 := c1.trans (Chg.of_grown g2 (by simp))
          have HC := hide (hc1.trans c2)
          have ng : wq.heap.size ∉ [mu1, mu2] := by have := hW.size; simp; omega
          have rg0 := (hg.chg (hX'.chg [mu1, mu2]) ng).cell
          have rg1 := (hg.chg c1 ng).cell
          have rg2 := (hg.chg c2 ng).cell
          rw [F3.out] at hb1'
          rw [F4.out] at hb2'
          have HB1 := hide hb1'
          have HB2 := hide hb2'
          clear hb1 hb2 hb1' hb2' hW hA hg hc1 c1 c2 g1 g2 ng F1 F2 F3 F4 hX'
          go_wp2_with fail
          go_region
          go_wp2_with fail
          go_roundw
          case rel => exact ⟨q + 1, by omega, by go_num, HC.out, HB1.out, HB2.out⟩
          case measure => simp [intOf]; omega
        · obtain rfl : q = S.length := by omega
          rw [List.take_length] at hb1
          have HM := hide (HM.out.chg hW (by simp; omega) (by simp; omega) (by simp; omega))
          have HX := hide (HX.out.turn hW (by intro t ht; simp at ht; omega))
          have HB := hide hb1
          clear hb1 hb2 hW HB1 HB2 HO
          obtain ⟨W1, hW1⟩ : ∃ W, W = wq := ⟨_, rfl⟩
          subst hW1
          go_wp2_with fail
          go_loopw [10, 72] (fun a i wt => ∃ t : Nat, t ≤ 256 ∧ i = .int .i64 (t : Int) ∧ a = .int .i64 (cntT S t : Int) ∧ Ext W1 wt) (fun _ i _ => 256 - (intOf i).toNat)
          case atStart => exact ⟨0, by omega, rfl, by rw [cnt_zero HOK.out]; rfl, Ext.refl _⟩
          case round =>
            rename World => wt
            obtain ⟨t, ht, rfl, rfl, hx⟩ := hrel
            by_cases htl : t < 256
            · have cs := hide (cnt_succ S t)
              have cl := cnt_le S t
              have HX2 := hide hx
              have HT := hide (fun p (hp : p ∈ ofT S (t : Int)) => by
                unfold ofT at hp
                rw [List.mem_filter] at hp
                exact (⟨HOK.out.rng p hp.1, by simpa using hp.2, inS_mem hp.1⟩ : OkP p ∧ p.t = (t : Int) ∧ inS S p.s = true))
              have HOF := hide (of_any (HM.out.ext hx).any (t : Int))
              have cl2 := cnt_le S (t + 1)
              rw [cs.out] at cl2
              clear hx
              go_wp2_with fail
              refine HOF.out.mono ?_
              rintro e w5 ⟨v, rfl, hown, hx⟩
              have HX3 := hide (HX2.out.trans hx)
              clear hx
              generalize ofT S (t : Int) = L at *
              obtain ⟨A3, c3, rfl⟩ := own_sl hown
              obtain ⟨_, _, e3, hs3⟩ := Sl.of_own hown
              cases e3
              have HSL := hide hs3
              clear hown hs3 HOF
              generalize cntT S t = a0 at *
              go_wp2_with fail
              go_loopw [10, 79] (fun a i wu => ∃ q : Nat, q ≤ L.length ∧ i = .int .i64 (q : Int) ∧ a = .int .i64 ((a0 + q : Nat) : Int) ∧ Ext w5 wu) (fun _ i _ => L.length - (intOf i).toNat)
              case atStart => exact ⟨0, by omega, rfl, rfl, Ext.refl _⟩
              case round =>
                rename World => wu
                obtain ⟨q, hq, rfl, rfl, hx⟩ := hrel
                by_cases hql : q < L.length
                · obtain ⟨b1, o1, e1, r0, r1, r2⟩ := (HSL.out.ext hx (Nat.le_refl _)).pr hql
                  cases e1
                  obtain ⟨hok, ht2, hin⟩ := HT.out L[q] (List.getElem_mem hql)
                  have w2 := ky_wf (z := (L[q]).s) (by have := hok.s0; omega) (by have := hok.s1; omega)
                  clear hok
                  generalize L[q] = g at *
                  obtain ⟨gs, go, gt⟩ := g
                  subst ht2
                  have hA := Ext.alloc wu (.cells #[.int .i64 gs, .int .i64 go, .int .i64 (t : Int)] 33)
                  have rg := (Blk.new wu #[.int .i64 gs, .int .i64 go, .int .i64 (t : Int)] 33).cell
                  have HX4 := hide (hx.trans hA)
                  have k1 := (HB.out.ext (HX3.out.trans HX4.out)).look w2
                  rw [hin] at k1
                  clear hA hx hin
                  go_wp2_with fail
                  go_roundw
                  case rel => exact ⟨q + 1, by omega, by go_num, by go_num, HX4.out⟩
                  case measure => simp [intOf]; omega
                · obtain rfl : q = L.length := by omega
                  have HX4 := hide (HX3.out.trans hx)
                  clear hx
                  go_wp2_with fail
                  go_roundw
                  case rel => exact ⟨t + 1, by omega, by go_num, by rw [cs.out], HX4.out⟩
                  case measure => simp [intOf]; omega
            · obtain rfl : t = 256 := by omega
              have hl2 := len_any (HM.out.ext hx).any
              have HX2 := hide (HX.out.trans hx)
              have ca := hide (cnt_all HOK.out)
              rw [ca.out]
              clear hx
              go_wp2_with fail
              refine hl2.mono ?_
              rintro e w6 ⟨rfl, hy⟩
              go_wp2_with fail
              refine (alive_any _).mono ?_
              rintro e w7 ⟨rfl, hz⟩
              go_wp2_with fail
              go_ret
              exact ⟨by simp, (HX2.out.trans hy).trans hz⟩

set_option maxRecDepth 100000 in
theorem usesOnce_walk {H : Type} {enc : TypeId × Value → H} (W : World) (base : Nat) (args : Array Value) (ds : List (DataW H)) (p : List MemPlace)
    (hval0 : ∀ (j : Nat) t v, Try.f6.params[j]? = some t → args[j]? = some v → Value.okWide Try.prog W .any base t v)
    (hA0 : DataW.TrodAll enc Try.prog W 0 (fun _ => true) true Try.f6.params.toList args.toList ds p) (_hlt : ∀ x ∈ p, x.block < W.heap.size) :
    Calls Try.prog 6 args W fun e W' => e = .returned (.bool true) ∧ Ext W W' := by
  have hval := hval0
  have hA := hA0
  rw [Try.params6] at hA hval
  clear hval0 hA0
  obtain ⟨v0, d0, rfl, rfl, h0⟩ := trodAll_one hA
  obtain ⟨A, n, c, f, rfl, hn, hc, hs, hf⟩ := open_steps (hval 0 22 v0 rfl rfl) h0
  exact lonce_any A n c f W hn hc hs hf
set_option maxRecDepth 100000 in
theorem usesOnce_lifted (os : Os) (started : os.Started) (H : Type) (enc : TypeId × Value → H) :
    ReturnsInHanded {} Try.checked os 6 .any (Rows.usesOnceSpec.pre6 enc Try.prog Try.f6 Rows.usesOnceRow.domain false) (Rows.usesOnceSpec.post enc Try.prog Try.f6 false true false false) :=
  law_lifted (fn := Try.f6) 4 os started (by kernel_rfl) Try.func6 rfl rfl Try.underlying4 (hread_of (by kernel_rfl))
    (fun l hl => by
      have hl2 : l.length = 1 := hl
      clear hl
      match l, hl2 with
      | [_], _ => rfl)
    (ChangeSpec.witness6 (enc := enc) (C := Try.checked) false ⟨#[], #[.slice none 0 0], []⟩ 8 (by kernel_rfl) (by kernel_rfl) (by kernel_rfl) (by kernel_rfl))
    (fun W base args ds p hval hA hlt => usesOnce_walk W base args ds p hval hA hlt)
theorem usesOnce_holds : Rows.UsesOnceSaid :=
  OpenClaim.holds_of_wide 6 Try.f6 rfl rfl rfl rfl rfl rfl rfl ⟨rfl, rfl, rfl, rfl, rfl⟩ rfl rfl rfl rfl rfl (by kernel_rfl) Try.func6 (by kernel_rfl)
    (of_decide_eq_true (by kernel_rfl)) (by unfold Func.isWrapper; rw [if_neg (of_decide_eq_false (by kernel_rfl))]; exact ⟨rfl, rfl⟩)
    (fun os started H enc _ => usesOnce_lifted os started H enc)
end Go.Proofs.Ytcgbbgljchfbcaa
