/-
  A law of layer 13 holds of every input: RingOnce. No condition.
-/
import Derived.Test.YtbkpmlcockkfnaaS2
import Derived.Deep.DeepCutAuto
import Derived.Deep.CutBlock
namespace Go.Proofs.Ytbkpmlcockkfnaa
open Go.ChangeShapes Go.WideShapes Go.ChangeAt Go.RowKit Go.Deep Go.Joins
set_option linter.unusedVariables false
set_option linter.unusedSimpArgs false
set_option maxRecDepth 100000


theorem Ext.set2 {W w : World} {g : Nat} {u v : Value} (h : Ext W w) (hg : W.heap.size ≤ g) : Ext W ((w.setCell ⟨g, 0, none⟩ u).setCell ⟨g, 1, none⟩ v) := (h.set (p := ⟨g, 0, none⟩) hg u).set (p := ⟨g, 1, none⟩) hg v
/-- The count of a thread that is in a ring; 0 of any other one. -/
def cn (l : List Wt) (t : Int) : Int := (wtOf l t).2
theorem wtOf_mem {l : List Wt} (ok : OkW l) {x : Wt} (h : x ∈ l) : wtOf l x.1 = x := by
  obtain ⟨j, hj, rfl⟩ := List.getElem_of_mem h
  exact (IsW.eq ok (.inr ⟨j, hj, hj, rfl, rfl⟩)).symm
theorem cn_mem {l : List Wt} (ok : OkW l) {x : Wt} (h : x ∈ l) : cn l x.1 = x.2 := by unfold cn; rw [wtOf_mem ok h]
theorem cn_no {l : List Wt} {t : Int} (h : hasT l t = false) : cn l t = 0 := by unfold cn; rw [wtOf_no h]
theorem cn_pos {l : List Wt} (ok : OkW l) {t : Int} (h : hasT l t = true) : 1 ≤ cn l t ∧ cn l t ≤ 65535 := by
  obtain ⟨x, hx, rfl⟩ := hasT_of h
  rw [cn_mem ok hx]
  have := inW_of (ok.rng x hx)
  omega
theorem cn_eq {l m : List Wt} (ol : OkW l) (om : OkW m) (p : ∀ x, x ∈ l ↔ x ∈ m) : cn l = cn m := by
  funext t
  cases h : hasT l t with
  | true =>
    obtain ⟨x, hx, rfl⟩ := hasT_of h
    rw [cn_mem ol hx, cn_mem om ((p x).1 hx)]
  | false =>
    have h2 : hasT m t = false := decide_eq_false (fun ⟨x, hx, e⟩ => hasT_no h x ((p x).2 hx) e)
    rw [cn_no h, cn_no h2]
theorem cn_tu {l : List Wt} (ok : OkW l) : cn (tuL l) = cn l := cn_eq ok.tu ok (fun x => (tuK_perm l 1).mem_iff.symm)
theorem cn_rm {l : List Wt} (ok : OkW l) (t : Int) : updI (cn l) t 0 = cn (rmL l t) := by
  funext s
  unfold updI
  by_cases e : s = t
  · rw [if_pos e, e, cn_no]
    exact decide_eq_false (fun ⟨x, hx, e⟩ => (mem_rmL.1 hx).2 e)
  · rw [if_neg e]
    cases h : hasT l s with
    | true =>
      obtain ⟨x, hx, rfl⟩ := hasT_of h
      rw [cn_mem ok hx, cn_mem (ok.rm t) (mem_rmL.2 ⟨hx, e⟩)]
    | false =>
      rw [cn_no h, cn_no]
      exact decide_eq_false (fun ⟨x, hx, e⟩ => hasT_no h x (mem_rmL.1 hx).1 e)
theorem cn_ad {l : List Wt} (ok : OkW l) {t n : Int} (h : adB l (t, n) = true) : updI (cn l) t n = cn (adL l (t, n)) := by
  have ok2 := ok.ad (t, n)
  rw [adL_yes h] at ok2 ⊢
  funext s
  unfold updI
  by_cases e : s = t
  · rw [if_pos e, e]
    exact (cn_mem ok2 (x := (t, n)) (by simp)).symm
  · rw [if_neg e]
    cases h : hasT l s with
    | true =>
      obtain ⟨x, hx, rfl⟩ := hasT_of h
      rw [cn_mem ok hx, cn_mem ok2 (List.mem_append_left _ hx)]
    | false =>
      rw [cn_no h, cn_no]
      refine decide_eq_false (fun ⟨x, hx, e2⟩ => ?_)
      rcases List.mem_append.1 hx with q | q
      · exact hasT_no h x q e2
      · rw [List.mem_singleton.1 q] at e2; exact e e2.symm
theorem hasT_snoc {l : List Wt} {q : Nat} (hq : q < l.length) : updB (hasT (l.take q)) (l[q]).1 true = hasT (l.take (q + 1)) := by
  funext z
  unfold updB hasT
  rw [List.take_succ_eq_append_getElem hq]
  by_cases e : z = (l[q]).1
  · rw [if_pos e, e]; exact (decide_eq_true ⟨_, List.mem_append_right _ (List.mem_singleton.2 rfl), rfl⟩).symm
  · rw [if_neg e]
    exact decide_eq_decide.2 ⟨fun ⟨x, h, e⟩ => ⟨x, List.mem_append_left _ h, e⟩, fun ⟨x, h, e2⟩ => by
      rcases List.mem_append.1 h with q | q
      · exact ⟨x, q, e2⟩
      · rw [List.mem_singleton.1 q] at e2; exact absurd e2.symm e⟩
theorem hasT_take {l : List Wt} (ok : OkW l) {j : Nat} (hj : j < l.length) : hasT (l.take j) (l[j]).1 = false := by
  refine decide_eq_false fun ⟨x, hx, e⟩ => ?_
  obtain ⟨i, hi, rfl⟩ := List.getElem_of_mem hx
  rw [List.length_take] at hi
  rw [List.getElem_take] at e
  have := ok.uniq (i := i) (j := j) (by omega) hj e
  omega
theorem IM.setc {w : World} {m N : Nat} {u : Int → Int} {p : Addr} (h : IM w m N u) (hne : m ≠ p.block) (v : Value) : IM (w.setCell p v) m N u :=
  h.chg ((Chg.refl [p.block] w).set (.inl (by simp)) v) (by simpa using hne)
set_option maxHeartbeats 4000000 in
theorem once_any {W : World} {A : Option Addr} {n c : Nat} {f : Nat → Stp} (hs : Stps W A n f) (hf : ∀ k, k < n → Okst (f k)) (hn : n ≤ c) (hc : c ≤ maxLen) :
    Calls Try.prog 6 #[.slice A n c] W fun e w' => e = .returned (.bool true) ∧ Ext W w' := by
  obtain ⟨m, hm⟩ : ∃ m, m = min n 100 := ⟨_, rfl⟩
  have HF := hide hf
  have hmm := @run_makeMap Try.prog
  clear hf
  go_enter Try.func6, Try.ntmps6
  go_wp2_with fail
  refine (short_any A n c _ hn hc).mono ?_
  rintro e w2 ⟨rfl, rfl⟩
  rw [← hm]
  have hi0 := (Bx.new0 W).ext (Ext.alloc _ (.map #[] 0))
  have hm0 := (IM.made (W.alloc (Obj.cells #[.slice none 0 0, .int .i64 (0 : Int)] 25))).eq (show _ = cn [] by funext t; rfl)
  have hX0 := (Ext.alloc W (Obj.cells #[.slice none 0 0, .int .i64 (0 : Int)] 25)).trans (Ext.alloc _ (.map #[] 0))
  rw [World.size_alloc] at hm0
  obtain ⟨Q, hQ⟩ : ∃ Q, Q = W.heap.size := ⟨_, rfl⟩
  obtain ⟨M, hM⟩ : ∃ M, M = W.heap.size + 1 := ⟨_, rfl⟩
  rw [← hM] at hm0 ⊢
  rw [← hQ] at hi0 ⊢
  have HQ := hide (show W.heap.size ≤ Q by omega)
  have HMW := hide (show W.heap.size ≤ M by omega)
  have HM := hide (show m ≤ n by omega)
  have HM2 := hide (show m ≤ 100 by omega)
  clear hm hQ hM
  go_wp2_with fail
  go_loopw [17] (fun i wr => ∃ (j N : Nat) (xs : List Wt), j ≤ m ∧ N ≤ j ∧ i = .int .i64 (j : Int) ∧ Bx wr Q xs ∧ OkW xs ∧ IM wr M N (cn xs) ∧ Ext W wr) (fun i _ => m - (intOf i).toNat)
  case atStart => exact ⟨0, 0, [], by omega, by omega, rfl, hi0, okw_nil, hm0, hX0⟩
  case round =>
    clear hi0 hX0 hm0
    obtain ⟨j, N, xs, hj, hN, rfl, hb, ok, hmap, hX⟩ := hrel
    by_cases hlt : j < m
    · have hj2 : j < n := by have := HM.out; omega
      have hm2 := HM2.out
      obtain ⟨b, off, rfl, r0, r1, r2⟩ := hs.rules hj2
      have okx := HF.out j hj2
      obtain ⟨x, hx⟩ : ∃ x, x = f j := ⟨_, rfl⟩
      rw [← hx] at r0 r1 r2 okx
      clear hx
      have r0 := r0 wr hX
      have r1 := r1 wr hX
      have r2 := r2 wr hX
      have k0 := okx.k0
      have k1 := okx.k1
      have ht0 := okx.t0
      have hn9 := okx.n0
      have hl := ok.len
      have hY := Ext.alloc wr (Obj.cells #[.int .u8 x.k, .int .i64 x.t, .int .i64 x.n] 31)
      have hz := Blk.new wr #[Value.int .u8 x.k, .int .i64 x.t, .int .i64 x.n] 31
      obtain ⟨A0, n0, c0, p0, hq, hr⟩ := hb.ext hY
      have hX := hX.trans hY
      have hmap := hmap.ext hY
      have hn0 : n0 ≤ 65535 := by have := hr.len; omega
      obtain ⟨Z, hZ⟩ : ∃ Z, Z = wr.heap.size := ⟨_, rfl⟩
      rw [← hZ] at hz
      clear hb okx
      go_upto_region 6 with fail
      rw [← hZ]
      clear hZ hY r0 r1 r2
      generalize wr.alloc (Obj.cells #[.int .u8 x.k, .int .i64 x.t, .int .i64 x.n] 31) = w0 at *
      have q0 := hq.cell
      have z0 := hz.cell
      have hcall := do_any x.k x.t x.n hr ok hn0 k0 k1
      have hbd := hX.size
      by_cases p1 : x.k % 4 = 1
      · rw [doL_1 p1, doB_1 p1, doW_1 p1] at hcall
        cases hh : hasT xs x.t with
        | true =>
          rw [hh] at hcall
          have hcp := cn_pos ok hh
          have hcn : cn xs x.t = (wtOf xs x.t).2 := rfl
          generalize wtOf xs x.t = y at *
          go_wp2_with fail
          refine hcall.mono ?_
          rintro e w1 ⟨A1, n1, c1, p1', rfl, hr1, hx1⟩
          have hY := (Ext.alloc w1 (Obj.cells #[.slice A1 n1 c1, .int .i64 (p1' : Int)] 25)).trans (Ext.alloc _ (Obj.cells #[.int .i64 y.1, .int .i64 y.2] 32))
          have hq1 := (hq.ext hx1).ext hY
          have hz1 := (hz.ext hx1).ext hY
          have hN1 := (Blk.new w1 #[Value.slice A1 n1 c1, .int .i64 (p1' : Int)] 25).ext (Ext.alloc _ (Obj.cells #[.int .i64 y.1, .int .i64 y.2] 32))
          have hW1 := Blk.new (w1.alloc (Obj.cells #[.slice A1 n1 c1, .int .i64 (p1' : Int)] 25)) #[Value.int .i64 y.1, .int .i64 y.2] 32
          have hm1 := (hmap.ext hx1).ext hY
          have hX1 := (hX.trans hx1).trans hY
          have hr1 := hr1.ext hY
          clear q0 z0 hcall hr hq hz hmap hX hx1 hY
          go_upto_region 7 with fail
          obtain ⟨X, hX9⟩ : ∃ X, X = w1.heap.size := ⟨_, rfl⟩
          rw [World.size_alloc] at hW1
          rw [← hX9] at hW1 hN1 ⊢
          clear hX9
          generalize (w1.alloc (Obj.cells #[.slice A1 n1 c1, .int .i64 (p1' : Int)] 25)).alloc (Obj.cells #[.int .i64 y.1, .int .i64 y.2] 32) = w2 at *
          have lk := hm1.look ht0
          rw [hcn] at lk hcp
          obtain ⟨hcp1, hcp2⟩ := hcp
          have hpos : 0 < y.2 := by omega
          have z1 := hz1.cell
          have wv := hW1.cell
          obtain ⟨w3, hset, hm3, hg3⟩ := hm1.set (by unfold maxLen; omega) ht0 (b := 0) (by decide)
          rw [cn_rm ok] at hm3
          have hn3 := hm1.noC
          have hq3 := hq1.grown hg3 (fun k e q => by cases e; exact hn3 _ _ (q ▸ hq1))
          have hN3 := hN1.grown hg3 (fun k e q => by cases e; exact hn3 _ _ (q ▸ hN1))
          have hr3 := hr1.chgN (Chg.of_grown (T := [M]) hg3 (by simp)) hn3
          have hX3 := hX1.turn (Chg.of_grown (T := [M]) hg3 (by simp)) (by simpa using HMW.out)
          have oky := ok.rm x.t
          have HN3 := hide hN
          generalize rmL xs x.t = ys at *
          clear hn3 hq1 hN1 hr1 hX1 hm1 hz1 hW1 hg3 hcn hcp1 hcp2
          go_upto_region 15 with fail
          clear lk hset z1 wv
          clear hpos
          have hb4 := Bx.store hq3 hr3
          have hX4 := hX3.set2 (u := .slice A1 n1 c1) (v := .int .i64 (p1' : Int)) HQ.out
          have hm4 := (hm3.setc (p := ⟨Q, 0, none⟩) (by rintro q; simp at q; subst q; exact hm3.noC _ _ hq3) (.slice A1 n1 c1)).setc (p := ⟨Q, 1, none⟩) (by rintro q; simp at q; subst q; exact hm3.noC _ _ hq3) (.int .i64 (p1' : Int))
          have y1 := hq3.cell
          have y1f := hq3.free
          have y2 := hN3.cell
          have hMM := BM.made ((w3.setCell ⟨Q, 0, none⟩ (.slice A1 n1 c1)).setCell ⟨Q, 1, none⟩ (.int .i64 (p1' : Int)))
          have hY5 := Ext.alloc ((w3.setCell ⟨Q, 0, none⟩ (.slice A1 n1 c1)).setCell ⟨Q, 1, none⟩ (.int .i64 (p1' : Int))) (.map #[] 0)
          have hb5 := hb4.ext hY5
          have hm5 := hm4.ext hY5
          have hX5 := hX4.trans hY5
          have hsz5 := hX4.size
          have hlm5 := hm4.lt
          go_upto_region 17 with fail
          generalize ((w3.setCell ⟨Q, 0, none⟩ (.slice A1 n1 c1)).setCell ⟨Q, 1, none⟩ (.int .i64 (p1' : Int))).alloc (.map #[] 0) = w5 at *
          have es : ((w3.setCell ⟨Q, 0, none⟩ (.slice A1 n1 c1)).setCell ⟨Q, 1, none⟩ (.int .i64 (p1' : Int))).heap.size = w3.heap.size := by simp
          rw [es] at hMM hsz5 hlm5
          obtain ⟨MM, hMM0⟩ : ∃ b, b = w3.heap.size := ⟨_, rfl⟩
          rw [← hMM0] at hMM ⊢
          have HMMW := hide (show W.heap.size ≤ MM by omega)
          have HMM := hide (show M ≠ MM by omega)
          obtain ⟨A7, n7, c7, p7, hq7, hr7⟩ := hb5
          have q7 := hq7.cell
          have hl7 := oky.len
          have hn7 := hr7.len
          have hn70 : n7 ≤ 65535 := by omega
          clear hMM0 es hY5 hb4 hX4 hm4 hsz5 hlm5 y1 y1f y2 hq3 hN3 hX3 hm3 hr3
          go_wp2_with fail
          refine (all_any hr7 hn70).mono ?_
          rintro e w6 ⟨A8, c8, rfl, hown8, hx8⟩
          obtain ⟨A9, c9, e9, hr8, -⟩ := Row.of_own hown8
          cases e9
          have HB6 := hide (show Bx w6 Q ys from ⟨A7, n7, c7, p7, hq7.ext hx8, hr7.ext hx8⟩)
          have HM6 := hide (hm5.ext hx8)
          have hMM := hMM.ext hx8
          have HNB := hide hMM.noC
          have hMM := hMM.eq (show _ = hasT (ys.take 0) by funext t; simp [hasT])
          have HX6 := hide (hX5.trans hx8)
          have HR8 := hide hr8
          have HN7 := hide hn7
          clear hown8 hx8 hm5 hX5 hq7 hr7 q7 hr8 hn7
          go_wp2_with fail
          have hc0 := Chg.refl [MM] w6
          go_loopw [84] (fun i wr => ∃ k : Nat, k ≤ n7 ∧ i = .int .i64 (k : Int) ∧ BM wr MM k (hasT (ys.take k)) ∧ Chg [MM] w6 wr) (fun i _ => n7 - (intOf i).toNat)
          case atStart => exact ⟨0, by omega, rfl, hMM, hc0⟩
          case round =>
            clear hMM hc0
            obtain ⟨k, hk, rfl, hmm6, hc⟩ := hrel
            by_cases hlt9 : k < n7
            · have hkx : k < ys.length := by have := HN7.out; omega
              obtain ⟨b1, o1, rfl, s1⟩ := (HR8.out.chgN hc HNB.out).ch.at_ hkx
              obtain ⟨s1a, s1b⟩ := s1 wr (Ext.refl _)
              have hin := inW_of (oky.rng _ (List.getElem_mem hkx))
              have hz := ky_wf (z := (ys[k]).1) (by omega) (by omega)
              have hcn := cn_mem oky (List.getElem_mem hkx)
              have hno := hasT_take oky hkx
              have hsn := hasT_snoc hkx
              generalize ys[k] = y at *
              have hA := Ext.alloc wr (Obj.cells #[.int .i64 y.1, .int .i64 y.2] 32)
              have bA := (Blk.new wr #[Value.int .i64 y.1, .int .i64 y.2] 32).cell
              have lk1 := (hmm6.ext hA).look hz
              rw [hno] at lk1
              have lk2 := ((HM6.out.chg hc (by simpa using HMM.out)).ext hA).look hz
              rw [hcn] at lk2
              obtain ⟨w8, hset8, hm8, hg8⟩ := (hmm6.ext hA).set (by unfold maxLen; omega) hz true
              rw [hsn] at hm8
              have HM8 := hide hm8
              have HC8 := hide ((hc.trans (Chg.alloc _ _ _)).trans (Chg.of_grown hg8 (by simp)))
              clear s1 hin hcn hno hsn hmm6 hc hm8 hg8 hkx hA
              go_wp2_with fail
              go_roundw
              case rel => exact ⟨k + 1, by omega, by go_num, HM8.out, HC8.out⟩
              case measure => simp [intOf]; omega
            · obtain rfl : k = n7 := by omega
              have HBE := hide (HB6.out.chgN hc HNB.out)
              have HME := hide (HM6.out.chg hc (by simpa using HMM.out))
              have HXE := hide (HX6.out.turn hc (by simpa using HMMW.out))
              clear hmm6 hc
              go_wp2_with fail
              go_roundw
              case rel => exact ⟨j + 1, (N + 1), ys, by omega, by have := HN3.out; omega, by go_num, HBE.out, oky, HME.out, HXE.out⟩
              case measure => simp [intOf]; omega
        | false =>
          rw [hh, wtOf_no hh] at hcall
          have hcn := cn_no hh
          go_wp2_with fail
          refine hcall.mono ?_
          rintro e w1 ⟨A1, n1, c1, p1', rfl, hr1, hx1⟩
          have hY := (Ext.alloc w1 (Obj.cells #[.slice A1 n1 c1, .int .i64 (p1' : Int)] 25)).trans (Ext.alloc _ (Obj.cells #[.int .i64 0, .int .i64 0] 32))
          have hq1 := (hq.ext hx1).ext hY
          have hz1 := (hz.ext hx1).ext hY
          have hN1 := (Blk.new w1 #[Value.slice A1 n1 c1, .int .i64 (p1' : Int)] 25).ext (Ext.alloc _ (Obj.cells #[.int .i64 0, .int .i64 0] 32))
          have hW1 := Blk.new (w1.alloc (Obj.cells #[.slice A1 n1 c1, .int .i64 (p1' : Int)] 25)) #[Value.int .i64 0, .int .i64 0] 32
          have hm1 := (hmap.ext hx1).ext hY
          have hX1 := (hX.trans hx1).trans hY
          have hr1 := hr1.ext hY
          clear q0 z0 hcall hr hq hz hmap hX hx1 hY
          go_upto_region 7 with fail
          obtain ⟨X, hX9⟩ : ∃ X, X = w1.heap.size := ⟨_, rfl⟩
          rw [World.size_alloc] at hW1
          rw [← hX9] at hW1 hN1 ⊢
          clear hX9
          generalize (w1.alloc (Obj.cells #[.slice A1 n1 c1, .int .i64 (p1' : Int)] 25)).alloc (Obj.cells #[.int .i64 0, .int .i64 0] 32) = w2 at *
          have lk := hm1.look ht0
          rw [hcn] at lk
          have z1 := hz1.cell
          have wv := hW1.cell
          obtain ⟨w3, hset, hm3, hg3⟩ := hm1.set (by unfold maxLen; omega) ht0 (b := 0) (by decide)
          rw [cn_rm ok] at hm3
          have hn3 := hm1.noC
          have hq3 := hq1.grown hg3 (fun k e q => by cases e; exact hn3 _ _ (q ▸ hq1))
          have hN3 := hN1.grown hg3 (fun k e q => by cases e; exact hn3 _ _ (q ▸ hN1))
          have hr3 := hr1.chgN (Chg.of_grown (T := [M]) hg3 (by simp)) hn3
          have hX3 := hX1.turn (Chg.of_grown (T := [M]) hg3 (by simp)) (by simpa using HMW.out)
          have oky := ok.rm x.t
          have HN3 := hide hN
          generalize rmL xs x.t = ys at *
          clear hn3 hq1 hN1 hr1 hX1 hm1 hz1 hW1 hg3 hcn
          go_upto_region 15 with fail
          clear lk hset z1 wv
          have hb4 := Bx.store hq3 hr3
          have hX4 := hX3.set2 (u := .slice A1 n1 c1) (v := .int .i64 (p1' : Int)) HQ.out
          have hm4 := (hm3.setc (p := ⟨Q, 0, none⟩) (by rintro q; simp at q; subst q; exact hm3.noC _ _ hq3) (.slice A1 n1 c1)).setc (p := ⟨Q, 1, none⟩) (by rintro q; simp at q; subst q; exact hm3.noC _ _ hq3) (.int .i64 (p1' : Int))
          have y1 := hq3.cell
          have y1f := hq3.free
          have y2 := hN3.cell
          have hMM := BM.made ((w3.setCell ⟨Q, 0, none⟩ (.slice A1 n1 c1)).setCell ⟨Q, 1, none⟩ (.int .i64 (p1' : Int)))
          have hY5 := Ext.alloc ((w3.setCell ⟨Q, 0, none⟩ (.slice A1 n1 c1)).setCell ⟨Q, 1, none⟩ (.int .i64 (p1' : Int))) (.map #[] 0)
          have hb5 := hb4.ext hY5
          have hm5 := hm4.ext hY5
          have hX5 := hX4.trans hY5
          have hsz5 := hX4.size
          have hlm5 := hm4.lt
          go_upto_region 17 with fail
          generalize ((w3.setCell ⟨Q, 0, none⟩ (.slice A1 n1 c1)).setCell ⟨Q, 1, none⟩ (.int .i64 (p1' : Int))).alloc (.map #[] 0) = w5 at *
          have es : ((w3.setCell ⟨Q, 0, none⟩ (.slice A1 n1 c1)).setCell ⟨Q, 1, none⟩ (.int .i64 (p1' : Int))).heap.size = w3.heap.size := by simp
          rw [es] at hMM hsz5 hlm5
          obtain ⟨MM, hMM0⟩ : ∃ b, b = w3.heap.size := ⟨_, rfl⟩
          rw [← hMM0] at hMM ⊢
          have HMMW := hide (show W.heap.size ≤ MM by omega)
          have HMM := hide (show M ≠ MM by omega)
          obtain ⟨A7, n7, c7, p7, hq7, hr7⟩ := hb5
          have q7 := hq7.cell
          have hl7 := oky.len
          have hn7 := hr7.len
          have hn70 : n7 ≤ 65535 := by omega
          clear hMM0 es hY5 hb4 hX4 hm4 hsz5 hlm5 y1 y1f y2 hq3 hN3 hX3 hm3 hr3
          go_wp2_with fail
          refine (all_any hr7 hn70).mono ?_
          rintro e w6 ⟨A8, c8, rfl, hown8, hx8⟩
          obtain ⟨A9, c9, e9, hr8, -⟩ := Row.of_own hown8
          cases e9
          have HB6 := hide (show Bx w6 Q ys from ⟨A7, n7, c7, p7, hq7.ext hx8, hr7.ext hx8⟩)
          have HM6 := hide (hm5.ext hx8)
          have hMM := hMM.ext hx8
          have HNB := hide hMM.noC
          have hMM := hMM.eq (show _ = hasT (ys.take 0) by funext t; simp [hasT])
          have HX6 := hide (hX5.trans hx8)
          have HR8 := hide hr8
          have HN7 := hide hn7
          clear hown8 hx8 hm5 hX5 hq7 hr7 q7 hr8 hn7
          go_wp2_with fail
          have hc0 := Chg.refl [MM] w6
          go_loopw [84] (fun i wr => ∃ k : Nat, k ≤ n7 ∧ i = .int .i64 (k : Int) ∧ BM wr MM k (hasT (ys.take k)) ∧ Chg [MM] w6 wr) (fun i _ => n7 - (intOf i).toNat)
          case atStart => exact ⟨0, by omega, rfl, hMM, hc0⟩
          case round =>
            clear hMM hc0
            obtain ⟨k, hk, rfl, hmm6, hc⟩ := hrel
            by_cases hlt9 : k < n7
            · have hkx : k < ys.length := by have := HN7.out; omega
              obtain ⟨b1, o1, rfl, s1⟩ := (HR8.out.chgN hc HNB.out).ch.at_ hkx
              obtain ⟨s1a, s1b⟩ := s1 wr (Ext.refl _)
              have hin := inW_of (oky.rng _ (List.getElem_mem hkx))
              have hz := ky_wf (z := (ys[k]).1) (by omega) (by omega)
              have hcn := cn_mem oky (List.getElem_mem hkx)
              have hno := hasT_take oky hkx
              have hsn := hasT_snoc hkx
              generalize ys[k] = y at *
              have hA := Ext.alloc wr (Obj.cells #[.int .i64 y.1, .int .i64 y.2] 32)
              have bA := (Blk.new wr #[Value.int .i64 y.1, .int .i64 y.2] 32).cell
              have lk1 := (hmm6.ext hA).look hz
              rw [hno] at lk1
              have lk2 := ((HM6.out.chg hc (by simpa using HMM.out)).ext hA).look hz
              rw [hcn] at lk2
              obtain ⟨w8, hset8, hm8, hg8⟩ := (hmm6.ext hA).set (by unfold maxLen; omega) hz true
              rw [hsn] at hm8
              have HM8 := hide hm8
              have HC8 := hide ((hc.trans (Chg.alloc _ _ _)).trans (Chg.of_grown hg8 (by simp)))
              clear s1 hin hcn hno hsn hmm6 hc hm8 hg8 hkx hA
              go_wp2_with fail
              go_roundw
              case rel => exact ⟨k + 1, by omega, by go_num, HM8.out, HC8.out⟩
              case measure => simp [intOf]; omega
            · obtain rfl : k = n7 := by omega
              have HBE := hide (HB6.out.chgN hc HNB.out)
              have HME := hide (HM6.out.chg hc (by simpa using HMM.out))
              have HXE := hide (HX6.out.turn hc (by simpa using HMMW.out))
              clear hmm6 hc
              go_wp2_with fail
              go_roundw
              case rel => exact ⟨j + 1, (N + 1), ys, by omega, by have := HN3.out; omega, by go_num, HBE.out, oky, HME.out, HXE.out⟩
              case measure => simp [intOf]; omega
      · by_cases p2 : x.k % 4 = 2
        · rw [doL_2 p2, doB_2 p2, doW_0 p1] at hcall
          go_wp2_with fail
          refine hcall.mono ?_
          rintro e w1 ⟨A1, n1, c1, p1', rfl, hr1, hx1⟩
          have hY := (Ext.alloc w1 (Obj.cells #[.slice A1 n1 c1, .int .i64 (p1' : Int)] 25)).trans (Ext.alloc _ (Obj.cells #[.int .i64 0, .int .i64 0] 32))
          have hq1 := (hq.ext hx1).ext hY
          have hz1 := (hz.ext hx1).ext hY
          have hN1 := (Blk.new w1 #[Value.slice A1 n1 c1, .int .i64 (p1' : Int)] 25).ext (Ext.alloc _ (Obj.cells #[.int .i64 0, .int .i64 0] 32))
          have hW1 := Blk.new (w1.alloc (Obj.cells #[.slice A1 n1 c1, .int .i64 (p1' : Int)] 25)) #[Value.int .i64 0, .int .i64 0] 32
          have hm1 := (hmap.ext hx1).ext hY
          have hX1 := (hX.trans hx1).trans hY
          have hr1 := hr1.ext hY
          clear q0 z0 hcall hr hq hz hmap hX hx1 hY
          go_upto_region 7 with fail
          obtain ⟨X, hX9⟩ : ∃ X, X = w1.heap.size := ⟨_, rfl⟩
          rw [World.size_alloc] at hW1
          rw [← hX9] at hW1 hN1 ⊢
          clear hX9
          generalize (w1.alloc (Obj.cells #[.slice A1 n1 c1, .int .i64 (p1' : Int)] 25)).alloc (Obj.cells #[.int .i64 0, .int .i64 0] 32) = w2 at *
          have z1 := hz1.cell
          have HN3 := hide hN
          have oky := ok.tu
          have hm3 := hm1
          rw [← cn_tu ok] at hm3
          generalize tuL xs = ys at *
          go_upto_region 15 with fail
          clear z1
          generalize hw3 : w2 = w3 at *
          have hq3 := hq1
          have hN3 := hN1
          have hr3 := hr1
          have hX3 := hX1
          clear hw3 hq1 hN1 hr1 hX1 hm1 hz1 hW1
          have hb4 := Bx.store hq3 hr3
          have hX4 := hX3.set2 (u := .slice A1 n1 c1) (v := .int .i64 (p1' : Int)) HQ.out
          have hm4 := (hm3.setc (p := ⟨Q, 0, none⟩) (by rintro q; simp at q; subst q; exact hm3.noC _ _ hq3) (.slice A1 n1 c1)).setc (p := ⟨Q, 1, none⟩) (by rintro q; simp at q; subst q; exact hm3.noC _ _ hq3) (.int .i64 (p1' : Int))
          have y1 := hq3.cell
          have y1f := hq3.free
          have y2 := hN3.cell
          have hMM := BM.made ((w3.setCell ⟨Q, 0, none⟩ (.slice A1 n1 c1)).setCell ⟨Q, 1, none⟩ (.int .i64 (p1' : Int)))
          have hY5 := Ext.alloc ((w3.setCell ⟨Q, 0, none⟩ (.slice A1 n1 c1)).setCell ⟨Q, 1, none⟩ (.int .i64 (p1' : Int))) (.map #[] 0)
          have hb5 := hb4.ext hY5
          have hm5 := hm4.ext hY5
          have hX5 := hX4.trans hY5
          have hsz5 := hX4.size
          have hlm5 := hm4.lt
          go_upto_region 17 with fail
          generalize ((w3.setCell ⟨Q, 0, none⟩ (.slice A1 n1 c1)).setCell ⟨Q, 1, none⟩ (.int .i64 (p1' : Int))).alloc (.map #[] 0) = w5 at *
          have es : ((w3.setCell ⟨Q, 0, none⟩ (.slice A1 n1 c1)).setCell ⟨Q, 1, none⟩ (.int .i64 (p1' : Int))).heap.size = w3.heap.size := by simp
          rw [es] at hMM hsz5 hlm5
          obtain ⟨MM, hMM0⟩ : ∃ b, b = w3.heap.size := ⟨_, rfl⟩
          rw [← hMM0] at hMM ⊢
          have HMMW := hide (show W.heap.size ≤ MM by omega)
          have HMM := hide (show M ≠ MM by omega)
          obtain ⟨A7, n7, c7, p7, hq7, hr7⟩ := hb5
          have q7 := hq7.cell
          have hl7 := oky.len
          have hn7 := hr7.len
          have hn70 : n7 ≤ 65535 := by omega
          clear hMM0 es hY5 hb4 hX4 hm4 hsz5 hlm5 y1 y1f y2 hq3 hN3 hX3 hm3 hr3
          go_wp2_with fail
          refine (all_any hr7 hn70).mono ?_
          rintro e w6 ⟨A8, c8, rfl, hown8, hx8⟩
          obtain ⟨A9, c9, e9, hr8, -⟩ := Row.of_own hown8
          cases e9
          have HB6 := hide (show Bx w6 Q ys from ⟨A7, n7, c7, p7, hq7.ext hx8, hr7.ext hx8⟩)
          have HM6 := hide (hm5.ext hx8)
          have hMM := hMM.ext hx8
          have HNB := hide hMM.noC
          have hMM := hMM.eq (show _ = hasT (ys.take 0) by funext t; simp [hasT])
          have HX6 := hide (hX5.trans hx8)
          have HR8 := hide hr8
          have HN7 := hide hn7
          clear hown8 hx8 hm5 hX5 hq7 hr7 q7 hr8 hn7
          go_wp2_with fail
          have hc0 := Chg.refl [MM] w6
          go_loopw [84] (fun i wr => ∃ k : Nat, k ≤ n7 ∧ i = .int .i64 (k : Int) ∧ BM wr MM k (hasT (ys.take k)) ∧ Chg [MM] w6 wr) (fun i _ => n7 - (intOf i).toNat)
          case atStart => exact ⟨0, by omega, rfl, hMM, hc0⟩
          case round =>
            clear hMM hc0
            obtain ⟨k, hk, rfl, hmm6, hc⟩ := hrel
            by_cases hlt9 : k < n7
            · have hkx : k < ys.length := by have := HN7.out; omega
              obtain ⟨b1, o1, rfl, s1⟩ := (HR8.out.chgN hc HNB.out).ch.at_ hkx
              obtain ⟨s1a, s1b⟩ := s1 wr (Ext.refl _)
              have hin := inW_of (oky.rng _ (List.getElem_mem hkx))
              have hz := ky_wf (z := (ys[k]).1) (by omega) (by omega)
              have hcn := cn_mem oky (List.getElem_mem hkx)
              have hno := hasT_take oky hkx
              have hsn := hasT_snoc hkx
              generalize ys[k] = y at *
              have hA := Ext.alloc wr (Obj.cells #[.int .i64 y.1, .int .i64 y.2] 32)
              have bA := (Blk.new wr #[Value.int .i64 y.1, .int .i64 y.2] 32).cell
              have lk1 := (hmm6.ext hA).look hz
              rw [hno] at lk1
              have lk2 := ((HM6.out.chg hc (by simpa using HMM.out)).ext hA).look hz
              rw [hcn] at lk2
              obtain ⟨w8, hset8, hm8, hg8⟩ := (hmm6.ext hA).set (by unfold maxLen; omega) hz true
              rw [hsn] at hm8
              have HM8 := hide hm8
              have HC8 := hide ((hc.trans (Chg.alloc _ _ _)).trans (Chg.of_grown hg8 (by simp)))
              clear s1 hin hcn hno hsn hmm6 hc hm8 hg8 hkx hA
              go_wp2_with fail
              go_roundw
              case rel => exact ⟨k + 1, by omega, by go_num, HM8.out, HC8.out⟩
              case measure => simp [intOf]; omega
            · obtain rfl : k = n7 := by omega
              have HBE := hide (HB6.out.chgN hc HNB.out)
              have HME := hide (HM6.out.chg hc (by simpa using HMM.out))
              have HXE := hide (HX6.out.turn hc (by simpa using HMMW.out))
              clear hmm6 hc
              go_wp2_with fail
              go_roundw
              case rel => exact ⟨j + 1, N, ys, by omega, by have := HN3.out; omega, by go_num, HBE.out, oky, HME.out, HXE.out⟩
              case measure => simp [intOf]; omega
        · rw [doL_0 p1 p2, doB_0 p1 p2, doW_0 p1] at hcall
          cases ha : adB xs (x.t, x.n) with
          | true =>
            rw [ha] at hcall
            have hcn := cn_no (adB_of ha).2
            simp only at hcn
            go_wp2_with fail
            refine hcall.mono ?_
            rintro e w1 ⟨A1, n1, c1, p1', rfl, hr1, hx1⟩
            have hY := (Ext.alloc w1 (Obj.cells #[.slice A1 n1 c1, .int .i64 (p1' : Int)] 25)).trans (Ext.alloc _ (Obj.cells #[.int .i64 0, .int .i64 0] 32))
            have hq1 := (hq.ext hx1).ext hY
            have hz1 := (hz.ext hx1).ext hY
            have hN1 := (Blk.new w1 #[Value.slice A1 n1 c1, .int .i64 (p1' : Int)] 25).ext (Ext.alloc _ (Obj.cells #[.int .i64 0, .int .i64 0] 32))
            have hW1 := Blk.new (w1.alloc (Obj.cells #[.slice A1 n1 c1, .int .i64 (p1' : Int)] 25)) #[Value.int .i64 0, .int .i64 0] 32
            have hm1 := (hmap.ext hx1).ext hY
            have hX1 := (hX.trans hx1).trans hY
            have hr1 := hr1.ext hY
            clear q0 z0 hcall hr hq hz hmap hX hx1 hY
            go_upto_region 7 with fail
            obtain ⟨X, hX9⟩ : ∃ X, X = w1.heap.size := ⟨_, rfl⟩
            rw [World.size_alloc] at hW1
            rw [← hX9] at hW1 hN1 ⊢
            clear hX9
            generalize (w1.alloc (Obj.cells #[.slice A1 n1 c1, .int .i64 (p1' : Int)] 25)).alloc (Obj.cells #[.int .i64 0, .int .i64 0] 32) = w2 at *
            have lk := hm1.look ht0
            rw [hcn] at lk
            have z1 := hz1.cell
            have wv := hW1.cell
            obtain ⟨w3, hset, hm3, hg3⟩ := hm1.set (by unfold maxLen; omega) ht0 (b := x.n) hn9
            rw [cn_ad ok ha] at hm3
            have hn3 := hm1.noC
            have hq3 := hq1.grown hg3 (fun k e q => by cases e; exact hn3 _ _ (q ▸ hq1))
            have hN3 := hN1.grown hg3 (fun k e q => by cases e; exact hn3 _ _ (q ▸ hN1))
            have hr3 := hr1.chgN (Chg.of_grown (T := [M]) hg3 (by simp)) hn3
            have hX3 := hX1.turn (Chg.of_grown (T := [M]) hg3 (by simp)) (by simpa using HMW.out)
            have oky := ok.ad (x.t, x.n)
            have HN3 := hide hN
            generalize adL xs (x.t, x.n) = ys at *
            clear hn3 hq1 hN1 hr1 hX1 hm1 hz1 hW1 hg3 hcn
            go_upto_region 15 with fail
            clear lk hset z1 wv
            have hb4 := Bx.store hq3 hr3
            have hX4 := hX3.set2 (u := .slice A1 n1 c1) (v := .int .i64 (p1' : Int)) HQ.out
            have hm4 := (hm3.setc (p := ⟨Q, 0, none⟩) (by rintro q; simp at q; subst q; exact hm3.noC _ _ hq3) (.slice A1 n1 c1)).setc (p := ⟨Q, 1, none⟩) (by rintro q; simp at q; subst q; exact hm3.noC _ _ hq3) (.int .i64 (p1' : Int))
            have y1 := hq3.cell
            have y1f := hq3.free
            have y2 := hN3.cell
            have hMM := BM.made ((w3.setCell ⟨Q, 0, none⟩ (.slice A1 n1 c1)).setCell ⟨Q, 1, none⟩ (.int .i64 (p1' : Int)))
            have hY5 := Ext.alloc ((w3.setCell ⟨Q, 0, none⟩ (.slice A1 n1 c1)).setCell ⟨Q, 1, none⟩ (.int .i64 (p1' : Int))) (.map #[] 0)
            have hb5 := hb4.ext hY5
            have hm5 := hm4.ext hY5
            have hX5 := hX4.trans hY5
            have hsz5 := hX4.size
            have hlm5 := hm4.lt
            go_upto_region 17 with fail
            generalize ((w3.setCell ⟨Q, 0, none⟩ (.slice A1 n1 c1)).setCell ⟨Q, 1, none⟩ (.int .i64 (p1' : Int))).alloc (.map #[] 0) = w5 at *
            have es : ((w3.setCell ⟨Q, 0, none⟩ (.slice A1 n1 c1)).setCell ⟨Q, 1, none⟩ (.int .i64 (p1' : Int))).heap.size = w3.heap.size := by simp
            rw [es] at hMM hsz5 hlm5
            obtain ⟨MM, hMM0⟩ : ∃ b, b = w3.heap.size := ⟨_, rfl⟩
            rw [← hMM0] at hMM ⊢
            have HMMW := hide (show W.heap.size ≤ MM by omega)
            have HMM := hide (show M ≠ MM by omega)
            obtain ⟨A7, n7, c7, p7, hq7, hr7⟩ := hb5
            have q7 := hq7.cell
            have hl7 := oky.len
            have hn7 := hr7.len
            have hn70 : n7 ≤ 65535 := by omega
            clear hMM0 es hY5 hb4 hX4 hm4 hsz5 hlm5 y1 y1f y2 hq3 hN3 hX3 hm3 hr3
            go_wp2_with fail
            refine (all_any hr7 hn70).mono ?_
            rintro e w6 ⟨A8, c8, rfl, hown8, hx8⟩
            obtain ⟨A9, c9, e9, hr8, -⟩ := Row.of_own hown8
            cases e9
            have HB6 := hide (show Bx w6 Q ys from ⟨A7, n7, c7, p7, hq7.ext hx8, hr7.ext hx8⟩)
            have HM6 := hide (hm5.ext hx8)
            have hMM := hMM.ext hx8
            have HNB := hide hMM.noC
            have hMM := hMM.eq (show _ = hasT (ys.take 0) by funext t; simp [hasT])
            have HX6 := hide (hX5.trans hx8)
            have HR8 := hide hr8
            have HN7 := hide hn7
            clear hown8 hx8 hm5 hX5 hq7 hr7 q7 hr8 hn7
            go_wp2_with fail
            have hc0 := Chg.refl [MM] w6
            go_loopw [84] (fun i wr => ∃ k : Nat, k ≤ n7 ∧ i = .int .i64 (k : Int) ∧ BM wr MM k (hasT (ys.take k)) ∧ Chg [MM] w6 wr) (fun i _ => n7 - (intOf i).toNat)
            case atStart => exact ⟨0, by omega, rfl, hMM, hc0⟩
            case round =>
              clear hMM hc0
              obtain ⟨k, hk, rfl, hmm6, hc⟩ := hrel
              by_cases hlt9 : k < n7
              · have hkx : k < ys.length := by have := HN7.out; omega
                obtain ⟨b1, o1, rfl, s1⟩ := (HR8.out.chgN hc HNB.out).ch.at_ hkx
                obtain ⟨s1a, s1b⟩ := s1 wr (Ext.refl _)
                have hin := inW_of (oky.rng _ (List.getElem_mem hkx))
                have hz := ky_wf (z := (ys[k]).1) (by omega) (by omega)
                have hcn := cn_mem oky (List.getElem_mem hkx)
                have hno := hasT_take oky hkx
                have hsn := hasT_snoc hkx
                generalize ys[k] = y at *
                have hA := Ext.alloc wr (Obj.cells #[.int .i64 y.1, .int .i64 y.2] 32)
                have bA := (Blk.new wr #[Value.int .i64 y.1, .int .i64 y.2] 32).cell
                have lk1 := (hmm6.ext hA).look hz
                rw [hno] at lk1
                have lk2 := ((HM6.out.chg hc (by simpa using HMM.out)).ext hA).look hz
                rw [hcn] at lk2
                obtain ⟨w8, hset8, hm8, hg8⟩ := (hmm6.ext hA).set (by unfold maxLen; omega) hz true
                rw [hsn] at hm8
                have HM8 := hide hm8
                have HC8 := hide ((hc.trans (Chg.alloc _ _ _)).trans (Chg.of_grown hg8 (by simp)))
                clear s1 hin hcn hno hsn hmm6 hc hm8 hg8 hkx hA
                go_wp2_with fail
                go_roundw
                case rel => exact ⟨k + 1, by omega, by go_num, HM8.out, HC8.out⟩
                case measure => simp [intOf]; omega
              · obtain rfl : k = n7 := by omega
                have HBE := hide (HB6.out.chgN hc HNB.out)
                have HME := hide (HM6.out.chg hc (by simpa using HMM.out))
                have HXE := hide (HX6.out.turn hc (by simpa using HMMW.out))
                clear hmm6 hc
                go_wp2_with fail
                go_roundw
                case rel => exact ⟨j + 1, (N + 1), ys, by omega, by have := HN3.out; omega, by go_num, HBE.out, oky, HME.out, HXE.out⟩
                case measure => simp [intOf]; omega
          | false =>
            rw [ha, adL_no ha] at hcall
            go_wp2_with fail
            refine hcall.mono ?_
            rintro e w1 ⟨A1, n1, c1, p1', rfl, hr1, hx1⟩
            have hY := (Ext.alloc w1 (Obj.cells #[.slice A1 n1 c1, .int .i64 (p1' : Int)] 25)).trans (Ext.alloc _ (Obj.cells #[.int .i64 0, .int .i64 0] 32))
            have hq1 := (hq.ext hx1).ext hY
            have hz1 := (hz.ext hx1).ext hY
            have hN1 := (Blk.new w1 #[Value.slice A1 n1 c1, .int .i64 (p1' : Int)] 25).ext (Ext.alloc _ (Obj.cells #[.int .i64 0, .int .i64 0] 32))
            have hW1 := Blk.new (w1.alloc (Obj.cells #[.slice A1 n1 c1, .int .i64 (p1' : Int)] 25)) #[Value.int .i64 0, .int .i64 0] 32
            have hm1 := (hmap.ext hx1).ext hY
            have hX1 := (hX.trans hx1).trans hY
            have hr1 := hr1.ext hY
            clear q0 z0 hcall hr hq hz hmap hX hx1 hY
            go_upto_region 7 with fail
            obtain ⟨X, hX9⟩ : ∃ X, X = w1.heap.size := ⟨_, rfl⟩
            rw [World.size_alloc] at hW1
            rw [← hX9] at hW1 hN1 ⊢
            clear hX9
            generalize (w1.alloc (Obj.cells #[.slice A1 n1 c1, .int .i64 (p1' : Int)] 25)).alloc (Obj.cells #[.int .i64 0, .int .i64 0] 32) = w2 at *
            have z1 := hz1.cell
            have HN3 := hide hN
            have oky := ok
            have hm3 := hm1
            go_upto_region 15 with fail
            clear z1
            generalize hw3 : w2 = w3 at *
            have hq3 := hq1
            have hN3 := hN1
            have hr3 := hr1
            have hX3 := hX1
            obtain ⟨ys, hys⟩ : ∃ ys, ys = xs := ⟨_, rfl⟩
            rw [← hys] at hr3 hm3 oky
            clear hys hw3 hq1 hN1 hr1 hX1 hm1 hz1 hW1
            have hb4 := Bx.store hq3 hr3
            have hX4 := hX3.set2 (u := .slice A1 n1 c1) (v := .int .i64 (p1' : Int)) HQ.out
            have hm4 := (hm3.setc (p := ⟨Q, 0, none⟩) (by rintro q; simp at q; subst q; exact hm3.noC _ _ hq3) (.slice A1 n1 c1)).setc (p := ⟨Q, 1, none⟩) (by rintro q; simp at q; subst q; exact hm3.noC _ _ hq3) (.int .i64 (p1' : Int))
            have y1 := hq3.cell
            have y1f := hq3.free
            have y2 := hN3.cell
            have hMM := BM.made ((w3.setCell ⟨Q, 0, none⟩ (.slice A1 n1 c1)).setCell ⟨Q, 1, none⟩ (.int .i64 (p1' : Int)))
            have hY5 := Ext.alloc ((w3.setCell ⟨Q, 0, none⟩ (.slice A1 n1 c1)).setCell ⟨Q, 1, none⟩ (.int .i64 (p1' : Int))) (.map #[] 0)
            have hb5 := hb4.ext hY5
            have hm5 := hm4.ext hY5
            have hX5 := hX4.trans hY5
            have hsz5 := hX4.size
            have hlm5 := hm4.lt
            go_upto_region 17 with fail
            generalize ((w3.setCell ⟨Q, 0, none⟩ (.slice A1 n1 c1)).setCell ⟨Q, 1, none⟩ (.int .i64 (p1' : Int))).alloc (.map #[] 0) = w5 at *
            have es : ((w3.setCell ⟨Q, 0, none⟩ (.slice A1 n1 c1)).setCell ⟨Q, 1, none⟩ (.int .i64 (p1' : Int))).heap.size = w3.heap.size := by simp
            rw [es] at hMM hsz5 hlm5
            obtain ⟨MM, hMM0⟩ : ∃ b, b = w3.heap.size := ⟨_, rfl⟩
            rw [← hMM0] at hMM ⊢
            have HMMW := hide (show W.heap.size ≤ MM by omega)
            have HMM := hide (show M ≠ MM by omega)
            obtain ⟨A7, n7, c7, p7, hq7, hr7⟩ := hb5
            have q7 := hq7.cell
            have hl7 := oky.len
            have hn7 := hr7.len
            have hn70 : n7 ≤ 65535 := by omega
            clear hMM0 es hY5 hb4 hX4 hm4 hsz5 hlm5 y1 y1f y2 hq3 hN3 hX3 hm3 hr3
            go_wp2_with fail
            refine (all_any hr7 hn70).mono ?_
            rintro e w6 ⟨A8, c8, rfl, hown8, hx8⟩
            obtain ⟨A9, c9, e9, hr8, -⟩ := Row.of_own hown8
            cases e9
            have HB6 := hide (show Bx w6 Q ys from ⟨A7, n7, c7, p7, hq7.ext hx8, hr7.ext hx8⟩)
            have HM6 := hide (hm5.ext hx8)
            have hMM := hMM.ext hx8
            have HNB := hide hMM.noC
            have hMM := hMM.eq (show _ = hasT (ys.take 0) by funext t; simp [hasT])
            have HX6 := hide (hX5.trans hx8)
            have HR8 := hide hr8
            have HN7 := hide hn7
            clear hown8 hx8 hm5 hX5 hq7 hr7 q7 hr8 hn7
            go_wp2_with fail
            have hc0 := Chg.refl [MM] w6
            go_loopw [84] (fun i wr => ∃ k : Nat, k ≤ n7 ∧ i = .int .i64 (k : Int) ∧ BM wr MM k (hasT (ys.take k)) ∧ Chg [MM] w6 wr) (fun i _ => n7 - (intOf i).toNat)
            case atStart => exact ⟨0, by omega, rfl, hMM, hc0⟩
            case round =>
              clear hMM hc0
              obtain ⟨k, hk, rfl, hmm6, hc⟩ := hrel
              by_cases hlt9 : k < n7
              · have hkx : k < ys.length := by have := HN7.out; omega
                obtain ⟨b1, o1, rfl, s1⟩ := (HR8.out.chgN hc HNB.out).ch.at_ hkx
                obtain ⟨s1a, s1b⟩ := s1 wr (Ext.refl _)
                have hin := inW_of (oky.rng _ (List.getElem_mem hkx))
                have hz := ky_wf (z := (ys[k]).1) (by omega) (by omega)
                have hcn := cn_mem oky (List.getElem_mem hkx)
                have hno := hasT_take oky hkx
                have hsn := hasT_snoc hkx
                generalize ys[k] = y at *
                have hA := Ext.alloc wr (Obj.cells #[.int .i64 y.1, .int .i64 y.2] 32)
                have bA := (Blk.new wr #[Value.int .i64 y.1, .int .i64 y.2] 32).cell
                have lk1 := (hmm6.ext hA).look hz
                rw [hno] at lk1
                have lk2 := ((HM6.out.chg hc (by simpa using HMM.out)).ext hA).look hz
                rw [hcn] at lk2
                obtain ⟨w8, hset8, hm8, hg8⟩ := (hmm6.ext hA).set (by unfold maxLen; omega) hz true
                rw [hsn] at hm8
                have HM8 := hide hm8
                have HC8 := hide ((hc.trans (Chg.alloc _ _ _)).trans (Chg.of_grown hg8 (by simp)))
                clear s1 hin hcn hno hsn hmm6 hc hm8 hg8 hkx hA
                go_wp2_with fail
                go_roundw
                case rel => exact ⟨k + 1, by omega, by go_num, HM8.out, HC8.out⟩
                case measure => simp [intOf]; omega
              · obtain rfl : k = n7 := by omega
                have HBE := hide (HB6.out.chgN hc HNB.out)
                have HME := hide (HM6.out.chg hc (by simpa using HMM.out))
                have HXE := hide (HX6.out.turn hc (by simpa using HMMW.out))
                clear hmm6 hc
                go_wp2_with fail
                go_roundw
                case rel => exact ⟨j + 1, N, ys, by omega, by have := HN3.out; omega, by go_num, HBE.out, oky, HME.out, HXE.out⟩
                case measure => simp [intOf]; omega
    · obtain rfl : j = m := by omega
      go_wp2_with fail
      refine (alive_any _).mono ?_
      rintro e w3 ⟨rfl, hx⟩
      go_wp2_with fail
      go_ret
      exact ⟨rfl, hX.trans hx⟩

set_option maxRecDepth 100000 in
theorem ringOnce_walk {H : Type} {enc : TypeId × Value → H} (W : World) (base : Nat) (args : Array Value) (ds : List (DataW H)) (p : List MemPlace)
    (hval0 : ∀ (j : Nat) t v, Try.f6.params[j]? = some t → args[j]? = some v → Value.okWide Try.prog W .any base t v)
    (hA0 : DataW.TrodAll enc Try.prog W 0 (fun _ => true) true Try.f6.params.toList args.toList ds p) (_hlt : ∀ x ∈ p, x.block < W.heap.size) :
    Calls Try.prog 6 args W fun e W' => e = .returned (.bool true) ∧ Ext W W' := by
  have hval := hval0
  have hA := hA0
  rw [Try.params6] at hA hval
  clear hval0 hA0
  obtain ⟨v0, d0, rfl, rfl, h0⟩ := trodAll_one hA
  obtain ⟨A, n, c, f, rfl, hn, hc, hs, hf⟩ := open_steps (hval 0 22 v0 rfl rfl) h0
  exact once_any hs hf hn hc
set_option maxRecDepth 100000 in
theorem ringOnce_lifted (os : Os) (started : os.Started) (H : Type) (enc : TypeId × Value → H) :
    ReturnsInHanded {} Try.checked os 6 .any (Rows.ringOnceSpec.pre6 enc Try.prog Try.f6 Rows.ringOnceRow.domain false) (Rows.ringOnceSpec.post enc Try.prog Try.f6 false true false false) :=
  law_lifted (fn := Try.f6) 4 os started (by kernel_rfl) Try.func6 rfl rfl Try.underlying4 (hread_of (by kernel_rfl))
    (fun l hl => by
      have hl2 : l.length = 1 := hl
      clear hl
      match l, hl2 with
      | [_], _ => rfl)
    (ChangeSpec.witness6 (enc := enc) (C := Try.checked) false ⟨#[], #[.slice none 0 0], []⟩ 8 (by kernel_rfl) (by kernel_rfl) (by kernel_rfl) (by kernel_rfl))
    (fun W base args ds p hval hA hlt => ringOnce_walk W base args ds p hval hA hlt)
theorem ringOnce_holds : Rows.RingOnceSaid :=
  OpenClaim.holds_of_wide 6 Try.f6 rfl rfl rfl rfl rfl rfl rfl ⟨rfl, rfl, rfl, rfl, rfl⟩ rfl rfl rfl rfl rfl (by kernel_rfl) Try.func6 (by kernel_rfl)
    (of_decide_eq_true (by kernel_rfl)) (by unfold Func.isWrapper; rw [if_neg (of_decide_eq_false (by kernel_rfl))]; exact ⟨rfl, rfl⟩)
    (fun os started H enc _ => ringOnce_lifted os started H enc)
end Go.Proofs.Ytbkpmlcockkfnaa
