/- The program's Next and Reach. -/
import Derived.Test.YtaglpodilepioaaDoorP2
import Derived.Test.YtaglpodilepioaaDoorA2
namespace Go.Proofs.YtaglpodilepioaaDoor
open Go.RowKit
set_option linter.unusedSimpArgs false
set_option linter.unusedVariables false
set_option maxRecDepth 100000
set_option maxHeartbeats 4000000


/-- The numbers of a node's set; none of no node. -/
def ofN (f : Nat → NS) (i : Int) : List Nat := if isN i then setL (f i.toNat) else []
theorem next_any (E : Gr) (i : Int) (w : World) (hT : Tb w) : Calls Tryd.prog 12 #[.agg (gc E), .int .i64 i] w fun e w' =>
    ∃ v, e = .returned v ∧ Row w' w.heap.size v (ofN E i) ∧ Ext w w' := by
  unfold ofN
  by_cases hi : isN i = true
  · rw [if_pos hi]
    have hi1 : 0 ≤ i ∧ i < 64 := by simpa [isN] using hi
    obtain ⟨p, rfl⟩ := Int.eq_ofNat_of_zero_le hi1.1
    have hp : p < 64 := by omega
    rw [Int.toNat_natCast]
    clear hi1
    go_enter Tryd.func12, Tryd.ntmps12
    go_upto_region 1 with fail
    have HB := hide (Blk.new w (gc E) 27)
    have HX := hide (Ext.alloc w (.cells (gc E) 27))
    generalize (w.alloc (.cells (gc E) 27)) = W0 at *
    have c1 := ((HB.out).cell p).trans (gc_at hp)
    have hp2 : (p : Int) < 64 := by omega
    go_wp2_with (first | (go_at_call 23; (with_reducible refine (isNode_any _ _).mono ?_); rintro e w1 ⟨rfl, rfl⟩; go_frame) | (go_at_call 25; (with_reducible refine (list_any _ _ (hT.ext HX.out)).mono ?_); rintro e w1 ⟨v, rfl, hr, hx⟩; go_frame))
    go_ret
    exact ⟨_, rfl, own_base hr HX.out.size, HX.out.trans hx⟩
  · rw [if_neg hi]
    have hi : isN i = false := by simpa using hi
    go_enter Tryd.func12, Tryd.ntmps12
    go_upto_region 1 with fail
    have HB := hide (Blk.new w (gc E) 27)
    have HX := hide (Ext.alloc w (.cells (gc E) 27))
    generalize (w.alloc (.cells (gc E) 27)) = W0 at *
    go_wp2_with (go_at_call 23; (with_reducible refine (isNode_any _ _).mono ?_); rintro e w1 ⟨rfl, rfl⟩; go_frame)
    go_ret
    exact ⟨_, rfl, own_nil _ _ _ _, HX.out⟩
/-- How many bits a word has. -/
def pcn (x : Int) : Nat := cn x.toNat.testBit 64
theorem pcn_wv (f : NS) : pcn (wv f : Int) = cn f 64 := by
  unfold pcn
  rw [Int.toNat_natCast]
  exact cn_congr fun j hj => by rw [wv_bit]; simp [hj]
theorem reachw_any (E : Gr) {i : Nat} (hi : i < 64) (w : World) (hT : Tb w) : Calls Tryd.prog 26 #[.agg (gc E), .int .i64 (i : Int)] w fun e w' =>
    e = .returned (.int .u64 (wv (wayS E i) : Int)) ∧ Ext w w' := by
  go_enter Tryd.func26, Tryd.ntmps26
  go_upto_region 1 with fail
  have HB := hide (Blk.new w (gc E) 27)
  have HX := hide (Ext.alloc w (.cells (gc E) 27))
  generalize (w.alloc (.cells (gc E) 27)) = W0 at *
  have c1 := ((HB.out).cell i).trans (gc_at hi)
  have hp2 : (i : Int) < 64 := by omega
  go_wp2_with fail
  go_loopw [5, 6] (fun x y wr => wr = W0 ∧ ∃ R L, x = .int .u64 (wv R : Int) ∧ y = .int .u64 (wv L : Int) ∧ Rch E i R L) (fun x _ _ => 64 - pcn (intOf x))
  case atStart => exact ⟨rfl, non, E i, by rw [wv_non]; rfl, rfl, Rch.at0 E i⟩
  case round =>
    obtain ⟨rfl, R, L, rfl, rfl, H⟩ := hrel
    by_cases h0 : wv L = 0
    · have E0 : ((wv L : Int) != 0) = false := by simp [h0]
      have HE := hide (wv_eq (H.fin (wv_zero.1 h0)))
      go_wp2_with fail
      go_ret
      exact ⟨by rw [← HE.out]; rfl, HX.out⟩
    · have E0 : ((wv L : Int) != 0) = true := by simp [h0]
      have hq := ctz_is h0
      generalize Lib.ctz 64 (wv L) = q at *
      have hq1 := hq.1
      have HS := hide (H.step hq)
      have HM := hide (H.more hq)
      have hM := cn_le (uni R (one q)) 64
      have HF := hide (fun w => first_any hq w)
      have HB2 := hide (fun w => bit_any hq1 w)
      have c2 := ((HB.out).cell q).trans (gc_at hq1)
      have hq2 : (q : Int) < 64 := by omega
      have e1 := or_u R (one q)
      have e2 := or_u L (E q)
      have e3 := no_u (uni L (E q)) (uni R (one q))
      clear H h0 hq
      go_wp2_with (first  | (go_at_call 34; (with_reducible refine (HF.out _ (hT.ext HX.out)).mono ?_); rintro e w' ⟨rfl, rfl⟩; go_frame)  | (go_at_call 24; (with_reducible refine (HB2.out _).mono ?_); rintro e w' ⟨rfl, rfl⟩; go_frame))
      go_roundw
      case rel => exact ⟨by first | rfl | trivial, _, _, rfl, rfl, HS.out⟩
      case measure =>
        simp only [intOf, pcn_wv]
        rw [HM.out] at hM ⊢
        omega
theorem reach_any (E : Gr) (i : Int) (w : World) (hT : Tb w) : Calls Tryd.prog 14 #[.agg (gc E), .int .i64 i] w fun e w' =>
    ∃ v, e = .returned v ∧ Row w' w.heap.size v (ofN (wayS E) i) ∧ Ext w w' := by
  unfold ofN
  by_cases hi : isN i = true
  · rw [if_pos hi]
    have hi1 : 0 ≤ i ∧ i < 64 := by simpa [isN] using hi
    obtain ⟨p, rfl⟩ := Int.eq_ofNat_of_zero_le hi1.1
    have hp : p < 64 := by omega
    rw [Int.toNat_natCast]
    clear hi1
    go_enter Tryd.func14, Tryd.ntmps14
    go_upto_region 1 with fail
    have HB := hide (Blk.new w (gc E) 27)
    have HX := hide (Ext.alloc w (.cells (gc E) 27))
    generalize (w.alloc (.cells (gc E) 27)) = W0 at *
    go_wp2_with (first | (go_at_call 23; (with_reducible refine (isNode_any _ _).mono ?_); rintro e w1 ⟨rfl, rfl⟩; go_frame)  | (with_reducible refine get_g rfl _ rfl w.heap.size E rfl HB.out ?_; go_frame)  | (go_at_call 26; (with_reducible refine (reachw_any E hp _ (hT.ext HX.out)).mono ?_); rintro e w1 ⟨rfl, hx⟩; go_frame)  | (go_at_call 25; (with_reducible refine (list_any _ _ (hT.ext (HX.out.trans hx))).mono ?_); rintro e w2 ⟨v, rfl, hr, hx2⟩; go_frame))
    go_ret
    exact ⟨_, rfl, own_base hr (HX.out.trans hx).size, (HX.out.trans hx).trans hx2⟩
  · rw [if_neg hi]
    have hi : isN i = false := by simpa using hi
    go_enter Tryd.func14, Tryd.ntmps14
    go_upto_region 1 with fail
    have HB := hide (Blk.new w (gc E) 27)
    have HX := hide (Ext.alloc w (.cells (gc E) 27))
    generalize (w.alloc (.cells (gc E) 27)) = W0 at *
    go_wp2_with (go_at_call 23; (with_reducible refine (isNode_any _ _).mono ?_); rintro e w1 ⟨rfl, rfl⟩; go_frame)
    go_ret
    exact ⟨_, rfl, own_nil _ _ _ _, HX.out⟩
end Go.Proofs.YtaglpodilepioaaDoor
