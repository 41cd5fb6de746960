/- The program's Ring. -/
import Derived.Test.YtaglpodilepioaaDoorP6
namespace Go.Proofs.YtaglpodilepioaaDoor
open Go.RowKit
set_option linter.unusedSimpArgs false
set_option linter.unusedVariables false
set_option maxRecDepth 100000
set_option maxHeartbeats 4000000


theorem ring_any (E : Gr) (w : World) (hT : Tb w) : Calls Tryd.prog 21 #[.agg (gc E)] w fun e w' =>
    ∃ v, e = .returned v ∧ (∃ L, Row w' w.heap.size v L ∧ RingIs E L) ∧ Ext w w' := by
  go_enter Tryd.func21, Tryd.ntmps21
  go_upto_region 1 with fail
  have HB := hide (Blk.new w (gc E) 27)
  have HX := hide (Ext.alloc w (.cells (gc E) 27))
  generalize (w.alloc (.cells (gc E) 27)) = W0 at *
  go_wp2_with fail
  go_loopw [3, 4, 7] (fun x y i wr => ∃ k l e : Nat, k ≤ 64 ∧ i = .int .i64 (k : Int) ∧ x = .int .i64 (l : Int) ∧ y = .int .i64 (e : Int) ∧ Bst E k l e ∧ e ≤ 64 ∧ Blk wr w.heap.size (gc E) 27 ∧ Ext w wr) (fun _ _ i _ => 64 - (intOf i).toNat)
  case atStart => exact ⟨0, 0, 0, by omega, rfl, rfl, rfl, .inl ⟨rfl, fun j hj => by omega⟩, by omega, HB.out, HX.out⟩
  case round =>
    clear HB HX
    obtain ⟨k, l, e, hk, rfl, rfl, rfl, hb, he64, hB, hX⟩ := hrel
    have HB := hide hB
    have HX := hide hX
    clear hB hX
    by_cases hlt : k < 64
    · have d1 := run_ixi (dist E k) hlt
      have HT := hide (hb.take)
      have HK := hide (hb.keep)
      have hd64 : dist E k k ≤ 64 := by
        by_cases q : dist E k k = 0
        · omega
        · exact dist_le hlt (dist_is q)
      clear hb
      generalize dist E k k = d at *
      by_cases h0 : d = 0
      · have hd : ¬ (0 : Int) < (d : Int) := by omega
        have HN := hide (HK.out (.inl h0))
        clear HT HK
        go_wp2_with (first | (with_reducible refine get_g rfl _ rfl w.heap.size E rfl HB.out ?_; go_frame) | (go_at_call 31; (with_reducible refine (away_any E hlt _).mono ?_); rintro e w1 ⟨rfl, hx⟩; go_frame))
        have HB2 := hide (HB.out.ext hx)
        have HX2 := hide (HX.out.trans hx)
        go_roundw
        case rel => exact ⟨k + 1, l, e, by omega, by go_num, rfl, rfl, HN.out, he64, HB2.out, HX2.out⟩
        case measure => simp [intOf]; omega
      · have hd : (0 : Int) < (d : Int) := by omega
        by_cases h1 : e = 0
        · have E1 : ((e : Int) == 0) = true := by simp [h1]
          have HN := hide (HT.out h0 (.inl h1))
          clear HT HK h1
          go_wp2_with (first | (with_reducible refine get_g rfl _ rfl w.heap.size E rfl HB.out ?_; go_frame) | (go_at_call 31; (with_reducible refine (away_any E hlt _).mono ?_); rintro e w1 ⟨rfl, hx⟩; go_frame))
          have HB2 := hide (HB.out.ext hx)
          have HX2 := hide (HX.out.trans hx)
          go_roundw
          case rel => exact ⟨k + 1, k, d, by omega, by go_num, rfl, rfl, HN.out, by omega, HB2.out, HX2.out⟩
          case measure => simp [intOf]; omega
        · have E1 : ((e : Int) == 0) = false := by simp [h1]
          by_cases h2 : d < e
          · have E2 : (d : Int) < (e : Int) := by omega
            have HN := hide (HT.out h0 (.inr h2))
            clear HT HK h1 h2
            go_wp2_with (first | (with_reducible refine get_g rfl _ rfl w.heap.size E rfl HB.out ?_; go_frame) | (go_at_call 31; (with_reducible refine (away_any E hlt _).mono ?_); rintro e w1 ⟨rfl, hx⟩; go_frame))
            have HB2 := hide (HB.out.ext hx)
            have HX2 := hide (HX.out.trans hx)
            go_roundw
            case rel => exact ⟨k + 1, k, d, by omega, by go_num, rfl, rfl, HN.out, by omega, HB2.out, HX2.out⟩
            case measure => simp [intOf]; omega
          · have E2 : ¬ (d : Int) < (e : Int) := by omega
            have HN := hide (HK.out (.inr ⟨h1, h2⟩))
            clear HT HK h1 h2
            go_wp2_with (first | (with_reducible refine get_g rfl _ rfl w.heap.size E rfl HB.out ?_; go_frame) | (go_at_call 31; (with_reducible refine (away_any E hlt _).mono ?_); rintro e w1 ⟨rfl, hx⟩; go_frame))
            have HB2 := hide (HB.out.ext hx)
            have HX2 := hide (HX.out.trans hx)
            go_roundw
            case rel => exact ⟨k + 1, l, e, by omega, by go_num, rfl, rfl, HN.out, by omega, HB2.out, HX2.out⟩
            case measure => simp [intOf]; omega
    · obtain rfl : k = 64 := by omega
      by_cases h1 : e = 0
      · have E1 : ((e : Int) == 0) = true := by simp [h1]
        have HN := hide hb
        clear hb
        go_wp2_with fail
        go_ret
        refine ⟨_, rfl, ⟨[], own_nil _ _ _ _, .inl ⟨rfl, ?_⟩⟩, HX.out⟩
        rcases HN.out with ⟨_, h⟩ | ⟨h, _⟩
        · exact h
        · omega
      · have E1 : ((e : Int) == 0) = false := by simp [h1]
        have hl64 := (bst_all (by omega) hb).1
        have hD : dist E l l = (e - 1) + 1 := by
          rcases hb with ⟨h, _⟩ | ⟨_, _, h, _⟩
          · omega
          · rw [h]; omega
        have HD := hide (fun w hT => around_any E hl64 hD w hT)
        have HN := hide hb
        clear hb hD
        go_wp2_with (first | (with_reducible refine get_g rfl _ rfl w.heap.size E rfl HB.out ?_; go_frame) | (go_at_call 32; (with_reducible refine (HD.out _ (hT.ext HX.out)).mono ?_); rintro e5 w1 ⟨v, rfl, hr, hx⟩; go_frame))
        go_ret
        exact ⟨_, rfl, ⟨_, own_base hr HX.out.size, .inr ⟨l, e, by omega, HN.out, rfl⟩⟩, HX.out.trans hx⟩
end Go.Proofs.YtaglpodilepioaaDoor
