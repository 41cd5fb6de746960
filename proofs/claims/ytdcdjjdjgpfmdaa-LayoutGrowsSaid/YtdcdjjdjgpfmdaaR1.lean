/- The document's small answers: most, begin, At, cut. -/
import Derived.Test.YtdcdjjdjgpfmdaaP1
namespace Go.Proofs.Ytdcdjjdjgpfmdaa
open Go.RowKit
set_option linter.unusedSimpArgs false
set_option linter.unusedVariables false
set_option maxRecDepth 100000
set_option maxHeartbeats 8000000

theorem rmost_1 (w : World) : Calls Try.prog 15 #[.int .i64 1] w fun e w' => e = .returned (.int .i64 (mostI 1)) ∧ Ext w w' := by
  go_enter Try.func15, Try.ntmps15
  go_wp2_with fail
  go_ret
  exact ⟨rfl, Ext.alloc _ _⟩
theorem rbegin_1 (w : World) : Calls Try.prog 16 #[.int .i64 1] w fun e w' => e = .returned (.int .i64 (begI 1)) ∧ Ext w w' := by
  go_enter Try.func16, Try.ntmps16
  go_wp2_with fail
  go_ret
  exact ⟨rfl, Ext.alloc _ _⟩
theorem rmost_2 (w : World) : Calls Try.prog 15 #[.int .i64 2] w fun e w' => e = .returned (.int .i64 (mostI 2)) ∧ Ext w w' := by
  go_enter Try.func15, Try.ntmps15
  go_wp2_with fail
  go_ret
  exact ⟨rfl, Ext.alloc _ _⟩
theorem rbegin_2 (w : World) : Calls Try.prog 16 #[.int .i64 2] w fun e w' => e = .returned (.int .i64 (begI 2)) ∧ Ext w w' := by
  go_enter Try.func16, Try.ntmps16
  go_wp2_with fail
  go_ret
  exact ⟨rfl, Ext.alloc _ _⟩
theorem rmost_3 (w : World) : Calls Try.prog 15 #[.int .i64 3] w fun e w' => e = .returned (.int .i64 (mostI 3)) ∧ Ext w w' := by
  go_enter Try.func15, Try.ntmps15
  go_wp2_with fail
  go_ret
  exact ⟨rfl, Ext.alloc _ _⟩
theorem rbegin_3 (w : World) : Calls Try.prog 16 #[.int .i64 3] w fun e w' => e = .returned (.int .i64 (begI 3)) ∧ Ext w w' := by
  go_enter Try.func16, Try.ntmps16
  go_wp2_with fail
  go_ret
  exact ⟨rfl, Ext.alloc _ _⟩
theorem rmost_4 (w : World) : Calls Try.prog 15 #[.int .i64 4] w fun e w' => e = .returned (.int .i64 (mostI 4)) ∧ Ext w w' := by
  go_enter Try.func15, Try.ntmps15
  go_wp2_with fail
  go_ret
  exact ⟨rfl, Ext.alloc _ _⟩
theorem rbegin_4 (w : World) : Calls Try.prog 16 #[.int .i64 4] w fun e w' => e = .returned (.int .i64 (begI 4)) ∧ Ext w w' := by
  go_enter Try.func16, Try.ntmps16
  go_wp2_with fail
  go_ret
  exact ⟨rfl, Ext.alloc _ _⟩
theorem rmost_5 (w : World) : Calls Try.prog 15 #[.int .i64 5] w fun e w' => e = .returned (.int .i64 (mostI 5)) ∧ Ext w w' := by
  go_enter Try.func15, Try.ntmps15
  go_wp2_with fail
  go_ret
  exact ⟨rfl, Ext.alloc _ _⟩
theorem rbegin_5 (w : World) : Calls Try.prog 16 #[.int .i64 5] w fun e w' => e = .returned (.int .i64 (begI 5)) ∧ Ext w w' := by
  go_enter Try.func16, Try.ntmps16
  go_wp2_with fail
  go_ret
  exact ⟨rfl, Ext.alloc _ _⟩
theorem rmost_6 (w : World) : Calls Try.prog 15 #[.int .i64 6] w fun e w' => e = .returned (.int .i64 (mostI 6)) ∧ Ext w w' := by
  go_enter Try.func15, Try.ntmps15
  go_wp2_with fail
  go_ret
  exact ⟨rfl, Ext.alloc _ _⟩
theorem rbegin_6 (w : World) : Calls Try.prog 16 #[.int .i64 6] w fun e w' => e = .returned (.int .i64 (begI 6)) ∧ Ext w w' := by
  go_enter Try.func16, Try.ntmps16
  go_wp2_with fail
  go_ret
  exact ⟨rfl, Ext.alloc _ _⟩
theorem rmost_7 (w : World) : Calls Try.prog 15 #[.int .i64 7] w fun e w' => e = .returned (.int .i64 (mostI 7)) ∧ Ext w w' := by
  go_enter Try.func15, Try.ntmps15
  go_wp2_with fail
  go_ret
  exact ⟨rfl, Ext.alloc _ _⟩
theorem rbegin_7 (w : World) : Calls Try.prog 16 #[.int .i64 7] w fun e w' => e = .returned (.int .i64 (begI 7)) ∧ Ext w w' := by
  go_enter Try.func16, Try.ntmps16
  go_wp2_with fail
  go_ret
  exact ⟨rfl, Ext.alloc _ _⟩
theorem rat_1 {i j : Int} (w : World) : Calls Try.prog 10 #[.int .i64 1, .int .i64 i, .int .i64 j] w fun e w' => e = .returned (.int .i64 (atS 1 i j)) ∧ Ext w w' := by
  have HX := hide (Ext.refl w)
  by_cases c1 : i < 0
  · have E := hide (show atS 1 i j = -1 by unfold atS; rw [if_pos (by omega)])
    · go_enter Try.func10, Try.ntmps10
      (go_wp2_with (first
        | (go_at_call 15; (with_reducible refine (rmost_1 _).mono ?_); rintro e w1 ⟨rfl, hb⟩; have HX1 := hide (HX.out.trans hb); rw [mostI_1]; clear hb; go_frame)
        | (go_at_call 16; (with_reducible refine (rbegin_1 _).mono ?_); rintro e w2 ⟨rfl, hb⟩; have HX2 := hide (HX1.out.trans hb); rw [begI_1]; clear hb; go_frame)))
      go_ret
      refine ⟨?_, (by first | exact HX2.out | exact HX1.out | exact HX.out)⟩
      rw [E.out]
      (first | rfl | (simp; done) | (simp; omega))
  · by_cases c2 : 8 ≤ i
    · have E := hide (show atS 1 i j = -1 by unfold atS; rw [if_pos (by rw [mostI_1]; omega)])
      · go_enter Try.func10, Try.ntmps10
        (go_wp2_with (first
          | (go_at_call 15; (with_reducible refine (rmost_1 _).mono ?_); rintro e w1 ⟨rfl, hb⟩; have HX1 := hide (HX.out.trans hb); rw [mostI_1]; clear hb; go_frame)
          | (go_at_call 16; (with_reducible refine (rbegin_1 _).mono ?_); rintro e w2 ⟨rfl, hb⟩; have HX2 := hide (HX1.out.trans hb); rw [begI_1]; clear hb; go_frame)))
        go_ret
        refine ⟨?_, (by first | exact HX2.out | exact HX1.out | exact HX.out)⟩
        rw [E.out]
        (first | rfl | (simp; done) | (simp; omega))
    · have E := hide (show atS 1 i j = 0 + i by unfold atS; rw [if_neg (by rw [mostI_1]; omega), if_neg (by omega), begI_1])
      · go_enter Try.func10, Try.ntmps10
        (go_wp2_with (first
          | (go_at_call 15; (with_reducible refine (rmost_1 _).mono ?_); rintro e w1 ⟨rfl, hb⟩; have HX1 := hide (HX.out.trans hb); rw [mostI_1]; clear hb; go_frame)
          | (go_at_call 16; (with_reducible refine (rbegin_1 _).mono ?_); rintro e w2 ⟨rfl, hb⟩; have HX2 := hide (HX1.out.trans hb); rw [begI_1]; clear hb; go_frame)))
        go_ret
        refine ⟨?_, (by first | exact HX2.out | exact HX1.out | exact HX.out)⟩
        rw [E.out]
        (first | rfl | (simp; done) | (simp; omega))
theorem rat_2 {i j : Int} (w : World) : Calls Try.prog 10 #[.int .i64 2, .int .i64 i, .int .i64 j] w fun e w' => e = .returned (.int .i64 (atS 2 i j)) ∧ Ext w w' := by
  have HX := hide (Ext.refl w)
  by_cases c1 : i < 0
  · have E := hide (show atS 2 i j = -1 by unfold atS; rw [if_pos (by omega)])
    · go_enter Try.func10, Try.ntmps10
      (go_wp2_with (first
        | (go_at_call 15; (with_reducible refine (rmost_2 _).mono ?_); rintro e w1 ⟨rfl, hb⟩; have HX1 := hide (HX.out.trans hb); rw [mostI_2]; clear hb; go_frame)
        | (go_at_call 16; (with_reducible refine (rbegin_2 _).mono ?_); rintro e w2 ⟨rfl, hb⟩; have HX2 := hide (HX1.out.trans hb); rw [begI_2]; clear hb; go_frame)))
      go_ret
      refine ⟨?_, (by first | exact HX2.out | exact HX1.out | exact HX.out)⟩
      rw [E.out]
      (first | rfl | (simp; done) | (simp; omega))
  · by_cases c2 : 4 ≤ i
    · have E := hide (show atS 2 i j = -1 by unfold atS; rw [if_pos (by rw [mostI_2]; omega)])
      · go_enter Try.func10, Try.ntmps10
        (go_wp2_with (first
          | (go_at_call 15; (with_reducible refine (rmost_2 _).mono ?_); rintro e w1 ⟨rfl, hb⟩; have HX1 := hide (HX.out.trans hb); rw [mostI_2]; clear hb; go_frame)
          | (go_at_call 16; (with_reducible refine (rbegin_2 _).mono ?_); rintro e w2 ⟨rfl, hb⟩; have HX2 := hide (HX1.out.trans hb); rw [begI_2]; clear hb; go_frame)))
        go_ret
        refine ⟨?_, (by first | exact HX2.out | exact HX1.out | exact HX.out)⟩
        rw [E.out]
        (first | rfl | (simp; done) | (simp; omega))
    · have E := hide (show atS 2 i j = 8 + i by unfold atS; rw [if_neg (by rw [mostI_2]; omega), if_neg (by omega), begI_2])
      · go_enter Try.func10, Try.ntmps10
        (go_wp2_with (first
          | (go_at_call 15; (with_reducible refine (rmost_2 _).mono ?_); rintro e w1 ⟨rfl, hb⟩; have HX1 := hide (HX.out.trans hb); rw [mostI_2]; clear hb; go_frame)
          | (go_at_call 16; (with_reducible refine (rbegin_2 _).mono ?_); rintro e w2 ⟨rfl, hb⟩; have HX2 := hide (HX1.out.trans hb); rw [begI_2]; clear hb; go_frame)))
        go_ret
        refine ⟨?_, (by first | exact HX2.out | exact HX1.out | exact HX.out)⟩
        rw [E.out]
        (first | rfl | (simp; done) | (simp; omega))
theorem rat_3 {i j : Int} (w : World) : Calls Try.prog 10 #[.int .i64 3, .int .i64 i, .int .i64 j] w fun e w' => e = .returned (.int .i64 (atS 3 i j)) ∧ Ext w w' := by
  have HX := hide (Ext.refl w)
  by_cases c1 : i < 0
  · have E := hide (show atS 3 i j = -1 by unfold atS; rw [if_pos (by omega)])
    · go_enter Try.func10, Try.ntmps10
      (go_wp2_with (first
        | (go_at_call 15; (with_reducible refine (rmost_3 _).mono ?_); rintro e w1 ⟨rfl, hb⟩; have HX1 := hide (HX.out.trans hb); rw [mostI_3]; clear hb; go_frame)
        | (go_at_call 16; (with_reducible refine (rbegin_3 _).mono ?_); rintro e w2 ⟨rfl, hb⟩; have HX2 := hide (HX1.out.trans hb); rw [begI_3]; clear hb; go_frame)))
      go_ret
      refine ⟨?_, (by first | exact HX2.out | exact HX1.out | exact HX.out)⟩
      rw [E.out]
      (first | rfl | (simp; done) | (simp; omega))
  · by_cases c2 : 16 ≤ i
    · have E := hide (show atS 3 i j = -1 by unfold atS; rw [if_pos (by rw [mostI_3]; omega)])
      · go_enter Try.func10, Try.ntmps10
        (go_wp2_with (first
          | (go_at_call 15; (with_reducible refine (rmost_3 _).mono ?_); rintro e w1 ⟨rfl, hb⟩; have HX1 := hide (HX.out.trans hb); rw [mostI_3]; clear hb; go_frame)
          | (go_at_call 16; (with_reducible refine (rbegin_3 _).mono ?_); rintro e w2 ⟨rfl, hb⟩; have HX2 := hide (HX1.out.trans hb); rw [begI_3]; clear hb; go_frame)))
        go_ret
        refine ⟨?_, (by first | exact HX2.out | exact HX1.out | exact HX.out)⟩
        rw [E.out]
        (first | rfl | (simp; done) | (simp; omega))
    · have E := hide (show atS 3 i j = 16 + i by unfold atS; rw [if_neg (by rw [mostI_3]; omega), if_neg (by omega), begI_3])
      · go_enter Try.func10, Try.ntmps10
        (go_wp2_with (first
          | (go_at_call 15; (with_reducible refine (rmost_3 _).mono ?_); rintro e w1 ⟨rfl, hb⟩; have HX1 := hide (HX.out.trans hb); rw [mostI_3]; clear hb; go_frame)
          | (go_at_call 16; (with_reducible refine (rbegin_3 _).mono ?_); rintro e w2 ⟨rfl, hb⟩; have HX2 := hide (HX1.out.trans hb); rw [begI_3]; clear hb; go_frame)))
        go_ret
        refine ⟨?_, (by first | exact HX2.out | exact HX1.out | exact HX.out)⟩
        rw [E.out]
        (first | rfl | (simp; done) | (simp; omega))
theorem rat_4 {i j : Int} (w : World) : Calls Try.prog 10 #[.int .i64 4, .int .i64 i, .int .i64 j] w fun e w' => e = .returned (.int .i64 (atS 4 i j)) ∧ Ext w w' := by
  have HX := hide (Ext.refl w)
  by_cases c1 : i < 0
  · have E := hide (show atS 4 i j = -1 by unfold atS; rw [if_pos (by omega)])
    · go_enter Try.func10, Try.ntmps10
      (go_wp2_with (first
        | (go_at_call 15; (with_reducible refine (rmost_4 _).mono ?_); rintro e w1 ⟨rfl, hb⟩; have HX1 := hide (HX.out.trans hb); rw [mostI_4]; clear hb; go_frame)
        | (go_at_call 16; (with_reducible refine (rbegin_4 _).mono ?_); rintro e w2 ⟨rfl, hb⟩; have HX2 := hide (HX1.out.trans hb); rw [begI_4]; clear hb; go_frame)))
      go_ret
      refine ⟨?_, (by first | exact HX2.out | exact HX1.out | exact HX.out)⟩
      rw [E.out]
      (first | rfl | (simp; done) | (simp; omega))
  · by_cases c2 : 16 ≤ i
    · have E := hide (show atS 4 i j = -1 by unfold atS; rw [if_pos (by rw [mostI_4]; omega)])
      · go_enter Try.func10, Try.ntmps10
        (go_wp2_with (first
          | (go_at_call 15; (with_reducible refine (rmost_4 _).mono ?_); rintro e w1 ⟨rfl, hb⟩; have HX1 := hide (HX.out.trans hb); rw [mostI_4]; clear hb; go_frame)
          | (go_at_call 16; (with_reducible refine (rbegin_4 _).mono ?_); rintro e w2 ⟨rfl, hb⟩; have HX2 := hide (HX1.out.trans hb); rw [begI_4]; clear hb; go_frame)))
        go_ret
        refine ⟨?_, (by first | exact HX2.out | exact HX1.out | exact HX.out)⟩
        rw [E.out]
        (first | rfl | (simp; done) | (simp; omega))
    · have E := hide (show atS 4 i j = 32 + i by unfold atS; rw [if_neg (by rw [mostI_4]; omega), if_neg (by omega), begI_4])
      · go_enter Try.func10, Try.ntmps10
        (go_wp2_with (first
          | (go_at_call 15; (with_reducible refine (rmost_4 _).mono ?_); rintro e w1 ⟨rfl, hb⟩; have HX1 := hide (HX.out.trans hb); rw [mostI_4]; clear hb; go_frame)
          | (go_at_call 16; (with_reducible refine (rbegin_4 _).mono ?_); rintro e w2 ⟨rfl, hb⟩; have HX2 := hide (HX1.out.trans hb); rw [begI_4]; clear hb; go_frame)))
        go_ret
        refine ⟨?_, (by first | exact HX2.out | exact HX1.out | exact HX.out)⟩
        rw [E.out]
        (first | rfl | (simp; done) | (simp; omega))
theorem rat_5 {i j : Int} (w : World) : Calls Try.prog 10 #[.int .i64 5, .int .i64 i, .int .i64 j] w fun e w' => e = .returned (.int .i64 (atS 5 i j)) ∧ Ext w w' := by
  have HX := hide (Ext.refl w)
  by_cases c1 : i < 0
  · have E := hide (show atS 5 i j = -1 by unfold atS; rw [if_pos (by omega)])
    · go_enter Try.func10, Try.ntmps10
      (go_wp2_with (first
        | (go_at_call 15; (with_reducible refine (rmost_5 _).mono ?_); rintro e w1 ⟨rfl, hb⟩; have HX1 := hide (HX.out.trans hb); rw [mostI_5]; clear hb; go_frame)
        | (go_at_call 16; (with_reducible refine (rbegin_5 _).mono ?_); rintro e w2 ⟨rfl, hb⟩; have HX2 := hide (HX1.out.trans hb); rw [begI_5]; clear hb; go_frame)))
      go_ret
      refine ⟨?_, (by first | exact HX2.out | exact HX1.out | exact HX.out)⟩
      rw [E.out]
      (first | rfl | (simp; done) | (simp; omega))
  · by_cases c2 : 8 ≤ i
    · have E := hide (show atS 5 i j = -1 by unfold atS; rw [if_pos (by rw [mostI_5]; omega)])
      · go_enter Try.func10, Try.ntmps10
        (go_wp2_with (first
          | (go_at_call 15; (with_reducible refine (rmost_5 _).mono ?_); rintro e w1 ⟨rfl, hb⟩; have HX1 := hide (HX.out.trans hb); rw [mostI_5]; clear hb; go_frame)
          | (go_at_call 16; (with_reducible refine (rbegin_5 _).mono ?_); rintro e w2 ⟨rfl, hb⟩; have HX2 := hide (HX1.out.trans hb); rw [begI_5]; clear hb; go_frame)))
        go_ret
        refine ⟨?_, (by first | exact HX2.out | exact HX1.out | exact HX.out)⟩
        rw [E.out]
        (first | rfl | (simp; done) | (simp; omega))
    · have E := hide (show atS 5 i j = 48 + i by unfold atS; rw [if_neg (by rw [mostI_5]; omega), if_neg (by omega), begI_5])
      · go_enter Try.func10, Try.ntmps10
        (go_wp2_with (first
          | (go_at_call 15; (with_reducible refine (rmost_5 _).mono ?_); rintro e w1 ⟨rfl, hb⟩; have HX1 := hide (HX.out.trans hb); rw [mostI_5]; clear hb; go_frame)
          | (go_at_call 16; (with_reducible refine (rbegin_5 _).mono ?_); rintro e w2 ⟨rfl, hb⟩; have HX2 := hide (HX1.out.trans hb); rw [begI_5]; clear hb; go_frame)))
        go_ret
        refine ⟨?_, (by first | exact HX2.out | exact HX1.out | exact HX.out)⟩
        rw [E.out]
        (first | rfl | (simp; done) | (simp; omega))
theorem rat_6 {i j : Int} (w : World) : Calls Try.prog 10 #[.int .i64 6, .int .i64 i, .int .i64 j] w fun e w' => e = .returned (.int .i64 (atS 6 i j)) ∧ Ext w w' := by
  have HX := hide (Ext.refl w)
  by_cases c1 : i < 0
  · have E := hide (show atS 6 i j = -1 by unfold atS; rw [if_pos (by omega)])
    · go_enter Try.func10, Try.ntmps10
      (go_wp2_with (first
        | (go_at_call 15; (with_reducible refine (rmost_6 _).mono ?_); rintro e w1 ⟨rfl, hb⟩; have HX1 := hide (HX.out.trans hb); rw [mostI_6]; clear hb; go_frame)
        | (go_at_call 16; (with_reducible refine (rbegin_6 _).mono ?_); rintro e w2 ⟨rfl, hb⟩; have HX2 := hide (HX1.out.trans hb); rw [begI_6]; clear hb; go_frame)))
      go_ret
      refine ⟨?_, (by first | exact HX2.out | exact HX1.out | exact HX.out)⟩
      rw [E.out]
      (first | rfl | (simp; done) | (simp; omega))
  · by_cases c2 : 8 ≤ i
    · have E := hide (show atS 6 i j = -1 by unfold atS; rw [if_pos (by rw [mostI_6]; omega)])
      · go_enter Try.func10, Try.ntmps10
        (go_wp2_with (first
          | (go_at_call 15; (with_reducible refine (rmost_6 _).mono ?_); rintro e w1 ⟨rfl, hb⟩; have HX1 := hide (HX.out.trans hb); rw [mostI_6]; clear hb; go_frame)
          | (go_at_call 16; (with_reducible refine (rbegin_6 _).mono ?_); rintro e w2 ⟨rfl, hb⟩; have HX2 := hide (HX1.out.trans hb); rw [begI_6]; clear hb; go_frame)))
        go_ret
        refine ⟨?_, (by first | exact HX2.out | exact HX1.out | exact HX.out)⟩
        rw [E.out]
        (first | rfl | (simp; done) | (simp; omega))
    · have E := hide (show atS 6 i j = 56 + i by unfold atS; rw [if_neg (by rw [mostI_6]; omega), if_neg (by omega), begI_6])
      · go_enter Try.func10, Try.ntmps10
        (go_wp2_with (first
          | (go_at_call 15; (with_reducible refine (rmost_6 _).mono ?_); rintro e w1 ⟨rfl, hb⟩; have HX1 := hide (HX.out.trans hb); rw [mostI_6]; clear hb; go_frame)
          | (go_at_call 16; (with_reducible refine (rbegin_6 _).mono ?_); rintro e w2 ⟨rfl, hb⟩; have HX2 := hide (HX1.out.trans hb); rw [begI_6]; clear hb; go_frame)))
        go_ret
        refine ⟨?_, (by first | exact HX2.out | exact HX1.out | exact HX.out)⟩
        rw [E.out]
        (first | rfl | (simp; done) | (simp; omega))
theorem rat_7 {i j : Int} (w : World) : Calls Try.prog 10 #[.int .i64 7, .int .i64 i, .int .i64 j] w fun e w' => e = .returned (.int .i64 (atS 7 i j)) ∧ Ext w w' := by
  have HX := hide (Ext.refl w)
  by_cases c1 : i < 0
  · have E := hide (show atS 7 i j = -1 by unfold atS; rw [if_pos (by omega)])
    · go_enter Try.func10, Try.ntmps10
      (go_wp2_with (first
        | (go_at_call 15; (with_reducible refine (rmost_7 _).mono ?_); rintro e w1 ⟨rfl, hb⟩; have HX1 := hide (HX.out.trans hb); rw [mostI_7]; clear hb; go_frame)
        | (go_at_call 16; (with_reducible refine (rbegin_7 _).mono ?_); rintro e w2 ⟨rfl, hb⟩; have HX2 := hide (HX1.out.trans hb); rw [begI_7]; clear hb; go_frame)))
      go_ret
      refine ⟨?_, (by first | exact HX2.out | exact HX1.out | exact HX.out)⟩
      rw [E.out]
      (first | rfl | (simp; done) | (simp; omega))
  · by_cases c2 : 8 ≤ i
    · have E := hide (show atS 7 i j = -1 by unfold atS; rw [if_pos (by rw [mostI_7]; omega)])
      · go_enter Try.func10, Try.ntmps10
        (go_wp2_with (first
          | (go_at_call 15; (with_reducible refine (rmost_7 _).mono ?_); rintro e w1 ⟨rfl, hb⟩; have HX1 := hide (HX.out.trans hb); rw [mostI_7]; clear hb; go_frame)
          | (go_at_call 16; (with_reducible refine (rbegin_7 _).mono ?_); rintro e w2 ⟨rfl, hb⟩; have HX2 := hide (HX1.out.trans hb); rw [begI_7]; clear hb; go_frame)))
        go_ret
        refine ⟨?_, (by first | exact HX2.out | exact HX1.out | exact HX.out)⟩
        rw [E.out]
        (first | rfl | (simp; done) | (simp; omega))
    · by_cases c3 : j < 0
      · have E := hide (show atS 7 i j = -1 by unfold atS; rw [if_neg (by rw [mostI_7]; omega), if_pos rfl, if_pos (by omega)])
        · go_enter Try.func10, Try.ntmps10
          (go_wp2_with (first
            | (go_at_call 15; (with_reducible refine (rmost_7 _).mono ?_); rintro e w1 ⟨rfl, hb⟩; have HX1 := hide (HX.out.trans hb); rw [mostI_7]; clear hb; go_frame)
            | (go_at_call 16; (with_reducible refine (rbegin_7 _).mono ?_); rintro e w2 ⟨rfl, hb⟩; have HX2 := hide (HX1.out.trans hb); rw [begI_7]; clear hb; go_frame)))
          go_ret
          refine ⟨?_, (by first | exact HX2.out | exact HX1.out | exact HX.out)⟩
          rw [E.out]
          (first | rfl | (simp; done) | (simp; omega))
      · by_cases c4 : 7 < j
        · have E := hide (show atS 7 i j = -1 by unfold atS; rw [if_neg (by rw [mostI_7]; omega), if_pos rfl, if_pos (by omega)])
          · go_enter Try.func10, Try.ntmps10
            (go_wp2_with (first
              | (go_at_call 15; (with_reducible refine (rmost_7 _).mono ?_); rintro e w1 ⟨rfl, hb⟩; have HX1 := hide (HX.out.trans hb); rw [mostI_7]; clear hb; go_frame)
              | (go_at_call 16; (with_reducible refine (rbegin_7 _).mono ?_); rintro e w2 ⟨rfl, hb⟩; have HX2 := hide (HX1.out.trans hb); rw [begI_7]; clear hb; go_frame)))
            go_ret
            refine ⟨?_, (by first | exact HX2.out | exact HX1.out | exact HX.out)⟩
            rw [E.out]
            (first | rfl | (simp; done) | (simp; omega))
        · have E := hide (show atS 7 i j = 64 + 8 * i + j by unfold atS; rw [if_neg (by rw [mostI_7]; omega), if_pos rfl, if_neg (by omega)])
          · go_enter Try.func10, Try.ntmps10
            (go_wp2_with (first
              | (go_at_call 15; (with_reducible refine (rmost_7 _).mono ?_); rintro e w1 ⟨rfl, hb⟩; have HX1 := hide (HX.out.trans hb); rw [mostI_7]; clear hb; go_frame)
              | (go_at_call 16; (with_reducible refine (rbegin_7 _).mono ?_); rintro e w2 ⟨rfl, hb⟩; have HX2 := hide (HX1.out.trans hb); rw [begI_7]; clear hb; go_frame)))
            go_ret
            refine ⟨?_, (by first | exact HX2.out | exact HX1.out | exact HX.out)⟩
            rw [E.out]
            (first | rfl | (simp; done) | (simp; omega))
theorem rat_any (k i j : Int) (w : World) : Calls Try.prog 10 #[.int .i64 k, .int .i64 i, .int .i64 j] w fun e w' => e = .returned (.int .i64 (atS k i j)) ∧ Ext w w' := by
  by_cases h : k < 1 ∨ 7 < k
  · have E := hide (show atS k i j = -1 by unfold atS; rw [if_pos (by omega)])
    rw [E.out]
    have hX := Ext.refl w
    rcases h with h | h
    · go_enter Try.func10, Try.ntmps10
      go_wp2_with fail
      go_ret
      exact ⟨rfl, hX⟩
    · have h2 : ¬ k < 1 := by omega
      go_enter Try.func10, Try.ntmps10
      go_wp2_with fail
      go_ret
      exact ⟨rfl, hX⟩
  · rcases kinds h with rfl | rfl | rfl | rfl | rfl | rfl | rfl
    · exact rat_1 w
    · exact rat_2 w
    · exact rat_3 w
    · exact rat_4 w
    · exact rat_5 w
    · exact rat_6 w
    · exact rat_7 w
theorem rmost_any {k : Int} (h : ¬ (k < 1 ∨ 7 < k)) (w : World) : Calls Try.prog 15 #[.int .i64 k] w fun e w' => e = .returned (.int .i64 (mostI k)) ∧ Ext w w' := by
  rcases kinds h with rfl | rfl | rfl | rfl | rfl | rfl | rfl
  · exact rmost_1 w
  · exact rmost_2 w
  · exact rmost_3 w
  · exact rmost_4 w
  · exact rmost_5 w
  · exact rmost_6 w
  · exact rmost_7 w
theorem rcut_any (n : Int) (top : Int) (ht : 0 ≤ top) (w : World) : Calls Try.prog 17 #[.int .i64 n, .int .i64 top] w fun e w' => e = .returned (.int .i64 (cutI n top)) ∧ Ext w w' := by
  have hX := Ext.refl w
  by_cases c1 : n < 0
  · have E := hide (show cutI n top = 0 by unfold cutI; rw [if_pos c1])
    · go_enter Try.func17, Try.ntmps17
      go_wp2_with fail
      all_goals
        go_ret
        exact ⟨by rw [E.out]; rfl, hX⟩
  · by_cases c2 : top < n
    · have E := hide (show cutI n top = top by unfold cutI; rw [if_neg c1, if_pos c2])
      · go_enter Try.func17, Try.ntmps17
        go_wp2_with fail
        all_goals
          go_ret
          exact ⟨by rw [E.out]; rfl, hX⟩
    · have E := hide (show cutI n top = n by unfold cutI; rw [if_neg c1, if_neg c2])
      · go_enter Try.func17, Try.ntmps17
        go_wp2_with fail
        all_goals
          go_ret
          exact ⟨by rw [E.out]; rfl, hX⟩
end Go.Proofs.Ytdcdjjdjgpfmdaa
