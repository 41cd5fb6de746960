/- The program's What. -/
import Derived.Test.YtdcdjjdjgpfmdaaP1
namespace Go.Proofs.Ytdcdjjdjgpfmdaa
open Go.RowKit
set_option linter.unusedSimpArgs false
set_option linter.unusedVariables false
set_option maxRecDepth 100000
set_option maxHeartbeats 8000000

theorem what_any (a : Int) (w : World) : Calls Try.prog 7 #[.int .i64 a] w fun e w' => e = .returned (.tuple #[.int .i64 (kN a), .int .i64 (iN a), .int .i64 (jN a)]) ∧ Ext w w' := by
  have KC := hide (kN_cases a)
  have hW := Ext.refl w
  go_enter Try.func7, Try.ntmps7
  go_wp2_with (go_at_call 14; (with_reducible refine (parts_any _).mono ?_); rintro e w1 ⟨rfl, hb⟩; have HX0 := hide (hW.trans hb); clear hb; go_frame)
  go_loopw [8] (fun i wr => ∃ j : Nat, j ≤ 8 ∧ i = .int .i64 (j : Int) ∧ (kN a = 0 ∨ (j : Int) ≤ kN a) ∧ Ext w wr) (fun i _ => 8 - (intOf i).toNat)
  case atStart => exact ⟨0, by omega, rfl, by have := kN_rng a; omega, HX0.out⟩
  case round =>
    clear HX0
    obtain ⟨j, hj, rfl, hj2, hX⟩ := hrel
    have HX := hide hX
    have hX := Ext.refl wr
    rcases (by omega : j = 0 ∨ j = 1 ∨ j = 2 ∨ j = 3 ∨ j = 4 ∨ j = 5 ∨ j = 6 ∨ j = 7 ∨ j = 8) with rfl | rfl | rfl | rfl | rfl | rfl | rfl | rfl | rfl
    · have IX := ix_0
      have KR := hide (kN_rng a)
      by_cases c1 : a < 0
      · have hk : kN a = 0 ∨ 0 + 1 ≤ kN a := by rcases KC.out with c | c | c | c | c | c | c | c <;> omega
        go_wp2_with fail
        go_roundw
        case rel => exact ⟨0 + 1, by omega, by go_num, hk, HX.out.trans (by repeat (first | exact Ext.refl _ | exact Ext.alloc _ _ | exact Ext.drewN _ _ | assumption | refine Ext.trans ?_ (Ext.alloc _ _) | refine Ext.trans ?_ (Ext.drew _) | refine Ext.trans ?_ (by assumption)))⟩
        case measure => simp [intOf]
      · have hk : kN a = 0 ∨ 0 + 1 ≤ kN a := by rcases KC.out with c | c | c | c | c | c | c | c <;> omega
        go_wp2_with fail
        go_roundw
        case rel => exact ⟨0 + 1, by omega, by go_num, hk, HX.out.trans (by repeat (first | exact Ext.refl _ | exact Ext.alloc _ _ | exact Ext.drewN _ _ | assumption | refine Ext.trans ?_ (Ext.alloc _ _) | refine Ext.trans ?_ (Ext.drew _) | refine Ext.trans ?_ (by assumption)))⟩
        case measure => simp [intOf]
    · have IX := ix_1
      by_cases c1 : a < 0
      · have hk : kN a = 0 ∨ 1 + 1 ≤ kN a := by rcases KC.out with c | c | c | c | c | c | c | c <;> omega
        go_wp2_with fail
        go_roundw
        case rel => exact ⟨1 + 1, by omega, by go_num, hk, HX.out.trans (by repeat (first | exact Ext.refl _ | exact Ext.alloc _ _ | exact Ext.drewN _ _ | assumption | refine Ext.trans ?_ (Ext.alloc _ _) | refine Ext.trans ?_ (Ext.drew _) | refine Ext.trans ?_ (by assumption)))⟩
        case measure => simp [intOf]
      · by_cases c2 : a < 0 + 8
        · have E1 := hide (show kN a = 1 by rcases KC.out with c | c | c | c | c | c | c | c <;> omega)
          have E2 := hide (show iN a = a - 0 by rw [iN_k (by have := E1.out; omega) (by have := E1.out; omega), E1.out, begI_1])
          have E3 := hide (show jN a = 0 by rw [jN_0 (by have := E1.out; omega)])
          go_wp2_with fail
          go_region
          go_wp2_with fail
          go_ret3
          refine ⟨?_, HX.out.trans (by repeat (first | exact Ext.refl _ | exact Ext.alloc _ _ | exact Ext.drewN _ _ | assumption | refine Ext.trans ?_ (Ext.alloc _ _) | refine Ext.trans ?_ (Ext.drew _) | refine Ext.trans ?_ (by assumption)))⟩
          rw [E1.out, E2.out, E3.out]
          (first | rfl | (simp; done) | (simp; omega))
        · have hk : kN a = 0 ∨ 1 + 1 ≤ kN a := by rcases KC.out with c | c | c | c | c | c | c | c <;> omega
          go_wp2_with fail
          go_roundw
          case rel => exact ⟨1 + 1, by omega, by go_num, hk, HX.out.trans (by repeat (first | exact Ext.refl _ | exact Ext.alloc _ _ | exact Ext.drewN _ _ | assumption | refine Ext.trans ?_ (Ext.alloc _ _) | refine Ext.trans ?_ (Ext.drew _) | refine Ext.trans ?_ (by assumption)))⟩
          case measure => simp [intOf]
    · have IX := ix_2
      by_cases c1 : a < 8
      · have hk : kN a = 0 ∨ 2 + 1 ≤ kN a := by rcases KC.out with c | c | c | c | c | c | c | c <;> omega
        go_wp2_with fail
        go_roundw
        case rel => exact ⟨2 + 1, by omega, by go_num, hk, HX.out.trans (by repeat (first | exact Ext.refl _ | exact Ext.alloc _ _ | exact Ext.drewN _ _ | assumption | refine Ext.trans ?_ (Ext.alloc _ _) | refine Ext.trans ?_ (Ext.drew _) | refine Ext.trans ?_ (by assumption)))⟩
        case measure => simp [intOf]
      · by_cases c2 : a < 8 + 4
        · have E1 := hide (show kN a = 2 by rcases KC.out with c | c | c | c | c | c | c | c <;> omega)
          have E2 := hide (show iN a = a - 8 by rw [iN_k (by have := E1.out; omega) (by have := E1.out; omega), E1.out, begI_2])
          have E3 := hide (show jN a = 0 by rw [jN_0 (by have := E1.out; omega)])
          go_wp2_with fail
          go_region
          go_wp2_with fail
          go_ret3
          refine ⟨?_, HX.out.trans (by repeat (first | exact Ext.refl _ | exact Ext.alloc _ _ | exact Ext.drewN _ _ | assumption | refine Ext.trans ?_ (Ext.alloc _ _) | refine Ext.trans ?_ (Ext.drew _) | refine Ext.trans ?_ (by assumption)))⟩
          rw [E1.out, E2.out, E3.out]
          (first | rfl | (simp; done) | (simp; omega))
        · have hk : kN a = 0 ∨ 2 + 1 ≤ kN a := by rcases KC.out with c | c | c | c | c | c | c | c <;> omega
          go_wp2_with fail
          go_roundw
          case rel => exact ⟨2 + 1, by omega, by go_num, hk, HX.out.trans (by repeat (first | exact Ext.refl _ | exact Ext.alloc _ _ | exact Ext.drewN _ _ | assumption | refine Ext.trans ?_ (Ext.alloc _ _) | refine Ext.trans ?_ (Ext.drew _) | refine Ext.trans ?_ (by assumption)))⟩
          case measure => simp [intOf]
    · have IX := ix_3
      by_cases c1 : a < 16
      · have hk : kN a = 0 ∨ 3 + 1 ≤ kN a := by rcases KC.out with c | c | c | c | c | c | c | c <;> omega
        go_wp2_with fail
        go_roundw
        case rel => exact ⟨3 + 1, by omega, by go_num, hk, HX.out.trans (by repeat (first | exact Ext.refl _ | exact Ext.alloc _ _ | exact Ext.drewN _ _ | assumption | refine Ext.trans ?_ (Ext.alloc _ _) | refine Ext.trans ?_ (Ext.drew _) | refine Ext.trans ?_ (by assumption)))⟩
        case measure => simp [intOf]
      · by_cases c2 : a < 16 + 16
        · have E1 := hide (show kN a = 3 by rcases KC.out with c | c | c | c | c | c | c | c <;> omega)
          have E2 := hide (show iN a = a - 16 by rw [iN_k (by have := E1.out; omega) (by have := E1.out; omega), E1.out, begI_3])
          have E3 := hide (show jN a = 0 by rw [jN_0 (by have := E1.out; omega)])
          go_wp2_with fail
          go_region
          go_wp2_with fail
          go_ret3
          refine ⟨?_, HX.out.trans (by repeat (first | exact Ext.refl _ | exact Ext.alloc _ _ | exact Ext.drewN _ _ | assumption | refine Ext.trans ?_ (Ext.alloc _ _) | refine Ext.trans ?_ (Ext.drew _) | refine Ext.trans ?_ (by assumption)))⟩
          rw [E1.out, E2.out, E3.out]
          (first | rfl | (simp; done) | (simp; omega))
        · have hk : kN a = 0 ∨ 3 + 1 ≤ kN a := by rcases KC.out with c | c | c | c | c | c | c | c <;> omega
          go_wp2_with fail
          go_roundw
          case rel => exact ⟨3 + 1, by omega, by go_num, hk, HX.out.trans (by repeat (first | exact Ext.refl _ | exact Ext.alloc _ _ | exact Ext.drewN _ _ | assumption | refine Ext.trans ?_ (Ext.alloc _ _) | refine Ext.trans ?_ (Ext.drew _) | refine Ext.trans ?_ (by assumption)))⟩
          case measure => simp [intOf]
    · have IX := ix_4
      by_cases c1 : a < 32
      · have hk : kN a = 0 ∨ 4 + 1 ≤ kN a := by rcases KC.out with c | c | c | c | c | c | c | c <;> omega
        go_wp2_with fail
        go_roundw
        case rel => exact ⟨4 + 1, by omega, by go_num, hk, HX.out.trans (by repeat (first | exact Ext.refl _ | exact Ext.alloc _ _ | exact Ext.drewN _ _ | assumption | refine Ext.trans ?_ (Ext.alloc _ _) | refine Ext.trans ?_ (Ext.drew _) | refine Ext.trans ?_ (by assumption)))⟩
        case measure => simp [intOf]
      · by_cases c2 : a < 32 + 16
        · have E1 := hide (show kN a = 4 by rcases KC.out with c | c | c | c | c | c | c | c <;> omega)
          have E2 := hide (show iN a = a - 32 by rw [iN_k (by have := E1.out; omega) (by have := E1.out; omega), E1.out, begI_4])
          have E3 := hide (show jN a = 0 by rw [jN_0 (by have := E1.out; omega)])
          go_wp2_with fail
          go_region
          go_wp2_with fail
          go_ret3
          refine ⟨?_, HX.out.trans (by repeat (first | exact Ext.refl _ | exact Ext.alloc _ _ | exact Ext.drewN _ _ | assumption | refine Ext.trans ?_ (Ext.alloc _ _) | refine Ext.trans ?_ (Ext.drew _) | refine Ext.trans ?_ (by assumption)))⟩
          rw [E1.out, E2.out, E3.out]
          (first | rfl | (simp; done) | (simp; omega))
        · have hk : kN a = 0 ∨ 4 + 1 ≤ kN a := by rcases KC.out with c | c | c | c | c | c | c | c <;> omega
          go_wp2_with fail
          go_roundw
          case rel => exact ⟨4 + 1, by omega, by go_num, hk, HX.out.trans (by repeat (first | exact Ext.refl _ | exact Ext.alloc _ _ | exact Ext.drewN _ _ | assumption | refine Ext.trans ?_ (Ext.alloc _ _) | refine Ext.trans ?_ (Ext.drew _) | refine Ext.trans ?_ (by assumption)))⟩
          case measure => simp [intOf]
    · have IX := ix_5
      by_cases c1 : a < 48
      · have hk : kN a = 0 ∨ 5 + 1 ≤ kN a := by rcases KC.out with c | c | c | c | c | c | c | c <;> omega
        go_wp2_with fail
        go_roundw
        case rel => exact ⟨5 + 1, by omega, by go_num, hk, HX.out.trans (by repeat (first | exact Ext.refl _ | exact Ext.alloc _ _ | exact Ext.drewN _ _ | assumption | refine Ext.trans ?_ (Ext.alloc _ _) | refine Ext.trans ?_ (Ext.drew _) | refine Ext.trans ?_ (by assumption)))⟩
        case measure => simp [intOf]
      · by_cases c2 : a < 48 + 8
        · have E1 := hide (show kN a = 5 by rcases KC.out with c | c | c | c | c | c | c | c <;> omega)
          have E2 := hide (show iN a = a - 48 by rw [iN_k (by have := E1.out; omega) (by have := E1.out; omega), E1.out, begI_5])
          have E3 := hide (show jN a = 0 by rw [jN_0 (by have := E1.out; omega)])
          go_wp2_with fail
          go_region
          go_wp2_with fail
          go_ret3
          refine ⟨?_, HX.out.trans (by repeat (first | exact Ext.refl _ | exact Ext.alloc _ _ | exact Ext.drewN _ _ | assumption | refine Ext.trans ?_ (Ext.alloc _ _) | refine Ext.trans ?_ (Ext.drew _) | refine Ext.trans ?_ (by assumption)))⟩
          rw [E1.out, E2.out, E3.out]
          (first | rfl | (simp; done) | (simp; omega))
        · have hk : kN a = 0 ∨ 5 + 1 ≤ kN a := by rcases KC.out with c | c | c | c | c | c | c | c <;> omega
          go_wp2_with fail
          go_roundw
          case rel => exact ⟨5 + 1, by omega, by go_num, hk, HX.out.trans (by repeat (first | exact Ext.refl _ | exact Ext.alloc _ _ | exact Ext.drewN _ _ | assumption | refine Ext.trans ?_ (Ext.alloc _ _) | refine Ext.trans ?_ (Ext.drew _) | refine Ext.trans ?_ (by assumption)))⟩
          case measure => simp [intOf]
    · have IX := ix_6
      by_cases c1 : a < 56
      · have hk : kN a = 0 ∨ 6 + 1 ≤ kN a := by rcases KC.out with c | c | c | c | c | c | c | c <;> omega
        go_wp2_with fail
        go_roundw
        case rel => exact ⟨6 + 1, by omega, by go_num, hk, HX.out.trans (by repeat (first | exact Ext.refl _ | exact Ext.alloc _ _ | exact Ext.drewN _ _ | assumption | refine Ext.trans ?_ (Ext.alloc _ _) | refine Ext.trans ?_ (Ext.drew _) | refine Ext.trans ?_ (by assumption)))⟩
        case measure => simp [intOf]
      · by_cases c2 : a < 56 + 8
        · have E1 := hide (show kN a = 6 by rcases KC.out with c | c | c | c | c | c | c | c <;> omega)
          have E2 := hide (show iN a = a - 56 by rw [iN_k (by have := E1.out; omega) (by have := E1.out; omega), E1.out, begI_6])
          have E3 := hide (show jN a = 0 by rw [jN_0 (by have := E1.out; omega)])
          go_wp2_with fail
          go_region
          go_wp2_with fail
          go_ret3
          refine ⟨?_, HX.out.trans (by repeat (first | exact Ext.refl _ | exact Ext.alloc _ _ | exact Ext.drewN _ _ | assumption | refine Ext.trans ?_ (Ext.alloc _ _) | refine Ext.trans ?_ (Ext.drew _) | refine Ext.trans ?_ (by assumption)))⟩
          rw [E1.out, E2.out, E3.out]
          (first | rfl | (simp; done) | (simp; omega))
        · have hk : kN a = 0 ∨ 6 + 1 ≤ kN a := by rcases KC.out with c | c | c | c | c | c | c | c <;> omega
          go_wp2_with fail
          go_roundw
          case rel => exact ⟨6 + 1, by omega, by go_num, hk, HX.out.trans (by repeat (first | exact Ext.refl _ | exact Ext.alloc _ _ | exact Ext.drewN _ _ | assumption | refine Ext.trans ?_ (Ext.alloc _ _) | refine Ext.trans ?_ (Ext.drew _) | refine Ext.trans ?_ (by assumption)))⟩
          case measure => simp [intOf]
    · have IX := ix_7
      by_cases c1 : a < 64
      · have hk : kN a = 0 ∨ 7 + 1 ≤ kN a := by rcases KC.out with c | c | c | c | c | c | c | c <;> omega
        go_wp2_with fail
        go_roundw
        case rel => exact ⟨7 + 1, by omega, by go_num, hk, HX.out.trans (by repeat (first | exact Ext.refl _ | exact Ext.alloc _ _ | exact Ext.drewN _ _ | assumption | refine Ext.trans ?_ (Ext.alloc _ _) | refine Ext.trans ?_ (Ext.drew _) | refine Ext.trans ?_ (by assumption)))⟩
        case measure => simp [intOf]
      · by_cases c2 : a < 128
        · have E1 := hide (show kN a = 7 by rcases KC.out with c | c | c | c | c | c | c | c <;> omega)
          have E2 := hide (show iN a = (a - 64) / 8 by rw [iN_7 E1.out])
          have E3 := hide (show jN a = (a - 64) % 8 by rw [jN_7 E1.out])
          have T1 : (a - 64).tdiv 8 = (a - 64) / 8 := Int.tdiv_eq_ediv_of_nonneg (by omega)
          have T2 : (a - 64).tmod 8 = (a - 64) % 8 := Int.tmod_eq_emod_of_nonneg (by omega)
          go_wp2_with fail
          go_region
          go_wp2_with fail
          go_ret3
          refine ⟨?_, HX.out.trans (by repeat (first | exact Ext.refl _ | exact Ext.alloc _ _ | exact Ext.drewN _ _ | assumption | refine Ext.trans ?_ (Ext.alloc _ _) | refine Ext.trans ?_ (Ext.drew _) | refine Ext.trans ?_ (by assumption)))⟩
          rw [E1.out, E2.out, E3.out]
          (first | rfl | (simp; done) | (simp; omega))
        · have hk : kN a = 0 ∨ 7 + 1 ≤ kN a := by rcases KC.out with c | c | c | c | c | c | c | c <;> omega
          go_wp2_with fail
          go_roundw
          case rel => exact ⟨7 + 1, by omega, by go_num, hk, HX.out.trans (by repeat (first | exact Ext.refl _ | exact Ext.alloc _ _ | exact Ext.drewN _ _ | assumption | refine Ext.trans ?_ (Ext.alloc _ _) | refine Ext.trans ?_ (Ext.drew _) | refine Ext.trans ?_ (by assumption)))⟩
          case measure => simp [intOf]
    · have E1 := hide (show kN a = 0 by rcases KC.out with c | c | c | c | c | c | c | c <;> omega)
      have E2 := hide (show iN a = 0 from iN_0 E1.out)
      have E3 := hide (show jN a = 0 from jN_0 (by rw [E1.out]; decide))
      clear KC
      go_wp2_with fail
      go_ret3
      refine ⟨?_, HX.out.trans (by repeat (first | exact Ext.refl _ | exact Ext.alloc _ _ | exact Ext.drewN _ _ | assumption | refine Ext.trans ?_ (Ext.alloc _ _) | refine Ext.trans ?_ (Ext.drew _) | refine Ext.trans ?_ (by assumption)))⟩
      rw [E1.out, E2.out, E3.out]
      (first | rfl | (simp; done))
end Go.Proofs.Ytdcdjjdjgpfmdaa
