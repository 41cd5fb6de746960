/- The document's All. -/
import Derived.Test.YtdcdjjdjgpfmdaaR2
import Derived.Test.YtdcdjjdjgpfmdaaP3
namespace Go.Proofs.Ytdcdjjdjgpfmdaa
open Go.RowKit
set_option linter.unusedSimpArgs false
set_option linter.unusedVariables false
set_option maxRecDepth 100000
set_option maxHeartbeats 8000000

theorem rall_go {t o c s T O C S : Int} (w : World) (hT : cutI t 8 = T) (hO : cutI o 8 = O) (hC : cutI c 4 = C) (hS : cutI s 16 = S) : Calls Try.prog 13 #[.int .i64 t, .int .i64 o, .int .i64 c, .int .i64 s] w fun e w' =>
    ∃ v, e = .returned v ∧ w'.ownsRow w.heap.size 3 1 v (allS T O C S 128).length ((allS T O C S 128).map enJ) ∧ Ext w w' := by
  have HX0 := hide (Ext.refl w)
  have C1 := hide (fun w => rcut_any t 8 (by decide) w)
  have C2 := hide (fun w => rcut_any o 8 (by decide) w)
  have C3 := hide (fun w => rcut_any c 4 (by decide) w)
  have C4 := hide (fun w => rcut_any s 16 (by decide) w)
  rw [hT] at C1
  rw [hO] at C2
  rw [hC] at C3
  rw [hS] at C4
  clear hT hO hC hS
  go_enter Try.func13, Try.ntmps13
  go_wp2_with (first | (go_at_call 17; (with_reducible refine (C1.out _).mono ?_); rintro e w1 ⟨rfl, hb⟩; have HX0 := hide (HX0.out.trans hb); clear hb; go_frame) | (go_at_call 17; (with_reducible refine (C2.out _).mono ?_); rintro e w1 ⟨rfl, hb⟩; have HX0 := hide (HX0.out.trans hb); clear hb; go_frame) | (go_at_call 17; (with_reducible refine (C3.out _).mono ?_); rintro e w1 ⟨rfl, hb⟩; have HX0 := hide (HX0.out.trans hb); clear hb; go_frame) | (go_at_call 17; (with_reducible refine (C4.out _).mono ?_); rintro e w1 ⟨rfl, hb⟩; have HX0 := hide (HX0.out.trans hb); clear hb; go_frame))
  clear C1 C2 C3 C4
  go_loopw [9, 10] (fun v i wr => ∃ j : Nat, j ≤ 128 ∧ i = .int .i64 (j : Int) ∧ wr.ownsRow w.heap.size 3 1 v (allS T O C S j).length ((allS T O C S j).map enJ) ∧ Ext w wr) (fun _ i _ => 128 - (intOf i).toNat)
  case atStart => exact ⟨0, by omega, rfl, own_nil _ _ _ _, HX0.out⟩
  case round =>
    clear HX0
    obtain ⟨j, hj, rfl, hown, hx⟩ := hrel
    obtain ⟨q, hq⟩ := Int.eq_ofNat_of_zero_le (kN_rng j).1
    have hq8 : q < 8 := by have := (kN_rng j).2; omega
    have HO := hide hown
    have HX := hide hx
    have hc : ([.int .i64 0, .int .i64 O, .int .i64 C, .int .i64 S, .int .i64 S, .int .i64 T, .int .i64 T, .int .i64 T] : List Value)[q]'(by simp; omega) = .int .i64 (manyI T O C S q) := by
      have h := manyC_at T O C S hq8
      unfold manyC at h
      rw [List.getElem?_toArray, List.getElem?_eq_getElem (by simp; omega)] at h
      exact Option.some.inj h
    by_cases hlt : j < 128
    · have KK := hide (show isIn T O C S j = _ from isIn_eq T O C S j hq)
      obtain ⟨I, hI⟩ : ∃ I, I = iN j := ⟨_, rfl⟩
      obtain ⟨J, hJ⟩ : ∃ J, J = jN j := ⟨_, rfl⟩
      obtain ⟨M, hM⟩ : ∃ M, M = manyI T O C S q := ⟨_, rfl⟩
      have CW := hide (fun w => rwhat_any j w)
      rw [hq, ← hI, ← hJ] at CW
      rw [← hM] at hc
      rw [← hI, ← hJ, ← hM] at KK
      clear hown hx hI hJ hM hq
      by_cases c1 : I < M
      · by_cases c2 : q = 7
        · have c4 : ¬ (q : Int) < 7 := by omega
          by_cases c3 : J < O
          · have hin := hide (all_yes (t := T) (o := O) (c := C) (s := S) (n := j) (by rw [KK.out]; simp [c1, c3]))
            clear c2
            have hl := allS_len T O C S j
            go_wp2_with (first
              | (go_at_call 8; (with_reducible refine (CW.out _).mono ?_); rintro e w1 ⟨rfl, hb⟩; have ra := (Ext.refl (w1.alloc (.cells #[.int .i64 0, .int .i64 O, .int .i64 C, .int .i64 S, .int .i64 S, .int .i64 T, .int .i64 T, .int .i64 T] 3))).boxCell q; have HX1 := hide ((HX.out.trans hb).trans (Ext.alloc w1 (.cells #[.int .i64 0, .int .i64 O, .int .i64 C, .int .i64 S, .int .i64 S, .int .i64 T, .int .i64 T, .int .i64 T] 3))); have HO1 := hide (own_ext (own_ext HO.out hb) (Ext.alloc w1 (.cells #[.int .i64 0, .int .i64 O, .int .i64 C, .int .i64 S, .int .i64 S, .int .i64 T, .int .i64 T, .int .i64 T] 3))); clear hb; go_frame)
              | (at_builtin; refine wpList_app1 (W0 := w) rfl rfl Try.underlying28 inf_int rfl (by omega) rfl HO1.out HX1.out rfl (by simp) rfl (by simp [Value.oneCell']) (by unfold maxLen; omega) (by omega) ?_; intro v' w3 hown' hW3; go_frame))
            go_roundw
            case rel => exact ⟨j + 1, by omega, by go_num, by rw [hin.out, List.length_append, List.map_append]; exact hown', hW3⟩
            case measure => simp [intOf]; omega
          · have hin := hide (all_no (t := T) (o := O) (c := C) (s := S) (n := j) (by rw [KK.out]; simp [c1, c2, c3]))
            clear c2
            go_wp2_with (go_at_call 8; (with_reducible refine (CW.out _).mono ?_); rintro e w1 ⟨rfl, hb⟩; have ra := (Ext.refl (w1.alloc (.cells #[.int .i64 0, .int .i64 O, .int .i64 C, .int .i64 S, .int .i64 S, .int .i64 T, .int .i64 T, .int .i64 T] 3))).boxCell q; have HX1 := hide ((HX.out.trans hb).trans (Ext.alloc w1 (.cells #[.int .i64 0, .int .i64 O, .int .i64 C, .int .i64 S, .int .i64 S, .int .i64 T, .int .i64 T, .int .i64 T] 3))); have HO1 := hide (own_ext (own_ext HO.out hb) (Ext.alloc w1 (.cells #[.int .i64 0, .int .i64 O, .int .i64 C, .int .i64 S, .int .i64 S, .int .i64 T, .int .i64 T, .int .i64 T] 3))); clear hb; go_frame)
            go_roundw
            case rel => exact ⟨j + 1, by omega, by go_num, by rw [hin.out]; exact HO1.out, HX1.out⟩
            case measure => simp [intOf]; omega
        · have c4 : (q : Int) < 7 := by omega
          have hin := hide (all_yes (t := T) (o := O) (c := C) (s := S) (n := j) (by rw [KK.out]; simp [c1, c2]))
          have hl := allS_len T O C S j
          go_wp2_with (first
            | (go_at_call 8; (with_reducible refine (CW.out _).mono ?_); rintro e w1 ⟨rfl, hb⟩; have ra := (Ext.refl (w1.alloc (.cells #[.int .i64 0, .int .i64 O, .int .i64 C, .int .i64 S, .int .i64 S, .int .i64 T, .int .i64 T, .int .i64 T] 3))).boxCell q; have HX1 := hide ((HX.out.trans hb).trans (Ext.alloc w1 (.cells #[.int .i64 0, .int .i64 O, .int .i64 C, .int .i64 S, .int .i64 S, .int .i64 T, .int .i64 T, .int .i64 T] 3))); have HO1 := hide (own_ext (own_ext HO.out hb) (Ext.alloc w1 (.cells #[.int .i64 0, .int .i64 O, .int .i64 C, .int .i64 S, .int .i64 S, .int .i64 T, .int .i64 T, .int .i64 T] 3))); clear hb; go_frame)
            | (at_builtin; refine wpList_app1 (W0 := w) rfl rfl Try.underlying28 inf_int rfl (by omega) rfl HO1.out HX1.out rfl (by simp) rfl (by simp [Value.oneCell']) (by unfold maxLen; omega) (by omega) ?_; intro v' w3 hown' hW3; go_frame))
          go_roundw
          case rel => exact ⟨j + 1, by omega, by go_num, by rw [hin.out, List.length_append, List.map_append]; exact hown', hW3⟩
          case measure => simp [intOf]; omega
      · have hin := hide (all_no (t := T) (o := O) (c := C) (s := S) (n := j) (by rw [KK.out]; simp [c1]))
        go_wp2_with (go_at_call 8; (with_reducible refine (CW.out _).mono ?_); rintro e w1 ⟨rfl, hb⟩; have ra := (Ext.refl (w1.alloc (.cells #[.int .i64 0, .int .i64 O, .int .i64 C, .int .i64 S, .int .i64 S, .int .i64 T, .int .i64 T, .int .i64 T] 3))).boxCell q; have HX1 := hide ((HX.out.trans hb).trans (Ext.alloc w1 (.cells #[.int .i64 0, .int .i64 O, .int .i64 C, .int .i64 S, .int .i64 S, .int .i64 T, .int .i64 T, .int .i64 T] 3))); have HO1 := hide (own_ext (own_ext HO.out hb) (Ext.alloc w1 (.cells #[.int .i64 0, .int .i64 O, .int .i64 C, .int .i64 S, .int .i64 S, .int .i64 T, .int .i64 T, .int .i64 T] 3))); clear hb; go_frame)
        go_roundw
        case rel => exact ⟨j + 1, by omega, by go_num, by rw [hin.out]; exact HO1.out, HX1.out⟩
        case measure => simp [intOf]; omega
    · obtain rfl : j = 128 := by omega
      go_wp2_with fail
      go_ret
      exact ⟨_, rfl, HO.out, HX.out⟩
theorem rall_any (t o c s : Int) (w : World) : Calls Try.prog 13 #[.int .i64 t, .int .i64 o, .int .i64 c, .int .i64 s] w fun e w' =>
    ∃ v, e = .returned v ∧ w'.ownsRow w.heap.size 3 1 v (allS t o c s 128).length ((allS t o c s 128).map enJ) ∧ Ext w w' := by
  rw [← cut_all t o c s 128]
  exact rall_go w rfl rfl rfl rfl
end Go.Proofs.Ytdcdjjdjgpfmdaa
