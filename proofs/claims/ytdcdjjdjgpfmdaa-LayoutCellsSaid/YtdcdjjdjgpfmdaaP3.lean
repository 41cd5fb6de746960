/- The program's All. -/
import Derived.Test.YtdcdjjdjgpfmdaaP2
import Derived.Test.YtdcdjjdjgpfmdaaLists
import Derived.Laws.AppendOwnNone
namespace Go.Proofs.Ytdcdjjdjgpfmdaa
open Go.RowKit
set_option linter.unusedSimpArgs false
set_option linter.unusedVariables false
set_option maxRecDepth 100000
set_option maxHeartbeats 8000000

def enJ (x : Int) : Value := .int .i64 x
theorem inf_int : (Try.prog.info? 3).map (fun i => (i.zero, i.size, i.bytes)) = some (some (.int .i64 0), 1, 8) := by kernel_rfl
theorem own_sl {w : World} {base n size : Nat} {e : TypeId} {v : Value} {xs : List Value} (h : w.ownsRow base e size v n xs) : ∃ A c, v = .slice A n c := by
  obtain ⟨A, c, e, _⟩ := Sl.of_own h
  exact ⟨A, c, e⟩
theorem all_yes {t o c s : Int} {n : Nat} (h : isIn t o c s n = true) : allS t o c s (n + 1) = allS t o c s n ++ [(n : Int)] := by rw [allS_succ, if_pos h]
theorem all_no {t o c s : Int} {n : Nat} (h : isIn t o c s n = false) : allS t o c s (n + 1) = allS t o c s n := by rw [allS_succ, h]; simp
theorem own_base {w : World} {b b' n size : Nat} {e : TypeId} {v : Value} {xs : List Value} (h : w.ownsRow b e size v n xs) (hb : b' ≤ b) : w.ownsRow b' e size v n xs := by
  obtain ⟨hl, h | ⟨g, cap, cur, h1, h2, h3⟩⟩ := h
  · exact ⟨hl, .inl h⟩
  · exact ⟨hl, .inr ⟨g, cap, cur, h1, Nat.le_trans hb h2, h3⟩⟩
/-- How many there are, as the program and the document lay it. -/
def manyC (t o c s : Int) : Array Value := #[.int .i64 0, .int .i64 o, .int .i64 c, .int .i64 s, .int .i64 s, .int .i64 t, .int .i64 t, .int .i64 t]
theorem manyC_at (t o c s : Int) {q : Nat} (h : q < 8) : (manyC t o c s)[q]? = some (.int .i64 (manyI t o c s q)) := by
  rcases (by omega : q = 0 ∨ q = 1 ∨ q = 2 ∨ q = 3 ∨ q = 4 ∨ q = 5 ∨ q = 6 ∨ q = 7) with rfl | rfl | rfl | rfl | rfl | rfl | rfl | rfl <;> rfl
theorem isIn_eq (t o c s a : Int) {q : Nat} (h : kN a = q) : isIn t o c s a = (decide (iN a < manyI t o c s q) && (decide (q ≠ 7) || decide (jN a < o))) := by
  unfold isIn
  rw [h]
  congr 2
  exact decide_eq_decide.2 (by omega)
theorem all_any (t o c s : Int) (w : World) : Calls Try.prog 12 #[.int .i64 t, .int .i64 o, .int .i64 c, .int .i64 s] w fun e w' =>
    ∃ v, e = .returned v ∧ w'.ownsRow w.heap.size 3 1 v (allS t o c s 128).length ((allS t o c s 128).map enJ) ∧ Ext w w' := by
  have hX0 := Ext.refl w
  go_enter Try.func12, Try.ntmps12
  go_wp2_with fail
  have hX0 : Ext w (w.alloc (.cells (manyC t o c s) 41)) := Ext.alloc _ _
  have hB := Blk.new w (manyC t o c s) 41
  have hG : w.heap.size < (w.alloc (.cells (manyC t o c s) 41)).heap.size := hB.lt
  change Code.wp _ _ _ _ (w.alloc (.cells (manyC t o c s) 41))
  generalize w.alloc (.cells (manyC t o c s) 41) = W0 at *
  go_loopw [10, 23] (fun v i wr => ∃ j : Nat, j ≤ 128 ∧ i = .int .i64 (j : Int) ∧ wr.ownsRow W0.heap.size 3 1 v (allS t o c s j).length ((allS t o c s j).map enJ) ∧ Ext W0 wr) (fun _ i _ => 128 - (intOf i).toNat)
  case atStart => exact ⟨0, by omega, rfl, own_nil _ _ _ _, Ext.refl _⟩
  case round =>
    obtain ⟨j, hj, rfl, hown, hx⟩ := hrel
    obtain ⟨q, hq⟩ := Int.eq_ofNat_of_zero_le (kN_rng j).1
    have hq8 : q < 8 := by have := (kN_rng j).2; omega
    have HO := hide hown
    have HX := hide hx
    have RB : ∀ w', Ext W0 w' → w'.cell? ⟨w.heap.size, q, none⟩ = some (.int .i64 (manyI t o c s q)) := fun w' h => ((hB.ext h).cell q).trans (manyC_at t o c s hq8)
    by_cases hlt : j < 128
    · have KK := hide (show isIn t o c s j = _ from isIn_eq t o c s j hq)
      obtain ⟨I, hI⟩ : ∃ I, I = iN j := ⟨_, rfl⟩
      obtain ⟨J, hJ⟩ : ∃ J, J = jN j := ⟨_, rfl⟩
      obtain ⟨M, hM⟩ : ∃ M, M = manyI t o c s q := ⟨_, rfl⟩
      have CW := hide (fun w => what_any j w)
      rw [hq, ← hI, ← hJ] at CW
      rw [← hM] at RB
      rw [← hI, ← hJ, ← hM] at KK
      clear hown hx hI hJ hM hq hB
      by_cases c1 : I < M
      · by_cases c2 : q = 7
        · subst c2
          by_cases c3 : J < o
          · have hin := hide (all_yes (t := t) (o := o) (c := c) (s := s) (n := j) (by rw [KK.out]; simp [c1, c3]))
            have hl := allS_len t o c s j
            go_wp2_with (first
              | (go_at_call 7; (with_reducible refine (CW.out _).mono ?_); rintro e w1 ⟨rfl, hb⟩; have r := RB _ (HX.out.trans hb); have HX1 := hide (HX.out.trans hb); have HO1 := hide (own_ext HO.out hb); clear hb; go_frame)
              | (at_builtin; refine wpList_app1 (W0 := W0) rfl rfl Try.underlying28 inf_int rfl (by omega) rfl HO1.out HX1.out rfl rfl rfl (by simp [Value.oneCell']) (by unfold maxLen; omega) (by omega) ?_; intro v' w3 hown' hW3; go_frame))
            go_roundw
            case rel => exact ⟨j + 1, by omega, by go_num, by rw [hin.out, List.length_append, List.map_append]; exact hown', hW3⟩
            case measure => simp [intOf]; omega
          · have hin := hide (all_no (t := t) (o := o) (c := c) (s := s) (n := j) (by rw [KK.out]; simp [c1, c3]))
            go_wp2_with (go_at_call 7; (with_reducible refine (CW.out _).mono ?_); rintro e w1 ⟨rfl, hb⟩; have r := RB _ (HX.out.trans hb); have HX1 := hide (HX.out.trans hb); have HO1 := hide (own_ext HO.out hb); clear hb; go_frame)
            go_roundw
            case rel => exact ⟨j + 1, by omega, by go_num, by rw [hin.out]; exact HO1.out, HX1.out⟩
            case measure => simp [intOf]; omega
        · have c4 : ¬ (q : Int) = 7 := by omega
          have hin := hide (all_yes (t := t) (o := o) (c := c) (s := s) (n := j) (by rw [KK.out]; simp [c1, c2]))
          have hl := allS_len t o c s j
          go_wp2_with (first
            | (go_at_call 7; (with_reducible refine (CW.out _).mono ?_); rintro e w1 ⟨rfl, hb⟩; have r := RB _ (HX.out.trans hb); have HX1 := hide (HX.out.trans hb); have HO1 := hide (own_ext HO.out hb); clear hb; go_frame)
            | (at_builtin; refine wpList_app1 (W0 := W0) rfl rfl Try.underlying28 inf_int rfl (by omega) rfl HO1.out HX1.out rfl rfl rfl (by simp [Value.oneCell']) (by unfold maxLen; omega) (by omega) ?_; intro v' w3 hown' hW3; go_frame))
          go_roundw
          case rel => exact ⟨j + 1, by omega, by go_num, by rw [hin.out, List.length_append, List.map_append]; exact hown', hW3⟩
          case measure => simp [intOf]; omega
      · have hin := hide (all_no (t := t) (o := o) (c := c) (s := s) (n := j) (by rw [KK.out]; simp [c1]))
        go_wp2_with (go_at_call 7; (with_reducible refine (CW.out _).mono ?_); rintro e w1 ⟨rfl, hb⟩; have r := RB _ (HX.out.trans hb); have HX1 := hide (HX.out.trans hb); have HO1 := hide (own_ext HO.out hb); clear hb; go_frame)
        go_roundw
        case rel => exact ⟨j + 1, by omega, by go_num, by rw [hin.out]; exact HO1.out, HX1.out⟩
        case measure => simp [intOf]; omega
    · obtain rfl : j = 128 := by omega
      go_wp2_with fail
      go_ret
      exact ⟨_, rfl, own_base HO.out (by omega), hX0.trans HX.out⟩
end Go.Proofs.Ytdcdjjdjgpfmdaa
