/- KlassCounts, walked. -/
import Derived.Test.YtdooakfdaeockaaDoorL1
import Derived.Test.YtdooakfdaeockaaDoorTurn
import Derived.LoopTactic
namespace Go.Proofs.YtdooakfdaeockaaDoor
open Go.RowKit
set_option linter.unusedSimpArgs false
set_option linter.unusedVariables false



/-- How many are counted behind k revocations. -/
def cntI (k : Nat) : Int := if k < 1000 then (k : Int) else 1000
theorem cnt_0 (k : Nat) : 0 ≤ cntI k := by unfold cntI; split <;> omega
theorem cnt_1 (k : Nat) : cntI k ≤ 1000 := by unfold cntI; split <;> omega
theorem cnt_up (k : Nat) : upC (cntI k) = cntI (k + 1) := by unfold upC cntI; split <;> split <;> omega
theorem cnt_min (k : Nat) : cntI (k + 1) = (if 1000 < (k : Int) + 1 then 1000 else (k : Int) + 1) := by unfold cntI; split <;> split <;> omega

set_option maxRecDepth 100000 in
set_option maxHeartbeats 2000000 in
theorem lcounts_any (M : Nat) (rb rv : Int) (w : World) (hG : Glob w) (hM : M < 65536) :
    Calls Tryd.prog 5 #[.int .u16 M, .int .i64 rb, .int .i64 rv] w fun x w' => x = .returned (.bool true) ∧ Ext w w' := by
  have hX : Ext w (w.alloc (.cells #[.bool true, .int .u8 0, .int .i64 0] 27)) := Ext.alloc _ _
  have hA := Blk.new w #[.bool true, .int .u8 0, .int .i64 0] 27
  go_enter Tryd.func5, Tryd.ntmps5
  go_wp2_with fail
  generalize w.alloc (.cells #[.bool true, .int .u8 0, .int .i64 0] 27) = W0 at *
  go_loopw [15] (fun i wr => ∃ (k : Nat) (b : Bool), i = .int .i64 k ∧ (k : Int) ≤ (M : Int) % 1200 ∧ Blk wr w.heap.size #[.bool b, .int .u8 0, .int .i64 (cntI k)] 27 ∧ Ext w wr) (fun i _ => M % 1200 - (intOf i).toNat)
  case atStart => exact ⟨0, true, rfl, by omega, hA, hX⟩
  case round =>
    clear hX hA
    obtain ⟨k, b, rfl, hk, hA, hX⟩ := hrel
    by_cases hlt : (k : Int) < (M : Int) % 1200
    · have r := hA.cell
      go_wp2_with fail
      refine (kpolicy_any b 0 (cntI k) rb rv _ (cnt_0 k) (cnt_1 k)).mono ?_
      rintro e w2 ⟨rfl, hb⟩
      have hA := hA.ext hb
      have hX := hX.trans hb
      have hl := hA.lt
      clear r hb
      rw [cnt_up k]
      have E := cnt_min k
      obtain ⟨c, EC⟩ : ∃ c, Hid (cntI (k + 1) = c) := ⟨_, hide rfl⟩
      rw [EC.out] at E
      rw [EC.out]
      generalize cntI k = c' at *
      have r := hA.cell
      have rf := hA.free
      have hn : ¬ w.heap.size = w2.heap.size := by omega
      have hn' : ¬ w2.heap.size = w.heap.size := by omega
      by_cases h9 : 1000 < (k : Int) + 1
      · rw [if_pos h9] at E
        subst E
        cases b
        · rw [show polI false (1000) rb rv = 0 from rfl]
          have hB := ((hA.set 0 (.bool false)).set 1 (.int .u8 0)).set 2 (.int .i64 (1000))
          have hY := ((hX.set (p := ⟨w.heap.size, 0, none⟩) (Nat.le_refl _) (.bool false)).set (p := ⟨w.heap.size, 1, none⟩) (Nat.le_refl _) (.int .u8 0)).set (p := ⟨w.heap.size, 2, none⟩) (Nat.le_refl _) (.int .i64 (1000))
          go_wp2_with fail
          go_roundw
          case rel => exact ⟨k + 1, false, by go_num, by omega, by rw [EC.out]; exact hB.ext (Ext.alloc _ _), hY.trans (Ext.alloc _ _)⟩
          case measure => simp [intOf]; omega
        · generalize polI true (1000) rb rv = q
          have hB := ((hA.set 0 (.bool true)).set 1 (.int .u8 0)).set 2 (.int .i64 (1000))
          have hY := ((hX.set (p := ⟨w.heap.size, 0, none⟩) (Nat.le_refl _) (.bool true)).set (p := ⟨w.heap.size, 1, none⟩) (Nat.le_refl _) (.int .u8 0)).set (p := ⟨w.heap.size, 2, none⟩) (Nat.le_refl _) (.int .i64 (1000))
          by_cases hq : q = 2
          · subst hq
            go_wp2_with fail
            refine (knever_any _ _ _ _).mono ?_
            rintro e w3 ⟨rfl, hb⟩
            have hA : Blk w3 w.heap.size #[.bool true, .int .u8 0, .int .i64 (1000)] 27 := (hB.ext (Ext.alloc _ _)).ext hb
            have hX := (hY.trans (Ext.alloc _ _)).trans hb
            clear r rf hb hB hY
            have r := hA.cell
            have rf := hA.free
            have hB := ((hA.set 0 (.bool false)).set 1 (.int .u8 0)).set 2 (.int .i64 (1000))
            have hY := ((hX.set (p := ⟨w.heap.size, 0, none⟩) (Nat.le_refl _) (.bool false)).set (p := ⟨w.heap.size, 1, none⟩) (Nat.le_refl _) (.int .u8 0)).set (p := ⟨w.heap.size, 2, none⟩) (Nat.le_refl _) (.int .i64 (1000))
            go_wp2_with fail
            go_roundw
            case rel => exact ⟨k + 1, false, by go_num, by omega, by rw [EC.out]; exact hB, hY⟩
            case measure => simp [intOf]; omega
          · go_wp2_with fail
            go_roundw
            case rel => exact ⟨k + 1, true, by go_num, by omega, by rw [EC.out]; exact hB.ext (Ext.alloc _ _), hY.trans (Ext.alloc _ _)⟩
            case measure => simp [intOf]; omega
      · rw [if_neg h9] at E
        subst E
        cases b
        · rw [show polI false ((k : Int) + 1) rb rv = 0 from rfl]
          have hB := ((hA.set 0 (.bool false)).set 1 (.int .u8 0)).set 2 (.int .i64 ((k : Int) + 1))
          have hY := ((hX.set (p := ⟨w.heap.size, 0, none⟩) (Nat.le_refl _) (.bool false)).set (p := ⟨w.heap.size, 1, none⟩) (Nat.le_refl _) (.int .u8 0)).set (p := ⟨w.heap.size, 2, none⟩) (Nat.le_refl _) (.int .i64 ((k : Int) + 1))
          go_wp2_with fail
          go_roundw
          case rel => exact ⟨k + 1, false, by go_num, by omega, by rw [EC.out]; exact hB.ext (Ext.alloc _ _), hY.trans (Ext.alloc _ _)⟩
          case measure => simp [intOf]; omega
        · generalize polI true ((k : Int) + 1) rb rv = q
          have hB := ((hA.set 0 (.bool true)).set 1 (.int .u8 0)).set 2 (.int .i64 ((k : Int) + 1))
          have hY := ((hX.set (p := ⟨w.heap.size, 0, none⟩) (Nat.le_refl _) (.bool true)).set (p := ⟨w.heap.size, 1, none⟩) (Nat.le_refl _) (.int .u8 0)).set (p := ⟨w.heap.size, 2, none⟩) (Nat.le_refl _) (.int .i64 ((k : Int) + 1))
          by_cases hq : q = 2
          · subst hq
            go_wp2_with fail
            refine (knever_any _ _ _ _).mono ?_
            rintro e w3 ⟨rfl, hb⟩
            have hA : Blk w3 w.heap.size #[.bool true, .int .u8 0, .int .i64 ((k : Int) + 1)] 27 := (hB.ext (Ext.alloc _ _)).ext hb
            have hX := (hY.trans (Ext.alloc _ _)).trans hb
            clear r rf hb hB hY
            have r := hA.cell
            have rf := hA.free
            have hB := ((hA.set 0 (.bool false)).set 1 (.int .u8 0)).set 2 (.int .i64 ((k : Int) + 1))
            have hY := ((hX.set (p := ⟨w.heap.size, 0, none⟩) (Nat.le_refl _) (.bool false)).set (p := ⟨w.heap.size, 1, none⟩) (Nat.le_refl _) (.int .u8 0)).set (p := ⟨w.heap.size, 2, none⟩) (Nat.le_refl _) (.int .i64 ((k : Int) + 1))
            go_wp2_with fail
            go_roundw
            case rel => exact ⟨k + 1, false, by go_num, by omega, by rw [EC.out]; exact hB, hY⟩
            case measure => simp [intOf]; omega
          · go_wp2_with fail
            go_roundw
            case rel => exact ⟨k + 1, true, by go_num, by omega, by rw [EC.out]; exact hB.ext (Ext.alloc _ _), hY.trans (Ext.alloc _ _)⟩
            case measure => simp [intOf]; omega
    · go_wp2_with fail
      refine (alive_any _ (hG.ext hX)).mono ?_
      rintro e w2 ⟨rfl, hb⟩
      go_wp2_with fail
      go_ret
      exact ⟨rfl, hX.trans hb⟩
end Go.Proofs.YtdooakfdaeockaaDoor
