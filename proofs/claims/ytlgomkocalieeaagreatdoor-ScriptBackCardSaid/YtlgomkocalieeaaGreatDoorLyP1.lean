/- The program's parts, At and What. -/
import Derived.Test.YtlgomkocalieeaaGreatDoorLyA1
import Derived.Test.YtlgomkocalieeaaGreatDoorTurn
import Derived.OwnWalk
import Derived.BigRegion
import Derived.Deep.WholeRow
import Derived.Great.BuildSlice
import Derived.Deep.MidRow
import Derived.Laws.ResultCell
namespace Go.Proofs.YtlgomkocalieeaaGreatDoor.Ly
set_option maxRecDepth 100000
open Go.RowKit
set_option linter.unusedSimpArgs false
set_option linter.unusedVariables false
set_option maxRecDepth 100000
set_option maxHeartbeats 8000000

def partsC : Array Value := #[.int .i64 0, .int .i64 0, .int .i64 0, .int .i64 0, .int .i64 8, .int .i64 1, .int .i64 8, .int .i64 4, .int .i64 1, .int .i64 16, .int .i64 16, .int .i64 1, .int .i64 32, .int .i64 16, .int .i64 1, .int .i64 48, .int .i64 8, .int .i64 1, .int .i64 56, .int .i64 8, .int .i64 1, .int .i64 64, .int .i64 8, .int .i64 8]
def zeroC : Array Value := (List.replicate 24 (Value.int .i64 0)).toArray
theorem zp_ok : ∃ zz : Array Value, (∀ w, (zeroValue 215).run Tryz.prog w = .ok (.agg zz) w) ∧ zz.size = 24 ∧ ¬ zz = #[] ∧ ¬ zz.size < 2 := ⟨zeroC, fun w => by kernel_rfl, rfl, by decide, by decide⟩
theorem all_parts : (partsC.all fun x => x.oneCell') = true := by kernel_rfl
theorem inf_parts : (Tryz.prog.info? 215).map (·.size) = some 24 := by kernel_rfl
theorem inf_partsV : (Tryz.prog.info? 215).map (·.size) = some partsC.toList.length := inf_parts
theorem wpList_putP {ops : Array Oper} {rest : List Oper} {o : Oper} {a : Act} {w : World} {Q : Exit → Act → World → Prop} (hgd : o.guard = none) (x y : Operand) (ho : o.op = .store 215 x y)
    (b : Nat) (hx : a.eval x = .pointer (some ⟨b, 0, none⟩)) (hy : a.eval y = .agg partsC) (old : Array Value) (hb : Blk w b old 215) (hs : old.size = 24)
    (h : ∀ w', Blk w' b partsC 215 → Chg [b] w w' → w'.heap.size = w.heap.size → wpList Tryz.prog ops Q rest (a.put o.dst undef) w') : wpList Tryz.prog ops Q (o :: rest) a w :=
  wpList_store_row hgd 215 x y ho b partsC hx hy 215 old hb inf_parts (by rw [hs]; rfl) all_parts (h _ (setRow_heap w b old _ _ _ hb) ⟨rfl, rfl, rfl, by simp [World.setRow], fun k hk hT => setRow_other w b k partsC (by simpa using hT)⟩ (by simp [World.setRow]))
theorem ld_parts (w : World) {b : Nat} (hb : Blk w b partsC 215) : (loadVar 215 ⟨b, 0, none⟩).run Tryz.prog w = .ok (.agg partsC) w := by
  rw [run_loadVar_mid w b 0 215 partsC.toList _ (fun j v hv => by rw [Nat.zero_add]; exact (Blk.cell hb j).trans (by rw [← Array.getElem?_toList]; exact hv)) Tryz.underlying215 rfl inf_partsV, Array.toArray_toList]
theorem res_parts {fn : Func} (h : fn.results = #[.cell 0 215]) (tmps : Array Value) (w : World) {b : Nat} (e0 : tmps.getD 0 undef = .pointer (some ⟨b, 0, none⟩)) (hb : Blk w b partsC 215) :
    (results fn tmps).run Tryz.prog w = .ok (.agg partsC) w := by
  have e1 : (tmps[0]?).getD undef = .pointer (some ⟨b, 0, none⟩) := by simpa using e0
  have l := ld_parts w hb
  simp [results, h, Result.andThen, e1, asAddr, l]
theorem parts_any (w : World) : Calls Tryz.prog 93 #[] w fun e w' => e = .returned (.agg partsC) ∧ Ext w w' := by
  obtain ⟨zz, hz1, hs, hz2, hz3⟩ := zp_ok
  have HB := Blk.new w zz 215
  have HX := Ext.alloc w (.cells zz 215)
  go_enter Tryz.func93, Tryz.ntmps93
  go_wp2_with (first
    | (refine wpList_buildTo (t := 215) rfl _ rfl _ rfl partsC (by kernel_rfl) ?_; go_frame)
    | (refine wpList_putP rfl _ _ rfl w.heap.size rfl rfl zz HB hs ?_; intro W1 hb hc hz; have HX1 := hide (HX.turn (T := [w.heap.size]) hc (by simp)); have HB1 := hide hb; clear hc hz hb; go_frame))
  refine bodyPost_ret (res_parts Tryz.results93 _ _ rfl HB1.out) rfl ?_
  exact ⟨rfl, HX1.out⟩
def partV (b n e : Int) : Value := .agg #[.int .i64 b, .int .i64 n, .int .i64 e]
theorem ix_0 (w : World) : (Instr.index 215 (.agg partsC) (.int .i64 0)).run Tryz.prog w = .ok (.agg #[.int .i64 0, .int .i64 0, .int .i64 0]) w := by kernel_rfl
theorem ix_1 (w : World) : (Instr.index 215 (.agg partsC) (.int .i64 1)).run Tryz.prog w = .ok (.agg #[.int .i64 0, .int .i64 8, .int .i64 1]) w := by kernel_rfl
theorem ix_2 (w : World) : (Instr.index 215 (.agg partsC) (.int .i64 2)).run Tryz.prog w = .ok (.agg #[.int .i64 8, .int .i64 4, .int .i64 1]) w := by kernel_rfl
theorem ix_3 (w : World) : (Instr.index 215 (.agg partsC) (.int .i64 3)).run Tryz.prog w = .ok (.agg #[.int .i64 16, .int .i64 16, .int .i64 1]) w := by kernel_rfl
theorem ix_4 (w : World) : (Instr.index 215 (.agg partsC) (.int .i64 4)).run Tryz.prog w = .ok (.agg #[.int .i64 32, .int .i64 16, .int .i64 1]) w := by kernel_rfl
theorem ix_5 (w : World) : (Instr.index 215 (.agg partsC) (.int .i64 5)).run Tryz.prog w = .ok (.agg #[.int .i64 48, .int .i64 8, .int .i64 1]) w := by kernel_rfl
theorem ix_6 (w : World) : (Instr.index 215 (.agg partsC) (.int .i64 6)).run Tryz.prog w = .ok (.agg #[.int .i64 56, .int .i64 8, .int .i64 1]) w := by kernel_rfl
theorem ix_7 (w : World) : (Instr.index 215 (.agg partsC) (.int .i64 7)).run Tryz.prog w = .ok (.agg #[.int .i64 64, .int .i64 8, .int .i64 8]) w := by kernel_rfl
theorem at_out {k i j : Int} (w : World) (h : k < 1 ∨ 7 < k) : Calls Tryz.prog 86 #[.int .i64 k, .int .i64 i, .int .i64 j] w fun e w' => e = .returned (.int .i64 (atS k i j)) ∧ Ext w w' := by
  have E := hide (show atS k i j = -1 by unfold atS; rw [if_pos (by omega)])
  rw [E.out]
  have hX := Ext.refl w
  rcases h with h | h
  · go_enter Tryz.func86, Tryz.ntmps86
    go_wp2_with fail
    go_ret
    exact ⟨rfl, hX⟩
  · have h2 : ¬ k < 1 := by omega
    go_enter Tryz.func86, Tryz.ntmps86
    go_wp2_with fail
    go_ret
    exact ⟨rfl, hX⟩
theorem at_1 {i j : Int} (w : World) : Calls Tryz.prog 86 #[.int .i64 1, .int .i64 i, .int .i64 j] w fun e w' => e = .returned (.int .i64 (atS 1 i j)) ∧ Ext w w' := by
  have IX := ix_1
  have hW := Ext.refl w
  by_cases c1 : i < 0
  · have E := hide (show atS 1 i j = -1 by unfold atS; rw [if_pos (by omega)])
    · go_enter Tryz.func86, Tryz.ntmps86
      go_wp2_with (go_at_call 93; (with_reducible refine (parts_any _).mono ?_); rintro e w1 ⟨rfl, hb⟩; have hX := Ext.refl w1; have HX1 := hide (hW.trans hb); clear hb; go_frame)
      go_ret
      refine ⟨?_, HX1.out.trans (by repeat (first | exact Ext.refl _ | exact Ext.alloc _ _ | exact Ext.drewN _ _ | assumption | refine Ext.trans ?_ (Ext.alloc _ _) | refine Ext.trans ?_ (Ext.drew _) | refine Ext.trans ?_ (by assumption)))⟩; rw [E.out]; (first | rfl | (simp; done) | (simp; omega))
  · by_cases c2 : 8 ≤ i
    · have E := hide (show atS 1 i j = -1 by unfold atS; rw [if_pos (by rw [mostI_1]; omega)])
      · go_enter Tryz.func86, Tryz.ntmps86
        go_wp2_with (go_at_call 93; (with_reducible refine (parts_any _).mono ?_); rintro e w1 ⟨rfl, hb⟩; have hX := Ext.refl w1; have HX1 := hide (hW.trans hb); clear hb; go_frame)
        go_ret
        refine ⟨?_, HX1.out.trans (by repeat (first | exact Ext.refl _ | exact Ext.alloc _ _ | exact Ext.drewN _ _ | assumption | refine Ext.trans ?_ (Ext.alloc _ _) | refine Ext.trans ?_ (Ext.drew _) | refine Ext.trans ?_ (by assumption)))⟩; rw [E.out]; (first | rfl | (simp; done) | (simp; omega))
    · have E := hide (show atS 1 i j = 0 + i by unfold atS; rw [if_neg (by rw [mostI_1]; omega), if_neg (by omega), begI_1])
      · go_enter Tryz.func86, Tryz.ntmps86
        go_wp2_with (go_at_call 93; (with_reducible refine (parts_any _).mono ?_); rintro e w1 ⟨rfl, hb⟩; have hX := Ext.refl w1; have HX1 := hide (hW.trans hb); clear hb; go_frame)
        go_ret
        refine ⟨?_, HX1.out.trans (by repeat (first | exact Ext.refl _ | exact Ext.alloc _ _ | exact Ext.drewN _ _ | assumption | refine Ext.trans ?_ (Ext.alloc _ _) | refine Ext.trans ?_ (Ext.drew _) | refine Ext.trans ?_ (by assumption)))⟩; rw [E.out]; (first | rfl | (simp; done) | (simp; omega))
theorem at_2 {i j : Int} (w : World) : Calls Tryz.prog 86 #[.int .i64 2, .int .i64 i, .int .i64 j] w fun e w' => e = .returned (.int .i64 (atS 2 i j)) ∧ Ext w w' := by
  have IX := ix_2
  have hW := Ext.refl w
  by_cases c1 : i < 0
  · have E := hide (show atS 2 i j = -1 by unfold atS; rw [if_pos (by omega)])
    · go_enter Tryz.func86, Tryz.ntmps86
      go_wp2_with (go_at_call 93; (with_reducible refine (parts_any _).mono ?_); rintro e w1 ⟨rfl, hb⟩; have hX := Ext.refl w1; have HX1 := hide (hW.trans hb); clear hb; go_frame)
      go_ret
      refine ⟨?_, HX1.out.trans (by repeat (first | exact Ext.refl _ | exact Ext.alloc _ _ | exact Ext.drewN _ _ | assumption | refine Ext.trans ?_ (Ext.alloc _ _) | refine Ext.trans ?_ (Ext.drew _) | refine Ext.trans ?_ (by assumption)))⟩; rw [E.out]; (first | rfl | (simp; done) | (simp; omega))
  · by_cases c2 : 4 ≤ i
    · have E := hide (show atS 2 i j = -1 by unfold atS; rw [if_pos (by rw [mostI_2]; omega)])
      · go_enter Tryz.func86, Tryz.ntmps86
        go_wp2_with (go_at_call 93; (with_reducible refine (parts_any _).mono ?_); rintro e w1 ⟨rfl, hb⟩; have hX := Ext.refl w1; have HX1 := hide (hW.trans hb); clear hb; go_frame)
        go_ret
        refine ⟨?_, HX1.out.trans (by repeat (first | exact Ext.refl _ | exact Ext.alloc _ _ | exact Ext.drewN _ _ | assumption | refine Ext.trans ?_ (Ext.alloc _ _) | refine Ext.trans ?_ (Ext.drew _) | refine Ext.trans ?_ (by assumption)))⟩; rw [E.out]; (first | rfl | (simp; done) | (simp; omega))
    · have E := hide (show atS 2 i j = 8 + i by unfold atS; rw [if_neg (by rw [mostI_2]; omega), if_neg (by omega), begI_2])
      · go_enter Tryz.func86, Tryz.ntmps86
        go_wp2_with (go_at_call 93; (with_reducible refine (parts_any _).mono ?_); rintro e w1 ⟨rfl, hb⟩; have hX := Ext.refl w1; have HX1 := hide (hW.trans hb); clear hb; go_frame)
        go_ret
        refine ⟨?_, HX1.out.trans (by repeat (first | exact Ext.refl _ | exact Ext.alloc _ _ | exact Ext.drewN _ _ | assumption | refine Ext.trans ?_ (Ext.alloc _ _) | refine Ext.trans ?_ (Ext.drew _) | refine Ext.trans ?_ (by assumption)))⟩; rw [E.out]; (first | rfl | (simp; done) | (simp; omega))
theorem at_3 {i j : Int} (w : World) : Calls Tryz.prog 86 #[.int .i64 3, .int .i64 i, .int .i64 j] w fun e w' => e = .returned (.int .i64 (atS 3 i j)) ∧ Ext w w' := by
  have IX := ix_3
  have hW := Ext.refl w
  by_cases c1 : i < 0
  · have E := hide (show atS 3 i j = -1 by unfold atS; rw [if_pos (by omega)])
    · go_enter Tryz.func86, Tryz.ntmps86
      go_wp2_with (go_at_call 93; (with_reducible refine (parts_any _).mono ?_); rintro e w1 ⟨rfl, hb⟩; have hX := Ext.refl w1; have HX1 := hide (hW.trans hb); clear hb; go_frame)
      go_ret
      refine ⟨?_, HX1.out.trans (by repeat (first | exact Ext.refl _ | exact Ext.alloc _ _ | exact Ext.drewN _ _ | assumption | refine Ext.trans ?_ (Ext.alloc _ _) | refine Ext.trans ?_ (Ext.drew _) | refine Ext.trans ?_ (by assumption)))⟩; rw [E.out]; (first | rfl | (simp; done) | (simp; omega))
  · by_cases c2 : 16 ≤ i
    · have E := hide (show atS 3 i j = -1 by unfold atS; rw [if_pos (by rw [mostI_3]; omega)])
      · go_enter Tryz.func86, Tryz.ntmps86
        go_wp2_with (go_at_call 93; (with_reducible refine (parts_any _).mono ?_); rintro e w1 ⟨rfl, hb⟩; have hX := Ext.refl w1; have HX1 := hide (hW.trans hb); clear hb; go_frame)
        go_ret
        refine ⟨?_, HX1.out.trans (by repeat (first | exact Ext.refl _ | exact Ext.alloc _ _ | exact Ext.drewN _ _ | assumption | refine Ext.trans ?_ (Ext.alloc _ _) | refine Ext.trans ?_ (Ext.drew _) | refine Ext.trans ?_ (by assumption)))⟩; rw [E.out]; (first | rfl | (simp; done) | (simp; omega))
    · have E := hide (show atS 3 i j = 16 + i by unfold atS; rw [if_neg (by rw [mostI_3]; omega), if_neg (by omega), begI_3])
      · go_enter Tryz.func86, Tryz.ntmps86
        go_wp2_with (go_at_call 93; (with_reducible refine (parts_any _).mono ?_); rintro e w1 ⟨rfl, hb⟩; have hX := Ext.refl w1; have HX1 := hide (hW.trans hb); clear hb; go_frame)
        go_ret
        refine ⟨?_, HX1.out.trans (by repeat (first | exact Ext.refl _ | exact Ext.alloc _ _ | exact Ext.drewN _ _ | assumption | refine Ext.trans ?_ (Ext.alloc _ _) | refine Ext.trans ?_ (Ext.drew _) | refine Ext.trans ?_ (by assumption)))⟩; rw [E.out]; (first | rfl | (simp; done) | (simp; omega))
theorem at_4 {i j : Int} (w : World) : Calls Tryz.prog 86 #[.int .i64 4, .int .i64 i, .int .i64 j] w fun e w' => e = .returned (.int .i64 (atS 4 i j)) ∧ Ext w w' := by
  have IX := ix_4
  have hW := Ext.refl w
  by_cases c1 : i < 0
  · have E := hide (show atS 4 i j = -1 by unfold atS; rw [if_pos (by omega)])
    · go_enter Tryz.func86, Tryz.ntmps86
      go_wp2_with (go_at_call 93; (with_reducible refine (parts_any _).mono ?_); rintro e w1 ⟨rfl, hb⟩; have hX := Ext.refl w1; have HX1 := hide (hW.trans hb); clear hb; go_frame)
      go_ret
      refine ⟨?_, HX1.out.trans (by repeat (first | exact Ext.refl _ | exact Ext.alloc _ _ | exact Ext.drewN _ _ | assumption | refine Ext.trans ?_ (Ext.alloc _ _) | refine Ext.trans ?_ (Ext.drew _) | refine Ext.trans ?_ (by assumption)))⟩; rw [E.out]; (first | rfl | (simp; done) | (simp; omega))
  · by_cases c2 : 16 ≤ i
    · have E := hide (show atS 4 i j = -1 by unfold atS; rw [if_pos (by rw [mostI_4]; omega)])
      · go_enter Tryz.func86, Tryz.ntmps86
        go_wp2_with (go_at_call 93; (with_reducible refine (parts_any _).mono ?_); rintro e w1 ⟨rfl, hb⟩; have hX := Ext.refl w1; have HX1 := hide (hW.trans hb); clear hb; go_frame)
        go_ret
        refine ⟨?_, HX1.out.trans (by repeat (first | exact Ext.refl _ | exact Ext.alloc _ _ | exact Ext.drewN _ _ | assumption | refine Ext.trans ?_ (Ext.alloc _ _) | refine Ext.trans ?_ (Ext.drew _) | refine Ext.trans ?_ (by assumption)))⟩; rw [E.out]; (first | rfl | (simp; done) | (simp; omega))
    · have E := hide (show atS 4 i j = 32 + i by unfold atS; rw [if_neg (by rw [mostI_4]; omega), if_neg (by omega), begI_4])
      · go_enter Tryz.func86, Tryz.ntmps86
        go_wp2_with (go_at_call 93; (with_reducible refine (parts_any _).mono ?_); rintro e w1 ⟨rfl, hb⟩; have hX := Ext.refl w1; have HX1 := hide (hW.trans hb); clear hb; go_frame)
        go_ret
        refine ⟨?_, HX1.out.trans (by repeat (first | exact Ext.refl _ | exact Ext.alloc _ _ | exact Ext.drewN _ _ | assumption | refine Ext.trans ?_ (Ext.alloc _ _) | refine Ext.trans ?_ (Ext.drew _) | refine Ext.trans ?_ (by assumption)))⟩; rw [E.out]; (first | rfl | (simp; done) | (simp; omega))
theorem at_5 {i j : Int} (w : World) : Calls Tryz.prog 86 #[.int .i64 5, .int .i64 i, .int .i64 j] w fun e w' => e = .returned (.int .i64 (atS 5 i j)) ∧ Ext w w' := by
  have IX := ix_5
  have hW := Ext.refl w
  by_cases c1 : i < 0
  · have E := hide (show atS 5 i j = -1 by unfold atS; rw [if_pos (by omega)])
    · go_enter Tryz.func86, Tryz.ntmps86
      go_wp2_with (go_at_call 93; (with_reducible refine (parts_any _).mono ?_); rintro e w1 ⟨rfl, hb⟩; have hX := Ext.refl w1; have HX1 := hide (hW.trans hb); clear hb; go_frame)
      go_ret
      refine ⟨?_, HX1.out.trans (by repeat (first | exact Ext.refl _ | exact Ext.alloc _ _ | exact Ext.drewN _ _ | assumption | refine Ext.trans ?_ (Ext.alloc _ _) | refine Ext.trans ?_ (Ext.drew _) | refine Ext.trans ?_ (by assumption)))⟩; rw [E.out]; (first | rfl | (simp; done) | (simp; omega))
  · by_cases c2 : 8 ≤ i
    · have E := hide (show atS 5 i j = -1 by unfold atS; rw [if_pos (by rw [mostI_5]; omega)])
      · go_enter Tryz.func86, Tryz.ntmps86
        go_wp2_with (go_at_call 93; (with_reducible refine (parts_any _).mono ?_); rintro e w1 ⟨rfl, hb⟩; have hX := Ext.refl w1; have HX1 := hide (hW.trans hb); clear hb; go_frame)
        go_ret
        refine ⟨?_, HX1.out.trans (by repeat (first | exact Ext.refl _ | exact Ext.alloc _ _ | exact Ext.drewN _ _ | assumption | refine Ext.trans ?_ (Ext.alloc _ _) | refine Ext.trans ?_ (Ext.drew _) | refine Ext.trans ?_ (by assumption)))⟩; rw [E.out]; (first | rfl | (simp; done) | (simp; omega))
    · have E := hide (show atS 5 i j = 48 + i by unfold atS; rw [if_neg (by rw [mostI_5]; omega), if_neg (by omega), begI_5])
      · go_enter Tryz.func86, Tryz.ntmps86
        go_wp2_with (go_at_call 93; (with_reducible refine (parts_any _).mono ?_); rintro e w1 ⟨rfl, hb⟩; have hX := Ext.refl w1; have HX1 := hide (hW.trans hb); clear hb; go_frame)
        go_ret
        refine ⟨?_, HX1.out.trans (by repeat (first | exact Ext.refl _ | exact Ext.alloc _ _ | exact Ext.drewN _ _ | assumption | refine Ext.trans ?_ (Ext.alloc _ _) | refine Ext.trans ?_ (Ext.drew _) | refine Ext.trans ?_ (by assumption)))⟩; rw [E.out]; (first | rfl | (simp; done) | (simp; omega))
theorem at_6 {i j : Int} (w : World) : Calls Tryz.prog 86 #[.int .i64 6, .int .i64 i, .int .i64 j] w fun e w' => e = .returned (.int .i64 (atS 6 i j)) ∧ Ext w w' := by
  have IX := ix_6
  have hW := Ext.refl w
  by_cases c1 : i < 0
  · have E := hide (show atS 6 i j = -1 by unfold atS; rw [if_pos (by omega)])
    · go_enter Tryz.func86, Tryz.ntmps86
      go_wp2_with (go_at_call 93; (with_reducible refine (parts_any _).mono ?_); rintro e w1 ⟨rfl, hb⟩; have hX := Ext.refl w1; have HX1 := hide (hW.trans hb); clear hb; go_frame)
      go_ret
      refine ⟨?_, HX1.out.trans (by repeat (first | exact Ext.refl _ | exact Ext.alloc _ _ | exact Ext.drewN _ _ | assumption | refine Ext.trans ?_ (Ext.alloc _ _) | refine Ext.trans ?_ (Ext.drew _) | refine Ext.trans ?_ (by assumption)))⟩; rw [E.out]; (first | rfl | (simp; done) | (simp; omega))
  · by_cases c2 : 8 ≤ i
    · have E := hide (show atS 6 i j = -1 by unfold atS; rw [if_pos (by rw [mostI_6]; omega)])
      · go_enter Tryz.func86, Tryz.ntmps86
        go_wp2_with (go_at_call 93; (with_reducible refine (parts_any _).mono ?_); rintro e w1 ⟨rfl, hb⟩; have hX := Ext.refl w1; have HX1 := hide (hW.trans hb); clear hb; go_frame)
        go_ret
        refine ⟨?_, HX1.out.trans (by repeat (first | exact Ext.refl _ | exact Ext.alloc _ _ | exact Ext.drewN _ _ | assumption | refine Ext.trans ?_ (Ext.alloc _ _) | refine Ext.trans ?_ (Ext.drew _) | refine Ext.trans ?_ (by assumption)))⟩; rw [E.out]; (first | rfl | (simp; done) | (simp; omega))
    · have E := hide (show atS 6 i j = 56 + i by unfold atS; rw [if_neg (by rw [mostI_6]; omega), if_neg (by omega), begI_6])
      · go_enter Tryz.func86, Tryz.ntmps86
        go_wp2_with (go_at_call 93; (with_reducible refine (parts_any _).mono ?_); rintro e w1 ⟨rfl, hb⟩; have hX := Ext.refl w1; have HX1 := hide (hW.trans hb); clear hb; go_frame)
        go_ret
        refine ⟨?_, HX1.out.trans (by repeat (first | exact Ext.refl _ | exact Ext.alloc _ _ | exact Ext.drewN _ _ | assumption | refine Ext.trans ?_ (Ext.alloc _ _) | refine Ext.trans ?_ (Ext.drew _) | refine Ext.trans ?_ (by assumption)))⟩; rw [E.out]; (first | rfl | (simp; done) | (simp; omega))
theorem at_7 {i j : Int} (w : World) : Calls Tryz.prog 86 #[.int .i64 7, .int .i64 i, .int .i64 j] w fun e w' => e = .returned (.int .i64 (atS 7 i j)) ∧ Ext w w' := by
  have IX := ix_7
  have hW := Ext.refl w
  by_cases c1 : i < 0
  · have E := hide (show atS 7 i j = -1 by unfold atS; rw [if_pos (by omega)])
    · go_enter Tryz.func86, Tryz.ntmps86
      go_wp2_with (go_at_call 93; (with_reducible refine (parts_any _).mono ?_); rintro e w1 ⟨rfl, hb⟩; have hX := Ext.refl w1; have HX1 := hide (hW.trans hb); clear hb; go_frame)
      go_ret
      refine ⟨?_, HX1.out.trans (by repeat (first | exact Ext.refl _ | exact Ext.alloc _ _ | exact Ext.drewN _ _ | assumption | refine Ext.trans ?_ (Ext.alloc _ _) | refine Ext.trans ?_ (Ext.drew _) | refine Ext.trans ?_ (by assumption)))⟩; rw [E.out]; (first | rfl | (simp; done) | (simp; omega))
  · by_cases c2 : 8 ≤ i
    · have E := hide (show atS 7 i j = -1 by unfold atS; rw [if_pos (by rw [mostI_7]; omega)])
      · go_enter Tryz.func86, Tryz.ntmps86
        go_wp2_with (go_at_call 93; (with_reducible refine (parts_any _).mono ?_); rintro e w1 ⟨rfl, hb⟩; have hX := Ext.refl w1; have HX1 := hide (hW.trans hb); clear hb; go_frame)
        go_ret
        refine ⟨?_, HX1.out.trans (by repeat (first | exact Ext.refl _ | exact Ext.alloc _ _ | exact Ext.drewN _ _ | assumption | refine Ext.trans ?_ (Ext.alloc _ _) | refine Ext.trans ?_ (Ext.drew _) | refine Ext.trans ?_ (by assumption)))⟩; rw [E.out]; (first | rfl | (simp; done) | (simp; omega))
    · by_cases c3 : j < 0
      · have E := hide (show atS 7 i j = -1 by unfold atS; rw [if_neg (by rw [mostI_7]; omega), if_pos rfl, if_pos (by omega)])
        · go_enter Tryz.func86, Tryz.ntmps86
          go_wp2_with (go_at_call 93; (with_reducible refine (parts_any _).mono ?_); rintro e w1 ⟨rfl, hb⟩; have hX := Ext.refl w1; have HX1 := hide (hW.trans hb); clear hb; go_frame)
          go_ret
          refine ⟨?_, HX1.out.trans (by repeat (first | exact Ext.refl _ | exact Ext.alloc _ _ | exact Ext.drewN _ _ | assumption | refine Ext.trans ?_ (Ext.alloc _ _) | refine Ext.trans ?_ (Ext.drew _) | refine Ext.trans ?_ (by assumption)))⟩; rw [E.out]; (first | rfl | (simp; done) | (simp; omega))
      · by_cases c4 : 8 ≤ j
        · have E := hide (show atS 7 i j = -1 by unfold atS; rw [if_neg (by rw [mostI_7]; omega), if_pos rfl, if_pos (by omega)])
          · go_enter Tryz.func86, Tryz.ntmps86
            go_wp2_with (go_at_call 93; (with_reducible refine (parts_any _).mono ?_); rintro e w1 ⟨rfl, hb⟩; have hX := Ext.refl w1; have HX1 := hide (hW.trans hb); clear hb; go_frame)
            go_ret
            refine ⟨?_, HX1.out.trans (by repeat (first | exact Ext.refl _ | exact Ext.alloc _ _ | exact Ext.drewN _ _ | assumption | refine Ext.trans ?_ (Ext.alloc _ _) | refine Ext.trans ?_ (Ext.drew _) | refine Ext.trans ?_ (by assumption)))⟩; rw [E.out]; (first | rfl | (simp; done) | (simp; omega))
        · have E := hide (show atS 7 i j = 64 + 8 * i + j by unfold atS; rw [if_neg (by rw [mostI_7]; omega), if_pos rfl, if_neg (by omega)])
          · go_enter Tryz.func86, Tryz.ntmps86
            go_wp2_with (go_at_call 93; (with_reducible refine (parts_any _).mono ?_); rintro e w1 ⟨rfl, hb⟩; have hX := Ext.refl w1; have HX1 := hide (hW.trans hb); clear hb; go_frame)
            go_ret
            refine ⟨?_, HX1.out.trans (by repeat (first | exact Ext.refl _ | exact Ext.alloc _ _ | exact Ext.drewN _ _ | assumption | refine Ext.trans ?_ (Ext.alloc _ _) | refine Ext.trans ?_ (Ext.drew _) | refine Ext.trans ?_ (by assumption)))⟩; rw [E.out]; (first | rfl | (simp; done) | (simp; omega))
theorem at_any (k i j : Int) (w : World) : Calls Tryz.prog 86 #[.int .i64 k, .int .i64 i, .int .i64 j] w fun e w' => e = .returned (.int .i64 (atS k i j)) ∧ Ext w w' := by
  by_cases h : k < 1 ∨ 7 < k
  · exact at_out w h
  · rcases kinds h with rfl | rfl | rfl | rfl | rfl | rfl | rfl
    · exact at_1 w
    · exact at_2 w
    · exact at_3 w
    · exact at_4 w
    · exact at_5 w
    · exact at_6 w
    · exact at_7 w
end Go.Proofs.YtlgomkocalieeaaGreatDoor.Ly
