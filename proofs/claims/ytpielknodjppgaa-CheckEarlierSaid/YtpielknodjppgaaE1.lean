/- Maps copied, and held against each other; a model's struct held against itself. -/
import Derived.Test.YtpielknodjppgaaP3
import Derived.Shelf.SlMaps.Clone
import Derived.DeepKeys
import Derived.Deep.MidRow
namespace Go.Proofs.Ytpielknodjppgaa
open Go.RowKit Go.Maps
set_option linter.unusedSimpArgs false
set_option linter.unusedVariables false
set_option maxRecDepth 100000
set_option maxHeartbeats 4000000


theorem cloI_any {w : World} {m : Nat} {f : Int → Int → Option Int} (h : MI w m f) : Calls Try.prog 60 #[.map (some m)] w fun e w' => e = .returned (.map (some w.heap.size)) ∧ MI w' w.heap.size f ∧ Ext w w' := by
  obtain ⟨D, ⟨es, clock, hb, r⟩, rep⟩ := h
  have hq := fun w => run_eql_map_nil_sl (P := Try.prog) w 79 _ _ (some m) Try.underlying79
  have R := hide r
  have REP := hide rep
  have HB := hide hb
  clear r rep hb
  go_enter Try.func60, Try.ntmps60
  go_wp2
  rw [run_callFunc_extern Try.func63 (by kernel_rfl) (by kernel_rfl) (by kernel_rfl) (e := Extern.MapsClone.clone) (by kernel_rfl), run_maps_clone_sl w 79 HB.out]
  simp only [Result.andThen]
  rw [Oper.upon_value]
  go_wp2
  rw [run_typeAssert_map_sl _ 79 _ _ _ _ Try.underlying79]
  simp only [Result.andThen]
  rw [Oper.upon_value]
  go_wp2
  go_ret
  exact ⟨rfl, ⟨D, ⟨es, clock, heap_alloc_new w _, R.out⟩, REP.out⟩, Ext.alloc _ _⟩
theorem cloL_any {w : World} {m : Nat} {f : Int → Int → Option (Int × Int)} (h : ML w m f) : Calls Try.prog 61 #[.map (some m)] w fun e w' => e = .returned (.map (some w.heap.size)) ∧ ML w' w.heap.size f ∧ Ext w w' := by
  obtain ⟨D, ⟨es, clock, hb, r⟩, rep⟩ := h
  have hq := fun w => run_eql_map_nil_sl (P := Try.prog) w 80 _ _ (some m) Try.underlying80
  have R := hide r
  have REP := hide rep
  have HB := hide hb
  clear r rep hb
  go_enter Try.func61, Try.ntmps61
  go_wp2
  rw [run_callFunc_extern Try.func63 (by kernel_rfl) (by kernel_rfl) (by kernel_rfl) (e := Extern.MapsClone.clone) (by kernel_rfl), run_maps_clone_sl w 80 HB.out]
  simp only [Result.andThen]
  rw [Oper.upon_value]
  go_wp2
  rw [run_typeAssert_map_sl _ 80 _ _ _ _ Try.underlying80]
  simp only [Result.andThen]
  rw [Oper.upon_value]
  go_wp2
  go_ret
  exact ⟨rfl, ⟨D, ⟨es, clock, heap_alloc_new w _, R.out⟩, REP.out⟩, Ext.alloc _ _⟩
theorem mapM_some {α β : Type} {f : α → Option β} : ∀ l : List α, (∀ i, i ∈ l → ∃ y, f i = some y) → ∃ ys, l.mapM f = some ys
  | [], _ => ⟨[], rfl⟩
  | a :: l, h => by
    obtain ⟨y, hy⟩ := h a (by simp)
    obtain ⟨ys, hys⟩ := mapM_some l (fun i hi => h i (by simp [hi]))
    exact ⟨y :: ys, by simp [hy, hys]⟩
def st (S : St) : Array Value := ((List.range 35).map (pv S 0 0)).toArray
theorem st_size (S : St) : (st S).size = 35 := by simp [st]
theorem st_rng {w : World} {B W L : Nat} {S : St} (h : Blk w B (pl S W L) 82) : w.rangeAt B 0 (st S).toList := fun j v hv => by
  unfold st at hv
  rw [List.toList_toArray, List.getElem?_map] at hv
  have hj : j < 35 := by
    rcases Nat.lt_or_ge j 35 with q | q
    · exact q
    · rw [List.getElem?_eq_none (by simpa using q)] at hv; cases hv
  rw [List.getElem?_range hj] at hv
  simp only [Option.map_some, Option.some.injEq] at hv
  rw [Nat.zero_add, h.cell, pl_at (by omega), ← hv]
  unfold pv
  repeat' split
  all_goals first | rfl | (exfalso; omega)
section
variable {S : St}
theorem kl_int (d : Nat) {x : Int} (h : wfI x) : Try.prog.keyLits (d + 1) 3 [.int .i64 x] = some [.int .i64 x] := by
  unfold wfI at h
  unfold Program.keyLits
  simp [Try.underlying3, h]
theorem kl_bool (d : Nat) (b : Bool) : Try.prog.keyLits (d + 1) 4 [.bool b] = some [.bool b] := by
  unfold Program.keyLits
  simp [Try.underlying4]
theorem kl_obj (d : Nat) {x y z : Int} (h1 : wfI x) (h2 : wfI y) (h3 : wfI z) : Try.prog.keyLits (d + 2) 75 [.int .i64 x, .int .i64 y, .int .i64 z] = some [.int .i64 x, .int .i64 y, .int .i64 z] := by
  have hc : Try.prog.cellsOf 75 = 3 := by kernel_rfl
  have hci : Try.prog.cellsOf 3 = 1 := by kernel_rfl
  unfold Program.keyLits
  rw [Try.underlying75]
  simp [hc, hci, kl_int d h1, kl_int d h2, kl_int d h3]
theorem kl_o8 (d : Nat) (cs : List Value) (hl : cs.length = 24) (h : ∀ i, i < 8 → ∃ x y z : Int, ((cs.drop (i * 3)).take 3) = [.int .i64 x, .int .i64 y, .int .i64 z] ∧ wfI x ∧ wfI y ∧ wfI z) : ∃ ls, Try.prog.keyLits (d + 3) 76 cs = some ls := by
  have hc : Try.prog.cellsOf 76 = 24 := by kernel_rfl
  have hco : Try.prog.cellsOf 75 = 3 := by kernel_rfl
  obtain ⟨ys, hys⟩ := mapM_some (f := fun i => Try.prog.keyLits (d + 2) 75 ((cs.drop (i * 3)).take 3)) (List.range 8) (fun i hi => by
    obtain ⟨x, y, z, e, w1, w2, w3⟩ := h i (List.mem_range.1 hi)
    simp only [e]
    exact ⟨_, kl_obj d w1 w2 w3⟩)
  refine ⟨ys.flatten, ?_⟩
  unfold Program.keyLits
  rw [Try.underlying76]
  simp only [hc, hco, hl, if_true]
  rw [hys]; rfl
theorem kl_b8 (d : Nat) (cs : List Value) (hl : cs.length = 8) (h : ∀ i, i < 8 → ∃ b : Bool, ((cs.drop (i * 1)).take 1) = [.bool b]) : ∃ ls, Try.prog.keyLits (d + 2) 50 cs = some ls := by
  have hc : Try.prog.cellsOf 50 = 8 := by kernel_rfl
  have hco : Try.prog.cellsOf 4 = 1 := by kernel_rfl
  obtain ⟨ys, hys⟩ := mapM_some (f := fun i => Try.prog.keyLits (d + 1) 4 ((cs.drop (i * 1)).take 1)) (List.range 8) (fun i hi => by
    obtain ⟨b, e⟩ := h i (List.mem_range.1 hi)
    simp only [e]
    exact ⟨_, kl_bool d b⟩)
  refine ⟨ys.flatten, ?_⟩
  unfold Program.keyLits
  rw [Try.underlying50]
  simp only [hc, hco, hl, if_true]
  rw [hys]; rfl
theorem kl_state (ok : Ok S) : ∃ ls, Try.prog.keyLits 6 78 (st S).toList = some ls := by
  have hc : Try.prog.cellsOf 78 = 35 := by kernel_rfl
  have hci : Try.prog.cellsOf 3 = 1 := by kernel_rfl
  have hc8 : Try.prog.cellsOf 76 = 24 := by kernel_rfl
  have hcb : Try.prog.cellsOf 50 = 8 := by kernel_rfl
  have n1 := ok.n1
  have m1 := ok.m1
  have k1 := ok.k1
  have wo : ∀ i, wfI (S.own i) := fun i => by have := ok.own i; exact wfI_of (by omega) (by omega)
  have wc : ∀ i, wfI (S.cnt i) := fun i => by have := ok.own i; exact wfI_of (by omega) (by omega)
  have wh : ∀ i, wfI (S.hsh i) := fun i => by have := ok.hsh i; exact wfI_of (by omega) (by omega)
  obtain ⟨l8, e8⟩ := kl_o8 2 (((st S).toList.drop 3).take 24) (by simp [st]) (fun i hi => by
    have hi : i = 0 ∨ i = 1 ∨ i = 2 ∨ i = 3 ∨ i = 4 ∨ i = 5 ∨ i = 6 ∨ i = 7 := by omega
    rcases hi with rfl | rfl | rfl | rfl | rfl | rfl | rfl | rfl <;> exact ⟨_, _, _, rfl, wo _, wc _, wh _⟩)
  obtain ⟨lb, eb⟩ := kl_b8 3 (((st S).toList.drop 27).take 8) (by simp [st]) (fun i hi => by
    have hi : i = 0 ∨ i = 1 ∨ i = 2 ∨ i = 3 ∨ i = 4 ∨ i = 5 ∨ i = 6 ∨ i = 7 := by omega
    rcases hi with rfl | rfl | rfl | rfl | rfl | rfl | rfl | rfl <;> exact ⟨_, rfl⟩)
  have e0 : ((st S).toList.drop 0).take 1 = [.int .i64 (S.N : Int)] := rfl
  have e1 : ((st S).toList.drop 1).take 1 = [.int .i64 (S.M : Int)] := rfl
  have e2 : ((st S).toList.drop 2).take 1 = [.int .i64 (S.K : Int)] := rfl
  have i0 := kl_int 4 (x := (S.N : Int)) (wfI_of (by omega) (by omega))
  have i1 := kl_int 4 (x := (S.M : Int)) (wfI_of (by omega) (by omega))
  have i2 := kl_int 4 (x := (S.K : Int)) (wfI_of (by omega) (by omega))
  have hl : (st S).toList.length = 35 := by simp [st]
  generalize (st S).toList = cs at *
  unfold Program.keyLits
  rw [Try.underlying78]
  simp only [hc, hl, true_and]
  rw [if_pos (by simp)]
  simp [hci, hc8, hcb] at e0 e1 e2 ⊢
  simp [e0, e1, e2, i0, i1, i2, e8, eb]
theorem eq_state (ok : Ok S) (w : World) : (binOp .eql 78 (.agg (st S)) (.agg (st S))).run Try.prog w = .ok (.bool true) w := by
  obtain ⟨ls, hls⟩ := kl_state ok
  have hf : (Value.agg (st S)).formed Try.prog 78 = true := by
    unfold Value.formed
    rw [Try.underlying78]
    simp [st_size, show Try.prog.cellsOf 78 = 35 from by kernel_rfl]
  obtain ⟨r, h1, h2⟩ := run_equalIn_deep (P := Try.prog) 9990 10 78 (by kernel_rfl) w 6 6 (.agg (st S)) (.agg (st S)) ls ls hf hf hls hls
  have : r = true := h2.2 rfl
  subst this
  rw [run_eql_struct, h1]
  rfl
end
end Go.Proofs.Ytpielknodjppgaa
