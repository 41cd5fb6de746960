/- A new model. -/
import Derived.Test.YtlgomkocalieeaaGreatDoorMoP2
import Derived.Deep.MidRow
import Derived.Deep.WholeRow
namespace Go.Proofs.YtlgomkocalieeaaGreatDoor.Mo
set_option maxRecDepth 100000
open Go.RowKit Go.Maps
set_option linter.unusedSimpArgs false
set_option linter.unusedVariables false
set_option maxRecDepth 100000
set_option maxHeartbeats 8000000


theorem okN_eq (n m k : Int) : okN n m k = (witB n 8 && witB m 8 && witB k 60) := by unfold okN witB; rfl
theorem new_no {n m k : Int} (h : okN n m k = false) (w : World) : Calls Tryz.prog 89 #[.int .i64 n, .int .i64 m, .int .i64 k] w fun e w' => e = .returned (.tuple #[.pointer none, .int .i64 1]) ∧ w = w' := by
  rw [okN_eq] at h
  cases q1 : witB n 8
  · have c1 := within_any n 8 w
    rw [q1] at c1
    go_enter Tryz.func89, Tryz.ntmps89
    go_wp2_with fail
    refine c1.mono ?_
    rintro e w1 ⟨rfl, rfl⟩
    go_wp2_with fail
    go_ret2
    exact ⟨by simp, rfl⟩
  cases q2 : witB m 8
  · have c1 := within_any n 8 w
    have c2 := within_any m 8 w
    rw [q1] at c1
    rw [q2] at c2
    go_enter Tryz.func89, Tryz.ntmps89
    go_wp2_with fail
    refine c1.mono ?_
    rintro e w1 ⟨rfl, rfl⟩
    go_wp2_with fail
    refine c2.mono ?_
    rintro e w1 ⟨rfl, rfl⟩
    go_wp2_with fail
    go_ret2
    exact ⟨by simp, rfl⟩
  have q3 : witB k 60 = false := by rw [q1, q2] at h; simpa using h
  have c1 := within_any n 8 w
  have c2 := within_any m 8 w
  have c3 := within_any k 60 w
  rw [q1] at c1
  rw [q2] at c2
  rw [q3] at c3
  go_enter Tryz.func89, Tryz.ntmps89
  go_wp2_with fail
  refine c1.mono ?_
  rintro e w1 ⟨rfl, rfl⟩
  go_wp2_with fail
  refine c2.mono ?_
  rintro e w1 ⟨rfl, rfl⟩
  go_wp2_with fail
  refine c3.mono ?_
  rintro e w1 ⟨rfl, rfl⟩
  go_wp2_with fail
  go_ret2
  exact ⟨by simp, rfl⟩
def sv (n m k : Int) (i j : Nat) : Value :=
  if j = 0 then .int .i64 n else if j = 1 then .int .i64 m else if j = 2 then .int .i64 k
  else if j < 27 then (if j % 3 = 0 ∧ (j - 3) / 3 < i then .int .i64 (-1) else .int .i64 0) else .bool false
def sl (n m k : Int) (i : Nat) : Array Value := ((List.range 35).map (sv n m k i)).toArray
def zs : Array Value := ((List.range 35).map fun i => if i < 27 then Value.int .i64 0 else .bool false).toArray
theorem zs_set (n m k : Int) : ((zs.setIfInBounds 0 (.int .i64 n)).setIfInBounds 1 (.int .i64 m)).setIfInBounds 2 (.int .i64 k) = sl n m k 0 := by rfl
theorem sl_all (n m k : Int) (i : Nat) : ((sl n m k i).all fun x => x.oneCell') = true := by
  refine Array.all_eq_true_iff_forall_mem.2 fun v hv => ?_
  unfold sl at hv
  simp only [List.mem_toArray, List.mem_map] at hv
  obtain ⟨j, _, rfl⟩ := hv
  unfold sv
  repeat' split
  all_goals rfl
theorem sl_size (n m k : Int) (i : Nat) : (sl n m k i).size = 35 := by simp [sl]
theorem sl_at {n m k : Int} {i j : Nat} (h : j < 35) : (sl n m k i)[j]? = some (sv n m k i j) := by
  unfold sl
  rw [List.getElem?_toArray, List.getElem?_map, List.getElem?_range h]; rfl
theorem sl_set {n m k : Int} {i : Nat} (h : i < 8) : (sl n m k i).setIfInBounds (3 + i * 3) (.int .i64 (-1)) = sl n m k (i + 1) := by
  unfold sl
  rw [List.setIfInBounds_toArray, map_set_aux (sv n m k i) (sv n m k (i + 1)) 35 (3 + i * 3) _ ?_ ?_ (by omega)]
  · unfold sv
    repeat' split
    all_goals first | rfl | (exfalso; omega)
  · intro j hj hne
    unfold sv
    repeat' split
    all_goals first | rfl | (exfalso; omega)
theorem sl_rng {w : World} {b : Nat} {n m k : Int} {i : Nat} (h : Blk w b (sl n m k i) 225) : w.rangeAt b 0 (sl n m k i).toList := fun j v hv => by
  rw [Nat.zero_add, h.cell, ← hv, Array.getElem?_toList]
theorem built_mod (n m k W L : Nat) : Tryz.prog.built 229 [(0, .agg (sl n m k 8)), (1, .map (some W)), (2, .map (some L))] = some (pl (st0 n m k) W L) := by kernel_rfl
theorem inf_st : (Tryz.prog.info? 225).map (·.size) = some 35 := by kernel_rfl
theorem und_state : ∃ d, Tryz.prog.underlying 225 = some d ∧ d.isRow = true := ⟨_, Tryz.underlying225, rfl⟩
theorem new_ok {n m k : Nat} (h : okN n m k = true) (w : World) : Calls Tryz.prog 89 #[.int .i64 (n : Int), .int .i64 (m : Int), .int .i64 (k : Int)] w fun e w' => ∃ B W L, e = .returned (.tuple #[.pointer (some ⟨B, 0, none⟩), .int .i64 0]) ∧ ModT w' B W L (st0 n m k) ∧ w.heap.size ≤ B ∧ w.heap.size ≤ W ∧ w.heap.size ≤ L ∧ Ext w w' := by
  have HOK := hide (ok_st0 h)
  rw [okN_eq] at h
  simp only [Bool.and_eq_true] at h
  obtain ⟨⟨q1, q2⟩, q3⟩ := h
  have c1 := within_any n 8 w
  have c2 := within_any m 8 w
  have c3 := within_any k 60 w
  rw [q1] at c1
  rw [q2] at c2
  rw [q3] at c3
  clear q1 q2 q3
  have hmm := @run_makeMap Tryz.prog
  obtain ⟨zz, hz1, hz3, hz4, hz5, hz6, hz2⟩ : ∃ zz : Array Value, (∀ w, (zeroValue 225).run Tryz.prog w = .ok (.agg zz) w) ∧ ¬ zz = #[] ∧ ¬ zz.size < 2 ∧ ¬ zz.size < 3 ∧ zz.size = 35 ∧ zz = zs := ⟨_, fun w => by kernel_rfl, by decide +kernel, by decide +kernel, by decide +kernel, by decide +kernel, rfl⟩
  have HZ := hide hz2
  have BM := hide (built_mod n m k)
  clear hz2
  go_enter Tryz.func89, Tryz.ntmps89
  go_wp2_with fail
  refine c1.mono ?_
  rintro e w1 ⟨rfl, rfl⟩
  go_wp2_with fail
  refine c2.mono ?_
  rintro e w1 ⟨rfl, rfl⟩
  go_wp2_with fail
  refine c3.mono ?_
  rintro e w1 ⟨rfl, rfl⟩
  clear c1 c2 c3
  generalize hzn : (n : Int) = zn at *
  generalize hzm : (m : Int) = zm at *
  generalize hzk : (k : Int) = zk at *
  clear hzn hzm hzk
  have ES := hide (show ((zz.setIfInBounds 0 (.int .i64 zn)).setIfInBounds 1 (.int .i64 zm)).setIfInBounds 2 (.int .i64 zk) = sl zn zm zk 0 by rw [HZ.out]; exact zs_set zn zm zk)
  have AL := hide (show ((((zz.setIfInBounds 0 (.int .i64 zn)).setIfInBounds 1 (.int .i64 zm)).setIfInBounds 2 (.int .i64 zk)).all fun x => x.oneCell') = true by rw [ES.out]; exact sl_all _ _ _ _)
  have IS := hide (show (Tryz.prog.info? 225).map (·.size) = some (((zz.setIfInBounds 0 (.int .i64 zn)).setIfInBounds 1 (.int .i64 zm)).setIfInBounds 2 (.int .i64 zk)).size by simp only [Array.size_setIfInBounds, hz6]; exact inf_st)
  go_wp2_with (first | (with_reducible refine wpList_store_row rfl 225 _ _ rfl _ _ rfl rfl 225 zz (heap_alloc_new w _) IS.out (by simp) AL.out ?_; rw [World.setRow_alloc_new, ES.out]; clear hz1 hz3 hz4 hz5 hz6; go_frame) | go_in)
  have B0 := Blk.new w (sl zn zm zk 0) 225
  have X0 := Ext.alloc w (.cells (sl zn zm zk 0) 225)
  have hs0 : (w.alloc (.cells (sl zn zm zk 0) 225)).heap.size = w.heap.size + 1 := by simp
  generalize w.alloc (.cells (sl zn zm zk 0) 225) = W0 at *
  go_loopw [27] (fun v wr => ∃ i : Nat, i ≤ 8 ∧ v = .int .i64 (i : Int) ∧ Blk wr w.heap.size (sl zn zm zk i) 225 ∧ Chg [w.heap.size] W0 wr ∧ wr.heap.size = w.heap.size + 1) (fun v _ => 8 - (intOf v).toNat)
  case atStart => exact ⟨0, by omega, rfl, B0, Chg.refl _ _, hs0⟩
  case round =>
    obtain ⟨i, hi, rfl, hb, hc, hs⟩ := hrel
    by_cases hlt : i < 8
    · have i8 : (i : Int) < 8 := by omega
      have r1 : wr.cell? ⟨w.heap.size, 3 + i * 3, none⟩ = some (sv zn zm zk i (3 + i * 3)) := by rw [hb.cell, sl_at (by omega)]
      have f1 := hb.free (3 + i * 3)
      have b2 := hb.set (3 + i * 3) (.int .i64 (-1))
      rw [sl_set hlt] at b2
      have c2 := hc.set (p := ⟨w.heap.size, 3 + i * 3, none⟩) (.inl (by simp)) (.int .i64 (-1))
      have HB := hide b2
      have HC := hide c2
      clear b2 c2 hb hc
      go_wp2_with fail
      go_roundw
      case rel => exact ⟨i + 1, by omega, by go_num, HB.out, HC.out, by simp [hs]⟩
      case measure => simp [intOf]; omega
    · obtain rfl : i = 8 := by omega
      have HC := hide hc
      have HB := hide hb
      have RG := hide (sl_rng hb)
      have HS := hide hs
      clear hb hc hs
      have hld := run_loadAt_mid (P := Tryz.prog) wr w.heap.size 0 225 (sl zn zm zk 8).toList _ RG.out Tryz.underlying225 rfl (by rw [Array.length_toList, sl_size]; exact inf_st)
      clear hld
      have LS := hide (show (Tryz.prog.info? 225).map (·.size) = some (sl zn zm zk 8).toList.length by rw [Array.length_toList, sl_size]; exact inf_st)
      have BM2 := BM.out wr.heap.size (wr.heap.size + 1)
      obtain ⟨pz, hpz⟩ : ∃ pz, pz = pl (st0 n m k) wr.heap.size (wr.heap.size + 1) := ⟨_, rfl⟩
      rw [← hpz] at BM2
      have PZ := hide hpz
      have BM2 := hide BM2
      clear hpz BM ES AL IS HB
      obtain ⟨s8, hs8⟩ : ∃ s8, s8 = sl zn zm zk 8 := ⟨_, rfl⟩
      rw [← hs8] at BM2 RG LS
      clear hs8
      go_wp2_with (first
        | (with_reducible refine wpList_load_mid rfl 225 _ rfl w.heap.size 0 rfl s8.toList _ RG.out Tryz.underlying225 rfl LS.out ?_; rw [Array.toArray_toList]; go_frame)
        | (with_reducible refine wpList_build rfl 229 _ rfl ?_ ?_; (simp [Act.eval, BM2.out]); (simp [Act.eval, BM2.out]; go_frame))
        | go_in)
      go_ret2
      rw [PZ.out]
      have X1 := X0.turn HC.out (by simp)
      have hs := HS.out
      have hb := Blk.new ((wr.alloc (.map #[] 0)).alloc (.map #[] 0)) (pl (st0 n m k) wr.heap.size (wr.heap.size + 1)) 229
      rw [World.size_alloc, World.size_alloc] at hb
      have h1 : MI (((wr.alloc (.map #[] 0)).alloc (.map #[] 0)).alloc (.cells (pl (st0 n m k) wr.heap.size (wr.heap.size + 1)) 229)) wr.heap.size (st0 n m k).wt := MpT.of (((World.ownsMap_made wr Tryz.prog 270 rdI).alloc _).alloc _) (rep_no datI)
      have h2 : ML (((wr.alloc (.map #[] 0)).alloc (.map #[] 0)).alloc (.cells (pl (st0 n m k) wr.heap.size (wr.heap.size + 1)) 229)) (wr.heap.size + 1) (st0 n m k).lf := by
        have := (World.ownsMap_made (wr.alloc (.map #[] 0)) Tryz.prog 270 rdL).alloc (.cells (pl (st0 n m k) wr.heap.size (wr.heap.size + 1)) 229)
        rw [World.size_alloc] at this
        exact MpT.of this (rep_no datL)
      exact ⟨wr.heap.size + 1 + 1, wr.heap.size, wr.heap.size + 1, by simp, ⟨hb, h1, h2, HOK.out, by omega⟩, by omega, by omega, by omega, ((X1.trans (Ext.alloc _ _)).trans (Ext.alloc _ _)).trans (Ext.alloc _ _)⟩
end Go.Proofs.YtlgomkocalieeaaGreatDoor.Mo
