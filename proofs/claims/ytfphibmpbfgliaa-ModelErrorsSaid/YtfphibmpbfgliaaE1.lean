/- Maps copied, and held against each other; a model's struct held against itself. -/
import Derived.Test.YtfphibmpbfgliaaP3
import Derived.Shelf.SlMaps.Clone
import Derived.DeepKeys
import Derived.Deep.MidRow
namespace Go.Proofs.Ytfphibmpbfgliaa
open Go.RowKit Go.Maps
set_option linter.unusedSimpArgs false
set_option linter.unusedVariables false
set_option maxRecDepth 100000
set_option maxHeartbeats 4000000


theorem cloI_any {w : World} {m : Nat} {f : Int → Int → Option Int} (h : MI w m f) : Calls Try.prog 39 #[.map (some m)] w fun e w' => e = .returned (.map (some w.heap.size)) ∧ MI w' w.heap.size f ∧ Ext w w' := by
  obtain ⟨D, ⟨es, clock, hb, r⟩, rep⟩ := h
  have hq := fun w => run_eql_map_nil_sl (P := Try.prog) w 61 _ _ (some m) Try.underlying61
  have R := hide r
  have REP := hide rep
  have HB := hide hb
  clear r rep hb
  go_enter Try.func39, Try.ntmps39
  go_wp2
  rw [run_callFunc_extern Try.func52 (by kernel_rfl) (by kernel_rfl) (by kernel_rfl) (e := Extern.MapsClone.clone) (by kernel_rfl), run_maps_clone_sl w 61 HB.out]
  simp only [Result.andThen]
  rw [Oper.upon_value]
  go_wp2
  rw [run_typeAssert_map_sl _ 61 _ _ _ _ Try.underlying61]
  simp only [Result.andThen]
  rw [Oper.upon_value]
  go_wp2
  go_ret
  exact ⟨rfl, ⟨D, ⟨es, clock, heap_alloc_new w _, R.out⟩, REP.out⟩, Ext.alloc _ _⟩
theorem cloL_any {w : World} {m : Nat} {f : Int → Int → Option (Int × Int)} (h : ML w m f) : Calls Try.prog 40 #[.map (some m)] w fun e w' => e = .returned (.map (some w.heap.size)) ∧ ML w' w.heap.size f ∧ Ext w w' := by
  obtain ⟨D, ⟨es, clock, hb, r⟩, rep⟩ := h
  have hq := fun w => run_eql_map_nil_sl (P := Try.prog) w 62 _ _ (some m) Try.underlying62
  have R := hide r
  have REP := hide rep
  have HB := hide hb
  clear r rep hb
  go_enter Try.func40, Try.ntmps40
  go_wp2
  rw [run_callFunc_extern Try.func52 (by kernel_rfl) (by kernel_rfl) (by kernel_rfl) (e := Extern.MapsClone.clone) (by kernel_rfl), run_maps_clone_sl w 62 HB.out]
  simp only [Result.andThen]
  rw [Oper.upon_value]
  go_wp2
  rw [run_typeAssert_map_sl _ 62 _ _ _ _ Try.underlying62]
  simp only [Result.andThen]
  rw [Oper.upon_value]
  go_wp2
  go_ret
  exact ⟨rfl, ⟨D, ⟨es, clock, heap_alloc_new w _, R.out⟩, REP.out⟩, Ext.alloc _ _⟩
theorem eqI_any {w : World} {m1 m2 : Nat} {f : Int → Int → Option Int} (hd : Dom f) (h1 : MI w m1 f) (h2 : MI w m2 f) : Calls Try.prog 41 #[.map (some m1), .map (some m2)] w fun e w' => e = .returned (.bool true) ∧ Ext w w' := by
  have H2 := hide h2
  obtain ⟨D, hown, rep⟩ := h1
  have hml := hown.lt
  have L1 := fun ty => hown.len (t := 61) (e := 3) Try.underlying61 ty
  obtain ⟨D2, hown2, rep2⟩ := h2
  have L2 := fun ty => hown2.len (t := 61) (e := 3) Try.underlying61 ty
  have e12 : Maps.size D2 = Maps.size D := by rw [rep.size, rep2.size]
  rw [e12] at L2
  have REP := hide rep
  have HD := hide hd
  clear rep rep2 e12 hown2
  generalize Maps.size D = sz at *
  go_enter Try.func41, Try.ntmps41
  go_wp2_with (first
    | (at_range; refine wpList_range_own _ rfl _ 61 rfl 80 3 kS Try.underlying61 rdI m1 64 D rfl hown ?_; intro w0 hrg0 hg0 hs0)
    | go_in)
  go_frame
  have HX := hide (Ext.grown (Ext.refl w) hg0 (by intro k hk; cases hk))
  have HS := hide hs0
  clear hg0 hs0 L1 L2
  obtain ⟨r, hr⟩ : ∃ r, r = w.heap.size := ⟨_, rfl⟩
  rw [← hr] at hrg0 ⊢
  have HR := hide hr
  clear hr
  go_loopw [18] (fun _ wr => ∃ (left : Lit → Bool) (cnt : Nat), wr.ranges Try.prog 80 rdI m1 r 64 D left cnt ∧ Chg [r] w0 wr) (fun _ wr => wr.rangeLeft m1 r)
  case atStart => exact ⟨_, _, hrg0, Chg.refl _ _⟩
  case round =>
    clear hrg0
    obtain ⟨left, cnt, hrg, hch⟩ := hrel
    go_wp2_with (first
      | (at_next; refine wpList_next_sp _ rfl _ rfl rdI m1 r 64 D left cnt rfl hrg ?_ ?_)
      | go_in)
    · intro hc0 hl0
      have r1 := HR.out
      have hX := HX.out.turn hch (by simp; omega)
      clear hrg hch r1
      go_wp2_with fail
      go_ret
      exact ⟨rfl, hX⟩
    · intro x y vv dd ps w2 cnt2 wx wy hlx hrv hat hrg2 hlt hg2 hs2 hen
      have hch2 := hch.trans (Chg.of_grown hg2 (T := [r]) (by simp))
      have r1 := HR.out
      have hh : (f x y).isSome = true := by rw [← REP.out.has x y wx wy]; exact Maps.has_true_of_atKey hat
      obtain ⟨a, ha⟩ := Option.isSome_iff_exists.1 hh
      have hda := (hat .nil).symm.trans (REP.out.val x y a wx wy ha .nil)
      obtain ⟨c, hcv, hcd⟩ := rdI_inv hrv
      have hca : c = a := datI_inj ((Prod.mk.inj hcd).1.symm.trans hda)
      subst hca
      subst hcv
      have hX2 := HX.out.turn hch2 (by simp; omega)
      have HZ := hide (Ext.alloc w2 (.cells #[.int .i64 x, .int .i64 y] 80))
      have look := MI.look (H2.out.ext (hX2.trans HZ.out)) wx wy
      rw [ha] at look
      simp only [Option.getD_some, Option.isSome_some] at look
      have HC2 := hide hch2
      have HR2 := hide (rg_ext hrg2 HZ.out)
      have HG := hide hrg
      have HLT := hide hlt
      clear hs2 hg2 hat hrg hch hlx hown r1 hch2 hrg2 hh hrv hda ha hcd hlt hX2
      go_wp2_with fail
      go_roundw
      case rel => first | exact ⟨_, cnt2, HR2.out, HC2.out.trans (HZ.out.chg _)⟩ | exact ⟨_, cnt2, rg_ext HR2.out (Ext.alloc _ _), HC2.out.trans ((HZ.out.trans (Ext.alloc _ _)).chg _)⟩
      case measure => first | (rw [HR2.out.left_eq, HG.out.left_eq]; exact HLT.out) | (rw [(rg_ext HR2.out (Ext.alloc _ _)).left_eq, HG.out.left_eq]; exact HLT.out)
theorem eqL_any {w : World} {m1 m2 : Nat} {f : Int → Int → Option (Int × Int)} (hd : Dom f) (h1 : ML w m1 f) (h2 : ML w m2 f) : Calls Try.prog 42 #[.map (some m1), .map (some m2)] w fun e w' => e = .returned (.bool true) ∧ Ext w w' := by
  have H2 := hide h2
  obtain ⟨D, hown, rep⟩ := h1
  have hml := hown.lt
  have L1 := fun ty => hown.len (t := 62) (e := 77) Try.underlying62 ty
  obtain ⟨D2, hown2, rep2⟩ := h2
  have L2 := fun ty => hown2.len (t := 62) (e := 77) Try.underlying62 ty
  have e12 : Maps.size D2 = Maps.size D := by rw [rep.size, rep2.size]
  rw [e12] at L2
  have REP := hide rep
  have HD := hide hd
  clear rep rep2 e12 hown2
  generalize Maps.size D = sz at *
  go_enter Try.func42, Try.ntmps42
  go_wp2_with (first
    | (at_range; refine wpList_range_own _ rfl _ 62 rfl 80 77 kS Try.underlying62 rdL m1 64 D rfl hown ?_; intro w0 hrg0 hg0 hs0)
    | go_in)
  go_frame
  have HX := hide (Ext.grown (Ext.refl w) hg0 (by intro k hk; cases hk))
  have HS := hide hs0
  clear hg0 hs0 L1 L2
  obtain ⟨r, hr⟩ : ∃ r, r = w.heap.size := ⟨_, rfl⟩
  rw [← hr] at hrg0 ⊢
  have HR := hide hr
  clear hr
  go_loopw [18] (fun _ wr => ∃ (left : Lit → Bool) (cnt : Nat), wr.ranges Try.prog 80 rdL m1 r 64 D left cnt ∧ Chg [r] w0 wr) (fun _ wr => wr.rangeLeft m1 r)
  case atStart => exact ⟨_, _, hrg0, Chg.refl _ _⟩
  case round =>
    clear hrg0
    obtain ⟨left, cnt, hrg, hch⟩ := hrel
    go_wp2_with (first
      | (at_next; refine wpList_next_sp _ rfl _ rfl rdL m1 r 64 D left cnt rfl hrg ?_ ?_)
      | go_in)
    · intro hc0 hl0
      have r1 := HR.out
      have hX := HX.out.turn hch (by simp; omega)
      clear hrg hch r1
      go_wp2_with fail
      go_ret
      exact ⟨rfl, hX⟩
    · intro x y vv dd ps w2 cnt2 wx wy hlx hrv hat hrg2 hlt hg2 hs2 hen
      have hch2 := hch.trans (Chg.of_grown hg2 (T := [r]) (by simp))
      have r1 := HR.out
      have hh : (f x y).isSome = true := by rw [← REP.out.has x y wx wy]; exact Maps.has_true_of_atKey hat
      obtain ⟨a, ha⟩ := Option.isSome_iff_exists.1 hh
      have hda := (hat .nil).symm.trans (REP.out.val x y a wx wy ha .nil)
      obtain ⟨c, hcv, hcd⟩ := rdL_inv hrv
      have hca : c = a := datL_inj ((Prod.mk.inj hcd).1.symm.trans hda)
      subst hca
      subst hcv
      have hX2 := HX.out.turn hch2 (by simp; omega)
      have HZ := hide ((Ext.alloc w2 (.cells #[.int .i64 x, .int .i64 y] 80)).trans (Ext.alloc _ (.cells #[.int .i64 c.1, .int .i64 c.2] 77)))
      have look := ML.look (H2.out.ext (hX2.trans HZ.out)) wx wy
      rw [ha] at look
      simp only [Option.getD_some, Option.isSome_some] at look
      have HC2 := hide hch2
      have HR2 := hide (rg_ext hrg2 HZ.out)
      have HG := hide hrg
      have HLT := hide hlt
      clear hs2 hg2 hat hrg hch hlx hown r1 hch2 hrg2 hh hrv hda ha hcd hlt hX2
      go_wp2_with fail
      go_roundw
      case rel => first | exact ⟨_, cnt2, HR2.out, HC2.out.trans (HZ.out.chg _)⟩ | exact ⟨_, cnt2, rg_ext HR2.out (Ext.alloc _ _), HC2.out.trans ((HZ.out.trans (Ext.alloc _ _)).chg _)⟩
      case measure => first | (rw [HR2.out.left_eq, HG.out.left_eq]; exact HLT.out) | (rw [(rg_ext HR2.out (Ext.alloc _ _)).left_eq, HG.out.left_eq]; exact HLT.out)
theorem mapM_some {α β : Type} {f : α → Option β} : ∀ l : List α, (∀ i, i ∈ l → ∃ y, f i = some y) → ∃ ys, l.mapM f = some ys
  | [], _ => ⟨[], rfl⟩
  | a :: l, h => by
    obtain ⟨y, hy⟩ := h a (by simp)
    obtain ⟨ys, hys⟩ := mapM_some l (fun i hi => h i (by simp [hi]))
    exact ⟨y :: ys, by simp [hy, hys]⟩
def st (S : St) : Array Value := ((List.range 35).map (pv S 0 0)).toArray
theorem st_size (S : St) : (st S).size = 35 := by simp [st]
theorem st_rng {w : World} {B W L : Nat} {S : St} (h : Blk w B (pl S W L) 64) : w.rangeAt B 0 (st S).toList := fun j v hv => by
  unfold st at hv
  rw [List.toList_toArray, List.getElem?_map] at hv
  have hj : j < 35 := by
    rcases Nat.lt_or_ge j 35 with q | q
    · exact q
    · rw [List.getElem?_eq_none (by simpa using q)] at hv; cases hv
  rw [List.getElem?_range hj] at hv
  simp only [Option.map_some, Option.some.injEq] at hv
  rw [Nat.zero_add, h.cell, pl_at (by omega), ← hv]
  unfold pv
  repeat' split
  all_goals first | rfl | (exfalso; omega)
section
variable {S : St}
theorem kl_int (d : Nat) {x : Int} (h : wfI x) : Try.prog.keyLits (d + 1) 3 [.int .i64 x] = some [.int .i64 x] := by
  unfold wfI at h
  unfold Program.keyLits
  simp [Try.underlying3, h]
theorem kl_bool (d : Nat) (b : Bool) : Try.prog.keyLits (d + 1) 4 [.bool b] = some [.bool b] := by
  unfold Program.keyLits
  simp [Try.underlying4]
theorem kl_obj (d : Nat) {x y z : Int} (h1 : wfI x) (h2 : wfI y) (h3 : wfI z) : Try.prog.keyLits (d + 2) 57 [.int .i64 x, .int .i64 y, .int .i64 z] = some [.int .i64 x, .int .i64 y, .int .i64 z] := by
  have hc : Try.prog.cellsOf 57 = 3 := by kernel_rfl
  have hci : Try.prog.cellsOf 3 = 1 := by kernel_rfl
  unfold Program.keyLits
  rw [Try.underlying57]
  simp [hc, hci, kl_int d h1, kl_int d h2, kl_int d h3]
theorem kl_o8 (d : Nat) (cs : List Value) (hl : cs.length = 24) (h : ∀ i, i < 8 → ∃ x y z : Int, ((cs.drop (i * 3)).take 3) = [.int .i64 x, .int .i64 y, .int .i64 z] ∧ wfI x ∧ wfI y ∧ wfI z) : ∃ ls, Try.prog.keyLits (d + 3) 58 cs = some ls := by
  have hc : Try.prog.cellsOf 58 = 24 := by kernel_rfl
  have hco : Try.prog.cellsOf 57 = 3 := by kernel_rfl
  obtain ⟨ys, hys⟩ := mapM_some (f := fun i => Try.prog.keyLits (d + 2) 57 ((cs.drop (i * 3)).take 3)) (List.range 8) (fun i hi => by
    obtain ⟨x, y, z, e, w1, w2, w3⟩ := h i (List.mem_range.1 hi)
    simp only [e]
    exact ⟨_, kl_obj d w1 w2 w3⟩)
  refine ⟨ys.flatten, ?_⟩
  unfold Program.keyLits
  rw [Try.underlying58]
  simp only [hc, hco, hl, if_true]
  rw [hys]; rfl
theorem kl_b8 (d : Nat) (cs : List Value) (hl : cs.length = 8) (h : ∀ i, i < 8 → ∃ b : Bool, ((cs.drop (i * 1)).take 1) = [.bool b]) : ∃ ls, Try.prog.keyLits (d + 2) 29 cs = some ls := by
  have hc : Try.prog.cellsOf 29 = 8 := by kernel_rfl
  have hco : Try.prog.cellsOf 4 = 1 := by kernel_rfl
  obtain ⟨ys, hys⟩ := mapM_some (f := fun i => Try.prog.keyLits (d + 1) 4 ((cs.drop (i * 1)).take 1)) (List.range 8) (fun i hi => by
    obtain ⟨b, e⟩ := h i (List.mem_range.1 hi)
    simp only [e]
    exact ⟨_, kl_bool d b⟩)
  refine ⟨ys.flatten, ?_⟩
  unfold Program.keyLits
  rw [Try.underlying29]
  simp only [hc, hco, hl, if_true]
  rw [hys]; rfl
theorem kl_state (ok : Ok S) : ∃ ls, Try.prog.keyLits 6 60 (st S).toList = some ls := by
  have hc : Try.prog.cellsOf 60 = 35 := by kernel_rfl
  have hci : Try.prog.cellsOf 3 = 1 := by kernel_rfl
  have hc8 : Try.prog.cellsOf 58 = 24 := by kernel_rfl
  have hcb : Try.prog.cellsOf 29 = 8 := by kernel_rfl
  have n1 := ok.n1
  have m1 := ok.m1
  have k1 := ok.k1
  have wo : ∀ i, wfI (S.own i) := fun i => by have := ok.own i; exact wfI_of (by omega) (by omega)
  have wc : ∀ i, wfI (S.cnt i) := fun i => by have := ok.own i; exact wfI_of (by omega) (by omega)
  have wh : ∀ i, wfI (S.hsh i) := fun i => by have := ok.hsh i; exact wfI_of (by omega) (by omega)
  obtain ⟨l8, e8⟩ := kl_o8 2 (((st S).toList.drop 3).take 24) (by simp [st]) (fun i hi => by
    have hi : i = 0 ∨ i = 1 ∨ i = 2 ∨ i = 3 ∨ i = 4 ∨ i = 5 ∨ i = 6 ∨ i = 7 := by omega
    rcases hi with rfl | rfl | rfl | rfl | rfl | rfl | rfl | rfl <;> exact ⟨_, _, _, rfl, wo _, wc _, wh _⟩)
  obtain ⟨lb, eb⟩ := kl_b8 3 (((st S).toList.drop 27).take 8) (by simp [st]) (fun i hi => by
    have hi : i = 0 ∨ i = 1 ∨ i = 2 ∨ i = 3 ∨ i = 4 ∨ i = 5 ∨ i = 6 ∨ i = 7 := by omega
    rcases hi with rfl | rfl | rfl | rfl | rfl | rfl | rfl | rfl <;> exact ⟨_, rfl⟩)
  have e0 : ((st S).toList.drop 0).take 1 = [.int .i64 (S.N : Int)] := rfl
  have e1 : ((st S).toList.drop 1).take 1 = [.int .i64 (S.M : Int)] := rfl
  have e2 : ((st S).toList.drop 2).take 1 = [.int .i64 (S.K : Int)] := rfl
  have i0 := kl_int 4 (x := (S.N : Int)) (wfI_of (by omega) (by omega))
  have i1 := kl_int 4 (x := (S.M : Int)) (wfI_of (by omega) (by omega))
  have i2 := kl_int 4 (x := (S.K : Int)) (wfI_of (by omega) (by omega))
  have hl : (st S).toList.length = 35 := by simp [st]
  generalize (st S).toList = cs at *
  unfold Program.keyLits
  rw [Try.underlying60]
  simp only [hc, hl, true_and]
  rw [if_pos (by simp)]
  simp [hci, hc8, hcb] at e0 e1 e2 ⊢
  simp [e0, e1, e2, i0, i1, i2, e8, eb]
theorem eq_state (ok : Ok S) (w : World) : (binOp .eql 60 (.agg (st S)) (.agg (st S))).run Try.prog w = .ok (.bool true) w := by
  obtain ⟨ls, hls⟩ := kl_state ok
  have hf : (Value.agg (st S)).formed Try.prog 60 = true := by
    unfold Value.formed
    rw [Try.underlying60]
    simp [st_size, show Try.prog.cellsOf 60 = 35 from by kernel_rfl]
  obtain ⟨r, h1, h2⟩ := run_equalIn_deep (P := Try.prog) 9990 10 60 (by kernel_rfl) w 6 6 (.agg (st S)) (.agg (st S)) ls ls hf hf hls hls
  have : r = true := h2.2 rfl
  subst this
  rw [run_eql_struct, h1]
  rfl
end
end Go.Proofs.Ytfphibmpbfgliaa
