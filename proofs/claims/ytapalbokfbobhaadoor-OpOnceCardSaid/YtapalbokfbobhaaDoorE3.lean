/- The parts of a text between "; "; strings.SplitSeq as an iterator that turns its own box. -/
import Derived.Test.YtapalbokfbobhaaDoorE2
import Derived.Test.YtapalbokfbobhaaDoorTurn
import Derived.RangeFuncNested
import Derived.RangeFuncBound
import Derived.RangeFuncCalls
import Derived.RangeFuncLeaves
import Derived.RangeFuncBox
import Derived.Shelf.Abstract
import Derived.OwnWalkIn
import Derived.TacticsInMore
import Derived.LoopNIn
import Derived.LoopIn
import Derived.Lib.IndexLaws
namespace Go.Proofs.YtapalbokfbobhaaDoor
open Go.RowKit Go.Shelf
set_option linter.unusedSimpArgs false
set_option linter.unusedVariables false
set_option maxRecDepth 100000

attribute [local go_sem] Oper.semAt_some
theorem index_lt {l : List UInt8} (h : 0 ≤ Lib.index l [59, 32]) : (Lib.index l [59, 32]).toNat + 2 ≤ l.length := by
  have := Lib.index_room l [59, 32] h
  simp at this; omega
/-- The parts of a text between "; ". -/
def pieces (l : List UInt8) : List (List UInt8) :=
  if h : 0 ≤ Lib.index l [59, 32] then l.take (Lib.index l [59, 32]).toNat :: pieces (l.drop ((Lib.index l [59, 32]).toNat + 2)) else [l]
  termination_by l.length
  decreasing_by
  have := index_lt h
  rw [List.length_drop]; omega
theorem pieces_last {l : List UInt8} (h : Lib.index l [59, 32] = -1) : pieces l = [l] := by
  rw [pieces, dif_neg (by omega)]
theorem pieces_more {l : List UInt8} {i : Nat} (h : Lib.index l [59, 32] = (i : Int)) : pieces l = l.take i :: pieces (l.drop (i + 2)) := by
  rw [pieces, dif_pos (by omega), h]; rfl
/-- What a round keeps for the iterator: the blocks below Z, but those of T. -/
def Kq (Z : Nat) (T : List Nat) (W W' : World) : Prop := W.heap.size ≤ W'.heap.size ∧ ∀ b, b < W.heap.size → b < Z → b ∉ T → W'.heap[b]? = W.heap[b]?
theorem Kq.refl (Z : Nat) (T : List Nat) (W : World) : Kq Z T W W := ⟨Nat.le_refl _, fun _ _ _ _ => rfl⟩
theorem Kq.trans {Z : Nat} {T : List Nat} {A B C : World} (h : Kq Z T A B) (k : Kq Z T B C) : Kq Z T A C :=
  ⟨Nat.le_trans h.1 k.1, fun b hb hz hq => (k.2 b (Nat.lt_of_lt_of_le hb h.1) hz hq).trans (h.2 b hb hz hq)⟩
theorem Kq.set (Z : Nat) (W : World) (B : Nat) (v : Value) : Kq Z [B] W (W.setCell ⟨B, 0, none⟩ v) :=
  ⟨by simp [World.setCell], fun b hb hz hq => Below.heap_setCell W ⟨B, 0, none⟩ v b (by rintro rfl; simp at hq)⟩
theorem Kq.blk {Z : Nat} {T : List Nat} {W W' : World} (h : Kq Z T W W') {b : Nat} {cs : Array Value} {t : TypeId} (hb : Blk W b cs t) (hz : b < Z) (hq : b ∉ T) : Blk W' b cs t := (h.2 b hb.lt hz hq).trans hb
theorem Glob.kq {Z : Nat} {T : List Nat} {W W' : World} (h : Glob W) (k : Kq Z T W W') (hZ : 4 < Z ∧ 1 < Z ∧ 0 < Z) (hT : 4 ∉ T ∧ 1 ∉ T ∧ 0 ∉ T) : Glob W' := by
  obtain ⟨h1, ⟨m, h2⟩, h3⟩ := h
  have l1 := World.block_lt_of_cell? W _ (h1 0 (by omega))
  have l2 := World.block_lt_of_cell? W _ h2
  refine ⟨fun j hj => (World.cell?_of_block (a := ⟨0, j, none⟩) (k.2 _ l1 hZ.2.2 hT.2.2)).trans (h1 j hj), ⟨m, (World.cell?_of_block (a := ⟨1, 0, none⟩) (k.2 _ l2 hZ.2.1 hT.2.1)).trans h2⟩, ?_⟩
  unfold Lib.TabIs World.var? at *
  have hg : Tryd.prog.globalNamed "internal/strconv.uint64pow10" = some 4 := by kernel_rfl
  rw [hg] at h3 ⊢
  simp only [Option.bind_some] at h3 ⊢
  have hlt : 4 < W.heap.size := by
    rcases Nat.lt_or_ge 4 W.heap.size with h' | h'
    · exact h'
    · rw [Array.getElem?_eq_none h'] at h3; simp at h3
  rw [k.2 _ hlt hZ.1 hT.1]
  exact h3
/-- The length of the text that a box holds. -/
def lenAt (b : Nat) (W : World) : Nat := match W.cell? ⟨b, 0, none⟩ with | some (.string s) => s.size | _ => 0
theorem lenAt_of {b : Nat} {W : World} {l : List UInt8} {t : TypeId} (h : Blk W b #[(Value.string ⟨List.toArray (l)⟩)] t) : lenAt b W = l.length := by
  unfold lenAt; rw [show W.cell? ⟨b, 0, none⟩ = some (Value.string ⟨List.toArray (l)⟩) from h.cell 0]; simp [ByteArray.size]
set_option maxHeartbeats 2000000 in
theorem splitF_in (l Bs Be Bv Z : Nat) (T : List Nat) (hZ : Bs < Z ∧ Be < Z ∧ Bv < Z) (hT : Bs ∉ T ∧ Be ∉ T ∧ Bv ∉ T) (hn1 : Bs ≠ Be) (hn2 : Bs ≠ Bv)
    (gZ : 4 < Z ∧ 1 < Z ∧ 0 < Z) (gT : 4 ∉ T ∧ 1 ∉ T ∧ 0 ∉ T) (gB : Bs ≠ 4 ∧ Bs ≠ 1 ∧ Bs ≠ 0)
    (s : List UInt8) (hs : s.length ≤ 5000) (J Jx : List (List UInt8) → World → Prop) (hJ : ∀ pre W v, J pre W → J pre (W.setCell ⟨Bs, 0, none⟩ v))
    (hY : ∀ pre x W, J pre W → x.length ≤ 5000 → YieldAt Fence.wide 1 Tryd.prog l #[(Value.string ⟨List.toArray (x)⟩)] W fun e W' =>
      (e = .returned (.bool true) ∧ J (pre ++ [x]) W' ∧ Kq Z T W W') ∨ (e = .returned (.bool false) ∧ Jx (pre ++ [x]) W'))
    (W : World) (hb1 : Blk W Bs #[(Value.string ⟨List.toArray (s)⟩)] 9) (hb2 : Blk W Be #[(Value.string ⟨List.toArray ([59, 32])⟩)] 9) (hb3 : Blk W Bv #[.int .i64 0] 3) (hG : Glob W) (h0 : J [] W) :
    CallsIn Fence.wide 2 Tryd.prog 43 #[.func (.yield l) #[] #[], .pointer (some ⟨Be, 0, none⟩), .pointer (some ⟨Bs, 0, none⟩), .pointer (some ⟨Bv, 0, none⟩)] W fun e W' => (∃ v, e = .returned v) ∧
      (J (pieces s) W' ∨ (∃ pre, pre <+: pieces s ∧ Jx pre W')) := by
  have r2 := hb2.cell 0
  refine callsIn_of_wp Tryd.func43 rfl trivial ?_ rfl
  simp only [Tryd.ntmps43, List.size_toArray, List.length_cons, List.length_nil, Nat.reduceAdd, Nat.reduceSub, Array.replicate_succ, Array.replicate_zero, List.push_toArray, List.append_toArray, List.nil_append, List.cons_append]
  gi_wp2
  gi_loopw [] (fun wr => ∃ (pre : List (List UInt8)) (rest : List UInt8), pieces s = pre ++ pieces rest ∧ rest.length ≤ 5000 ∧ Blk wr Bs #[(Value.string ⟨List.toArray (rest)⟩)] 9 ∧ Blk wr Be #[(Value.string ⟨List.toArray ([59, 32])⟩)] 9 ∧ Blk wr Bv #[.int .i64 0] 3 ∧ Glob wr ∧ J pre wr) (fun wr => lenAt Bs wr)
  case atStart => exact ⟨[], s, rfl, hs, hb1, hb2, hb3, hG, h0⟩
  case round =>
    clear r2 h0 hG hb1 hb2 hb3
    obtain ⟨pre, rest, hp, hr, hb1, hb2, hb3, hG, hj⟩ := hrel
    have r1 := hb1.cell 0
    have r2 := hb2.cell 0
    have r3 := hb3.cell 0
    have hix := index_any rest [59, 32] wr hG (by omega)
    rcases Lib.indexB_cases ⟨rest.toArray⟩ ⟨[59, 32].toArray⟩ with hm | ⟨i, hm, hroom⟩
    · have hm : Lib.index rest [59, 32] = -1 := hm
      rw [hm] at hix
      have HP := hide (hp.trans (congrArg (pre ++ ·) (pieces_last hm)))
      clear hp
      obtain ⟨fn, tmps, assign, body, hy, hR⟩ := hY pre rest wr hj hr
      gi_wp2_with (refine ⟨trivial, ?_⟩; gi_at_call 45; refine (callsIn_wide.2 hix).mono ?_; rintro e w2 ⟨rfl, rfl⟩)
      refine hR.mono ?_
      rintro e W3 (⟨rfl, hJ3, hk3⟩ | ⟨rfl, hJx3⟩)
      · gi_wp2
        go_end0
        exact ⟨⟨_, rfl⟩, .inl (by rw [HP.out]; exact hJ3)⟩
      · gi_wp2
        go_end0
        exact ⟨⟨_, rfl⟩, .inr ⟨_, by rw [HP.out]; exact List.prefix_refl _, hJx3⟩⟩
    · have hm : Lib.index rest [59, 32] = (i : Int) := hm
      have hroom : i + 2 ≤ rest.length := by simpa [ByteArray.size] using hroom
      rw [hm] at hix
      have HP := hide (hp.trans (congrArg (pre ++ ·) (pieces_more hm)))
      clear hp
      have hsl1 : (⟨rest.toArray⟩ : ByteArray).extract 0 i = ⟨(rest.take i).toArray⟩ := by rw [Lib.extract_eq]; simp
      have hsl2 : (⟨rest.toArray⟩ : ByteArray).extract (i + 2) rest.length = ⟨(rest.drop (i + 2)).toArray⟩ := by rw [Lib.extract_eq, List.take_of_length_le (by simp)]
      have hi1 : (i : Int) ≤ (rest.length : Int) := by omega
      have hi2 : (i : Int) + 2 ≤ (rest.length : Int) := by omega
      obtain ⟨fn, tmps, assign, body, hy, hR⟩ := hY pre (rest.take i) wr hj (by rw [List.length_take]; omega)
      have HS2 := hide hsl2
      gi_wp2_with (refine ⟨trivial, ?_⟩; gi_at_call 45; refine (callsIn_wide.2 hix).mono ?_; rintro e w2 ⟨rfl, rfl⟩)
      refine hR.mono ?_
      have HB1 := hide hb1
      have HB2 := hide hb2
      have HB3 := hide hb3
      have HG := hide hG
      clear hb1 hb2 hb3 hG r1 r2 r3 hy hR hix hj
      rintro e W3 (⟨rfl, hJ3, hk3⟩ | ⟨rfl, hJx3⟩)
      · have c1 := hk3.blk HB1.out hZ.1 hT.1
        have c2 := hk3.blk HB2.out hZ.2.1 hT.2.1
        have c3 := hk3.blk HB3.out hZ.2.2 hT.2.2
        have cG := HG.out.kq hk3 gZ gT
        have r1 := c1.cell 0
        have r1f := c1.free 0
        have r2 := c2.cell 0
        have r3 := c3.cell 0
        have C1 := hide c1
        have C2 := hide c2
        have C3 := hide c3
        have CG := hide cG
        have CJ := hide hJ3
        clear c1 c2 c3 cG hJ3 hk3
        gi_wp2
        have hb : Blk (W3.setCell ⟨Bs, 0, none⟩ (Value.string ⟨List.toArray (rest.drop (i + 2))⟩)) Bs #[(Value.string ⟨List.toArray (rest.drop (i + 2))⟩)] 9 := C1.out.set 0 _
        go_roundw
        case rel => exact ⟨pre ++ [rest.take i], rest.drop (i + 2), by rw [HP.out]; simp, by rw [List.length_drop]; omega, hb, C2.out.far (p := ⟨Bs, 0, none⟩) (Ne.symm hn1) _, C3.out.far (p := ⟨Bs, 0, none⟩) (Ne.symm hn2) _, CG.out.kq (Kq.set Z W3 Bs _) gZ (by simp; exact ⟨Ne.symm gB.1, Ne.symm gB.2.1, Ne.symm gB.2.2⟩), hJ _ _ _ CJ.out⟩
        case measure => rw [lenAt_of hb, lenAt_of HB1.out, List.length_drop]; omega
      · gi_wp2
        refine bodyPost_ret (results_none rfl _ _ _) rfl ?_
        exact ⟨⟨_, rfl⟩, .inr ⟨_, by rw [HP.out]; exact ⟨pieces (rest.drop (i + 2)), by simp⟩, hJx3⟩⟩
end Go.Proofs.YtapalbokfbobhaaDoor
