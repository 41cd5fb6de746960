/- slices.Backward: an iterator over a list, from its end on, for whatever loop's body. -/
import Derived.Test.YtnmegokppbdhdaaQ4
import Derived.RangeFuncNested
import Derived.RangeFuncBound
import Derived.RangeFuncCalls
import Derived.RangeFuncLeaves
import Derived.RangeFuncBox
import Derived.Shelf.Abstract
import Derived.OwnWalkIn
import Derived.TacticsInMore
import Derived.LoopNIn
import Derived.LoopIn
namespace Go.Proofs.Ytnmegokppbdhdaa
open Go.RowKit Go.Shelf
set_option linter.unusedSimpArgs false
set_option linter.unusedVariables false
set_option maxRecDepth 100000

attribute [local go_sem] Oper.semAt_some
/-- What a round keeps for the iterator: the blocks below n, and its own box. -/
def KB (n Bs : Nat) (W W' : World) : Prop := W.heap.size ≤ W'.heap.size ∧ ∀ b, b < W.heap.size → (b < n ∨ b = Bs) → W'.heap[b]? = W.heap[b]?
theorem KB.refl (n Bs : Nat) (W : World) : KB n Bs W W := ⟨Nat.le_refl _, fun _ _ _ => rfl⟩
theorem KB.trans {n Bs : Nat} {A B C : World} (h : KB n Bs A B) (k : KB n Bs B C) : KB n Bs A C :=
  ⟨Nat.le_trans h.1 k.1, fun b hb hq => (k.2 b (Nat.lt_of_lt_of_le hb h.1) hq).trans (h.2 b hb hq)⟩
theorem KB.put {n Bs : Nat} {w : World} (hn : n ≤ w.heap.size) (hB : Bs < w.heap.size) (W : World) (l : Nat) (o o' : Obj) (hl : w.heap.size ≤ l) (h : W.heap[l]? = some o) (_ : o.isCells = false) (_ : o.isWalk = false) : KB n Bs W (W.putObj l o') :=
  ⟨(grownBy_putObj' W l o').size, fun b hb hq => (grownBy_putObj' W l o').block b hb (by intro e; cases e; rcases hq with hq | hq <;> omega)⟩
/-- A list that lies below n. -/
def ChB (W : World) (n : Nat) (A : Option Addr) (l : List Int) : Prop :=
  l.length = 0 ∨ ∃ b off, A = some ⟨b, off, none⟩ ∧ b < n ∧ b < W.heap.size ∧ ∀ j (h : j < l.length), W.cell? ⟨b, off + j, none⟩ = some (.int .i64 l[j])
theorem ChB.kb {W W' : World} {n Bs : Nat} {A : Option Addr} {l : List Int} (h : ChB W n A l) (k : KB n Bs W W') : ChB W' n A l := by
  rcases h with h | ⟨b, off, h1, h2, h3, h4⟩
  · exact .inl h
  · exact .inr ⟨b, off, h1, h2, Nat.lt_of_lt_of_le h3 k.1, fun j hj => (World.cell?_of_block (a := ⟨b, off + j, none⟩) (k.2 b h3 (.inl h2))).trans (h4 j hj)⟩
theorem ChB.ext {W W' : World} {n : Nat} {A : Option Addr} {l : List Int} (h : ChB W n A l) (x : Ext W W') : ChB W' n A l := by
  rcases h with h | ⟨b, off, h1, h2, h3, h4⟩
  · exact .inl h
  · exact .inr ⟨b, off, h1, h2, Nat.lt_of_lt_of_le h3 x.size, fun j hj => (x.oldCell _ _ h3).trans (h4 j hj)⟩
theorem Ch.low {W : World} {A : Option Addr} {l : List Int} (h : Ch W A l) : ChB W W.heap.size A l := by
  rcases h with h | ⟨b, off, h1, h2, h3⟩
  · exact .inl h
  · exact .inr ⟨b, off, h1, h2, h2, h3⟩
theorem ChB.at_ {W : World} {n : Nat} {A : Option Addr} {l : List Int} (h : ChB W n A l) {j : Nat} (hj : j < l.length) : ∃ b off, A = some ⟨b, off, none⟩ ∧ W.cell? ⟨b, off + j, none⟩ = some (.int .i64 l[j]) := by
  rcases h with h | ⟨b, off, h1, h2, h3, h4⟩
  · omega
  · exact ⟨b, off, h1, h4 j hj⟩
/-- The places that have come when k rounds are over. -/
def rv (n k : Nat) : List Nat := (List.range k).map (fun j => n - 1 - j)
theorem rv_succ (n k : Nat) : rv n (k + 1) = rv n k ++ [n - 1 - k] := by simp [rv, List.range_succ]
theorem rv_length (n k : Nat) : (rv n k).length = k := by simp [rv]
set_option maxHeartbeats 2000000 in
theorem backF_in (F : Fence) (n : Nat) (hF : F.fn 29) (hro : F.round = none) (hn : 1 ≤ n) (l Bs n₀ : Nat) {A : Option Addr} {c : Nat} {ch : List Int} (hl : ch.length ≤ 1000) (J Jx : List Nat → World → Prop)
    (hY : ∀ pre x W, J pre W → pre.length < ch.length → YieldAt F (n - 1) Try.prog l #[.int .i64 ((x : Nat) : Int), .int .i64 (ch[x]?.getD 0)] W fun e W' =>
      (e = .returned (.bool true) ∧ J (pre ++ [x]) W' ∧ KB n₀ Bs W W') ∨ (e = .returned (.bool false) ∧ Jx (pre ++ [x]) W'))
    (W : World) (hBs : Blk W Bs #[.slice A ch.length c] 25) (hc : ChB W n₀ A ch) (h0 : J [] W) :
    CallsIn F n Try.prog 29 #[.func (.yield l) #[] #[], .pointer (some ⟨Bs, 0, none⟩)] W fun e W' => (∃ v, e = .returned v) ∧
      ((∃ ys, ys = rv ch.length ch.length ∧ J ys W') ∨ (∃ pre, True ∧ Jx pre W')) := by
  have r0 := hBs.cell 0
  refine callsIn_of_wp Try.func29 rfl hF ?_ hro
  simp only [Try.ntmps29, List.size_toArray, List.length_cons, List.length_nil, Nat.reduceAdd, Nat.reduceSub, Array.replicate_succ, Array.replicate_zero, List.push_toArray, List.append_toArray, List.nil_append, List.cons_append]
  gi_wp2
  gi_loopw [3] (fun i wr => ∃ k : Nat, k ≤ ch.length ∧ i = .int .i64 ((ch.length : Int) - 1 - (k : Int)) ∧ J (rv ch.length k) wr ∧ KB n₀ Bs W wr)
    (fun i _ => (intOf i + 1).toNat)
  case atStart => exact ⟨0, Nat.zero_le _, by simp, h0, KB.refl _ _ _⟩
  case round =>
    obtain ⟨k, hk, rfl, hJs, hkb⟩ := hrel
    have r1 : wr.cell? ⟨Bs, 0, none⟩ = some (.slice A ch.length c) := (World.cell?_of_block (a := ⟨Bs, 0, none⟩) (hkb.2 Bs hBs.lt (.inr rfl))).trans r0
    by_cases hlt : k < ch.length
    · obtain ⟨m, hm⟩ : ∃ m, m = ch.length - 1 - k := ⟨_, rfl⟩
      have hm2 : m < ch.length := by omega
      have em : (ch.length : Int) - 1 - (k : Int) = (m : Int) := by omega
      rw [em]
      obtain ⟨b, off, rfl, hcx⟩ := (hc.kb hkb).at_ hm2
      have hy1 := hY _ m wr hJs (by rw [rv_length]; exact hlt)
      rw [hm, ← rv_succ, ← hm, List.getElem?_eq_getElem hm2, Option.getD_some] at hy1
      have HM := hide hm
      have EM := hide em
      have HLT := hide hlt
      have HKB := hide hkb
      clear hJs hm em hlt hkb hk
      generalize ch[m] = x at *
      obtain ⟨fn, tmps, assign, body, hy, hR⟩ := hy1
      gi_wp2
      refine hR.mono ?_
      rintro e W3 (⟨rfl, hJ3, hk3⟩ | ⟨rfl, hJx3⟩)
      · gi_wp2
        go_roundw
        case rel => exact ⟨k + 1, HLT.out, by have := EM.out; simp; omega, hJ3, HKB.out.trans hk3⟩
        case measure => simp [intOf]
      · gi_wp2
        refine bodyPost_ret (results_none rfl _ _ _) rfl ?_
        exact ⟨⟨_, rfl⟩, .inr ⟨_, trivial, hJx3⟩⟩
    · obtain rfl : k = ch.length := by omega
      have e6 : ¬ (0 : Int) ≤ (ch.length : Int) - 1 - (ch.length : Int) := by omega
      gi_wp2
      go_end0
      exact ⟨⟨_, rfl⟩, .inl hJs⟩
theorem backw_any (A : Option Addr) (n c : Nat) (w : World) : Calls Try.prog 25 #[.slice A n c] w fun e w' => e = .returned (.func (.func 29) #[] #[.pointer (some ⟨w.heap.size, 0, none⟩)]) ∧ w' = w.alloc (.cells #[.slice A n c] 25) := by
  go_enter Try.func25, Try.ntmps25
  go_wp2
  go_ret
  exact ⟨rfl, rfl⟩
theorem backw_stops (F : Fence) (n : Nat) (hF : F.fn 29) (hro : F.round = none) (hn : 1 ≤ n) (Bs n₀ : Nat) {A : Option Addr} {c : Nat} {ch : List Int} (hl : ch.length ≤ 1000) (w : World) (hBs : Blk w Bs #[.slice A ch.length c] 25) (hc : ChB w n₀ A ch) :
    SeqStopsK F n Try.prog 29 #[.pointer (some ⟨Bs, 0, none⟩)] (fun x : Nat => #[Value.int .i64 (x : Int), Value.int .i64 (ch[x]?.getD 0)]) (KB n₀ Bs) (fun ys => ys = rv ch.length ch.length) (fun _ => True) ch.length w := fun l J Jx W hW _ _ hY h0 =>
  backF_in F n hF hro hn l Bs n₀ hl J Jx hY W (hBs.ext hW) (hc.ext hW) h0
end Go.Proofs.Ytnmegokppbdhdaa
