/- The program's touched and away. -/
import Derived.Test.YtaglpodilepioaaDoorP3
import Derived.Test.YtaglpodilepioaaDoorA4
namespace Go.Proofs.YtaglpodilepioaaDoor
open Go.RowKit
set_option linter.unusedSimpArgs false
set_option linter.unusedVariables false
set_option maxRecDepth 100000
set_option maxHeartbeats 4000000


/-- The whole array of a graph, loaded. -/
theorem inf_a : (Tryd.prog.info? 25).map (·.size) = some 64 := by kernel_rfl
theorem inf_ac (E : Gr) : (Tryd.prog.info? 25).map (·.size) = some (gc E).toList.length := by rw [Array.length_toList, gc_size]; exact inf_a
theorem get_a {E : Gr} {ops : Array Oper} {rest : List Oper} {o : Oper} {a : Act} {w : World} {Q : Exit → Act → World → Prop} (hgd : o.guard = none) (x : Operand) (ho : o.op = .load 25 x)
    (b : Nat) (hx : a.eval x = .pointer (some ⟨b, 0, none⟩)) (hb : Blk w b (gc E) 27)
    (h : wpList Tryd.prog ops Q rest (a.put o.dst (.agg (gc E))) w) : wpList Tryd.prog ops Q (o :: rest) a w :=
  wpList_load_mid hgd 25 x ho b 0 hx (gc E).toList _ (r64_rng hb) Tryd.underlying25 rfl (inf_ac E) (by rw [Array.toArray_toList]; exact h)
theorem run_ixa (E : Gr) {p : Nat} (hp : p < 64) (w : World) : (Instr.index 25 (.agg (gc E)) (.int .i64 (p : Int))).run Tryd.prog w = .ok (.int .u64 (wv (E p) : Int)) w := by
  have hu : Tryd.prog.underlying 25 = some (.array 64 24) := Tryd.underlying25
  have hs : ∀ w, (sizeOf 24).run Tryd.prog w = .ok 1 w := fun w => by kernel_rfl
  have ha : ∀ w, (isAgg 24).run Tryd.prog w = .ok false w := fun w => by kernel_rfl
  have h0 : (0 : Int) ≤ (p : Int) := by omega
  have a1 := gc_at (E := E) hp
  simp [Instr.index, asIntOf, run_underlying hu, Result.andThen, h0, hs, part, ha, a1]
  omega
/-- Those that are touched by the first nodes' edges. -/
def tcu (E : Gr) (k : Nat) : NS := fun n => (List.range k).any fun i => E i n || (decide (i = n) && decide (wv (E i) ≠ 0))
theorem tcu_0 (E : Gr) : tcu E 0 = non := by funext n; simp [tcu, non]
theorem tcu_no {E : Gr} {k : Nat} (h : wv (E k) = 0) : ∀ n, n < 64 → uni (tcu E k) (E k) n = tcu E (k + 1) n := by
  intro n _
  unfold tcu uni
  rw [List.range_succ, List.any_append]
  simp [h]
theorem tcu_yes {E : Gr} {k : Nat} (h : wv (E k) ≠ 0) : ∀ n, n < 64 → uni (uni (tcu E k) (E k)) (one k) n = tcu E (k + 1) n := by
  intro n _
  unfold tcu uni one
  rw [List.range_succ, List.any_append]
  have : decide (n = k) = decide (k = n) := decide_eq_decide.2 ⟨Eq.symm, Eq.symm⟩
  simp [h, this, Bool.or_assoc]
theorem tcu_fin (E : Gr) : ∀ n, n < 64 → tcu E 64 n = tch E n := by
  intro n hn
  rw [Bool.eq_iff_iff, tch_iff]
  unfold tcu
  simp only [List.any_eq_true, List.mem_range, Bool.or_eq_true, Bool.and_eq_true, decide_eq_true_eq]
  constructor
  · rintro ⟨i, hi, h | ⟨rfl, h⟩⟩
    · exact ⟨i, hi, .inr h⟩
    · have : ∃ k, k < 64 ∧ E i k = true := by
        apply Classical.byContradiction
        intro q
        refine h (wv_zero.2 fun j hj => ?_)
        cases hf : E i j
        · rfl
        · exact absurd ⟨j, hj, hf⟩ q
      obtain ⟨k, hk, he⟩ := this
      exact ⟨k, hk, .inl he⟩
  · rintro ⟨k, hk, h | h⟩
    · exact ⟨n, hn, .inr ⟨rfl, fun q => by have := wv_zero.1 q k hk; rw [h] at this; cases this⟩⟩
    · exact ⟨k, hk, .inl h⟩
theorem touched_any (E : Gr) (w : World) : Calls Tryd.prog 28 #[.agg (gc E)] w fun e w' => e = .returned (.int .u64 (wv (tch E) : Int)) ∧ Ext w w' := by
  have HF := hide (wv_eq (tcu_fin E))
  go_enter Tryd.func28, Tryd.ntmps28
  go_upto_region 1 with fail
  have HB := hide (Blk.new w (gc E) 27)
  have HX := hide (Ext.alloc w (.cells (gc E) 27))
  generalize (w.alloc (.cells (gc E) 27)) = W0 at *
  go_wp2_with (with_reducible refine get_a rfl _ rfl w.heap.size rfl HB.out ?_; go_frame)
  go_loopw [3, 8] (fun x i wr => wr = W0 ∧ ∃ k : Nat, k ≤ 64 ∧ i = .int .i64 (k : Int) ∧ x = .int .u64 (wv (tcu E k) : Int)) (fun _ i _ => 64 - (intOf i).toNat)
  case atStart => exact ⟨rfl, 0, by omega, rfl, by rw [tcu_0, wv_non]; rfl⟩
  case round =>
    obtain ⟨rfl, k, hk, rfl, rfl⟩ := hrel
    by_cases hlt : k < 64
    · have a1 := run_ixa E hlt
      have e1 := or_u (tcu E k) (E k)
      by_cases h0 : wv (E k) = 0
      · have E0 : ((wv (E k) : Int) != 0) = false := by simp [h0]
        have HS := hide (wv_eq (tcu_no h0))
        clear h0
        go_wp2_with fail
        go_roundw
        case rel => exact ⟨by first | rfl | trivial, k + 1, by omega, by go_num, by rw [← HS.out]⟩
        case measure => simp [intOf]; omega
      · have E0 : ((wv (E k) : Int) != 0) = true := by simp [h0]
        have HS := hide (wv_eq (tcu_yes h0))
        have e2 := or_u (uni (tcu E k) (E k)) (one k)
        clear h0
        go_wp2_with (go_at_call 24; (with_reducible refine (bit_any hlt _).mono ?_); rintro e w' ⟨rfl, rfl⟩; go_frame)
        go_roundw
        case rel => exact ⟨by first | rfl | trivial, k + 1, by omega, by go_num, by rw [← HS.out]⟩
        case measure => simp [intOf]; omega
    · obtain rfl : k = 64 := by omega
      go_wp2_with fail
      go_ret
      exact ⟨by rw [← HF.out]; rfl, HX.out⟩
end Go.Proofs.YtaglpodilepioaaDoor
