/- Nodes, bits, the least number of a word, a word's list. -/
import Derived.Test.YtaglpodilepioaaDoorA1
import Derived.Test.YtaglpodilepioaaDoorLists
import Derived.Test.YtaglpodilepioaaDoorGrow
import Derived.Laws.AppendOwnNone
namespace Go.Proofs.YtaglpodilepioaaDoor
open Go.RowKit
set_option linter.unusedSimpArgs false
set_option linter.unusedVariables false
set_option maxRecDepth 100000


/-- The library's table lies where the program's text lays it. -/
def Tb (w : World) : Prop := 0 < w.heap.size ∧ ∀ j, j < 64 → w.cell? ⟨0, j, none⟩ = some (.int .u8 (Lib.deBruijn64tab.getD j 0))
theorem Tb.ext {w w' : World} (h : Tb w) (x : Ext w w') : Tb w' := ⟨Nat.lt_of_lt_of_le h.1 x.size, fun j hj => (x.oldCell _ _ h.1).trans (h.2 j hj)⟩
theorem tz_core (x k idx : Nat) (w : World) (hx0 : ((x : Int) == 0) = false)
    (key : IntKind.u64.wrap (bits BinOp.and IntKind.u64 (x : Int) (IntKind.u64.wrap (-(x : Int))) * 285870213051353865) / 288230376151711744 = (idx : Int))
    (hi : idx < 64) (hk : k < 64) (hcell : w.cell? ⟨0, idx, none⟩ = some (.int .u8 k)) :
    Calls Tryd.prog 35 #[.int .u64 (x : Int)] w fun e w' => e = .returned (.int .i64 k) ∧ w = w' := by
  go_enter Tryd.func35, Tryd.ntmps35
  go_wp2_with (simp only [key])
  go_ret
  exact ⟨rfl, rfl⟩
theorem tz_any (x : Nat) (hx : x < 18446744073709551616) (hx0 : x ≠ 0) (w : World) (hT : Tb w) :
    Calls Tryd.prog 35 #[.int .u64 (x : Int)] w fun e w' => e = .returned (.int .i64 (Lib.ctz 64 x)) ∧ w = w' := by
  obtain ⟨hlow, hk⟩ := Lib.lowest_bit 64 x hx0 hx
  obtain ⟨hi, htab⟩ := Lib.deBruijn64_at _ hk
  have hcell := hT.2 _ hi
  rw [htab] at hcell
  exact tz_core x _ _ w (by simp; omega) (tz64_key x _ hx hx0 hlow) hi hk hcell
/-- Whether a number is a node. -/
def isN (z : Int) : Bool := decide (0 ≤ z) && decide (z < 64)
theorem isNode_any (z : Int) (w : World) : Calls Tryd.prog 23 #[.int .i64 z] w fun e w' => e = .returned (.bool (isN z)) ∧ w = w' := by
  by_cases h : 0 ≤ z
  · by_cases k : z < 64
    · rw [show isN z = true by simp [isN, h, k]]
      go_enter Tryd.func23, Tryd.ntmps23
      go_wp2_with fail
      go_ret
      exact ⟨rfl, rfl⟩
    · rw [show isN z = false by simp [isN, h, k]]
      go_enter Tryd.func23, Tryd.ntmps23
      go_wp2_with fail
      go_ret
      exact ⟨rfl, rfl⟩
  · rw [show isN z = false by simp [isN, h]]
    go_enter Tryd.func23, Tryd.ntmps23
    go_wp2_with fail
    go_ret
    exact ⟨rfl, rfl⟩
theorem bit_any {n : Nat} (hn : n < 64) (w : World) : Calls Tryd.prog 24 #[.int .i64 (n : Int)] w fun e w' => e = .returned (.int .u64 (wv (one n) : Int)) ∧ w = w' := by
  have H := hide (two_u hn)
  go_enter Tryd.func24, Tryd.ntmps24
  go_wp2_with fail
  go_ret
  exact ⟨by rw [H.out]; rfl, rfl⟩
theorem first_any {f : NS} {q : Nat} (hq : IsL f q) (w : World) (hT : Tb w) : Calls Tryd.prog 34 #[.int .u64 (wv f : Int)] w fun e w' => e = .returned (.int .i64 (q : Int)) ∧ w = w' := by
  have h0 : wv f ≠ 0 := fun h => by have := wv_zero.1 h q hq.1; rw [hq.2.1] at this; cases this
  have H := tz_any (wv f) (wv_lt f) h0 w hT
  rw [(ctz_is h0).one hq] at H
  have H := hide H
  clear h0 hq hT
  go_enter Tryd.func34, Tryd.ntmps34
  go_wp2_with (go_at_call 35; (with_reducible refine (H.out).mono ?_); rintro e w' ⟨rfl, rfl⟩; go_frame)
  go_ret
  exact ⟨rfl, rfl⟩
def enN (x : Nat) : Value := .int .i64 (x : Int)
theorem own_base {w : World} {b b' n size : Nat} {e : TypeId} {v : Value} {xs : List Value} (h : w.ownsRow b e size v n xs) (hb : b' ≤ b) : w.ownsRow b' e size v n xs := by
  obtain ⟨hl, h | ⟨g, cap, cur, h1, h2, h3⟩⟩ := h
  · exact ⟨hl, .inl h⟩
  · exact ⟨hl, .inr ⟨g, cap, cur, h1, Nat.le_trans hb h2, h3⟩⟩
/-- A list of numbers in a row of its own. -/
abbrev Row (w : World) (B : Nat) (v : Value) (l : List Nat) : Prop := w.ownsRow B 3 1 v l.length (l.map enN)
theorem row_snoc {w : World} {B : Nat} {v : Value} {l : List Nat} {q : Nat} (h : w.ownsRow B 3 1 v (l.length + 1) (l.map enN ++ (#[.int .i64 (q : Int)] : Array Value).toList)) : Row w B v (l ++ [q]) := by
  unfold Row
  rw [List.length_append, List.map_append]
  exact h
def lenV : Value → Nat
  | .slice _ n _ => n
  | _ => 0
theorem list_any (f : NS) (w : World) (hT : Tb w) : Calls Tryd.prog 25 #[.int .u64 (wv f : Int)] w fun e w' =>
    ∃ v, e = .returned v ∧ Row w' w.heap.size v (setL f) ∧ Ext w w' := by
  have HT := hide hT
  clear hT
  go_enter Tryd.func25, Tryd.ntmps25
  go_wp2_with fail
  go_loopw [0, 3] (fun x v wr => ∃ m : Nat, m ≤ 64 ∧ x = .int .u64 (wv (hi f m) : Int) ∧ Row wr w.heap.size v (low f m) ∧ Ext w wr) (fun _ v _ => 64 - lenV v)
  case atStart => exact ⟨0, by omega, by rw [hi_0], own_nil _ _ _ _, Ext.refl _⟩
  case round =>
    obtain ⟨m, hm, rfl, hown, hx⟩ := hrel
    obtain ⟨A, c, rfl⟩ := own_sl hown
    have HO := hide hown
    have HX := hide hx
    have hl := low_len f m
    by_cases h0 : wv (hi f m) = 0
    · have E0 : ((wv (hi f m) : Int) != 0) = false := by simp [h0]
      have HE := hide (low_end hm (wv_zero.1 h0))
      clear hown hx h0
      go_wp2_with fail
      go_ret
      exact ⟨_, rfl, by rw [← HE.out]; exact HO.out, HX.out⟩
    · have E0 : ((wv (hi f m) : Int) != 0) = true := by simp [h0]
      have hq := ctz_is h0
      generalize Lib.ctz 64 (wv (hi f m)) = q at *
      have hq1 := hq.1
      have hlow := hide (low_step hq)
      have hhi := hide (wv_eq (hi_step hq))
      have hml := low_len f (q + 1)
      have HF := hide (fun w => first_any hq w)
      have HB := hide (fun w => bit_any hq1 w)
      have HN := hide (no_u (hi f m) (one q))
      clear hown hx h0 hq
      go_wp2_with (first
        | (go_at_call 34; (with_reducible refine (HF.out _ (HT.out.ext (by first | exact HX.out | assumption))).mono ?_); rintro e w' ⟨rfl, rfl⟩; go_frame)
        | (go_at_call 24; (with_reducible refine (HB.out _).mono ?_); rintro e w' ⟨rfl, rfl⟩; go_frame)
        | (at_builtin; refine wpList_app1 (W0 := w) rfl rfl Tryd.underlying38 inf_int rfl (by omega) rfl HO.out HX.out rfl rfl rfl (by simp [Value.oneCell']) (by unfold maxLen; omega) (by omega) ?_; intro v' w3 hown' hW3; go_frame))
      obtain ⟨A', c', rfl⟩ := own_sl hown'
      go_roundw
      case rel => exact ⟨q + 1, by omega, by rw [← hhi.out, HN.out], by rw [hlow.out]; exact row_snoc hown', hW3⟩
      case measure => rw [hlow.out, List.length_append] at hml; simp [lenV] at hml ⊢; omega
end Go.Proofs.YtaglpodilepioaaDoor
