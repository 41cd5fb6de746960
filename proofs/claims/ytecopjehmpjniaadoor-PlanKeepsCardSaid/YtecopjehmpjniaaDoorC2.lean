/- Rows of structs that are read: objects, classes, changes. -/
import Derived.Test.YtecopjehmpjniaaDoorC1
import Derived.Test.YtecopjehmpjniaaDoorKp
namespace Go.Proofs.YtecopjehmpjniaaDoor
open Go.RowKit
set_option linter.unusedSimpArgs false
set_option linter.unusedVariables false

/-- A class. -/
structure Kl where
  b : Bool
  e : Int
  c : Int
instance : Inhabited Kl := ⟨⟨false, 0, 0⟩⟩
def kc (x : Kl) : Array Value := #[.bool x.b, .int .u8 x.e, .int .i64 x.c]
structure OkK (x : Kl) : Prop where
  e0 : 0 ≤ x.e
  e1 : x.e ≤ 255
  c0 : -9223372036854775808 ≤ x.c
  c1 : x.c ≤ 9223372036854775807
section
variable {α : Type} {enc : α → Array Value} {sz : Nat}
def fl (enc : α → Array Value) (l : List α) : List Value := l.flatMap fun x => (enc x).toList
theorem fl_len (H : ∀ x, (enc x).size = sz) (l : List α) : (fl enc l).length = l.length * sz := by
  induction l with
  | nil => simp [fl]
  | cons x l ih =>
    have : fl enc (x :: l) = (enc x).toList ++ fl enc l := rfl
    rw [this, List.length_append, ih, Array.length_toList, H, List.length_cons, Nat.add_mul, Nat.one_mul, Nat.add_comm]
theorem fl_at (H : ∀ x, (enc x).size = sz) (l : List α) : ∀ (k i : Nat) (hk : k < l.length), i < sz → (fl enc l)[k * sz + i]? = (enc l[k])[i]? := by
  induction l with
  | nil => intro k i hk; simp at hk
  | cons x l ih =>
    intro k i hk hi
    have e : fl enc (x :: l) = (enc x).toList ++ fl enc l := rfl
    have hs : (enc x).toList.length = sz := by rw [Array.length_toList, H]
    rw [e]
    cases k with
    | zero => rw [Nat.zero_mul, Nat.zero_add, List.getElem?_append_left (by omega), Array.getElem?_toList]; rfl
    | succ k =>
      have e2 : (k + 1) * sz + i = sz + (k * sz + i) := by rw [Nat.add_mul, Nat.one_mul]; omega
      rw [List.getElem?_append_right (by rw [hs, e2]; omega), hs, e2, Nat.add_sub_cancel_left]
      exact ih k i (by simpa using hk) hi
theorem fl_snoc (l : List α) (x : α) : fl enc (l ++ [x]) = fl enc l ++ (enc x).toList := by simp [fl]
theorem fl_take (l : List α) (k : Nat) (hk : k < l.length) : fl enc (l.take (k + 1)) = fl enc (l.take k) ++ (enc l[k]).toList := by
  rw [List.take_succ_eq_append_getElem hk, fl_snoc]
theorem sl_rule {w : World} {B n : Nat} {A : Option Addr} {l : List α} (h : Sl w B sz A n (fl enc l)) (H : ∀ x, (enc x).size = sz) (hn : n = l.length) (hB : B ≤ w.heap.size) {k : Nat} (hk : k < l.length) :
    ∃ b off, A = some ⟨b, off, none⟩ ∧ b < B ∧ ∀ w', Ext w w' → ∀ i, i < sz → w'.cell? ⟨b, off + (k * sz + i), none⟩ = (enc l[k])[i]? := by
  subst hn
  obtain ⟨b, off, ha, hb, hc⟩ := h.at_ hk
  exact ⟨b, off, ha, hb, fun w' x i hi => (x.oldCell _ _ (by omega)).trans ((hc i hi).trans (fl_at H l k i hk hi))⟩
end
theorem sc_size (x : Ob) : (sc x).size = 3 := rfl
theorem kc_size (x : Kl) : (kc x).size = 3 := rfl
theorem gc_size (x : Cg) : (gc x).size = 4 := rfl
theorem sl_obj {w : World} {B n : Nat} {A : Option Addr} {l : List Ob} (h : Sl w B 3 A n (fl sc l)) (hn : n = l.length) (hB : B ≤ w.heap.size) {k : Nat} (hk : k < l.length) :
    ∃ b off, A = some ⟨b, off, none⟩ ∧ b < B ∧ (∀ w', Ext w w' → w'.cell? ⟨b, off + k * 3, none⟩ = some (.int .u64 l[k].w)) ∧ (∀ w', Ext w w' → w'.cell? ⟨b, off + k * 3 + 1, none⟩ = some (.int .i64 l[k].k)) ∧ (∀ w', Ext w w' → w'.cell? ⟨b, off + k * 3 + 2, none⟩ = some (.slice l[k].a l[k].l.length l[k].cp)) := by
  obtain ⟨b, off, ha, hb, hc⟩ := sl_rule h sc_size hn hB hk
  refine ⟨b, off, ha, hb, fun w' x => hc w' x 0 (by omega), fun w' x => ?_, fun w' x => ?_⟩
  · rw [Nat.add_assoc]; exact hc w' x 1 (by omega)
  · rw [Nat.add_assoc]; exact hc w' x 2 (by omega)
theorem sl_cls {w : World} {B n : Nat} {A : Option Addr} {l : List Kl} (h : Sl w B 3 A n (fl kc l)) (hn : n = l.length) (hB : B ≤ w.heap.size) {k : Nat} (hk : k < l.length) :
    ∃ b off, A = some ⟨b, off, none⟩ ∧ b < B ∧ (∀ w', Ext w w' → w'.cell? ⟨b, off + k * 3, none⟩ = some (.bool l[k].b)) ∧ (∀ w', Ext w w' → w'.cell? ⟨b, off + k * 3 + 1, none⟩ = some (.int .u8 l[k].e)) ∧ (∀ w', Ext w w' → w'.cell? ⟨b, off + k * 3 + 2, none⟩ = some (.int .i64 l[k].c)) := by
  obtain ⟨b, off, ha, hb, hc⟩ := sl_rule h kc_size hn hB hk
  refine ⟨b, off, ha, hb, fun w' x => hc w' x 0 (by omega), fun w' x => ?_, fun w' x => ?_⟩
  · rw [Nat.add_assoc]; exact hc w' x 1 (by omega)
  · rw [Nat.add_assoc]; exact hc w' x 2 (by omega)
theorem sl_chg {w : World} {B n : Nat} {A : Option Addr} {l : List Cg} (h : Sl w B 4 A n (fl gc l)) (hn : n = l.length) (hB : B ≤ w.heap.size) {k : Nat} (hk : k < l.length) :
    ∃ b off, A = some ⟨b, off, none⟩ ∧ b < B ∧ (∀ w', Ext w w' → w'.cell? ⟨b, off + k * 4, none⟩ = some (.int .i64 l[k].o)) ∧ (∀ w', Ext w w' → w'.cell? ⟨b, off + k * 4 + 1, none⟩ = some (.int .u64 l[k].w)) ∧ (∀ w', Ext w w' → w'.cell? ⟨b, off + k * 4 + 2, none⟩ = some (.int .i64 l[k].u)) ∧ (∀ w', Ext w w' → w'.cell? ⟨b, off + k * 4 + 3, none⟩ = some (.int .u64 l[k].s)) := by
  obtain ⟨b, off, ha, hb, hc⟩ := sl_rule h gc_size hn hB hk
  refine ⟨b, off, ha, hb, fun w' x => hc w' x 0 (by omega), fun w' x => ?_, fun w' x => ?_, fun w' x => ?_⟩
  · rw [Nat.add_assoc]; exact hc w' x 1 (by omega)
  · rw [Nat.add_assoc]; exact hc w' x 2 (by omega)
  · rw [Nat.add_assoc]; exact hc w' x 3 (by omega)
theorem inf_obj : (Tryd.prog.info? 31).map (fun i => (i.zero, i.size, i.bytes)) = some (some (.agg #[.int .u64 0, .int .i64 0, .slice none 0 0]), 3, 40) := by kernel_rfl
theorem inf_cls : (Tryd.prog.info? 51).map (fun i => (i.zero, i.size, i.bytes)) = some (some (.agg #[.bool false, .int .u8 0, .int .i64 0]), 3, 16) := by kernel_rfl
theorem inf_chg : (Tryd.prog.info? 28).map (fun i => (i.zero, i.size, i.bytes)) = some (some (.agg #[.int .i64 0, .int .u64 0, .int .i64 0, .int .u64 0]), 4, 32) := by kernel_rfl
end Go.Proofs.YtecopjehmpjniaaDoor
