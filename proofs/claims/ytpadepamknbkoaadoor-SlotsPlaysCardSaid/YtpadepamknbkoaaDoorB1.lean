/- A table behind a pointer: its block, its slots' row, threads' own rows, the common ones' words. -/
import Derived.Test.YtpadepamknbkoaaDoorA1
import Derived.Test.YtpadepamknbkoaaDoorZeros
import Derived.Lib.TrailingZeros
import Derived.Shelf.Spec.TrailingZeros
namespace Go.Proofs.YtpadepamknbkoaaDoor
open Go.RowKit
set_option linter.unusedSimpArgs false
set_option linter.unusedVariables false


/-- Of the blocks that are there only such from B on that are cells of a type of ts may have turned. -/
structure Kp (ts : List TypeId) (B : Nat) (w w' : World) : Prop where
  os : w'.os = w.os
  tape : w'.tape = w.tape
  output : w'.output = w.output
  size : w.heap.size ≤ w'.heap.size
  block : ∀ k, k < w.heap.size → (k < B ∨ ∀ cs t, w.heap[k]? = some (.cells cs t (0, 0)) → t ∉ ts) → w'.heap[k]? = w.heap[k]?
theorem Kp.refl (ts : List TypeId) (B : Nat) (w : World) : Kp ts B w w := ⟨rfl, rfl, rfl, Nat.le_refl _, fun _ _ _ => rfl⟩
theorem Kp.trans {ts : List TypeId} {B : Nat} {a b c : World} (h : Kp ts B a b) (k : Kp ts B b c) : Kp ts B a c :=
  ⟨k.os.trans h.os, k.tape.trans h.tape, k.output.trans h.output, Nat.le_trans h.size k.size, fun i hi hq => by
    have h1 := h.block i hi hq
    rw [← h1]
    exact k.block i (Nat.lt_of_lt_of_le hi h.size) (by rw [h1]; exact hq)⟩
theorem Ext.kp {w w' : World} (h : Ext w w') (ts : List TypeId) (B : Nat) : Kp ts B w w' := ⟨h.os, h.tape, h.output, h.size, fun k hk _ => h.block k hk⟩
theorem Chg.kp {T : List Nat} {w w' : World} (h : Chg T w w') {ts : List TypeId} {B : Nat} (hT : ∀ k, k ∈ T → B ≤ k ∧ (k < w.heap.size → ∃ cs t, Blk w k cs t ∧ t ∈ ts)) : Kp ts B w w' :=
  ⟨h.os, h.tape, h.output, h.size, fun k hk hq => h.block k hk (fun hm => by
    obtain ⟨h1, h2⟩ := hT k hm
    obtain ⟨cs, t, hb, ht⟩ := h2 hk
    rcases hq with hq | hq
    · omega
    · exact hq cs t hb ht)⟩
theorem Kp.blk {ts : List TypeId} {B R : Nat} {w w' : World} {cs : Array Value} {t : TypeId} (h : Kp ts B w w') (hb : Blk w R cs t) (ht : t ∉ ts) : Blk w' R cs t :=
  (h.block R hb.lt (.inr fun cs2 t2 hh => by rw [show t2 = t from Blk.type (show Blk w R cs2 t2 from hh) hb]; exact ht)).trans hb
theorem Kp.own {ts : List TypeId} {B base n size : Nat} {w w' : World} {e : TypeId} {v : Value} {xs : List Value} (h : Kp ts B w w') (ho : w.ownsRow base e size v n xs) (ht : e ∉ ts) : w'.ownsRow base e size v n xs := by
  obtain ⟨hl, hh | ⟨g, cap, cur, rfl, hb, hh, h3⟩⟩ := ho
  · exact ⟨hl, .inl hh⟩
  · exact ⟨hl, .inr ⟨g, cap, cur, rfl, hb, h.blk (show Blk w g cur e from hh) ht, h3⟩⟩
theorem Kp.ext {ts : List TypeId} {B : Nat} {W w w' : World} (h : Kp ts B w w') (x : Ext W w) (hB : W.heap.size ≤ B) : Ext W w' :=
  ⟨h.os.trans x.os, h.tape.trans x.tape, h.output.trans x.output, Nat.le_trans x.size h.size, fun k hk => (h.block k (Nat.lt_of_lt_of_le hk x.size) (.inl (by omega))).trans (x.block k hk)⟩

/-- The library's table lies where the program's text lays it. -/
def Tb (w : World) : Prop := 0 < w.heap.size ∧ ∀ j, j < 64 → w.cell? ⟨0, j, none⟩ = some (.int .u8 (Lib.deBruijn64tab.getD j 0))
theorem Tb.ext {w w' : World} (h : Tb w) (x : Ext w w') : Tb w' := ⟨Nat.lt_of_lt_of_le h.1 x.size, fun j hj => (x.oldCell _ _ h.1).trans (h.2 j hj)⟩
theorem Tb.chg {T : List Nat} {w w' : World} (h : Tb w) (x : Chg T w w') (hT : ∀ k, k ∈ T → 0 < k) : Tb w' :=
  ⟨Nat.lt_of_lt_of_le h.1 x.size, fun j hj => (x.oldCell _ _ h.1 (fun hm => by have := hT _ hm; exact absurd this (by decide))).trans (h.2 j hj)⟩
theorem Tb.kp {ts : List TypeId} {B : Nat} {w w' : World} (h : Tb w) (x : Kp ts B w w') (hB : 0 < B) : Tb w' :=
  ⟨Nat.lt_of_lt_of_le h.1 x.size, fun j hj => (World.cell?_of_block (a := ⟨0, j, none⟩) (x.block 0 h.1 (.inl hB))).trans (h.2 j hj)⟩

def pcells (l : List (Int × Int)) : List Value := l.flatMap fun p => [.int .i64 p.1, .int .u32 p.2]
theorem pcells_length (l : List (Int × Int)) : (pcells l).length = l.length * 2 := by
  induction l with
  | nil => rfl
  | cons p l ih => simp only [pcells, List.flatMap_cons, List.length_append, List.length_cons, List.length_nil] at ih ⊢; omega
theorem pcells_at (l : List (Int × Int)) (k : Nat) (hk : k < l.length) : (pcells l)[k * 2]? = some (.int .i64 (l[k]).1) ∧ (pcells l)[k * 2 + 1]? = some (.int .u32 (l[k]).2) := by
  induction l generalizing k with
  | nil => simp at hk
  | cons p l ih =>
    cases k with
    | zero => simp [pcells]
    | succ k =>
      have := ih k (by simpa using hk)
      have e1 : (k + 1) * 2 = k * 2 + 1 + 1 := by omega
      simp only [pcells, List.flatMap_cons, List.cons_append, List.nil_append, e1, List.getElem?_cons_succ, List.getElem_cons_succ] at this ⊢
      exact this
theorem pcells_append (l m : List (Int × Int)) : pcells (l ++ m) = pcells l ++ pcells m := by simp [pcells]
theorem pcells_set0 (l : List (Int × Int)) (k : Nat) (x : Int) (hk : k < l.length) : (pcells l).set (k * 2) (.int .i64 x) = pcells (l.set k (x, (l[k]).2)) := by
  induction l generalizing k with
  | nil => simp at hk
  | cons p l ih =>
    cases k with
    | zero => simp [pcells]
    | succ k =>
      have e1 : (k + 1) * 2 = (k * 2) + 1 + 1 := by omega
      have := ih k (by simpa using hk)
      simp only [pcells, List.flatMap_cons, List.cons_append, List.nil_append, e1, List.set_cons_succ, List.getElem_cons_succ] at this ⊢
      rw [this]
theorem pcells_set1 (l : List (Int × Int)) (k : Nat) (x : Int) (hk : k < l.length) : (pcells l).set (k * 2 + 1) (.int .u32 x) = pcells (l.set k ((l[k]).1, x)) := by
  induction l generalizing k with
  | nil => simp at hk
  | cons p l ih =>
    cases k with
    | zero => simp [pcells]
    | succ k =>
      have e1 : (k + 1) * 2 + 1 = (k * 2 + 1) + 1 + 1 := by omega
      have := ih k (by simpa using hk)
      simp only [pcells, List.flatMap_cons, List.cons_append, List.nil_append, e1, List.set_cons_succ, List.getElem_cons_succ] at this ⊢
      rw [this]

def tcells (n b : Nat) (vm : Value) (vo : Nat → Value) (c : Nat → Bool) : Array Value :=
  (Value.int .i64 (n : Int) :: Value.int .i64 (b : Int) :: vm :: ((List.range 256).map vo ++ (List.range 64).map fun i => Value.int .u64 (word c i : Int))).toArray
def updV (f : Nat → Value) (t : Nat) (v : Value) (s : Nat) : Value := if s = t then v else f s
section
variable {n b : Nat} {vm : Value} {vo : Nat → Value} {c : Nat → Bool}
theorem tc_0 : (tcells n b vm vo c)[0]? = some (.int .i64 (n : Int)) := rfl
theorem tc_1 : (tcells n b vm vo c)[1]? = some (.int .i64 (b : Int)) := rfl
theorem tc_2 : (tcells n b vm vo c)[2]? = some vm := rfl
theorem tc_own {t : Nat} (h : t < 256) : (tcells n b vm vo c)[3 + t]? = some (vo t) := by
  unfold tcells
  rw [List.getElem?_toArray, show 3 + t = t + 1 + 1 + 1 by omega]
  simp only [List.getElem?_cons_succ]
  rw [List.getElem?_append_left (by simpa using h), List.getElem?_map, List.getElem?_range h]; rfl
theorem tc_word {i : Nat} (h : i < 64) : (tcells n b vm vo c)[259 + i]? = some (.int .u64 (word c i : Int)) := by
  unfold tcells
  rw [List.getElem?_toArray, show 259 + i = (256 + i) + 1 + 1 + 1 by omega]
  simp only [List.getElem?_cons_succ]
  rw [List.getElem?_append_right (by simp), List.length_map, List.length_range, Nat.add_sub_cancel_left, List.getElem?_map, List.getElem?_range h]; rfl
theorem tc_setm (v : Value) : (tcells n b vm vo c).setIfInBounds 2 v = tcells n b v vo c := by unfold tcells; simp
theorem map_set_aux {α : Type} (f f' : Nat → α) (N k : Nat) (v : α) (hk : f' k = v) (ho : ∀ i, i ≠ k → f' i = f i) (h : k < N) : ((List.range N).map f).set k v = (List.range N).map f' := by
  apply List.ext_getElem?
  intro j
  rw [List.getElem?_set, List.getElem?_map, List.getElem?_map]
  by_cases hj : j < N
  · rw [List.getElem?_range hj]
    by_cases e : k = j
    · subst e; rw [if_pos rfl, if_pos (by simpa using h)]; simp [hk]
    · rw [if_neg e]; simp [ho j (Ne.symm e)]
  · have h1 : (List.range N)[j]? = none := List.getElem?_eq_none (by simp; omega)
    rw [h1, if_neg (by omega)]
    simp
theorem tc_seto {t : Nat} (h : t < 256) (v : Value) : (tcells n b vm vo c).setIfInBounds (3 + t) v = tcells n b vm (updV vo t v) c := by
  unfold tcells
  rw [List.setIfInBounds_toArray, show 3 + t = t + 1 + 1 + 1 by omega, List.set_cons_succ, List.set_cons_succ, List.set_cons_succ, List.set_append_left _ _ (by simpa using h),
    map_set_aux vo (updV vo t v) 256 t v (by simp [updV]) (fun i hi => by simp [updV, hi]) h]
theorem tc_setw {k : Nat} (h : k < 4096) (v : Bool) : (tcells n b vm vo c).setIfInBounds (259 + k / 64) (.int .u64 (word (updB c k v) (k / 64) : Int)) = tcells n b vm vo (updB c k v) := by
  unfold tcells
  rw [List.setIfInBounds_toArray, show 259 + k / 64 = (256 + k / 64) + 1 + 1 + 1 by omega, List.set_cons_succ, List.set_cons_succ, List.set_cons_succ, List.set_append_right (h := by simp),
    List.length_map, List.length_range, Nat.add_sub_cancel_left,
    map_set_aux (fun i => Value.int .u64 (word c i : Int)) (fun i => Value.int .u64 (word (updB c k v) i : Int)) 64 (k / 64) _ rfl (fun i hi => by rw [word_other c k v hi]) (by omega)]
end
theorem tc_com {n b : Nat} {vm : Value} {vo : Nat → Value} {c c' : Nat → Bool} (h : ∀ k, k < 4096 → c k = c' k) : tcells n b vm vo c = tcells n b vm vo c' := by
  unfold tcells
  congr 5
  apply List.map_congr_left
  intro i hi
  have hi := List.mem_range.1 hi
  have : word c i = word c' i := by
    apply Nat.eq_of_testBit_eq
    intro j
    unfold word
    rw [wd_bit, wd_bit]
    by_cases hj : j < 64
    · rw [h _ (by omega)]
    · simp [hj]
  rw [this]
theorem tc_vo {n b : Nat} {vm : Value} {vo vo' : Nat → Value} {c : Nat → Bool} (h : ∀ k, k < 256 → vo k = vo' k) : tcells n b vm vo c = tcells n b vm vo' c := by
  unfold tcells
  congr 5
  apply List.map_congr_left
  intro i hi
  exact h i (List.mem_range.1 hi)
end Go.Proofs.YtpadepamknbkoaaDoor
