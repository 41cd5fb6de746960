/- Worlds that keep all blocks but those of some types, from a place on (Kp): for programs with rows of many blocks; rows that are written; small laws on lists. For every seat. -/
import Derived.Test.YtlgomkocalieeaaGreatDoorZeros
namespace Go.Proofs.YtlgomkocalieeaaGreatDoor
open Go.RowKit
set_option linter.unusedSimpArgs false
set_option linter.unusedVariables false
/-- Of the blocks that are there only such from B on that are cells of a type of ts may have turned. -/
structure Kp (ts : List TypeId) (B : Nat) (w w' : World) : Prop where
  os : w'.os = w.os
  tape : w'.tape = w.tape
  output : w'.output = w.output
  size : w.heap.size ≤ w'.heap.size
  block : ∀ k, k < w.heap.size → (k < B ∨ ∀ cs t, w.heap[k]? = some (.cells cs t (0, 0)) → t ∉ ts) → w'.heap[k]? = w.heap[k]?
theorem Kp.refl (ts : List TypeId) (B : Nat) (w : World) : Kp ts B w w := ⟨rfl, rfl, rfl, Nat.le_refl _, fun _ _ _ => rfl⟩
theorem Kp.trans {ts : List TypeId} {B : Nat} {a b c : World} (h : Kp ts B a b) (k : Kp ts B b c) : Kp ts B a c :=
  ⟨k.os.trans h.os, k.tape.trans h.tape, k.output.trans h.output, Nat.le_trans h.size k.size, fun i hi hq => by
    have h1 := h.block i hi hq
    rw [← h1]
    exact k.block i (Nat.lt_of_lt_of_le hi h.size) (by rw [h1]; exact hq)⟩
theorem Ext.kp {w w' : World} (h : Ext w w') (ts : List TypeId) (B : Nat) : Kp ts B w w' := ⟨h.os, h.tape, h.output, h.size, fun k hk _ => h.block k hk⟩
theorem Chg.kp {T : List Nat} {w w' : World} (h : Chg T w w') {ts : List TypeId} {B : Nat} (hT : ∀ k, k ∈ T → B ≤ k ∧ (k < w.heap.size → ∃ cs t, Blk w k cs t ∧ t ∈ ts)) : Kp ts B w w' :=
  ⟨h.os, h.tape, h.output, h.size, fun k hk hq => h.block k hk (fun hm => by
    obtain ⟨h1, h2⟩ := hT k hm
    obtain ⟨cs, t, hb, ht⟩ := h2 hk
    rcases hq with hq | hq
    · omega
    · exact hq cs t hb ht)⟩
theorem Kp.blk {ts : List TypeId} {B R : Nat} {w w' : World} {cs : Array Value} {t : TypeId} (h : Kp ts B w w') (hb : Blk w R cs t) (ht : t ∉ ts) : Blk w' R cs t :=
  (h.block R hb.lt (.inr fun cs2 t2 hh => by rw [show t2 = t from Blk.type (show Blk w R cs2 t2 from hh) hb]; exact ht)).trans hb
theorem Kp.own {ts : List TypeId} {B base n size : Nat} {w w' : World} {e : TypeId} {v : Value} {xs : List Value} (h : Kp ts B w w') (ho : w.ownsRow base e size v n xs) (ht : e ∉ ts) : w'.ownsRow base e size v n xs := by
  obtain ⟨hl, hh | ⟨g, cap, cur, rfl, hb, hh, h3⟩⟩ := ho
  · exact ⟨hl, .inl hh⟩
  · exact ⟨hl, .inr ⟨g, cap, cur, rfl, hb, h.blk (show Blk w g cur e from hh) ht, h3⟩⟩
theorem Kp.ext {ts : List TypeId} {B : Nat} {W w w' : World} (h : Kp ts B w w') (x : Ext W w) (hB : W.heap.size ≤ B) : Ext W w' :=
  ⟨h.os.trans x.os, h.tape.trans x.tape, h.output.trans x.output, Nat.le_trans x.size h.size, fun k hk => (h.block k (Nat.lt_of_lt_of_le hk x.size) (.inl (by omega))).trans (x.block k hk)⟩

theorem own_set {w : World} {base n size g cap j : Nat} {e : TypeId} {xs : List Value} (h : w.ownsRow base e size (.slice (some ⟨g, 0, none⟩) n cap) n xs) (hj : j < n * size) (u : Value) :
    (w.setCell ⟨g, j, none⟩ u).ownsRow base e size (.slice (some ⟨g, 0, none⟩) n cap) n (xs.set j u) := by
  obtain ⟨hl, hh | ⟨g', cap', cur, hv, hb, hh, h3, h4, h5, h6⟩⟩ := h
  · simp at hh
  · simp only [Value.slice.injEq, Option.some.injEq, Addr.mk.injEq, and_true, true_and] at hv
    obtain ⟨rfl, rfl⟩ := hv
    refine ⟨by simpa using hl, .inr ⟨g, cap, cur.setIfInBounds j u, rfl, hb, (Blk.set (show Blk w g cur e from hh) j u), h3, h4, by simpa using h5, ?_⟩⟩
    rw [Array.toList_setIfInBounds, ← h6]
    apply List.ext_getElem?
    intro i
    rw [List.getElem?_take, List.getElem?_set, List.getElem?_set]
    by_cases hi : i < n * size
    · rw [if_pos hi, List.getElem?_take, if_pos hi]
      by_cases e : j = i
      · subst e
        have : j < cur.size := by rw [h5]; exact Nat.lt_of_lt_of_le hj (Nat.mul_le_mul_right _ h3)
        rw [if_pos rfl, if_pos rfl, if_pos (by rw [Array.length_toList]; exact this), if_pos (by rw [List.length_take, Array.length_toList]; omega)]
      · simp [e]
    · rw [if_neg hi, if_neg (by omega), List.getElem?_take, if_neg hi]
theorem own_grownM {w w' : World} {m base n size : Nat} {e : TypeId} {v : Value} {xs : List Value} (h : w.ownsRow base e size v n xs) (hg : w.grownBy w' (some m)) (hm : ∀ cs t, w.heap[m]? ≠ some (.cells cs t (0, 0))) : w'.ownsRow base e size v n xs := by
  refine World.ownsRow.kept h hg (.inr fun q => ?_)
  obtain ⟨cs, hb⟩ := own_blk h m q
  exact hm cs _ hb
theorem Kp.cell {ts : List TypeId} {B : Nat} {w : World} {g j : Nat} {cs : Array Value} {t : TypeId} {u : Value} (hb : Blk w g cs t) (hB : B ≤ g) (ht : t ∈ ts) : Kp ts B w (w.setCell ⟨g, j, none⟩ u) :=
  ((Chg.refl [g] w).set (p := ⟨g, j, none⟩) (.inl (by simp)) u).kp (fun k hk => by rw [List.mem_singleton.1 hk]; exact ⟨hB, fun _ => ⟨cs, t, hb, ht⟩⟩)
theorem countP_one {p q : Nat → Bool} {t : Nat} (h : ∀ s, s ≠ t → q s = p s) : ∀ l : List Nat, l.Nodup → t ∈ l → l.countP q + (if p t then 1 else 0) = l.countP p + (if q t then 1 else 0)
  | [], _, hm => by simp at hm
  | s :: l, hn, hm => by
    obtain ⟨hn1, hn2⟩ := List.nodup_cons.1 hn
    rw [List.countP_cons, List.countP_cons]
    by_cases e : s = t
    · subst e
      have : l.countP q = l.countP p := List.countP_congr fun x hx => by rw [h x (fun e => hn1 (e ▸ hx))]
      omega
    · have ih := countP_one h l hn2 (by rcases List.mem_cons.1 hm with h1 | h1; exact absurd h1.symm e; exact h1)
      rw [h s e]
      omega
theorem nodup_le (l : List Nat) : ∀ (r : List Nat), l.Nodup → (∀ x, x ∈ l → x ∈ r) → l.length ≤ r.length := by
  induction l with
  | nil => intro r _ _; simp
  | cons a l ih =>
    intro r h hs
    have ha := hs a (List.mem_cons_self ..)
    have h2 := List.nodup_cons.1 h
    have h3 := ih (r.erase a) h2.2 (fun x hx => (List.mem_erase_of_ne (by rintro rfl; exact h2.1 hx)).2 (hs x (List.mem_cons_of_mem _ hx)))
    have h4 := List.length_erase_of_mem ha
    have h5 := List.length_pos_of_mem ha
    rw [List.length_cons]
    omega
theorem nodup_range_le {l : List Nat} {n : Nat} (h : l.Nodup) (hs : ∀ x, x ∈ l → x < n) : l.length ≤ n := by
  have := nodup_le l (List.range n) h (fun x hx => List.mem_range.2 (hs x hx))
  rwa [List.length_range] at this
theorem filter_ne_self {l : List Nat} {k : Nat} (h : k ∉ l) : l.filter (fun i => i != k) = l := by
  rw [List.filter_eq_self]
  intro a ha
  simp only [bne_iff_ne, ne_eq]
  rintro rfl
  exact h ha
theorem filter_ne_last {r : List Nat} {k : Nat} (h : (r ++ [k]).Nodup) : (r ++ [k]).filter (fun i => i != k) = r := by
  rw [List.filter_append]
  have hk : k ∉ r := fun hk => by
    have := (List.nodup_append.1 h).2.2 k hk k (by simp)
    exact this rfl
  rw [filter_ne_self hk]
  simp
theorem filter_le {p : Nat → Bool} {m n : Nat} (h : m ≤ n) (hp : ∀ i, m ≤ i → i < n → p i = false) : (List.range n).filter p = (List.range m).filter p := by
  obtain ⟨d, rfl⟩ : ∃ d, n = m + d := ⟨n - m, by omega⟩
  rw [List.range_add, List.filter_append]
  have : ((List.range d).map (m + ·)).filter p = [] := by
    rw [List.filter_eq_nil_iff]
    intro a ha
    obtain ⟨q, hq, rfl⟩ := List.mem_map.1 ha
    have := List.mem_range.1 hq
    rw [hp _ (by omega) (by omega)]
    decide
  rw [this, List.append_nil]
theorem range_sub {m n : Nat} (h : m ≤ n) : (List.range m).Sublist (List.range n) := by
  obtain ⟨d, rfl⟩ : ∃ d, n = m + d := ⟨n - m, by omega⟩
  rw [List.range_add]
  exact List.sublist_append_left _ _
end Go.Proofs.YtlgomkocalieeaaGreatDoor
