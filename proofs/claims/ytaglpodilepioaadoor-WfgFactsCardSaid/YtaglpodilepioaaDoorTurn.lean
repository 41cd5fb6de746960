/- Worlds in which only the listed blocks have turned, and what is new: for a memory that the program itself changes. -/
import Derived.Test.YtaglpodilepioaaDoorLists
namespace Go.Proofs.YtaglpodilepioaaDoor
open Go.RowKit

/-- Only the blocks of T may have turned, and what is new. -/
structure Chg (T : List Nat) (w w' : World) : Prop where
  os : w'.os = w.os
  tape : w'.tape = w.tape
  output : w'.output = w.output
  size : w.heap.size ≤ w'.heap.size
  block : ∀ k, k < w.heap.size → k ∉ T → w'.heap[k]? = w.heap[k]?
section
variable {T T' : List Nat} {a b c w w' W : World}
theorem Chg.refl (T : List Nat) (w : World) : Chg T w w := ⟨rfl, rfl, rfl, Nat.le_refl _, fun _ _ _ => rfl⟩
theorem Chg.trans (h : Chg T a b) (k : Chg T b c) : Chg T a c :=
  ⟨k.os.trans h.os, k.tape.trans h.tape, k.output.trans h.output, Nat.le_trans h.size k.size, fun i hi hT => (k.block i (Nat.lt_of_lt_of_le hi h.size) hT).trans (h.block i hi hT)⟩
theorem Ext.chg (h : Ext w w') (T : List Nat) : Chg T w w' := ⟨h.os, h.tape, h.output, h.size, fun k hk _ => h.block k hk⟩
theorem Chg.ext0 (h : Chg [] w w') : Ext w w' := ⟨h.os, h.tape, h.output, h.size, fun k hk => h.block k hk (by simp)⟩
theorem Chg.alloc (T : List Nat) (w : World) (o : Obj) : Chg T w (w.alloc o) := (Ext.alloc w o).chg T
theorem Chg.drew (T : List Nat) (w : World) : Chg T w w.drew := (Ext.drew w).chg T
theorem Chg.drawn (T : List Nat) (w : World) : Chg T w { w with drawn := w.drawn + 1 } := (Ext.drawn w).chg T
theorem Chg.drewN (T : List Nat) (w : World) (n : Nat) : Chg T w (w.drewN n) := (Ext.drewN w n).chg T
theorem Chg.set {p : Addr} (h : Chg T w w') (hp : p.block ∈ T ∨ w.heap.size ≤ p.block) (u : Value) : Chg T w (w'.setCell p u) :=
  ⟨h.os, h.tape, h.output, by simpa [World.setCell] using h.size, fun k hk hT => (Below.heap_setCell w' p u k (by rintro rfl; rcases hp with hp | hp; exact hT hp; omega)).trans (h.block k hk hT)⟩
theorem Chg.mono (h : Chg T w w') (hs : ∀ k, k ∈ T → k ∈ T') : Chg T' w w' := ⟨h.os, h.tape, h.output, h.size, fun k hk hT => h.block k hk (fun hm => hT (hs k hm))⟩
/-- What is new to W, and turned, is new to W. -/
theorem Ext.turn (h : Ext W w) (k : Chg T w w') (hT : ∀ t, t ∈ T → W.heap.size ≤ t) : Ext W w' :=
  ⟨k.os.trans h.os, k.tape.trans h.tape, k.output.trans h.output, Nat.le_trans h.size k.size, fun i hi => (k.block i (Nat.lt_of_lt_of_le hi h.size) (fun hm => by have := hT i hm; omega)).trans (h.block i hi)⟩
theorem Chg.oldCell (h : Chg T w w') (b o : Nat) (hb : b < w.heap.size) (hne : b ∉ T) : w'.cell? ⟨b, o, none⟩ = w.cell? ⟨b, o, none⟩ := World.cell?_of_block (a := ⟨b, o, none⟩) (h.block b hb hne)
theorem Blk.chg {g : Nat} {cs : Array Value} {t : TypeId} (h : Blk w g cs t) (x : Chg T w w') (hne : g ∉ T) : Blk w' g cs t := (x.block g h.lt hne).trans h
theorem Blk.ruleC {g : Nat} {cs : Array Value} {t : TypeId} (h : Blk w g cs t) (hne : g ∉ T) : ∀ w', Chg T w w' → ∀ i, w'.cell? ⟨g, i, none⟩ = cs[i]? := fun _ x i => (h.chg x hne).cell i
theorem Blk.ruleCF {g : Nat} {cs : Array Value} {t : TypeId} (h : Blk w g cs t) (hne : g ∉ T) : ∀ w', Chg T w w' → ∀ i, w'.frozen? ⟨g, i, none⟩ = false := fun _ x i => (h.chg x hne).free i
theorem Sl.chg {B size n : Nat} {A : Option Addr} {xs : List Value} (h : Sl w B size A n xs) (e : Chg T w w') (hB : B ≤ w.heap.size) (hT : ∀ t, t ∈ T → B ≤ t) : Sl w' B size A n xs :=
  ⟨h.1, fun hn => by
    obtain ⟨b, off, ha, hb, hc⟩ := h.2 hn
    exact ⟨b, off, ha, hb, fun j hj => (e.oldCell b (off + j) (by omega) (fun hm => by have := hT b hm; omega)).trans (hc j hj)⟩⟩
end
theorem Chg.trans2 {T : List Nat} {a b c d : World} (h : Chg T a b) (k : Chg T b c) (l : Chg T c d) : Chg T a d := (h.trans k).trans l

/-- A row that a slice owns, kept. -/
theorem own_chg {T : List Nat} {w w' : World} {base n size : Nat} {e : TypeId} {v : Value} {xs : List Value} (h : w.ownsRow base e size v n xs) (x : Chg T w w') (hT : ∀ t, t ∈ T → t < base) : w'.ownsRow base e size v n xs := by
  obtain ⟨hl, h | ⟨g, cap, cur, rfl, hb, hh, h3, h4, h5, h6⟩⟩ := h
  · exact ⟨hl, .inl h⟩
  · refine ⟨hl, .inr ⟨g, cap, cur, rfl, hb, ?_, h3, h4, h5, h6⟩⟩
    have hlt : g < w.heap.size := by
      rcases Nat.lt_or_ge g w.heap.size with h | h
      · exact h
      · rw [Array.getElem?_eq_none h] at hh; cases hh
    rw [x.block g hlt (fun hm => by have := hT g hm; omega)]; exact hh
theorem own_low {w : World} {base base' n size : Nat} {e : TypeId} {v : Value} {xs : List Value} (h : w.ownsRow base e size v n xs) (hb : base' ≤ base) : w.ownsRow base' e size v n xs := by
  obtain ⟨hl, h | ⟨g, cap, cur, rfl, hb, hh, h3⟩⟩ := h
  · exact ⟨hl, .inl h⟩
  · exact ⟨hl, .inr ⟨g, cap, cur, rfl, by omega, hh, h3⟩⟩
/-- A quiet region, over the class of the worlds in which only the blocks of T have turned. -/
theorem wp_region_chg {P : Program} {id : Nat} {Q : Exit → Act → World → Prop} {a : Act} {w : World} {l : List Oper} (T : List Nat) (hm : P.follows .mixedOrders = true) (hB : Region.lexB .any l.toArray = true)
    (h : wpQuiet P l.toArray (Chg T w) (fun a' => ∀ w', Chg T w w' → Q .normal a' w') l a) : (Code.region id l.toArray true).wp P Q a w :=
  wp_region_quiet (C := Chg T w) hm hB (Chg.drawn T w) (by simpa using h)
end Go.Proofs.YtaglpodilepioaaDoor
