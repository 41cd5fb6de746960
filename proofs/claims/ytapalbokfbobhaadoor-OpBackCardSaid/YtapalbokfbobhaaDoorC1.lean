/- What the package variables hold; the library's contracts at this program. -/
import Derived.Test.YtapalbokfbobhaaDoorA2
import Derived.Test.YtapalbokfbobhaaDoorLists
import Derived.Test.YtapalbokfbobhaaDoorShelf
namespace Go.Proofs.YtapalbokfbobhaaDoor
open Go.RowKit Go.Sort
set_option linter.unusedSimpArgs false
set_option linter.unusedVariables false
set_option maxRecDepth 100000

/-- The package variables: the words, some number, the powers of ten. -/
structure Glob (w : World) : Prop where
  words : ∀ j, j < 10 → w.cell? ⟨0, j, none⟩ = some (Value.string ⟨List.toArray (wd j)⟩)
  max : ∃ m, w.cell? ⟨1, 0, none⟩ = some (.int .i64 m)
  pow : Lib.TabIs Tryd.prog w "internal/strconv.uint64pow10" .u64 Lib.pow10Tab
theorem tabIs_ext {P : Program} {w w' : World} {name : String} {k : IntKind} {zs : List Int} (h : Lib.TabIs P w name k zs) (x : Ext w w') : Lib.TabIs P w' name k zs := by
  unfold Lib.TabIs World.var? at *
  cases hg : P.globalNamed name with
  | none => simp [hg] at h
  | some g =>
    simp only [hg, Option.bind_some] at h ⊢
    have hlt : g < w.heap.size := by
      rcases Nat.lt_or_ge g w.heap.size with h' | h'
      · exact h'
      · rw [Array.getElem?_eq_none h'] at h; simp at h
    rw [x.block g hlt]
    exact h
theorem Glob.ext {w w' : World} (h : Glob w) (x : Ext w w') : Glob w' := by
  obtain ⟨h1, ⟨m, h2⟩, h3⟩ := h
  exact ⟨fun j hj => (x.oldCell _ _ (World.block_lt_of_cell? w _ (h1 j hj))).trans (h1 j hj), ⟨m, (x.oldCell _ _ (World.block_lt_of_cell? w _ h2)).trans h2⟩, tabIs_ext h3 x⟩
theorem ext_grow (w : World) (k : Nat) (os : Array Obj) : Ext w (grow (w.drewN k) os) :=
  ⟨rfl, rfl, rfl, by simp [grow, World.drewN], fun i hi => by simp [grow, World.drewN, Array.getElem?_append, hi]⟩
theorem itoa_any (n : Int) (w : World) (hG : Glob w) (h0 : -9223372036854775808 ≤ n) (h1 : n ≤ 9223372036854775807) :
    Calls Tryd.prog 30 #[.int .i64 n] w fun e w' => e = .returned (Value.string ⟨List.toArray (Lib.itoa n)⟩) ∧ Ext w w' := by
  refine (show Calls Tryd.prog 30 #[.int .i64 n] w fun e w' => e = .returned (.string ⟨(Lib.itoa n).toArray⟩) ∧ ∃ k os, w' = grow (w.drewN k) os from Any.strconv_Itoa laysM171 n h0 h1 w hG.pow).mono ?_
  rintro e w' ⟨rfl, k, os, rfl⟩
  exact ⟨rfl, ext_grow w k os⟩
theorem cut_any (l sep : List UInt8) (w : World) (hG : Glob w) (hl : l.length < 4294967281) :
    Calls Tryd.prog 37 #[(Value.string ⟨List.toArray (l)⟩), (Value.string ⟨List.toArray (sep)⟩)] w fun e w' => e = .returned (.tuple #[(Value.string ⟨List.toArray ((Lib.cut l sep).1)⟩), (Value.string ⟨List.toArray ((Lib.cut l sep).2.1)⟩), .bool (Lib.cut l sep).2.2]) ∧ Ext w w' := by
  obtain ⟨m, hm⟩ := hG.max
  refine (show Calls Tryd.prog 37 #[(Value.string ⟨List.toArray (l)⟩), (Value.string ⟨List.toArray (sep)⟩)] w fun e w' => e = .returned (.tuple #[(Value.string ⟨List.toArray ((Lib.cut l sep).1)⟩), (Value.string ⟨List.toArray ((Lib.cut l sep).2.1)⟩), .bool (Lib.cut l sep).2.2]) ∧ ∃ n, w' = w.drewN n from Any.strings_Cut lays145 ⟨l.toArray⟩ ⟨sep.toArray⟩ m w (by simpa [ByteArray.size] using hl) hm).mono ?_
  rintro e w' ⟨rfl, n, rfl⟩
  exact ⟨rfl, Ext.drewN _ _⟩
theorem index_any (l sep : List UInt8) (w : World) (hG : Glob w) (hl : l.length < 4294967281) :
    Calls Tryd.prog 45 #[(Value.string ⟨List.toArray (l)⟩), (Value.string ⟨List.toArray (sep)⟩)] w fun e w' => e = .returned (.int .i64 (Lib.index l sep)) ∧ w' = w := by
  obtain ⟨m, hm⟩ := hG.max
  exact Any.strings_Index lays143 ⟨l.toArray⟩ ⟨sep.toArray⟩ m w (by simpa [ByteArray.size] using hl) hm
theorem join_any (A : Option Addr) (c : Nat) (xs : List (List UInt8)) (sep : List UInt8) (w : World)
    (h : xs = [] ∨ ∃ b o, A = some ⟨b, o, none⟩ ∧ b < w.heap.size ∧ ∀ (j : Nat) x, xs[j]? = some x → w.cell? ⟨b, o + j, none⟩ = some (Value.string ⟨List.toArray (x)⟩))
    (hN : xs.length ≤ 1000) (hcap : xs.length ≤ c) (hlen : (Lib.join xs sep).length ≤ 140737488355328) :
    Calls Tryd.prog 22 #[.slice A xs.length c, (Value.string ⟨List.toArray (sep)⟩)] w fun e w' => e = .returned (Value.string ⟨List.toArray (Lib.join xs sep)⟩) ∧ Ext w w' := by
  rcases h with rfl | ⟨b, o, rfl, hb, hc⟩
  · refine (show Calls Tryd.prog 22 #[.slice A 0 c, (Value.string ⟨List.toArray (sep)⟩)] w fun e w' => e = .returned (.string ⟨#[]⟩) ∧ w' = w from Any.strings_Join_none lays156 Builder_Extra_156 A c ⟨sep.toArray⟩ w).mono ?_
    rintro e w' ⟨rfl, rfl⟩
    exact ⟨rfl, Ext.refl _⟩
  · have e1 : (xs.map fun x : List UInt8 => (⟨x.toArray⟩ : ByteArray)).map (·.data.toList) = xs := by
      rw [List.map_map]
      exact (List.map_congr_left fun x _ => rfl).trans (List.map_id _)
    have := Any.strings_Join lays156 Builder_Extra_156 b o c (xs.map fun x => ⟨x.toArray⟩) ⟨sep.toArray⟩ w (fun j x hx => by
      rw [List.getElem?_map] at hx
      obtain ⟨y, hy, rfl⟩ := Option.map_eq_some_iff.1 hx
      exact hc j y hy) hb (by rw [List.length_map]; omega) (by rw [List.length_map]; omega) (by rw [e1]; exact hlen)
    rw [e1, List.length_map] at this
    exact this
end Go.Proofs.YtapalbokfbobhaaDoor
