/- The frame of a law's proof where its row lists package variables that hold fields of a word; and structs of one-cell fields opened, any number of them. -/
import Derived.Test.YtlgomkocalieeaaGreatDoorFrame
import Derived.LaidMore
import Derived.MakeChecks
import Derived.Stop.Joined
import Derived.Deep.Fields
namespace Go.Proofs.YtlgomkocalieeaaGreatDoor
set_option maxRecDepth 100000
open Go.ChangeShapes Go.WideShapes Go.ChangeAt Go.RowKit Go.Joins Go.Deep

section
variable {H : Type} {enc : TypeId × Value → H} {W : World}
/-- A struct of one-cell fields that comes in: as many cells as fields, each read by its field's type. -/
theorem open_struct {r : Reach} {b0 base : Nat} {spare : Nat → Bool} {held : Bool} {t : TypeId} {fs : Array Field} {v : Value} {d : DataW H} {p : List MemPlace}
    (hs : Tryz.prog.underlying t = some (.struct fs)) (hone : oneCellFields Tryz.prog fs = true) (hC : Tryz.prog.cellsOf t = fs.size)
    (hv : Value.okWide Tryz.prog W r b0 t v) (h : DataW.Trod enc Tryz.prog W base spare held t v d p) :
    ∃ (cs : Array Value) (n : Nat), v = .agg cs ∧ cs.size = fs.size ∧
      ∀ (j : Nat) (f : Field) (c : Value), fs[j]? = some f → cs[j]? = some c → ∃ y, DataW.trod enc Tryz.prog W base spare held n f.type [c] = some y := by
  obtain ⟨cs, rfl, hsz⟩ := okWide_struct hs hv
  obtain ⟨fuel, hf⟩ := h
  obtain ⟨xs, n, _, _, _, hlen, hg⟩ := DataW.trod_struct hs hf
  refine ⟨cs, n, rfl, hsz.trans hC, fun j f c hj hc => ?_⟩
  obtain ⟨o, k⟩ := hone_of hone j f hj
  have hl : j < fs.size := (Array.getElem?_eq_some_iff.1 hj).1
  have g := hg j f hj
  obtain ⟨l⟩ := cs
  have e : (l.drop j).take 1 = [c] := by
    have hj2 : j < l.length := by have := hsz.trans hC; simp at this; omega
    rw [List.drop_eq_getElem_cons hj2]
    simp [List.getElem?_eq_getElem hj2] at hc
    simp [hc]
  simp only [Value.cells, o, k] at g
  rw [e] at g
  exact ⟨xs[j], g.trans (List.getElem?_eq_getElem (by omega))⟩

/-- One listed variable: a struct of two bytes. -/
theorem laid_bytes {t u : TypeId} {f0 f1 : Field} {n : String} {g : Nat} {a d : Int} {r : List (String × DataW Unit)} {ps : List MemPlace}
    (hs : Tryz.prog.underlying t = some (.struct #[f0, f1])) (hone : oneCellFields Tryz.prog #[f0, f1] = true) (hC : Tryz.prog.cellsOf t = 2) (h0 : f0.type = u) (h1 : f1.type = u) (hu : Tryz.prog.underlying u = some (.int .u8))
    (hn : Tryz.prog.globalNamed n = some g) (ht : (Tryz.prog.globals[g]?).map (·.type) = some t) (h : DataW.LaidVars Tryz.prog W ((n, .agg [.lit (.int .u8 a), .lit (.int .u8 d)]) :: r) ps) :
    (g < W.heap.size ∧ W.cell? ⟨g, 0, none⟩ = some (.int .u8 a) ∧ W.cell? ⟨g, 1, none⟩ = some (.int .u8 d)) ∧ ∃ q, DataW.LaidVars Tryz.prog W r q := by
  obtain ⟨g', t', cs, fuel, p, q, hg, ht', hv, hd, hr, _⟩ := h
  obtain rfl := Option.some.inj (hn.symm.trans hg)
  obtain rfl := Option.some.inj (ht.symm.trans ht')
  obtain ⟨y0, y1, m, hx, hl, d0, d1⟩ := trod_struct2 hs hd
  obtain ⟨o0, k0⟩ := hone_of hone 0 f0 rfl
  obtain ⟨o1, k1⟩ := hone_of hone 1 f1 rfl
  obtain ⟨l⟩ := cs
  match l, hl.trans hC with
  | [c0, c1], _ =>
    rw [o0, k0, h0] at d0
    rw [o1, k1, h1] at d1
    obtain ⟨x, e0, z0, _⟩ := DataW.trod_int hu d0
    obtain ⟨y, e1, z1, _⟩ := DataW.trod_int hu d1
    simp at e0 e1
    subst e0 e1 z0 z1
    simp at hx
    obtain ⟨⟨rfl, rfl⟩, _⟩ := hx
    have c0 := World.var?_cell hg hv 0
    have c1 := World.var?_cell hg hv 1
    exact ⟨⟨World.block_lt_of_cell? W _ c0, c0, c1⟩, q, hr⟩
end
end Go.Proofs.YtlgomkocalieeaaGreatDoor
