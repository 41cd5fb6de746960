/- The edges that come in, as the laws of layer 26 are told them. -/
import Derived.Test.YtaglpodilepioaaDoorS1
import Derived.Test.YtaglpodilepioaaDoorOpens
import Derived.Deep.Strs
namespace Go.Proofs.YtaglpodilepioaaDoor
open Go.ChangeShapes Go.WideShapes Go.ChangeAt Go.RowKit Go.Deep Go.Joins
set_option linter.unusedVariables false
set_option linter.unusedSimpArgs false
set_option maxRecDepth 100000

section
variable {H : Type} {enc : TypeId × Value → H} {W : World} {base : Nat}
theorem open_cells {fuel : Nat} {cs : List Value} {x : DataW H × List MemPlace} (hl : cs.length = 2) (ht : DataW.trod enc Tryd.prog W 0 (fun _ => true) true fuel 31 cs = some x) : ∃ s : Int × Int, cs = [.int .i64 s.1, .int .i64 s.2] := by
  obtain ⟨y0, y1, k, _, _, t0, t1⟩ := trod_struct2 Tryd.underlying31 ht
  obtain ⟨q0, e0, _, w0⟩ := DataW.trod_int Tryd.underlying3 t0
  obtain ⟨q1, e1, _, w1⟩ := DataW.trod_int Tryd.underlying3 t1
  match cs, hl with
  | [c0, c1], _ =>
    simp [show Tryd.prog.cellsOf 3 = 1 from by kernel_rfl] at e0 e1
    subst e0 e1
    exact ⟨⟨q0, q1⟩, rfl⟩
theorem open_eds {v : Value} {d : DataW H} {p : List MemPlace} (hv : Value.okWide Tryd.prog W .any base 22 v) (h : DataW.Trod enc Tryd.prog W 0 (fun _ => true) true 22 v d p) :
    ∃ (A : Option Addr) (n c : Nat) (es : IE), v = .slice A n c ∧ es.length = n ∧ Eds W A es := by
  obtain ⟨A, n, c, xs, rfl, hnc, hc, hs, hel⟩ := open_elems Tryd.underlying22 (sz := 2) (by kernel_rfl) (by omega) hv h
  have h1 : ∀ i, i < n → ∃ s : Int × Int, xs[i * 2]? = some (.int .i64 s.1) ∧ xs[i * 2 + 1]? = some (.int .i64 s.2) := by
    intro i hi
    obtain ⟨m, y, ht⟩ := hel i hi
    have hl : ((xs.drop (i * 2)).take 2).length = 2 := by
      have := hs.1
      have : (i + 1) * 2 ≤ n * 2 := Nat.mul_le_mul_right _ hi
      simp; omega
    obtain ⟨s, hs2⟩ := open_cells hl ht
    refine ⟨s, ?_, ?_⟩
    · have e := congrArg (·[0]?) hs2
      simpa [List.getElem?_take, List.getElem?_drop] using e
    · have e := congrArg (·[1]?) hs2
      simpa [List.getElem?_take, List.getElem?_drop] using e
  obtain ⟨f, hf⟩ := choose_lt h1
  refine ⟨A, n, c, (List.range n).map f, rfl, by simp, fun k p hp => ?_⟩
  have hk := (List.getElem?_eq_some_iff.1 hp).1
  simp at hk
  rw [List.getElem?_map, List.getElem?_range hk] at hp
  obtain rfl : f k = p := by simpa using hp
  obtain ⟨b, off, ha, hb, hcells⟩ := hs.at_ hk
  refine ⟨b, off, ha, fun wx hx => ⟨(hx.oldCell b _ hb).trans ?_, (hx.oldCell b _ hb).trans ?_⟩⟩
  · exact (hcells 0 (by omega)).trans (hf k hk).1
  · rw [Nat.add_assoc]; exact (hcells 1 (by omega)).trans (hf k hk).2
end
end Go.Proofs.YtaglpodilepioaaDoor
