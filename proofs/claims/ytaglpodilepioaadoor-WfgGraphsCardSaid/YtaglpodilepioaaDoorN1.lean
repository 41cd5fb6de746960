/- A graph is not unlike itself: the comparison of two arrays of words. -/
import Derived.Test.YtaglpodilepioaaDoorP2
import Derived.ChangeKeysEq
namespace Go.Proofs.YtaglpodilepioaaDoor
open Go.RowKit
set_option maxRecDepth 100000
set_option linter.unusedSimpArgs false

theorem mapM_some {α β : Type} {f : α → Option β} {g : α → β} : ∀ (is : List α), (∀ i, i ∈ is → f i = some (g i)) → is.mapM f = some (is.map g)
  | [], _ => rfl
  | i :: is, h => by
    rw [List.mapM_cons, h i (List.mem_cons_self ..), mapM_some is fun j hj => h j (List.mem_cons_of_mem _ hj)]
    rfl
theorem lits_g (E : Gr) : (List.range 64).mapM (fun i => Tryd.prog.keyLits 1 24 (((gc E).toList.drop (i * Tryd.prog.cellsOf 24)).take (Tryd.prog.cellsOf 24))) = some ((List.range 64).map fun i => [Lit.int .u64 (wv (E i) : Int)]) := by
  refine mapM_some _ fun i hi => ?_
  have hi := List.mem_range.1 hi
  have hc : Tryd.prog.cellsOf 24 = 1 := by kernel_rfl
  have h1 : ((gc E).toList.drop (i * 1)).take 1 = [.int .u64 (wv (E i) : Int)] := by
    have h2 := gc_at (E := E) hi
    rw [← Array.getElem?_toList] at h2
    rw [Nat.mul_one]
    obtain ⟨h3, h4⟩ := List.getElem?_eq_some_iff.1 h2
    rw [List.drop_eq_getElem_cons h3, h4]
    rfl
  rw [hc, h1]
  have hu : Tryd.prog.underlying 24 = some (.int .u64) := Tryd.underlying24
  have hw : (Lit.int .u64 (wv (E i) : Int)).wf = true := by
    have := wv_lt (E i)
    exact WalkArith.wf_u64 ⟨by omega, by omega⟩
  simp [Program.keyLits, hu, hw]
theorem neq_g (E : Gr) (w : World) : Sem.run Tryd.prog (binOp .neq 27 (.agg (gc E)) (.agg (gc E))) w = .ok (.bool false) w := by
  go_simp
  have he : (gc E).extract 0 64 = gc E := by
    have := gc_size (E := E)
    rw [← this]; exact Array.extract_size
  have hs : (Tryd.prog.info? 24).isSome = true := by kernel_rfl
  obtain ⟨i, hi⟩ := Option.isSome_iff_exists.1 hs
  obtain ⟨r, hr, hiff⟩ := run_eqItems_plain (P := Tryd.prog) (w := w) 9997 (e := 24) (by kernel_rfl) (gc E) (gc E) (D := 1) (D' := 1) (List.range 64) _ _ (lits_g E) (lits_g E)
  obtain rfl : r = true := hiff.2 rfl
  rw [he, run_equalIn_array w 9998 (gc E) (gc E) Tryd.underlying25 hi, hr]
  simp
end Go.Proofs.YtaglpodilepioaaDoor
