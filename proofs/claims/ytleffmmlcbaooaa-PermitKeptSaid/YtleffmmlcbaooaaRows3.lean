/- Rows of Booleans in a block: one an element, or three; what the walk is told of them; and rows of ints that a call has made. -/
import Derived.Test.YtleffmmlcbaooaaTurn
namespace Go.Proofs.Ytleffmmlcbaooaa
open Go.RowKit
set_option linter.unusedSimpArgs false
set_option linter.unusedVariables false
/-- Three Booleans. -/
structure B3 where
  x : Bool
  y : Bool
  z : Bool
instance : Inhabited B3 := ⟨⟨false, false, false⟩⟩
def no3 : B3 := ⟨false, false, false⟩
/-- A function on places. -/
abbrev Tb := Nat → B3
def upd3 (g : Tb) (t : Nat) (s : B3) : Tb := fun k => if k = t then s else g k
theorem upd3_same (g : Tb) (t : Nat) (s : B3) : upd3 g t s t = s := if_pos rfl
theorem upd3_other (g : Tb) {t k : Nat} (s : B3) (h : k ≠ t) : upd3 g t s k = g k := if_neg h
theorem upd3_self (g : Tb) (t : Nat) : upd3 g t (g t) = g := by funext k; unfold upd3; split <;> simp_all
theorem upd3_upd3 (g : Tb) (t : Nat) (s s' : B3) : upd3 (upd3 g t s) t s' = upd3 g t s' := by funext k; unfold upd3; split <;> rfl
def b3 (s : B3) (i : Nat) : Value := if i = 0 then .bool s.x else if i = 1 then .bool s.y else .bool s.z
def rows3 (N : Nat) (g : Tb) : Array Value := ((List.range (N * 3)).map fun j => b3 (g (j / 3)) (j % 3)).toArray
def rows1 (N : Nat) (g : Nat → Bool) : Array Value := ((List.range N).map fun j => Value.bool (g j)).toArray
def upd1 (g : Nat → Bool) (t : Nat) (v : Bool) : Nat → Bool := fun k => if k = t then v else g k
theorem upd1_same (g : Nat → Bool) (t : Nat) (s : Bool) : upd1 g t s t = s := if_pos rfl
theorem upd1_other (g : Nat → Bool) {t k : Nat} (s : Bool) (h : k ≠ t) : upd1 g t s k = g k := if_neg h
theorem rows3_size (N : Nat) (g : Tb) : (rows3 N g).size = N * 3 := by simp [rows3]
theorem rows1_size (N : Nat) (g : Nat → Bool) : (rows1 N g).size = N := by simp [rows1]
theorem rows3_at {N : Nat} (g : Tb) {t : Nat} (h : t < N) : (rows3 N g)[t * 3]? = some (.bool (g t).x) ∧ (rows3 N g)[t * 3 + 1]? = some (.bool (g t).y) ∧ (rows3 N g)[t * 3 + 2]? = some (.bool (g t).z) := by
  unfold rows3
  rw [List.getElem?_toArray, List.getElem?_map, List.getElem?_range (by omega), List.getElem?_toArray, List.getElem?_map, List.getElem?_range (by omega), List.getElem?_toArray, List.getElem?_map, List.getElem?_range (by omega)]
  simp only [Option.map_some]
  rw [show t * 3 / 3 = t by omega, show t * 3 % 3 = 0 by omega, show (t * 3 + 1) / 3 = t by omega, show (t * 3 + 1) % 3 = 1 by omega, show (t * 3 + 2) / 3 = t by omega, show (t * 3 + 2) % 3 = 2 by omega]
  exact ⟨rfl, rfl, rfl⟩
theorem rows1_at {N : Nat} (g : Nat → Bool) {t : Nat} (h : t < N) : (rows1 N g)[t]? = some (.bool (g t)) := by
  unfold rows1
  rw [List.getElem?_toArray, List.getElem?_map, List.getElem?_range h]; rfl
theorem rows1_set {N : Nat} (g : Nat → Bool) {t : Nat} (h : t < N) (v : Bool) : (rows1 N g).setIfInBounds t (.bool v) = rows1 N (upd1 g t v) := by
  apply Array.ext'
  apply List.ext_getElem?
  intro j
  rw [Array.toList_setIfInBounds, List.getElem?_set]
  simp only [rows1, List.getElem?_map, List.length_map, List.length_range]
  by_cases hj : j < N
  · rw [List.getElem?_range hj]
    by_cases e : t = j
    · subst e; simp [upd1, hj]
    · have e2 : j ≠ t := Ne.symm e
      simp [upd1, e, e2]
  · have e : t ≠ j := by omega
    simp [e, List.getElem?_eq_none (show (List.range N).length ≤ j by simp; omega)]
theorem rows3_set {N : Nat} (g : Tb) {t i : Nat} (h : t < N) (hi : i < 3) (v : Bool) (s : B3) (hs : ∀ k, k < 3 → b3 s k = if k = i then .bool v else b3 (g t) k) : (rows3 N g).setIfInBounds (t * 3 + i) (.bool v) = rows3 N (upd3 g t s) := by
  apply Array.ext'
  apply List.ext_getElem?
  intro j
  rw [Array.toList_setIfInBounds, List.getElem?_set]
  simp only [rows3, List.getElem?_map, List.length_map, List.length_range]
  by_cases hj : j < N * 3
  · rw [List.getElem?_range hj]
    simp only [Option.map_some]
    by_cases e : j / 3 = t
    · rw [e, upd3_same, hs _ (Nat.mod_lt _ (by omega))]
      by_cases e2 : j % 3 = i
      · rw [if_pos (show t * 3 + i = j by omega), if_pos (show t * 3 + i < N * 3 by omega), if_pos e2]
      · rw [if_neg (show ¬ t * 3 + i = j by omega), if_neg e2]
    · rw [upd3_other _ _ e, if_neg (show ¬ t * 3 + i = j by omega)]
  · rw [if_neg (show ¬ t * 3 + i = j by omega), List.getElem?_eq_none (show (List.range (N * 3)).length ≤ j by simp; omega)]
    rfl
theorem rows3_setx {N : Nat} (g : Tb) {t : Nat} (h : t < N) (v : Bool) : (rows3 N g).setIfInBounds (t * 3) (.bool v) = rows3 N (upd3 g t ⟨v, (g t).y, (g t).z⟩) :=
  rows3_set g (i := 0) h (by omega) v _ fun k hk => by
    rcases (by omega : k = 0 ∨ k = 1 ∨ k = 2) with rfl | rfl | rfl <;> rfl
theorem rows3_sety {N : Nat} (g : Tb) {t : Nat} (h : t < N) (v : Bool) : (rows3 N g).setIfInBounds (t * 3 + 1) (.bool v) = rows3 N (upd3 g t ⟨(g t).x, v, (g t).z⟩) :=
  rows3_set g (i := 1) h (by omega) v _ fun k hk => by
    rcases (by omega : k = 0 ∨ k = 1 ∨ k = 2) with rfl | rfl | rfl <;> rfl
theorem rows3_setz {N : Nat} (g : Tb) {t : Nat} (h : t < N) (v : Bool) : (rows3 N g).setIfInBounds (t * 3 + 2) (.bool v) = rows3 N (upd3 g t ⟨(g t).x, (g t).y, v⟩) :=
  rows3_set g (i := 2) h (by omega) v _ fun k hk => by
    rcases (by omega : k = 0 ∨ k = 1 ∨ k = 2) with rfl | rfl | rfl <;> rfl
theorem made_rows3 (N : Nat) (z : Value) (hz : z.cells = #[.bool false, .bool false, .bool false]) : madeCells z.cells (N * 3) = rows3 N (fun _ => no3) := by
  rw [hz]
  apply Array.ext'
  apply List.ext_getElem
  · simp [madeCells, rows3]
  · intro i h1 h2
    have hm : i % 3 < 3 := Nat.mod_lt _ (by omega)
    simp only [madeCells, rows3, Array.toList_map, Array.toList_range, List.getElem_map, List.getElem_range]
    rcases (by omega : i % 3 = 0 ∨ i % 3 = 1 ∨ i % 3 = 2) with e | e | e <;> simp [e, b3, no3]
theorem made_rows1 (N : Nat) (z : Value) (hz : z.cells = #[.bool false]) : madeCells z.cells (N * 1) = rows1 N (fun _ => false) := by
  rw [hz]
  apply Array.ext'
  apply List.ext_getElem
  · simp [madeCells, rows1]
  · intro i h1 h2
    simp [madeCells, rows1, Nat.mod_one]
/-! Rows of ints. -/
def enI (x : Nat) : Value := .int .i64 (x : Int)
theorem own_at {w : World} {base : Nat} {v : Value} {l : List Nat} (h : w.ownsRow base 3 1 v l.length (l.map enI)) {j : Nat} (hj : j < l.length) :
    ∃ g c, v = .slice (some ⟨g, 0, none⟩) l.length c ∧ base ≤ g ∧ w.cell? ⟨g, j, none⟩ = some (.int .i64 ((l[j] : Nat) : Int)) := by
  rcases h.2 with ⟨_, h0⟩ | ⟨g, cap, cur, rfl, hb, hh, h3, h4, h5, h6⟩
  · omega
  · refine ⟨g, cap, rfl, hb, ?_⟩
    have h1 : (cur.toList.take (l.length * 1))[j]? = (l.map enI)[j]? := by rw [h6]
    rw [List.getElem?_take_of_lt (by omega), List.getElem?_map, List.getElem?_eq_getElem hj] at h1
    rw [cell_of_row w g j cur 3 (0, 0) hh, ← Array.getElem?_toList, h1]
    rfl
theorem own_len {w : World} {base : Nat} {v : Value} {l : List Nat} (h : w.ownsRow base 3 1 v l.length (l.map enI)) : ∃ A c, v = .slice A l.length c := by
  rcases h.2 with ⟨rfl, h0⟩ | ⟨g, cap, cur, rfl, _⟩
  · exact ⟨none, 0, by rw [h0]⟩
  · exact ⟨_, _, rfl⟩
theorem inf_int : (Try.prog.info? 3).map (fun i => (i.zero, i.size, i.bytes)) = some (some (.int .i64 0), 1, 8) := by kernel_rfl
end Go.Proofs.Ytleffmmlcbaooaa
