/- Of the objects that are told: the first record, the last one; elements of the list. -/
import Derived.Test.YtppjpicfiflkcaaS1
namespace Go.Proofs.Ytppjpicfiflkcaa
open Go.RowKit
set_option linter.unusedVariables false
set_option linter.unusedSimpArgs false
set_option maxRecDepth 100000

theorem own_atJ {w : World} {base : Nat} {v : Value} {l : List Int} (h : w.ownsRow base 3 1 v l.length (l.map enJ)) {j : Nat} (hj : j < l.length) :
    ∃ g c, v = .slice (some ⟨g, 0, none⟩) l.length c ∧ base ≤ g ∧ w.cell? ⟨g, j, none⟩ = some (.int .i64 l[j]) := by
  rcases h.2 with ⟨_, h0⟩ | ⟨g, cap, cur, rfl, hb, hh, h3, h4, h5, h6⟩
  · omega
  · refine ⟨g, cap, rfl, hb, ?_⟩
    have h1 : (cur.toList.take (l.length * 1))[j]? = (l.map enJ)[j]? := by rw [h6]
    rw [List.getElem?_take_of_lt (by omega), List.getElem?_map, List.getElem?_eq_getElem hj] at h1
    rw [cell_of_row w g j cur 3 (0, 0) hh, ← Array.getElem?_toList, h1]
    rfl
/-- Where the records of an object lie: from a to b. -/
structure Span (l : List Rec) (o a b : Int) : Prop where
  a0 : 0 ≤ a
  ab : a ≤ b
  bl : b < l.length
  all : ∀ k (h : k < l.length), (l[k]).1 = o → a ≤ k ∧ (k : Int) ≤ b
theorem span_of {l : List Rec} {o : Int} (h : ∃ r ∈ l, r.1 = o) : Span l o (firI l o) (topI l o) := by
  obtain ⟨r, hr, he⟩ := h
  obtain ⟨k0, hk0, rfl⟩ := List.mem_iff_getElem.1 hr
  have hf := firI_is l o
  have ht := topI_is l o
  generalize firI l o = a at *
  generalize topI l o = b at *
  rcases hf with ⟨_, h0⟩ | ⟨i, hi, rfl, hi1, hi2⟩
  · exact absurd he (h0 k0 hk0)
  · rcases ht with ⟨_, h0⟩ | ⟨j, hj, rfl, hj1, hj2⟩
    · exact absurd he (h0 k0 hk0)
    · have key : ∀ k (h : k < l.length), (l[k]).1 = o → i ≤ k ∧ k ≤ j := by
        intro k h hk
        constructor
        · rcases Nat.lt_or_ge k i with q | q
          · exact absurd hk (hi2 k q)
          · exact q
        · rcases Nat.lt_or_ge j k with q | q
          · exact absurd hk (hj2 k h q)
          · exact q
      have := key i hi hi1
      exact ⟨by omega, by omega, by omega, fun k h hk => by have := key k h hk; omega⟩
theorem pushL_len (N : Int) (l : List Rec) (a s : Int) : (pushL N l a s).length ≤ l.length + 1 := by unfold pushL; split <;> simp
theorem pushL_cap {N : Int} {l : List Rec} (a s : Int) (h : (l.length : Int) ≤ N) : ((pushL N l a s).length : Int) ≤ N := by
  unfold pushL
  split
  · rename_i he
    unfold pushE at he
    split at he
    · split at he
      · split at he
        · omega
        · simp; omega
      · omega
    · omega
  · exact h
theorem popL_len (N : Int) (l : List Rec) (a : Int) : (popL N l a).length ≤ l.length := by
  unfold popL
  split
  · exact List.length_eraseIdx_le ..
  · exact Nat.le_refl _
end Go.Proofs.Ytppjpicfiflkcaa
