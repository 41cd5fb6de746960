/- Slices that come in as arguments, whatever their elements are: what the walk is told of them. -/
import Derived.Test.YtaglpodilepioaaDoorFrame
import Derived.Test.YtaglpodilepioaaDoorLists
import Derived.Deep.Slices
namespace Go.Proofs.YtaglpodilepioaaDoor
set_option maxRecDepth 100000
open Go.ChangeShapes Go.WideShapes Go.ChangeAt Go.RowKit Go.Deep

theorem add_form {w : World} {a : Addr} {j : Nat} {u : Value} (h : w.cell? (a.add j) = some u) : w.cell? ⟨a.block, a.off + j, none⟩ = some u := by
  unfold Addr.add at h
  by_cases hj : j = 0
  · rw [if_pos hj] at h
    have hs : a.spot = none := World.cell?_spot h
    obtain ⟨b, off, sp⟩ := a
    simp only at hs
    subst hs hj
    exact h
  · rw [if_neg hj] at h
    exact h

section
variable {H : Type} {enc : TypeId × Value → H} {W : World} {base : Nat}
theorem open_elems {t e : TypeId} {sz : Nat} {v : Value} {d : DataW H} {p : List MemPlace} (ht : Tryd.prog.underlying t = some (.slice e)) (hc : Tryd.prog.cellsOf e = sz) (hsz : 0 < sz)
    (hv : Value.okWide Tryd.prog W .any base t v) (h : DataW.Trod enc Tryd.prog W 0 (fun _ => true) true t v d p) :
    ∃ (A : Option Addr) (n c : Nat) (xs : List Value), v = .slice A n c ∧ n ≤ c ∧ c ≤ maxLen ∧ Sl W W.heap.size sz A n xs ∧
      ∀ i, i < n → ∃ m y, DataW.trod enc Tryd.prog W 0 (fun _ => true) true m e ((xs.drop (i * sz)).take sz) = some y := by
  obtain ⟨A, n, c, rfl⟩ := okWide_slice ht hv
  obtain ⟨fuel, hf⟩ := h
  rcases open_slice ht hf with ⟨hcs, _⟩ | ⟨a, len, cap, m, k, D, Pl, hcs, _, hl, hm, hmm, _, hel⟩
  · simp only [Value.cells, List.cons.injEq, and_true] at hcs
    injection hcs with e1 e2 e3
    subst e1 e2 e3
    exact ⟨none, 0, 0, [], rfl, Nat.le_refl _, by unfold maxLen; omega, ⟨by simp, fun h => absurd h (by omega)⟩, fun i hi => absurd hi (by omega)⟩
  · simp only [Value.cells, List.cons.injEq, and_true] at hcs
    injection hcs with e1 e2 e3
    subst e1 e2 e3
    have hml : n ≤ m := by rw [hmm]; simpa using hl
    have hcell : ∀ i, i < n → ∀ j, j < sz → ∃ u, W.cell? ⟨a.block, a.off + (i * sz + j), none⟩ = some u := by
      intro i hi j hj
      obtain ⟨cs', hcs', _⟩ := hel i (by omega)
      rw [hc] at hcs'
      obtain ⟨_, hlen, hat⟩ := World.cells?_some hcs'
      have h1 := hat j hj
      rw [List.getElem?_eq_getElem (by omega)] at h1
      rw [add_add] at h1
      exact ⟨_, add_form h1⟩
    have hall : ∀ j, j < n * sz → ∃ u, W.cell? ⟨a.block, a.off + j, none⟩ = some u := by
      intro j hj
      have h1 : j / sz < n := (Nat.div_lt_iff_lt_mul hsz).2 hj
      have h2 : j % sz < sz := Nat.mod_lt _ hsz
      have h3 := hcell (j / sz) h1 (j % sz) h2
      have e : j / sz * sz + j % sz = j := by rw [Nat.mul_comm]; exact Nat.div_add_mod j sz
      rwa [e] at h3
    let xs := (List.range (n * sz)).map fun j => (W.cell? ⟨a.block, a.off + j, none⟩).getD undef
    have hxs : ∀ j, j < n * sz → W.cell? ⟨a.block, a.off + j, none⟩ = xs[j]? := by
      intro j hj
      obtain ⟨u, hu⟩ := hall j hj
      simp [xs, hj, hu]
    refine ⟨some a, n, c, xs, rfl, hl, hm, ⟨by simp [xs], fun hn => ?_⟩, fun i hi => ?_⟩
    · obtain ⟨u, hu⟩ := hall 0 (Nat.mul_pos hn hsz)
      have hblk := World.block_lt_of_cell? W _ hu
      obtain ⟨cs', hcs', _⟩ := hel 0 (by omega)
      rw [hc] at hcs'
      obtain ⟨_, hlen, hat⟩ := World.cells?_some hcs'
      have h1 := hat 0 hsz
      rw [List.getElem?_eq_getElem (by omega), Nat.zero_mul] at h1
      have hs : a.spot = none := by
        have h2 : (a.add 0).add 0 = a := by simp [Addr.add]
        rw [h2] at h1
        exact World.cell?_spot h1
      obtain ⟨b, off, sp⟩ := a
      simp only at hs
      subst hs
      exact ⟨b, off, rfl, hblk, hxs⟩
    · obtain ⟨cs', hcs', htr⟩ := hel i (by omega)
      rw [hc] at hcs'
      obtain ⟨_, hlen, hat⟩ := World.cells?_some hcs'
      have e : (xs.drop (i * sz)).take sz = cs' := by
        apply List.ext_getElem?
        intro j
        rw [List.getElem?_take]
        by_cases hj : j < sz
        · rw [if_pos hj, List.getElem?_drop]
          have hij : i * sz + j < n * sz := by
            have : (i + 1) * sz ≤ n * sz := Nat.mul_le_mul_right _ hi
            rw [Nat.add_mul, Nat.one_mul] at this
            omega
          rw [← hxs _ hij, ← hat j hj]
          have h1 := hat j hj
          rw [List.getElem?_eq_getElem (by omega)] at h1
          rw [h1]
          rw [add_add] at h1
          exact add_form h1
        · rw [if_neg hj, List.getElem?_eq_none (by omega)]
      rw [e]
      exact ⟨k, _, htr⟩
end
end Go.Proofs.YtaglpodilepioaaDoor
