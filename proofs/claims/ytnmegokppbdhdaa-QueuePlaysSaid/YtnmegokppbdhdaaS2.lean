/- The steps that come in: each with a chain of its own. -/
import Derived.Test.YtnmegokppbdhdaaS1
namespace Go.Proofs.Ytnmegokppbdhdaa
set_option maxRecDepth 100000
open Go.ChangeShapes Go.WideShapes Go.ChangeAt Go.RowKit Go.Deep Go.Joins
set_option linter.unusedVariables false
set_option linter.unusedSimpArgs false

section
variable {H : Type} {enc : TypeId × Value → H} {W : World} {base : Nat}
theorem open_elemsC {t e : TypeId} {sz fuel : Nat} {cs0 : List Value} {x : DataW H × List MemPlace} (ht : Try.prog.underlying t = some (.slice e)) (hc : Try.prog.cellsOf e = sz) (hsz : 0 < sz)
    (hf : DataW.trod enc Try.prog W 0 (fun _ => true) true fuel t cs0 = some x) :
      ∃ (A : Option Addr) (n c : Nat) (xs : List Value), cs0 = [.slice A n c] ∧ n ≤ c ∧ c ≤ maxLen ∧ Sl W W.heap.size sz A n xs ∧
      ∀ i, i < n → ∃ m y, DataW.trod enc Try.prog W 0 (fun _ => true) true m e ((xs.drop (i * sz)).take sz) = some y := by
  rcases open_slice ht hf with ⟨hcs, _⟩ | ⟨a, n, c, m, k, D, Pl, hcs, _, hl, hm, hmm, _, hel⟩
  · subst hcs
    exact ⟨none, 0, 0, [], rfl, Nat.le_refl _, by unfold maxLen; omega, ⟨by simp, fun h => absurd h (by omega)⟩, fun i hi => absurd hi (by omega)⟩
  · subst hcs
    have hml : n ≤ m := by rw [hmm]; simpa using hl
    have hcell : ∀ i, i < n → ∀ j, j < sz → ∃ u, W.cell? ⟨a.block, a.off + (i * sz + j), none⟩ = some u := by
      intro i hi j hj
      obtain ⟨cs', hcs', _⟩ := hel i (by omega)
      rw [hc] at hcs'
      obtain ⟨_, hlen, hat⟩ := World.cells?_some hcs'
      have h1 := hat j hj
      rw [List.getElem?_eq_getElem (by omega)] at h1
      rw [add_add] at h1
      exact ⟨_, add_form h1⟩
    have hall : ∀ j, j < n * sz → ∃ u, W.cell? ⟨a.block, a.off + j, none⟩ = some u := by
      intro j hj
      have h1 : j / sz < n := (Nat.div_lt_iff_lt_mul hsz).2 hj
      have h2 : j % sz < sz := Nat.mod_lt _ hsz
      have h3 := hcell (j / sz) h1 (j % sz) h2
      have e : j / sz * sz + j % sz = j := by rw [Nat.mul_comm]; exact Nat.div_add_mod j sz
      rwa [e] at h3
    let xs := (List.range (n * sz)).map fun j => (W.cell? ⟨a.block, a.off + j, none⟩).getD undef
    have hxs : ∀ j, j < n * sz → W.cell? ⟨a.block, a.off + j, none⟩ = xs[j]? := by
      intro j hj
      obtain ⟨u, hu⟩ := hall j hj
      simp [xs, hj, hu]
    refine ⟨some a, n, c, xs, rfl, hl, hm, ⟨by simp [xs], fun hn => ?_⟩, fun i hi => ?_⟩
    · obtain ⟨u, hu⟩ := hall 0 (Nat.mul_pos hn hsz)
      have hblk := World.block_lt_of_cell? W _ hu
      obtain ⟨cs', hcs', _⟩ := hel 0 (by omega)
      rw [hc] at hcs'
      obtain ⟨_, hlen, hat⟩ := World.cells?_some hcs'
      have h1 := hat 0 hsz
      rw [List.getElem?_eq_getElem (by omega), Nat.zero_mul] at h1
      have hs : a.spot = none := by
        have h2 : (a.add 0).add 0 = a := by simp [Addr.add]
        rw [h2] at h1
        exact World.cell?_spot h1
      obtain ⟨b, off, sp⟩ := a
      simp only at hs
      subst hs
      exact ⟨b, off, rfl, hblk, hxs⟩
    · obtain ⟨cs', hcs', htr⟩ := hel i (by omega)
      rw [hc] at hcs'
      obtain ⟨_, hlen, hat⟩ := World.cells?_some hcs'
      have e : (xs.drop (i * sz)).take sz = cs' := by
        apply List.ext_getElem?
        intro j
        rw [List.getElem?_take]
        by_cases hj : j < sz
        · rw [if_pos hj, List.getElem?_drop]
          have hij : i * sz + j < n * sz := by
            have : (i + 1) * sz ≤ n * sz := Nat.mul_le_mul_right _ hi
            rw [Nat.add_mul, Nat.one_mul] at this
            omega
          rw [← hxs _ hij, ← hat j hj]
          have h1 := hat j hj
          rw [List.getElem?_eq_getElem (by omega)] at h1
          rw [h1]
          rw [add_add] at h1
          exact add_form h1
        · rw [if_neg hj, List.getElem?_eq_none (by omega)]
      rw [e]
      exact ⟨k, _, htr⟩
theorem ch_of {A : Option Addr} {n : Nat} {xs : List Value} (hs : Sl W W.heap.size 1 A n xs)
    (hel : ∀ i, i < n → ∃ m y, DataW.trod enc Try.prog W 0 (fun _ => true) true m 3 ((xs.drop (i * 1)).take 1) = some y) : ∃ l : List Int, l.length = n ∧ Ch W A l ∧ ∀ j (h : j < l.length), (ky l[j]).wf = true := by
  have h1 : ∀ i, i < n → ∃ q : Int, xs[i]? = some (.int .i64 q) ∧ (ky q).wf = true := by
    intro i hi
    obtain ⟨m, y, ht⟩ := hel i hi
    obtain ⟨q0, e0, _, w0⟩ := DataW.trod_int Try.underlying3 ht
    have e := congrArg (·[0]?) e0
    simp at e
    exact ⟨q0, e, w0⟩
  obtain ⟨g, hg⟩ := choose_lt h1
  refine ⟨(List.range n).map g, by simp, ?_, fun j hj => ?_⟩
  · rcases Nat.eq_zero_or_pos n with h0 | h0
    · exact .inl (by simp [h0])
    · obtain ⟨b, off, ha, hb, hc⟩ := hs.2 h0
      exact .inr ⟨b, off, ha, hb, fun j hj => by
        simp at hj
        rw [hc j (by omega), (hg j hj).1]
        simp⟩
  · simp at hj
    simpa using (hg j hj).2
theorem open_cells {fuel : Nat} {cs : List Value} {x : DataW H × List MemPlace} (hl : cs.length = 3) (ht : DataW.trod enc Try.prog W 0 (fun _ => true) true fuel 30 cs = some x) : ∃ s : Stp, cs = (sc s).toList ∧ Okst W s := by
  obtain ⟨y0, y1, y2, k, _, _, t0, t1, t2⟩ := trod_struct3 Try.underlying30 ht
  obtain ⟨q0, e0, _, w0⟩ := DataW.trod_int Try.underlying5 t0
  obtain ⟨q1, e1, _, w1⟩ := DataW.trod_int Try.underlying3 t1
  have b0 := bounds_u8 w0
  match cs, hl with
  | [c0, c1, c2], _ =>
    simp [show Try.prog.cellsOf 5 = 1 from by kernel_rfl, show Try.prog.cellsOf 3 = 1 from by kernel_rfl, show Try.prog.cellsOf 25 = 1 from by kernel_rfl] at e0 e1 t2
    obtain ⟨A, n, c, xs, e2, hnc, hc, hs, hel⟩ := open_elemsC Try.underlying25 (sz := 1) (by kernel_rfl) (by omega) t2
    obtain ⟨l, rfl, hch, hwf⟩ := ch_of hs hel
    simp only [List.cons.injEq, and_true] at e2
    subst e0 e1 e2
    exact ⟨⟨q0, q1, A, c, l⟩, rfl, by simp only; omega, by simp only; omega, w1, hch, hnc, hc, hwf⟩
theorem open_steps {v : Value} {d : DataW H} {p : List MemPlace} (hv : Value.okWide Try.prog W .any base 22 v) (h : DataW.Trod enc Try.prog W 0 (fun _ => true) true 22 v d p) :
    ∃ (A : Option Addr) (n c : Nat) (f : Nat → Stp), v = .slice A n c ∧ n ≤ c ∧ c ≤ maxLen ∧ Stps W A n f ∧ ∀ k, k < n → Okst W (f k) := by
  obtain ⟨A, n, c, xs, rfl, hnc, hc, hs, hel⟩ := open_elems Try.underlying22 (sz := 3) (by kernel_rfl) (by omega) hv h
  have h1 : ∀ i, i < n → ∃ s : Stp, (∀ j, j < 3 → xs[i * 3 + j]? = (sc s)[j]?) ∧ Okst W s := by
    intro i hi
    obtain ⟨m, y, ht⟩ := hel i hi
    have hl : ((xs.drop (i * 3)).take 3).length = 3 := by
      have := hs.1
      have : (i + 1) * 3 ≤ n * 3 := Nat.mul_le_mul_right _ hi
      simp; omega
    obtain ⟨s, hs2, ok⟩ := open_cells hl ht
    refine ⟨s, fun j hj => ?_, ok⟩
    have e := congrArg (·[j]?) hs2
    simp only [List.getElem?_take, if_pos hj, List.getElem?_drop, Array.getElem?_toList] at e
    exact e
  obtain ⟨f, hf⟩ := choose_lt h1
  refine ⟨A, n, c, f, rfl, hnc, hc, fun k hk => ?_, fun k hk => (hf k hk).2⟩
  obtain ⟨b, off, ha, hb, hcells⟩ := hs.at_ hk
  exact ⟨b, off, ha, hb, fun i hi => (hcells i hi).trans ((hf k hk).1 i hi)⟩
/-- A list of ints that comes in. -/
theorem open_ints {v : Value} {d : DataW H} {p : List MemPlace} (hv : Value.okWide Try.prog W .any base 25 v) (h : DataW.Trod enc Try.prog W 0 (fun _ => true) true 25 v d p) :
    ∃ (A : Option Addr) (c : Nat) (l : List Int), v = .slice A l.length c ∧ l.length ≤ c ∧ c ≤ maxLen ∧ Ch W A l ∧ ∀ j (h : j < l.length), (ky l[j]).wf = true := by
  obtain ⟨A, n, c, xs, rfl, hnc, hc, hs, hel⟩ := open_elems Try.underlying25 (sz := 1) (by kernel_rfl) (by omega) hv h
  obtain ⟨l, rfl, hch, hwf⟩ := ch_of hs hel
  exact ⟨A, c, l, rfl, hnc, hc, hch, hwf⟩
theorem open_int {v : Value} {d : DataW H} {p : List MemPlace} (hv : Value.okWide Try.prog W .any base 3 v) (h : DataW.Trod enc Try.prog W 0 (fun _ => true) true 3 v d p) : ∃ q : Int, v = .int .i64 q ∧ (ky q).wf = true := by
  obtain ⟨n, rfl⟩ := okWide_int Try.underlying3 hv
  obtain ⟨fuel, hf⟩ := h
  obtain ⟨q, e, _, w⟩ := DataW.trod_int Try.underlying3 hf
  simp [Value.cells] at e
  subst e
  exact ⟨_, rfl, w⟩
end
end Go.Proofs.Ytnmegokppbdhdaa
