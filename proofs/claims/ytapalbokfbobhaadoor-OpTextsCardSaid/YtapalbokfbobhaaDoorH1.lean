/- What is written is read, and what is read was written: texts. Of no program. -/
import Derived.Test.YtapalbokfbobhaaDoorE5
import Derived.Test.YtapalbokfbobhaaDoorA2
namespace Go.Proofs.YtapalbokfbobhaaDoor
open Go.Lib (itoa decDigits)
set_option linter.unusedSimpArgs false
set_option linter.unusedVariables false
theorem index_miss {l sub : List UInt8} {c : UInt8} {t : List UInt8} (hs : sub = c :: t) (h : c ∉ l) : Lib.index l sub = -1 := by
  refine Lib.index_none fun j _ => ?_
  cases ho : Lib.occAt l sub j with
  | false => rfl
  | true => exact absurd (List.mem_of_getElem? (Lib.occAt_head hs ho)) h
theorem index_at {p r sub : List UInt8} {c : UInt8} {t : List UInt8} (hs : sub = c :: t) (h : c ∉ p) : Lib.index (p ++ (sub ++ r)) sub = (p.length : Int) := by
  refine Lib.index_first (by simp) ?_ ?_
  · unfold Lib.occAt
    rw [List.drop_left]
    exact List.isPrefixOf_iff_prefix.2 (List.prefix_append _ _)
  · intro j hj
    cases ho : Lib.occAt (p ++ (sub ++ r)) sub j with
    | false => rfl
    | true =>
      have := Lib.occAt_head hs ho
      rw [List.getElem?_append_left hj] at this
      exact absurd (List.mem_of_getElem? this) h
theorem index_parts {l sub : List UInt8} {i : Nat} (h : Lib.index l sub = (i : Int)) : l = l.take i ++ (sub ++ l.drop (i + sub.length)) := by
  rcases Lib.index_spec l sub with ⟨h1, _⟩ | ⟨k, h1, h2, h3, _⟩
  · omega
  · obtain rfl : k = i := by omega
    have hr : k + sub.length ≤ l.length := by
      have := Lib.index_room l sub (by omega)
      omega
    rw [Lib.occAt_iff_take l sub k hr] at h3
    have h4 : (l.drop k).take sub.length = sub := by simpa using h3
    have h5 : l.drop k = sub ++ l.drop (k + sub.length) := by
      rw [← h4, ← List.drop_drop, h4, List.take_append_drop sub.length (l.drop k) |>.symm.trans (by rw [h4])]
      simp
    rw [← h5, List.take_append_drop]
theorem cut_at {p r : List UInt8} (h : (32 : UInt8) ∉ p) : Lib.cut (p ++ 32 :: r) [32] = (p, r, true) := by
  have hi := index_at (p := p) (r := r) (sub := [32]) rfl h
  unfold Lib.cut
  rw [show p ++ 32 :: r = p ++ ([32] ++ r) from rfl, hi, if_pos (by omega)]
  simp
theorem cut_no {p : List UInt8} (h : (32 : UInt8) ∉ p) : Lib.cut p [32] = (p, [], false) := by
  unfold Lib.cut
  rw [index_miss (sub := [32]) rfl h, if_neg (by omega)]
theorem cut_inv (t : List UInt8) : (∃ p r, Lib.cut t [32] = (p, r, true) ∧ t = p ++ 32 :: r) ∨ Lib.cut t [32] = (t, [], false) := by
  by_cases h : 0 ≤ Lib.index t [32]
  · obtain ⟨i, hi⟩ : ∃ i : Nat, Lib.index t [32] = i := ⟨(Lib.index t [32]).toNat, by omega⟩
    refine .inl ⟨t.take i, t.drop (i + 1), ?_, index_parts hi⟩
    unfold Lib.cut
    rw [hi, if_pos (by omega)]; simp
  · refine .inr ?_
    unfold Lib.cut
    rw [if_neg h]
theorem pieces_at {p r : List UInt8} (h : (59 : UInt8) ∉ p) : pieces (p ++ 59 :: 32 :: r) = p :: pieces r := by
  have hi := index_at (p := p) (r := r) (sub := [59, 32]) rfl h
  rw [show p ++ 59 :: 32 :: r = p ++ ([59, 32] ++ r) from rfl, pieces_more hi]
  have e : (p ++ ([59, 32] ++ r)).drop (p.length + 2) = r := by
    rw [List.drop_append]; simp
  rw [e, List.take_left]
theorem pieces_no {p : List UInt8} (h : (59 : UInt8) ∉ p) : pieces p = [p] := pieces_last (index_miss rfl h)
theorem join_two (x y : List UInt8) (r : List (List UInt8)) : Lib.join (x :: y :: r) [59, 32] = x ++ 59 :: 32 :: Lib.join (y :: r) [59, 32] := by
  rw [Lib.join_cons, Lib.join_cons]; simp [Lib.joinTail]
theorem pieces_join (x : List UInt8) (r : List (List UInt8)) (h : ∀ y ∈ x :: r, (59 : UInt8) ∉ y) : pieces (Lib.join (x :: r) [59, 32]) = x :: r := by
  induction r generalizing x with
  | nil => rw [Lib.join_one]; exact pieces_no (h x (by simp))
  | cons y r ih =>
    rw [join_two, pieces_at (h x (by simp)), ih y (fun z hz => h z (List.mem_cons_of_mem _ hz))]
theorem pieces_ne (s : List UInt8) : ∃ x r, pieces s = x :: r := by
  rw [pieces]; split <;> exact ⟨_, _, rfl⟩
theorem join_pieces (n : Nat) : ∀ s : List UInt8, s.length ≤ n → Lib.join (pieces s) [59, 32] = s := by
  induction n with
  | zero =>
    intro s hs
    obtain rfl : s = [] := List.eq_nil_of_length_eq_zero (by omega)
    rw [pieces_no (by simp), Lib.join_one]
  | succ n ih =>
    intro s hs
    by_cases h : 0 ≤ Lib.index s [59, 32]
    · obtain ⟨i, hi⟩ : ∃ i : Nat, Lib.index s [59, 32] = i := ⟨(Lib.index s [59, 32]).toNat, by omega⟩
      have hl := index_lt h
      rw [hi] at hl
      have hp := index_parts hi
      rw [pieces_more hi]
      have hj := ih (s.drop (i + 2)) (by rw [List.length_drop]; simp at hl; omega)
      obtain ⟨x, r, e⟩ := pieces_ne (s.drop (i + 2))
      rw [e] at hj ⊢
      rw [join_two, hj]
      exact hp.symm
    · have := Lib.index_ge s [59, 32]
      rw [pieces_last (by omega), Lib.join_one]
end Go.Proofs.YtapalbokfbobhaaDoor
