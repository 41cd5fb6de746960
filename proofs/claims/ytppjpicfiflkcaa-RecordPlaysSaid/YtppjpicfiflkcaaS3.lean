/- What is pushed is popped: the list; rows beside a stack. -/
import Derived.Test.YtppjpicfiflkcaaS2
namespace Go.Proofs.Ytppjpicfiflkcaa
open Go.RowKit
set_option linter.unusedVariables false
set_option linter.unusedSimpArgs false
set_option maxRecDepth 100000

/-- A record of one of the objects behind l is the one that goes. -/
theorem top_extra {l e : List Rec} {o : Int} (ho : o ∈ e.map (·.1)) : ∃ (k : Nat) (hk : k < e.length), topI (l ++ e) o = ((l.length + k : Nat) : Int) ∧ (e[k]).1 = o := by
  obtain ⟨r, hr, he⟩ := List.mem_map.1 ho
  obtain ⟨k0, hk0, rfl⟩ := List.mem_iff_getElem.1 hr
  rcases topI_is (l ++ e) o with ⟨_, h0⟩ | ⟨j, hj, h1, h2, h3⟩
  · exact absurd (by rw [List.getElem_append_right (by omega)]; simpa using he) (h0 (l.length + k0) (by simp; omega))
  · have hge : l.length ≤ j := by
      rcases Nat.lt_or_ge j l.length with q | q
      · exact absurd (by rw [List.getElem_append_right (by omega)]; simpa using he) (h3 (l.length + k0) (by simp; omega) (by omega))
      · exact q
    have hj2 : j < l.length + e.length := by simpa using hj
    refine ⟨j - l.length, by omega, by rw [h1]; congr 1; omega, ?_⟩
    rw [List.getElem_append_right hge] at h2
    exact h2
theorem erase_perm {e : List Rec} {k : Nat} (hk : k < e.length) : (e[k] :: e.eraseIdx k).Perm e := by
  have h1 : (e.take k ++ e[k] :: e.drop (k + 1)).Perm (e[k] :: (e.take k ++ e.drop (k + 1))) := List.perm_middle
  rw [List.getElem_cons_drop, List.take_append_drop] at h1
  rw [List.eraseIdx_eq_take_drop_succ]
  exact h1.symm
theorem pop_extra {l e : List Rec} {bs : List Int} {o : Int} (h : (e.map (·.1)).Perm (o :: bs)) :
    ∃ (k : Nat) (hk : k < e.length), topI (l ++ e) o = ((l.length + k : Nat) : Int) ∧ (e[k]).1 = o ∧ popL 512 (l ++ e) o = l ++ e.eraseIdx k ∧ ((e.eraseIdx k).map (·.1)).Perm bs := by
  obtain ⟨k, hk, h1, h2⟩ := top_extra (l := l) (h.mem_iff.2 (List.mem_cons_self ..))
  refine ⟨k, hk, h1, h2, ?_, ?_⟩
  · unfold popL
    rw [if_pos ⟨by omega, by omega⟩, h1, Int.toNat_natCast, List.eraseIdx_append_of_length_le (by omega)]
    congr 2
    omega
  · have h3 := (erase_perm hk).map (·.1)
    rw [List.map_cons, h2] at h3
    exact (List.Perm.cons_inv (h3.trans h))
theorem getR_extra {l e : List Rec} {k : Nat} (hk : k < e.length) : getR 512 (l ++ e) ((l.length + k : Nat) : Int) = e[k] := by
  rw [getR_in (by omega) (by simp; omega), List.getElem_append_right (by omega)]
  congr 1
  omega
/-- Nothing but the blocks of T has turned, and the row lies in none of them. -/
theorem own_chgB {T : List Nat} {w w' : World} {base n size : Nat} {e : TypeId} {v : Value} {xs : List Value} (h : w.ownsRow base e size v n xs) (x : Chg T w w') (hT : ∀ k, v.ownBlock = some k → k ∉ T) : w'.ownsRow base e size v n xs := by
  obtain ⟨hl, h | ⟨g, cap, cur, rfl, hb, hh, h3, h4, h5, h6⟩⟩ := h
  · exact ⟨hl, .inl h⟩
  · refine ⟨hl, .inr ⟨g, cap, cur, rfl, hb, ?_, h3, h4, h5, h6⟩⟩
    have hlt : g < w.heap.size := (Array.getElem?_eq_some_iff.1 hh).1
    rw [x.block g hlt (hT g rfl)]; exact hh
theorem own_lt {w : World} {base n size : Nat} {e : TypeId} {v : Value} {xs : List Value} (h : w.ownsRow base e size v n xs) : ∀ k, v.ownBlock = some k → k < w.heap.size := by
  intro k hk
  rcases h.2 with ⟨rfl, _⟩ | ⟨g, cap, cur, rfl, _, hh, _⟩
  · cases hk
  · cases hk; exact (Array.getElem?_eq_some_iff.1 hh).1
theorem own_blk {w : World} {base n size : Nat} {e : TypeId} {v : Value} {xs : List Value} (h : w.ownsRow base e size v n xs) : ∀ k, v.ownBlock = some k → ∃ cs, Blk w k cs e := by
  intro k hk
  rcases h.2 with ⟨rfl, _⟩ | ⟨g, cap, cur, rfl, _, hh, _⟩
  · cases hk
  · cases hk; exact ⟨cur, hh⟩
/-- A row of ints lies beside a stack. -/
theorem St.aside {w : World} {M g base n : Nat} {N : Int} {l : List Rec} {v : Value} {xs : List Value} (h : St 58 38 w M g N l) (ho : w.ownsRow base 3 1 v n xs) : ∀ k, v.ownBlock = some k → k ∉ [M, g] := by
  intro k hk hm
  obtain ⟨cs, hb⟩ := own_blk ho k hk
  obtain ⟨u, hbM, hr⟩ := h
  have n1 : k ≠ M := by rintro rfl; exact absurd (Blk.type hb hbM) (by decide)
  rcases hr with ⟨_, _, rfl⟩ | ⟨cap, cur, rfl, hn, hb2, _⟩
  · simp at hm; exact n1 hm
  · have n2 : k ≠ g := by rintro rfl; exact absurd (Blk.type hb hb2) (by decide)
    simp at hm; omega
/-- A row of records is no row of ints. -/
theorem own_aside {w : World} {base base2 n m : Nat} {v u : Value} {xs ys : List Value} (h : w.ownsRow base 3 1 v n xs) (k : w.ownsRow base2 38 2 u m ys) : ∀ i, u.ownBlock = some i → ∀ j, v.ownBlock = some j → i ≠ j := by
  intro i hi j hj e
  subst e
  obtain ⟨a, ha⟩ := own_blk h i hj
  obtain ⟨b, hb⟩ := own_blk k i hi
  exact absurd (Blk.type ha hb) (by decide)
theorem Chg.grow1 {w w' : World} {row : Option Nat} (hg : w.grownBy w' row) {T : List Nat} (hr : ∀ k, row = some k → k ∈ T) : Chg T w w' := (Chg.refl T w).of_grow hg hr
theorem run_neqS (a b : Int) (w : World) : Sem.run Try.prog (binOp .neq 38 (.agg #[.int .i64 a, .int .u64 b]) (.agg #[.int .i64 a, .int .u64 b])) w = .ok (.bool false) w := by
  go_simp
theorem own_atR {w : World} {base : Nat} {v : Value} {l : List Rec} (h : w.ownsRow base 38 2 v l.length (rcells l)) {j : Nat} (hj : j < l.length) :
    ∃ g c, v = .slice (some ⟨g, 0, none⟩) l.length c ∧ base ≤ g ∧ w.cell? ⟨g, j * 2, none⟩ = some (.int .i64 (l[j]).1) ∧ w.cell? ⟨g, j * 2 + 1, none⟩ = some (.int .u64 (l[j]).2) := by
  rcases h.2 with ⟨_, h0⟩ | ⟨g, cap, cur, rfl, hb, hh, h3, h4, h5, h6⟩
  · omega
  · refine ⟨g, cap, rfl, hb, ?_, ?_⟩
    · rw [cell_of_row w g _ cur 38 (0, 0) hh, ← Array.getElem?_toList, ← (rcells_at l j hj).1, ← h6, List.getElem?_take_of_lt (by omega)]
    · rw [cell_of_row w g _ cur 38 (0, 0) hh, ← Array.getElem?_toList, ← (rcells_at l j hj).2, ← h6, List.getElem?_take_of_lt (by omega)]
theorem own_atK {w : World} {base n : Nat} {v : Value} {l : List Int} (h : w.ownsRow base 3 1 v n (l.map enJ)) (hn : l.length = n) {j : Nat} (hj : j < l.length) :
    ∃ g c, v = .slice (some ⟨g, 0, none⟩) n c ∧ base ≤ g ∧ w.cell? ⟨g, j, none⟩ = some (.int .i64 l[j]) := by
  subst hn
  exact own_atJ h hj
end Go.Proofs.Ytppjpicfiflkcaa
