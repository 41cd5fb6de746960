/- A stack behind a pointer: its block, and its records' row. -/
import Derived.Test.YtppjpicfiflkcaaN1
namespace Go.Proofs.Ytppjpicfiflkcaa
open Go.RowKit
set_option linter.unusedSimpArgs false
set_option linter.unusedVariables false


/-- A slice value whose row is block g (of its own, and whole), or the nil slice (then g is M). -/
def Row (w : World) (E : TypeId) (M g : Nat) (v : Value) (l : List Rec) : Prop :=
  (v = .slice none 0 0 ∧ l = [] ∧ g = M) ∨
  ∃ cap cur, v = .slice (some ⟨g, 0, none⟩) l.length cap ∧ g ≠ M ∧ Blk w g cur E ∧ l.length ≤ cap ∧ cap ≤ maxLen ∧ cur.size = cap * 2 ∧ cur.toList.take (l.length * 2) = rcells l
/-- A stack at block M. -/
structure St (T E : TypeId) (w : World) (M g : Nat) (N : Int) (l : List Rec) : Prop where
  row : ∃ v, Blk w M #[.int .i64 N, v] T ∧ Row w E M g v l
section
variable {T E : TypeId} {w w' : World} {M g : Nat} {N : Int} {l : List Rec}
theorem Row.len {v : Value} (h : Row w E M g v l) : ∃ A c, v = .slice A l.length c ∧ Sl w w.heap.size 2 A l.length (rcells l) := by
  rcases h with ⟨rfl, rfl, _⟩ | ⟨cap, cur, rfl, _, hb, h1, h2, h3, h4⟩
  · exact ⟨none, 0, rfl, by simp [rcells], fun h => absurd h (by simp)⟩
  · refine ⟨_, _, rfl, rcells_length l, fun hn => ⟨g, 0, rfl, hb.lt, fun j hj => ?_⟩⟩
    rw [Nat.zero_add, hb.cell, ← h4, List.getElem?_take, if_pos hj, Array.getElem?_toList]
theorem Row.own {v : Value} (h : Row w E M g v l) : w.ownsRow 0 E 2 v l.length (rcells l) := by
  rcases h with ⟨rfl, rfl, _⟩ | ⟨cap, cur, rfl, _, hb, h1, h2, h3, h4⟩
  · exact own_nil _ _ _ _
  · exact ⟨rcells_length l, .inr ⟨g, cap, cur, rfl, Nat.zero_le _, hb, h1, h2, h3, h4⟩⟩
theorem Row.chg {v : Value} {Tn : List Nat} (h : Row w E M g v l) (x : Chg Tn w w') (hg : g ∉ Tn) : Row w' E M g v l := by
  rcases h with ⟨rfl, rfl, h⟩ | ⟨cap, cur, rfl, hn, hb, h1, h2, h3, h4⟩
  · exact .inl ⟨rfl, rfl, h⟩
  · exact .inr ⟨cap, cur, rfl, hn, hb.chg x hg, h1, h2, h3, h4⟩
theorem St.chg {Tn : List Nat} (h : St T E w M g N l) (x : Chg Tn w w') (hM : M ∉ Tn) (hg : g ∉ Tn) : St T E w' M g N l := by
  obtain ⟨v, hb, hr⟩ := h
  exact ⟨v, hb.chg x hM, hr.chg x hg⟩
theorem St.ext (h : St T E w M g N l) (x : Ext w w') : St T E w' M g N l := h.chg (x.chg []) (by simp) (by simp)
theorem St.ltM (h : St T E w M g N l) : M < w.heap.size := by obtain ⟨v, hb, _⟩ := h; exact hb.lt
theorem St.ltg (h : St T E w M g N l) : g < w.heap.size := by
  obtain ⟨v, hb, hr⟩ := h
  rcases hr with ⟨_, _, rfl⟩ | ⟨cap, cur, _, _, hb2, _⟩
  · exact hb.lt
  · exact hb2.lt
end
/-- What a row that was made for the call's own is. -/
theorem row_of_own {w : World} {E : TypeId} {M base : Nat} {v : Value} {l : List Rec} (h : w.ownsRow base E 2 v l.length (rcells l)) (hM : ∀ k, v.ownBlock = some k → k ≠ M) : ∃ g, Row w E M g v l ∧ (g = M ∨ v.ownBlock = some g) := by
  rcases h.2 with ⟨rfl, h0⟩ | ⟨g, cap, cur, rfl, hb, hh, h3, h4, h5, h6⟩
  · exact ⟨M, .inl ⟨rfl, List.eq_nil_of_length_eq_zero h0, rfl⟩, .inl rfl⟩
  · exact ⟨g, .inr ⟨cap, cur, rfl, hM g rfl, hh, h3, h4, h5, h6⟩, .inr rfl⟩
/-- A stack, or none: the pointer p; N places (0: New did not give it). -/
def Lst (w : World) (p : Value) (N : Int) (l : List Rec) : Prop :=
  (p = .pointer none ∧ N = 0 ∧ l = []) ∨ ∃ M g, p = .pointer (some ⟨M, 0, none⟩) ∧ St 58 38 w M g N l
theorem Lst.ext {w w' : World} {p : Value} {N : Int} {l : List Rec} (h : Lst w p N l) (x : Ext w w') : Lst w' p N l := by
  rcases h with h | ⟨M, g, rfl, h⟩
  · exact .inl h
  · exact .inr ⟨M, g, rfl, h.ext x⟩
theorem St.lst {w : World} {M g : Nat} {N : Int} {l : List Rec} (h : St 58 38 w M g N l) : Lst w (.pointer (some ⟨M, 0, none⟩)) N l := .inr ⟨M, g, rfl, h⟩

theorem new_in (C : Nat) (w : World) (h1 : 1 ≤ C) (h2 : C ≤ 512) :
    Calls Try.prog 7 #[.int .i64 (C : Int)] w fun e w' => ∃ M, e = .returned (.tuple #[(.pointer (some ⟨M, 0, none⟩)), .int .i64 0]) ∧ St 58 38 w' M M C [] ∧ w.heap.size ≤ M ∧ Ext w w' := by
  have a1 : ¬ (C : Int) < 1 := by omega
  have a2 : ¬ (512 : Int) < C := by omega
  go_enter Try.func7, Try.ntmps7
  go_wp2
  go_ret2
  exact ⟨w.heap.size, by simp, ⟨_, Blk.new w _ _, .inl ⟨rfl, rfl, rfl⟩⟩, Nat.le_refl _, Ext.alloc _ _⟩
theorem new_out (C : Int) (w : World) (h : ¬ (1 ≤ C ∧ C ≤ 512)) :
    Calls Try.prog 7 #[.int .i64 C] w fun e w' => e = .returned (.tuple #[.pointer none, .int .i64 1]) ∧ w = w' := by
  by_cases h0 : C < 1
  · go_enter Try.func7, Try.ntmps7
    go_wp2
    go_ret2
    exact ⟨by simp, rfl⟩
  · have h1 : 512 < C := by omega
    go_enter Try.func7, Try.ntmps7
    go_wp2
    go_ret2
    exact ⟨by simp, rfl⟩
theorem made_any {w : World} {p : Value} {N : Int} {l : List Rec} (h : Lst w p N l) : Calls Try.prog 27 #[p] w fun e w' => e = .returned (.bool (decide (0 < N))) ∧ w = w' := by
  rcases h with ⟨rfl, rfl, rfl⟩ | ⟨M, g, rfl, v, hb, hr⟩
  · go_enter Try.func27, Try.ntmps27
    go_wp2
    go_ret
    exact ⟨by simp, rfl⟩
  · have r := hb.cell
    clear hr
    by_cases h0 : 0 < N
    · have E := decide_eq_true h0
      go_enter Try.func27, Try.ntmps27
      go_wp2
      go_ret
      exact ⟨by simp [E], rfl⟩
    · have E := decide_eq_false h0
      go_enter Try.func27, Try.ntmps27
      go_wp2
      go_ret
      exact ⟨by simp [E], rfl⟩
theorem all_any2 {w0 w : World} {p : Value} {N : Int} {l : List Rec} (h : Lst w0 p N l) (hx : Ext w0 w) :
    Calls Try.prog 29 #[p] w fun e w' => ∃ A c, e = .returned (.slice A l.length c) ∧ Sl w w0.heap.size 2 A l.length (rcells l) ∧ w = w' := by
  rcases h with ⟨rfl, rfl, rfl⟩ | ⟨M, g, rfl, v, hb, hr⟩
  · go_enter Try.func29, Try.ntmps29
    go_wp2
    go_ret
    exact ⟨none, 0, by simp, ⟨by simp [rcells], fun h => absurd h (by simp)⟩, rfl⟩
  · obtain ⟨A, c, rfl, hs⟩ := hr.len
    have r := (hb.ext hx).cell
    have HS := hide (hs.ext hx (Nat.le_refl _))
    clear hr hs
    go_enter Try.func29, Try.ntmps29
    go_wp2
    go_ret
    exact ⟨A, c, by simp, HS.out, rfl⟩
theorem all_any {w : World} {p : Value} {N : Int} {l : List Rec} (h : Lst w p N l) :
    Calls Try.prog 29 #[p] w fun e w' => ∃ A c, e = .returned (.slice A l.length c) ∧ Sl w w.heap.size 2 A l.length (rcells l) ∧ w = w' := all_any2 h (Ext.refl w)
theorem len_any {w : World} {p : Value} {N : Int} {l : List Rec} (h : Lst w p N l) : Calls Try.prog 18 #[p] w fun e w' => e = .returned (.int .i64 l.length) ∧ w = w' := by
  go_enter Try.func18, Try.ntmps18
  go_wp2_with fail
  refine (all_any h).mono ?_
  rintro e w1 ⟨A, c, rfl, hs, rfl⟩
  go_wp2_with fail
  go_ret
  exact ⟨by simp, rfl⟩
/-- The error of a place. -/
def erA (N : Int) (l : List Rec) (z : Int) : Int := if 0 < N then (if 0 ≤ z ∧ z < l.length then 0 else 6) else 2
theorem stands_out {w : World} {p : Value} {N : Int} {l : List Rec} {z : Int} (h : Lst w p N l) (ho : ¬ (0 < N ∧ 0 ≤ z ∧ z < l.length)) :
    Calls Try.prog 26 #[p, .int .i64 z] w fun e w' => e = .returned (.tuple #[.pointer none, .int .i64 (erA N l z)]) ∧ w = w' := by
  by_cases h0 : 0 < N
  · have E := hide (show erA N l z = 6 by unfold erA; rw [if_pos h0, if_neg (fun q => ho ⟨h0, q⟩)])
    have E0 := decide_eq_true h0
    rcases h with ⟨rfl, rfl, rfl⟩ | ⟨M, g, rfl, h⟩
    · omega
    · have h9 := h
      obtain ⟨v, hb, hr⟩ := h9
      obtain ⟨A, c, rfl, hs⟩ := hr.len
      have r := hb.cell
      clear hr hs hb
      by_cases hz : z < 0
      · go_enter Try.func26, Try.ntmps26
        go_wp2_with fail
        refine (made_any h.lst).mono ?_
        rw [E0]
        rintro e w1 ⟨rfl, rfl⟩
        go_wp2_with fail
        go_ret2
        exact ⟨by rw [E.out]; simp, rfl⟩
      · have hz2 : (l.length : Int) ≤ z := by omega
        go_enter Try.func26, Try.ntmps26
        go_wp2_with fail
        refine (made_any h.lst).mono ?_
        rw [E0]
        rintro e w1 ⟨rfl, rfl⟩
        go_wp2_with fail
        go_ret2
        exact ⟨by rw [E.out]; simp, rfl⟩
  · have E := hide (show erA N l z = 2 from if_neg h0)
    have E0 := decide_eq_false h0
    go_enter Try.func26, Try.ntmps26
    go_wp2_with fail
    refine (made_any h).mono ?_
    rw [E0]
    rintro e w1 ⟨rfl, rfl⟩
    go_wp2_with fail
    go_ret2
    exact ⟨by rw [E.out]; simp, rfl⟩
theorem stands_in {w : World} {M g : Nat} {N : Int} {l : List Rec} {k : Nat} (h : St 58 38 w M g N l) (h0 : 0 < N) (hk : k < l.length) :
    Calls Try.prog 26 #[(.pointer (some ⟨M, 0, none⟩)), .int .i64 (k : Int)] w fun e w' => e = .returned (.tuple #[.pointer (some ⟨g, k * 2, none⟩), .int .i64 0]) ∧ w = w' := by
  have E0 := decide_eq_true h0
  have h9 := h
  obtain ⟨v, hb, hr⟩ := h9
  rcases hr with ⟨rfl, rfl, rfl⟩ | ⟨cap, cur, rfl, hn, hb2, h1, h2, h3, h4⟩
  · simp at hk
  · have r := hb.cell
    clear hb2 h3 h4 hb
    go_enter Try.func26, Try.ntmps26
    go_wp2_with fail
    refine (made_any h.lst).mono ?_
    rw [E0]
    rintro e w1 ⟨rfl, rfl⟩
    go_wp2_with fail
    go_ret2
    exact ⟨by simp, rfl⟩
end Go.Proofs.Ytppjpicfiflkcaa
