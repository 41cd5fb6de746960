/- Slices of operations that are read; wrong, and the document's all. -/
import Derived.Test.YtlgomkocalieeaaGreatDoorO2
namespace Go.Proofs.YtlgomkocalieeaaGreatDoor
open Go.RowKit
set_option linter.unusedSimpArgs false
set_option linter.unusedVariables false
set_option maxRecDepth 100000

/-- A slice of operations that reads as l. -/
def Ch (w : World) (A : Option Addr) (l : List Op3) : Prop :=
  l.length = 0 ∨ ∃ b off, A = some ⟨b, off, none⟩ ∧ b < w.heap.size ∧ ∀ j (h : j < l.length), w.cell? ⟨b, off + j * 3, none⟩ = some (.int .i64 (l[j]).1) ∧ w.cell? ⟨b, off + j * 3 + 1, none⟩ = some (.int .i64 (l[j]).2.1) ∧ w.cell? ⟨b, off + j * 3 + 2, none⟩ = some (.int .i64 (l[j]).2.2)
section
variable {w w' : World} {A : Option Addr} {l : List Op3}
theorem Ch.ext (h : Ch w A l) (x : Ext w w') : Ch w' A l := by
  rcases h with h | ⟨b, off, h1, h2, h3⟩
  · exact .inl h
  · exact .inr ⟨b, off, h1, Nat.lt_of_lt_of_le h2 x.size, fun j hj => ⟨(x.oldCell _ _ h2).trans (h3 j hj).1, (x.oldCell _ _ h2).trans (h3 j hj).2.1, (x.oldCell _ _ h2).trans (h3 j hj).2.2⟩⟩
theorem Ch.at_ (h : Ch w A l) {j : Nat} (hj : j < l.length) : ∃ b off, A = some ⟨b, off, none⟩ ∧ ∀ w', Ext w w' → w'.cell? ⟨b, off + j * 3, none⟩ = some (.int .i64 (l[j]).1) ∧ w'.cell? ⟨b, off + j * 3 + 1, none⟩ = some (.int .i64 (l[j]).2.1) ∧ w'.cell? ⟨b, off + j * 3 + 2, none⟩ = some (.int .i64 (l[j]).2.2) := by
  rcases h with h | ⟨b, off, h1, h2, h3⟩
  · omega
  · exact ⟨b, off, h1, fun w' x => ⟨(x.oldCell _ _ h2).trans (h3 j hj).1, (x.oldCell _ _ h2).trans (h3 j hj).2.1, (x.oldCell _ _ h2).trans (h3 j hj).2.2⟩⟩
theorem Ch.take (h : Ch w A l) (k : Nat) : Ch w A (l.take k) := by
  rcases h with h | ⟨b, off, h1, h2, h3⟩
  · exact .inl (by rw [List.length_take]; omega)
  · exact .inr ⟨b, off, h1, h2, fun j hj => by rw [List.length_take] at hj; rw [List.getElem_take]; exact h3 j (by omega)⟩
theorem Ch.nil (w : World) (A : Option Addr) : Ch w A [] := .inl rfl
theorem Ch.of_own {base n : Nat} {v : Value} (h : w.ownsRow base 53 3 v n (rcells l)) : ∃ A c, v = .slice A l.length c ∧ l.length ≤ c ∧ Ch w A l := by
  have hl : n = l.length := by have := h.1; rw [rcells_length] at this; omega
  subst hl
  rcases h.2 with ⟨rfl, h0⟩ | ⟨g, cap, cur, rfl, hb, hh, h3, h4, h5, h6⟩
  · exact ⟨none, 0, by rw [h0], by omega, .inl h0⟩
  · have hc : ∀ k, k < l.length * 3 → cur[k]? = (rcells l)[k]? := by
      intro k hk
      rw [← h6, List.getElem?_take_of_lt hk, Array.getElem?_toList]
    have hbk : Blk w g cur 53 := hh
    refine ⟨_, _, rfl, h3, .inr ⟨g, 0, rfl, hbk.lt, fun j hj => ?_⟩⟩
    obtain ⟨e0, e1, e2⟩ := rcells_at l j hj
    rw [Nat.zero_add, hbk.cell, hbk.cell, hbk.cell, hc _ (by omega), hc _ (by omega), hc _ (by omega)]
    exact ⟨e0, e1, e2⟩
end
theorem allO_take_succ (l : List Op3) {j : Nat} (hj : j < l.length) : (l.take (j + 1)).all mayO = ((l.take j).all mayO && mayO l[j]) := by
  rw [List.take_add_one, List.getElem?_eq_getElem hj, List.all_append]; simp
theorem all_no {l : List Op3} {j : Nat} (hj : j < l.length) (h : mayO l[j] = false) : l.all mayO = false := by
  rw [Bool.eq_false_iff]; intro q
  rw [List.all_eq_true.1 q _ (List.getElem_mem hj)] at h; cases h
theorem wrong_any {w : World} {A : Option Addr} {l : List Op3} (c : Nat) (h1 : Ch w A l) :
    Calls Tryz.prog 52 #[.slice A l.length c] w fun e w' => e = .returned (.int .i64 (wrongO l)) ∧ Ext w w' := by
  have H1 := hide h1
  clear h1
  have hW0 := Ext.refl w
  by_cases h64 : 64 < l.length
  · have E : wrongO l = 5 := if_pos h64
    have h64i : (64 : Int) < (l.length : Int) := by omega
    rw [E]
    go_enter Tryz.func52, Tryz.ntmps52
    go_wp2
    go_ret
    exact ⟨rfl, Ext.refl _⟩
  · have E : wrongO l = if l.all mayO then 0 else 1 := if_neg h64
    have h64i : ¬ (64 : Int) < (l.length : Int) := by omega
    have HE := hide E
    clear E
    go_enter Tryz.func52, Tryz.ntmps52
    go_wp2_with fail
    go_loopw [10] (fun i wr => ∃ j : Nat, j ≤ l.length ∧ i = .int .i64 (j : Int) ∧ Ext w wr ∧ (l.take j).all mayO = true) (fun i _ => l.length - (intOf i).toNat)
    case atStart => exact ⟨0, by omega, rfl, hW0, by simp⟩
    case round =>
      clear hW0
      obtain ⟨j, hj, rfl, hW0, hall⟩ := hrel
      have HA := hide hall
      clear hall
      by_cases hlt : j < l.length
      · have hs := allO_take_succ l hlt
        rw [HA.out, Bool.true_and] at hs
        have HS := hide hs
        have HN := hide (@all_no l j hlt)
        clear hs
        obtain ⟨b1, o1, rfl, r1⟩ := (H1.out.ext hW0).at_ hlt
        generalize l[j] = x at *
        obtain ⟨k, o, a⟩ := x
        have q1 := fun w' (x : Ext wr w') => (r1 w' x).1
        have q2 := fun w' (x : Ext wr w') => (r1 w' x).2.1
        have q3 := fun w' (x : Ext wr w') => (r1 w' x).2.2
        clear r1
        have hx := Ext.refl wr
        cases hm : mayO (k, o, a) with
        | true =>
          rw [hm] at HS
          go_wp2_with (go_at_call 79; refine (mayBe_any (k, o, a) _).mono ?_; rw [hm]; rintro e w' ⟨rfl, hb⟩; have hb := (Ext.alloc wr (.cells #[.int .i64 k, .int .i64 o, .int .i64 a] 53)).trans hb)
          go_roundw
          case rel => exact ⟨j + 1, by omega, by simp, hW0.trans hb, HS.out⟩
          case measure => simp [intOf]; omega
        | false =>
          go_wp2_with (go_at_call 79; refine (mayBe_any (k, o, a) _).mono ?_; rw [hm]; rintro e w' ⟨rfl, hb⟩; have hb := (Ext.alloc wr (.cells #[.int .i64 k, .int .i64 o, .int .i64 a] 53)).trans hb)
          go_ret
          refine ⟨?_, hW0.trans hb⟩
          rw [HE.out, HN.out hm]
          rfl
      · obtain rfl : j = l.length := by omega
        have h3 : ¬ (l.length : Int) < (l.length : Int) := by omega
        go_wp2
        go_ret
        refine ⟨?_, hW0⟩
        rw [HE.out, show l.all mayO = true by have := HA.out; rwa [List.take_length] at this]
        rfl
theorem wrong_out {l : List Op3} (h : wrongO l = 0) : l.length ≤ 64 ∧ l.all mayO = true := by
  unfold wrongO at h
  split at h
  · cases h
  · split at h
    · exact ⟨by omega, ‹_›⟩
    · cases h
theorem rall_any {w : World} {A : Option Addr} {l : List Op3} (c : Nat) (h1 : Ch w A l) :
    Calls Tryz.prog 35 #[.slice A l.length c] w fun e w' => e = .returned (.int .i64 (wrongO l)) ∧ Ext w w' := by
  have H1 := hide h1
  clear h1
  have hW0 := Ext.refl w
  by_cases h64 : 64 < l.length
  · have E : wrongO l = 5 := if_pos h64
    have h64i : (64 : Int) < (l.length : Int) := by omega
    rw [E]
    go_enter Tryz.func35, Tryz.ntmps35
    go_wp2
    go_ret
    exact ⟨rfl, Ext.refl _⟩
  · have E : wrongO l = if l.all mayO then 0 else 1 := if_neg h64
    have h64i : ¬ (64 : Int) < (l.length : Int) := by omega
    have HE := hide E
    clear E
    go_enter Tryz.func35, Tryz.ntmps35
    go_wp2_with fail
    go_loopw [3] (fun i wr => ∃ j : Nat, j ≤ l.length ∧ i = .int .i64 (j : Int) ∧ Ext w wr ∧ (l.take j).all mayO = true) (fun i _ => l.length - (intOf i).toNat)
    case atStart => exact ⟨0, by omega, rfl, hW0, by simp⟩
    case round =>
      clear hW0
      obtain ⟨j, hj, rfl, hW0, hall⟩ := hrel
      have HA := hide hall
      clear hall
      by_cases hlt : j < l.length
      · have hs := allO_take_succ l hlt
        rw [HA.out, Bool.true_and] at hs
        have HS := hide hs
        have HN := hide (@all_no l j hlt)
        clear hs
        obtain ⟨b1, o1, rfl, r1⟩ := (H1.out.ext hW0).at_ hlt
        generalize l[j] = x at *
        obtain ⟨k, o, a⟩ := x
        have q1 := fun w' (x : Ext wr w') => (r1 w' x).1
        have q2 := fun w' (x : Ext wr w') => (r1 w' x).2.1
        have q3 := fun w' (x : Ext wr w') => (r1 w' x).2.2
        clear r1
        have hx := Ext.refl wr
        cases hm : mayI k o a 8 8 with
        | true =>
          rw [show mayO (k, o, a) = true from hm] at HS
          go_wp2_with (go_at_call 48; refine (rmay_any k o a 8 8 _).mono ?_; rw [hm]; rintro e w' ⟨rfl, hb⟩)
          go_roundw
          case rel => exact ⟨j + 1, by omega, by simp, hW0.trans hb, HS.out⟩
          case measure => simp [intOf]; omega
        | false =>
          go_wp2_with (go_at_call 48; refine (rmay_any k o a 8 8 _).mono ?_; rw [hm]; rintro e w' ⟨rfl, hb⟩)
          go_ret
          refine ⟨?_, hW0.trans hb⟩
          rw [HE.out, HN.out hm]
          rfl
      · obtain rfl : j = l.length := by omega
        have h3 : ¬ (l.length : Int) < (l.length : Int) := by omega
        go_wp2
        go_ret
        refine ⟨?_, hW0⟩
        rw [HE.out, show l.all mayO = true by have := HA.out; rwa [List.take_length] at this]
        rfl
end Go.Proofs.YtlgomkocalieeaaGreatDoor
