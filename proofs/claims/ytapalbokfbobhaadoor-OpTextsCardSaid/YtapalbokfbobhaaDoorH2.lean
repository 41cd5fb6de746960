/- Numbers, parts, texts: what is written is read, and what is read was written. Of no program. -/
import Derived.Test.YtapalbokfbobhaaDoorH1
namespace Go.Proofs.YtapalbokfbobhaaDoor
open Go.Lib (itoa decDigits)
set_option linter.unusedSimpArgs false
set_option linter.unusedVariables false
theorem digO_snoc (l : List UInt8) (b : UInt8) : ∀ n, digO (l ++ [b]) n = (digO l n).bind fun m => digO [b] m := by
  induction l with
  | nil => intro n; rfl
  | cons c l ih =>
    intro n
    simp only [List.cons_append, digO]
    split
    · exact ih _
    · rfl
theorem digO_one (b : UInt8) (m : Int) : digO [b] m = if 48 ≤ b.toNat ∧ b.toNat ≤ 57 then some (m * 10 + ((b.toNat : Int) - 48)) else none := rfl
theorem ofNat48 {d : Nat} (h : d < 10) : (UInt8.ofNat (48 + d)).toNat = 48 + d := by
  rw [UInt8.toNat_ofNat']; exact Nat.mod_eq_of_lt (by omega)
theorem digO_dec (u : Nat) : digO (decDigits u) 0 = some (u : Int) := by
  induction u using Nat.strongRecOn with
  | _ u ih =>
    by_cases h : u < 10
    · rw [Lib.decDigits_one h, digO_one, ofNat48 h, if_pos (by omega)]
      congr 1; omega
    · rw [decDigits, dif_neg h, digO_snoc, ih (u / 10) (by omega), Option.bind_some, digO_one, ofNat48 (by omega : u % 10 < 10), if_pos (by omega)]
      congr 1; omega
theorem dec_ne (u : Nat) : decDigits u ≠ [] := by
  intro h
  have := Lib.decDigits_length u
  rw [h] at this
  have := Lib.nDigits_pos u
  simp at *; omega
theorem dec_head {u : Nat} (h : 0 < u) : (decDigits u).head? ≠ some 48 := by
  induction u using Nat.strongRecOn with
  | _ u ih =>
    by_cases h10 : u < 10
    · rw [Lib.decDigits_one h10]
      intro e
      have e2 := congrArg UInt8.toNat (Option.some.inj e)
      rw [ofNat48 h10] at e2
      have : (48 : UInt8).toNat = 48 := rfl
      omega
    · rw [decDigits, dif_neg h10]
      have h2 := ih (u / 10) (by omega) (by omega)
      cases hd : decDigits (u / 10) with
      | nil => exact absurd hd (dec_ne _)
      | cons c r => rw [hd] at h2; simpa using h2
theorem num_dec {u : Nat} (h : u ≤ 1000000) : numO (decDigits u) = some (u : Int) := by
  have hl := Lib.decDigits_length u
  have h7 := nDigits_le h
  have h1 := Lib.nDigits_pos u
  unfold numO
  rw [if_neg (by omega), if_neg (by omega), if_neg, digO_dec]
  rintro ⟨q1, q2⟩
  rcases Nat.eq_zero_or_pos u with rfl | hp
  · exact q2 (Lib.decDigits_one (by omega))
  · exact dec_head hp q1
theorem num_itoa {n : Int} (h0 : 0 ≤ n) (h : n ≤ 1000000) : numO (itoa n) = some n := by
  obtain ⟨m, rfl⟩ : ∃ m : Nat, n = m := ⟨n.toNat, by omega⟩
  rw [Lib.itoa_nonneg]; exact num_dec (by omega)
theorem dec_bytes (u : Nat) : ∀ b ∈ decDigits u, 48 ≤ b.toNat ∧ b.toNat ≤ 57 := by
  induction u using Nat.strongRecOn with
  | _ u ih =>
    intro b hb
    by_cases h : u < 10
    · rw [Lib.decDigits_one h] at hb
      rw [List.mem_singleton.1 hb, ofNat48 h]; omega
    · rw [decDigits, dif_neg h] at hb
      rcases List.mem_append.1 hb with q | q
      · exact ih (u / 10) (by omega) b q
      · rw [List.mem_singleton.1 q, ofNat48 (by omega : u % 10 < 10)]; omega
theorem itoa_bytes {n : Int} (h0 : 0 ≤ n) : ∀ b ∈ itoa n, 48 ≤ b.toNat ∧ b.toNat ≤ 57 := by
  obtain ⟨m, rfl⟩ : ∃ m : Nat, n = m := ⟨n.toNat, by omega⟩
  rw [Lib.itoa_nonneg]; exact dec_bytes m
theorem itoa_no {n : Int} (h0 : 0 ≤ n) {c : UInt8} (hc : c.toNat < 48 ∨ 57 < c.toNat) : c ∉ itoa n := fun h => by have := itoa_bytes h0 c h; omega
theorem wd_no (k : Nat) : (32 : UInt8) ∉ wd k ∧ (59 : UInt8) ∉ wd k := by
  unfold wd; split <;> decide
theorem part_no {x : Op3} (h : mayO x = true) : (59 : UInt8) ∉ partO x := by
  obtain ⟨h1, h2, h3, h4, _⟩ := may_out h
  have a1 : (59 : UInt8) ∉ itoa x.2.1 := itoa_no h1 (.inr (by decide))
  have a2 : (59 : UInt8) ∉ itoa x.2.2 := itoa_no h3 (.inr (by decide))
  unfold partO
  split
  · simp only [List.mem_append, List.mem_cons, not_or]
    exact ⟨(wd_no 9).2, by decide, a2⟩
  · split
    · simp only [List.mem_append, List.mem_cons, not_or]
      exact ⟨(wd_no 4).2, by decide, a1, by decide, a2⟩
    · simp only [List.mem_append, List.mem_cons, not_or]
      exact ⟨(wd_no _).2, by decide, a1⟩
theorem read_part {x : Op3} (h : mayO x = true) : readO (partO x) = (x, true) := by
  obtain ⟨h1, h2, h3, h4, h5, h6, h7⟩ := may_out h
  obtain ⟨k, o, a⟩ := x
  simp only at h1 h2 h3 h4 h5 h6 h7
  have b1 : (32 : UInt8) ∉ itoa o := itoa_no h1 (.inl (by decide))
  have b2 : (32 : UInt8) ∉ itoa a := itoa_no h3 (.inl (by decide))
  have n1 := num_itoa h1 (by omega)
  have n2 := num_itoa h3 h4
  unfold partO
  by_cases k9 : k = 9
  · subst k9
    rw [if_pos rfl]
    unfold readO
    rw [cut_at (wd_no 9).1, cut_no b2, kindO_hit (j := 9) (by omega) (by omega) rfl, n2]
    obtain ⟨rfl, _⟩ := h7 rfl
    rfl
  · rw [if_neg k9]
    by_cases k4 : k = 4 ∧ 0 < a
    · obtain ⟨rfl, ha⟩ := k4
      rw [if_pos ⟨rfl, ha⟩]
      unfold readO
      rw [cut_at (wd_no 4).1, cut_at b1, kindO_hit (j := 4) (by omega) (by omega) rfl, n1, n2]
      simp [readN, readK, ha]
    · rw [if_neg k4]
      obtain ⟨m, rfl⟩ : ∃ m : Nat, k = m := ⟨k.toNat, by omega⟩
      unfold readO
      rw [show ((m : Int)).toNat = m from rfl, cut_at (wd_no m).1, cut_no b1, kindO_hit (j := m) (by omega) (by omega) rfl, n1]
      have ha : a = 0 := by
        by_cases q : (m : Int) = 4
        · simp [q] at k4; omega
        · exact h6 q k9
      subst ha
      have hm0 : ¬ m = 0 := by omega
      have hm9 : ¬ m = 9 := by omega
      simp [readN, readK, hm0, hm9]
theorem parseF_parts (l : List Op3) : ∀ acc, l.all mayO = true → acc.length + l.length ≤ 64 → parseF (l.map partO) acc = (acc ++ l, 0) := by
  induction l with
  | nil => intro acc _ _; simp [parseF]
  | cons x l ih =>
    intro acc h hl
    simp only [List.all_cons, Bool.and_eq_true] at h
    simp only [List.length_cons] at hl
    rw [List.map_cons, parseF, if_neg (by omega), read_part h.1, if_neg (by simp), if_neg (by simp [h.1]), ih _ h.2 (by simp; omega)]
    simp
theorem part_ne (x : Op3) : partO x ≠ [] := by
  unfold partO
  split
  · simp
  · split <;> simp
/-- What is written is read. -/
theorem parse_text {l : List Op3} (h : wrongO l = 0) : parseO (textO l) = (l, 0) := by
  obtain ⟨h64, hall⟩ := wrong_out h
  cases l with
  | nil => rfl
  | cons x r =>
    unfold parseO textO
    have hp : pieces (Lib.join ((x :: r).map partO) [59, 32]) = (x :: r).map partO := by
      rw [List.map_cons]
      refine pieces_join _ _ fun y hy => ?_
      rw [← List.map_cons] at hy
      obtain ⟨z, hz, rfl⟩ := List.mem_map.1 hy
      exact part_no (List.all_eq_true.1 hall z hz)
    have hne : Lib.join ((x :: r).map partO) [59, 32] ≠ [] := by
      rw [List.map_cons, Lib.join_cons]
      intro e
      exact part_ne x (List.append_eq_nil_iff.1 e).1
    rw [if_neg hne, hp, parseF_parts _ [] hall (by simpa using h64)]
    rfl
end Go.Proofs.YtapalbokfbobhaaDoor
