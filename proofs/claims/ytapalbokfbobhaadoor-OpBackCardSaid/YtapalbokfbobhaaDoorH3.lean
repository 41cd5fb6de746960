/- What is read was written so. Of no program. -/
import Derived.Test.YtapalbokfbobhaaDoorH2
namespace Go.Proofs.YtapalbokfbobhaaDoor
open Go.Lib (itoa decDigits)
set_option linter.unusedSimpArgs false
set_option linter.unusedVariables false
theorem dig_back : ∀ (k : Nat) (l : List UInt8) (n : Int), l.length = k → l ≠ [] → l.head? ≠ some 48 → digO l 0 = some n → 1 ≤ n ∧ decDigits n.toNat = l := by
  intro k
  induction k with
  | zero => intro l n hl h0; exact absurd (List.eq_nil_of_length_eq_zero hl) h0
  | succ k ih =>
    intro l n hl h0 hh hd
    obtain ⟨l2, b, rfl⟩ : ∃ l2 b, l = l2 ++ [b] := ⟨l.dropLast, l.getLast h0, (List.dropLast_concat_getLast h0).symm⟩
    rw [digO_snoc] at hd
    cases hm : digO l2 0 with
    | none => rw [hm] at hd; cases hd
    | some m =>
      rw [hm, Option.bind_some, digO_one] at hd
      split at hd
      · rename_i hb
        have hn : m * 10 + ((b.toNat : Int) - 48) = n := by simpa using hd
        have hbe : UInt8.ofNat (48 + (b.toNat - 48)) = b := by rw [show 48 + (b.toNat - 48) = b.toNat by omega]; simp
        cases l2 with
        | nil =>
          have hm0 : m = 0 := by simpa [digO] using hm.symm
          subst hm0
          have hb8 : b.toNat ≠ 48 := by
            intro e
            exact hh (by rw [show b = 48 from UInt8.toNat_inj.1 e]; rfl)
          refine ⟨by omega, ?_⟩
          rw [show n.toNat = b.toNat - 48 by omega, Lib.decDigits_one (by omega), hbe]; rfl
        | cons c r =>
          obtain ⟨h1, h2⟩ := ih (c :: r) m (by simp at hl ⊢; omega) (by simp) (by simpa using hh) hm
          refine ⟨by omega, ?_⟩
          rw [decDigits, dif_neg (by omega), show n.toNat / 10 = m.toNat by omega, h2, show n.toNat % 10 = b.toNat - 48 by omega, hbe]
      · cases hd
theorem num_back {l : List UInt8} {n : Int} (h : numO l = some n) : 0 ≤ n ∧ itoa n = l := by
  unfold numO at h
  split at h
  · cases h
  · rename_i h0
    split at h
    · cases h
    · split at h
      · cases h
      · rename_i hz
        have hne : l ≠ [] := fun e => h0 (by rw [e]; rfl)
        by_cases hh : l.head? = some 48
        · have h48 : l = [48] := Classical.byContradiction fun q => hz ⟨hh, q⟩
          subst h48
          obtain rfl : (0 : Int) = n := by simpa [digO] using h
          exact ⟨Int.le_refl _, Lib.decDigits_one (by omega : 0 < 10)⟩
        · obtain ⟨h1, h2⟩ := dig_back l.length l n rfl hne hh h
          refine ⟨by omega, ?_⟩
          have : n = ((n.toNat : Nat) : Int) := by omega
          rw [this, Lib.itoa_nonneg]; exact h2
theorem num_none_nil : numO [] = none := rfl
theorem kind_back {u : List UInt8} (h : kindO u ≠ 0) : u = wd (kindO u) := by
  unfold kindO at h ⊢
  repeat' split
  all_goals first | assumption | (exfalso; apply h; simp [*])
theorem readK_ok {k : Nat} {n : Option Int} {has : Bool} {a : Option Int} (h : (readN k n has a).2 = true) : k ≠ 0 ∧ ∃ m, n = some m ∧ ((has = true ∧ k = 4 ∧ ∃ t, a = some t ∧ 0 < t ∧ (readN k n has a).1 = (4, m, t)) ∨ (has = false ∧ k = 9 ∧ (readN k n has a).1 = (9, 0, m)) ∨ (has = false ∧ k ≠ 9 ∧ (readN k n has a).1 = ((k : Int), m, 0))) := by
  unfold readN readK at h ⊢
  by_cases hk : k = 0
  · rw [if_pos hk] at h; cases h
  · rw [if_neg hk] at h ⊢
    cases n with
    | none => simp at h
    | some m =>
      refine ⟨hk, m, rfl, ?_⟩
      simp only [Option.isSome_some, Bool.true_eq_false, if_false, Option.getD_some] at h ⊢
      cases has with
      | true =>
        simp only [if_true, Bool.and_eq_true, beq_iff_eq, decide_eq_true_eq] at h ⊢
        obtain ⟨h4, h5, h6⟩ := h
        cases a with
        | none => cases h5
        | some t =>
          have : k = 4 := by omega
          subst this
          exact .inl ⟨trivial, rfl, t, rfl, h6, rfl⟩
      | false =>
        simp only [Bool.false_eq_true, if_false]
        by_cases h9 : k = 9
        · subst h9
          exact .inr (.inl ⟨trivial, rfl, rfl⟩)
        · rw [if_neg h9]
          exact .inr (.inr ⟨trivial, h9, rfl⟩)
theorem part_read {t : List UInt8} (h : (readO t).2 = true) : partO (readO t).1 = t := by
  have h0 := h
  unfold readO at h
  obtain ⟨hk, m, hm, hcase⟩ := readK_ok h
  rcases cut_inv t with ⟨p, r, hc, ht⟩ | hc
  · rw [hc] at hk hm hcase h
    simp only at hk hm hcase h
    have hp := kind_back hk
    rcases cut_inv r with ⟨p2, r2, hc2, ht2⟩ | hc2
    · rw [hc2] at hm hcase
      simp only at hm hcase
      obtain ⟨m0, hm1⟩ := num_back hm
      rcases hcase with ⟨_, k4, a, ha, ha0, e⟩ | ⟨e, _⟩ | ⟨e, _⟩
      · obtain ⟨_, ha1⟩ := num_back ha
        have : (readO t).1 = (4, m, a) := by unfold readO; rw [hc]; simp only; rw [hc2]; exact e
        rw [this, show partO (4, m, a) = wd 4 ++ 32 :: (itoa m ++ 32 :: itoa a) by unfold partO; rw [if_neg (by simp), if_pos ⟨rfl, ha0⟩], hm1, ha1, ← ht2, ht, hp, k4]
      · cases e
      · cases e
    · rw [hc2] at hm hcase
      simp only at hm hcase
      obtain ⟨m0, hm1⟩ := num_back hm
      rcases hcase with ⟨e, _⟩ | ⟨_, k9, e⟩ | ⟨_, k9, e⟩
      · cases e
      · have : (readO t).1 = (9, 0, m) := by unfold readO; rw [hc]; simp only; rw [hc2]; exact e
        rw [this, show partO (9, 0, m) = wd 9 ++ 32 :: itoa m from if_pos rfl, hm1, ht, hp, k9]
      · have : (readO t).1 = ((kindO p : Int), m, 0) := by unfold readO; rw [hc]; simp only; rw [hc2]; exact e
        rw [this, show partO ((kindO p : Int), m, 0) = wd (kindO p) ++ 32 :: itoa m by unfold partO; rw [if_neg (by simp; omega), if_neg (by simp)]; rfl, hm1, ← hp, ht]
  · rw [hc] at hm
    simp only at hm
    rw [show Lib.cut [] [32] = ([], [], false) from rfl] at hm
    cases hm
theorem parseF_back (l : List (List UInt8)) : ∀ acc m, acc.length ≤ 64 → parseF l acc = (m, 0) → ∃ m2, m = acc ++ m2 ∧ m2.all mayO = true ∧ m2.map partO = l ∧ m.length ≤ 64 := by
  induction l with
  | nil =>
    intro acc m ha h
    have e : acc = m := by simpa [parseF] using h
    subst e
    exact ⟨[], by simp, rfl, rfl, ha⟩
  | cons t r ih =>
    intro acc m ha h
    rw [parseF] at h
    split at h
    · cases h
    · rename_i h64
      split at h
      · cases h
      · rename_i hok
        split at h
        · cases h
        · rename_i hmay
          have hok : (readO t).2 = true := by simpa using hok
          have hmay : mayO (readO t).1 = true := by simpa using hmay
          obtain ⟨m2, h1, h2, h3, h4⟩ := ih _ _ (by simp; omega) h
          exact ⟨(readO t).1 :: m2, by rw [h1]; simp, by simp [h2, hmay], by rw [List.map_cons, h3, part_read hok], h4⟩
/-- What is read was written so. -/
theorem text_parse {s : List UInt8} {m : List Op3} (h : parseO s = (m, 0)) : wrongO m = 0 ∧ textO m = s := by
  unfold parseO at h
  split at h
  · rename_i e
    subst e
    obtain rfl : [] = m := by simpa using h
    exact ⟨rfl, rfl⟩
  · obtain ⟨m2, h1, h2, h3, h4⟩ := parseF_back _ [] m (by simp) h
    simp only [List.nil_append] at h1
    subst h1
    refine ⟨?_, ?_⟩
    · unfold wrongO; rw [if_neg (by omega), if_pos h2]
    · unfold textO; rw [h3]; exact join_pieces s.length s (Nat.le_refl _)
end Go.Proofs.YtapalbokfbobhaaDoor
