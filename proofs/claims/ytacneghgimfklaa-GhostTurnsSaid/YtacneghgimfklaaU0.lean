/- What GhostTurns looks at: which threads called, how often, how many commits there were. No program. -/
import Derived.Test.YtacneghgimfklaaG1
namespace Go.Proofs.Ytacneghgimfklaa
set_option linter.unusedSimpArgs false
set_option linter.unusedVariables false
structure Ck where
  op : Nat → Bool
  ca : Nat → Int
  co : Nat → Int
def ck0 : Ck := ⟨fun _ => false, fun _ => 0, fun _ => 0⟩
def okC (c : Ck) (x : Ent) : Bool :=
  (decide (0 ≤ x.th) && decide (x.th ≤ 3)) &&
  (if x.kd = 1 then !c.op x.th.toNat && x.nu == c.ca x.th.toNat
   else if x.kd = 2 then c.op x.th.toNat
   else c.op x.th.toNat && c.co x.th.toNat != 0 && x.nu == c.ca x.th.toNat - 1)
def stC (c : Ck) (x : Ent) : Ck :=
  if x.kd = 1 then ⟨upd c.op x.th.toNat true, upd c.ca x.th.toNat (c.ca x.th.toNat + 1), upd c.co x.th.toNat 0⟩
  else if x.kd = 2 then { c with co := upd c.co x.th.toNat (c.co x.th.toNat + 1) }
  else { c with op := upd c.op x.th.toNat false }
def BdC (n : Nat) (c : Ck) : Prop := ∀ t, 0 ≤ c.ca t ∧ c.ca t ≤ n ∧ 0 ≤ c.co t ∧ c.co t ≤ n
theorem bdC_step {n : Nat} {c : Ck} (h : BdC n c) (x : Ent) : BdC (n + 1) (stC c x) := by
  intro t
  have h0 := h t
  have h1 := h x.th.toNat
  unfold stC upd
  repeat' split
  all_goals dsimp only
  all_goals (repeat' split)
  all_goals omega
def ckL (l : List Ent) : Ck := l.foldl stC ck0
theorem ckL_app (l : List Ent) (x : Ent) : ckL (l ++ [x]) = stC (ckL l) x := by simp [ckL, List.foldl_append]
theorem bdC_L (l : List Ent) : BdC l.length (ckL l) := by
  suffices h : ∀ (m : List Ent), BdC m.length (ckL m.reverse) by simpa using h l.reverse
  intro m
  induction m with
  | nil => intro t; simp [ckL, ck0]
  | cons x m ih => rw [List.reverse_cons, ckL_app]; exact bdC_step ih x
/-- All entries are as the law asks. -/
def Inv (l : List Ent) : Prop := ∀ k (h : k < l.length), okC (ckL (l.take k)) l[k] = true
def Rel (c : Ck) (D : Nat → Dg) : Prop := ∀ t, c.op t = ((D t).st != 0) ∧ c.ca t = (D t).nu + (if (D t).st = 0 then 0 else 1) ∧ 0 ≤ c.co t ∧ ((D t).st = 2 ∨ (D t).st = 3 → 1 ≤ c.co t)
theorem inv_nil : Inv [] := fun k h => by simp at h
theorem rel_nil : Rel (ckL []) D0 := fun t => by simp [ckL, ck0, D0, d0]
theorem Inv.app {l : List Ent} (h : Inv l) {x : Ent} (hx : okC (ckL l) x = true) : Inv (l ++ [x]) := by
  intro k hk
  simp at hk
  by_cases e : k < l.length
  · rw [List.getElem_append_left e, List.take_append_of_le_length (by omega)]; exact h k e
  · obtain rfl : k = l.length := by omega
    simp
    exact hx
theorem take_rel {S : St} {D : Nat → Dg} {c : Ck} {x : Ent} (hN : S.N = 4) (h : Rel c D) (ht : takeB S D x = true) : okC c x = true ∧ Rel (stC c x) (takeD S D x) := by
  have hD : takeD S D x = upd D x.th.toNat (if x.kd = 1 then begD (D x.th.toNat) x.ok x.oo x.oa else if x.kd = 2 then goD (D x.th.toNat) x.ek x.ea x.er else endD (D x.th.toNat)) := by unfold takeD; rw [if_pos ht]
  rw [hD]
  unfold takeB at ht
  cases hT : isT S x.th
  · rw [hT, if_pos rfl] at ht; cases ht
  rw [hT, if_neg (by simp)] at ht
  have bt := isT_iff.1 hT
  rw [hN] at bt
  have h1 := h x.th.toNat
  by_cases k1 : x.kd = 1
  · rw [if_pos k1] at ht
    simp only [calB, Bool.and_eq_true, beq_iff_eq, eqE_iff] at ht
    obtain ⟨⟨q1, q2⟩, -⟩ := ht
    have q3 : x.nu = (D x.th.toNat).nu := congrArg Ent.nu q2
    rw [q1] at h1
    simp at h1
    constructor
    · unfold okC
      rw [if_pos k1, h1.1, h1.2.1, q3]
      simp; omega
    · intro t
      unfold stC
      rw [if_pos k1, if_pos k1]
      unfold upd
      dsimp only
      by_cases e : t = x.th.toNat
      · rw [if_pos e, if_pos e, if_pos e, if_pos e]
        simp [begD]; omega
      · rw [if_neg e, if_neg e, if_neg e, if_neg e]; exact h t
  rw [if_neg k1] at ht
  by_cases k2 : x.kd = 2
  · rw [if_pos k2] at ht
    simp only [comB, Bool.and_eq_true, beq_iff_eq] at ht
    obtain ⟨⟨-, q2⟩, -⟩ := ht
    have q3 : (D x.th.toNat).st = 1 ∨ (D x.th.toNat).st = 2 := by
      unfold tkB at q2
      split at q2
      · cases q2
      · by_cases e1 : (D x.th.toNat).st = 1
        · exact .inl e1
        · rw [if_neg e1] at q2
          split at q2
          · right; assumption
          · cases q2
    constructor
    · unfold okC
      rw [if_neg k1, if_pos k2, h1.1]
      simp; omega
    · intro t
      unfold stC
      rw [if_neg k1, if_pos k2, if_neg k1, if_pos k2]
      unfold upd
      dsimp only
      by_cases e : t = x.th.toNat
      · rw [if_pos e, if_pos e, e]
        have g1 : (goD (D x.th.toNat) x.ek x.ea x.er).nu = (D x.th.toNat).nu := by unfold goD; repeat' split
                                                                                   all_goals rfl
        have g2 : (goD (D x.th.toNat) x.ek x.ea x.er).st ≠ 0 := by
          unfold goD
          repeat' split
          all_goals (try dsimp only)
          all_goals omega
        refine ⟨?_, ?_, by omega, fun _ => by omega⟩
        · rw [h1.1]; rcases q3 with q | q <;> simp [q, g2]
        · rw [g1, if_neg g2, h1.2.1, if_neg (by omega)]
      · rw [if_neg e, if_neg e]; exact h t
  rw [if_neg k2] at ht
  by_cases k3 : x.kd = 3
  · rw [if_pos k3] at ht
    simp only [retB, Bool.and_eq_true, beq_iff_eq, eqE_iff] at ht
    obtain ⟨q1, q2⟩ := ht
    have q3 : x.nu = (D x.th.toNat).nu := congrArg Ent.nu q2
    rw [q1] at h1
    simp at h1
    constructor
    · unfold okC
      rw [if_neg k1, if_neg k2, h1.1, h1.2.1, q3]
      simp; omega
    · intro t
      unfold stC
      rw [if_neg k1, if_neg k2, if_neg k1, if_neg k2]
      unfold upd
      dsimp only
      by_cases e : t = x.th.toNat
      · rw [if_pos e, if_pos e, e]
        refine ⟨by simp [endD], ?_, by omega, by simp [endD]⟩
        rw [h1.2.1]; simp [endD]
      · rw [if_neg e, if_neg e]; exact h t
  · rw [if_neg k3] at ht; cases ht
end Go.Proofs.Ytacneghgimfklaa
