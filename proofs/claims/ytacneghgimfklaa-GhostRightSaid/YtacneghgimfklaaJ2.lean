/- An entry: what the document makes of it is what the program does. No program. -/
import Derived.Test.YtacneghgimfklaaJ1
namespace Go.Proofs.Ytacneghgimfklaa
set_option linter.unusedSimpArgs false
set_option linter.unusedVariables false
def Jr (S : St) (D : Nat → Dg) (V : Nat → List Ev) : Prop := ∀ t : Nat, Lr (D t) (V t) ∧ ((D t).st = 2 → (lst (V t)).k = 5 → S.wt (D t).ob t = none)
def evX (x : Ent) : Ev := ⟨x.ek, x.et, x.eo, x.ea, x.er⟩
def takeV (S : St) (D : Nat → Dg) (V : Nat → List Ev) (x : Ent) : Nat → List Ev := if takeB S D x = true then upd V x.th.toNat (if x.kd = 2 then V x.th.toNat ++ [evX x] else []) else V
def bareB (x : Ent) : Bool :=
  if x.kd = 1 then eqE ⟨1, x.th, x.nu, x.ok, x.oo, x.oa, 0, 0, 0, 0, 0, 0, 0⟩ x
  else if x.kd = 2 then eqE ⟨2, x.et, 0, 0, 0, 0, x.ek, x.et, x.eo, x.ea, x.er, 0, 0⟩ x
  else if x.kd = 3 then eqE ⟨3, x.th, x.nu, 0, 0, 0, 0, 0, 0, 0, 0, x.va, x.rr⟩ x
  else false
/-- How many operations a thread called. -/
def clI (d : Dg) : Int := if d.st = 0 then d.nu else d.nu + 1
def rtB (S : St) (D : Nat → Dg) (V : Nat → List Ev) (x : Ent) : Bool :=
  bareB x && isT S x.th &&
  (if x.kd = 1 then ((D x.th.toNat).st == 0 && x.nu == clI (D x.th.toNat)) && mayO S x.ok x.oo x.oa
   else if x.kd = 2 then rcB (D x.th.toNat) (V x.th.toNat) x.ek x.eo x.ea && apE S x.ek x.et x.eo x.ea x.er == 0
   else toB (D x.th.toNat) (V x.th.toNat) && x.nu == clI (D x.th.toNat) - 1 && x.va == toV (D x.th.toNat) (V x.th.toNat) && x.rr == (lst (V x.th.toNat)).r)
theorem jr_0 (n m k : Nat) : Jr (st0 n m k) D0 (fun _ => []) := fun t => ⟨lr_0 0, fun h => by simp [D0, d0] at h⟩
/-- A Leave of one who does not wait there is not taken. -/
theorem ap_leave {S : St} {t : Nat} {o a r : Int} (h : 0 ≤ o → S.wt o t = none) : apE S 5 (t : Int) o a r = 15 := by
  unfold apE
  rw [if_neg]
  unfold apB
  intro hq
  simp only [Bool.and_eq_true] at hq
  obtain ⟨⟨_, ho⟩, hm⟩ := hq
  have b := isO_iff.1 ho
  unfold mayB at hm
  rw [if_pos (.inl rfl)] at hm
  simp only [mcbB, Bool.and_eq_true] at hm
  have := hm.2
  rw [if_neg (by omega)] at this
  have e : ((o.toNat : Nat) : Int) = o := by omega
  rw [Int.toNat_natCast, e, h b.1] at this
  simp at this
/-- Nobody waits anew, but who began to. -/
theorem ap_wt {S : St} {k t o a r x y : Int} (hy : y ≠ t ∨ k ≠ 4) (h : S.wt x y = none) : (apS S k t o a r).wt x y = none := by
  unfold apS
  split
  · rename_i hb
    unfold doS tuS
    by_cases k5 : k = 5
    · rw [if_pos k5]; simp only [lvS, upd2]; split; rfl; exact h
    rw [if_neg k5]
    by_cases k6 : k = 6
    · rw [if_pos k6]; unfold enS; split <;> exact h
    rw [if_neg k6]
    split
    · exact h
    split
    · split
      · exact h
      split
      · exact h
      split
      · rename_i k4
        simp only [beS, upd2]
        unfold apB at hb
        simp only [Bool.and_eq_true] at hb
        have := isT_iff.1 hb.1.1
        rw [if_neg (by omega)]; exact h
      split
      · simp only [lvS, upd2]; split; rfl; exact h
      split
      · exact h
      split
      · exact h
      · exact h
    · exact h
  · exact h
theorem com_eq {S : St} {D : Nat → Dg} {V : Nat → List Ev} (h : Jr S D V) (t : Nat) (k o a r : Int) :
    (rcB (D t) (V t) k o a && apE S k (t : Int) o a r == 0) = (tkB (D t) k o a && apE S k (t : Int) o a r == 0) := by
  obtain ⟨hl, hw⟩ := h t
  by_cases q : (D t).st = 2 ∧ (lst (V t)).k = 5 ∧ k = 5
  · obtain ⟨s, q5, rfl⟩ := q
    have k4 := (hl.s2 s).1
    by_cases e : o = (D t).ob
    · have : apE S 5 (t : Int) o a r = 15 := ap_leave (fun _ => by rw [e]; exact hw s q5)
      rw [this]; simp
    · have hne : (o != obO (D t)) = true := by unfold obO; rw [if_neg (by omega)]; simpa using e
      unfold rcB tkB
      rw [if_neg (by omega), if_pos (.inl hne), if_pos hne]
  · rw [rcB_eq hl k o a (fun s q5 k5 => q ⟨s, q5, k5⟩)]
theorem rt_eq {S : St} {D : Nat → Dg} {V : Nat → List Ev} (h : Jr S D V) (x : Ent) : rtB S D V x = takeB S D x := by
  unfold rtB takeB
  cases hT : isT S x.th
  · simp
  rw [if_neg (show ¬ (true = false) by simp)]
  have bt := isT_iff.1 hT
  have hl := (h x.th.toNat).1
  by_cases k1 : x.kd = 1
  · rw [if_pos k1, if_pos k1]
    unfold calB bareB
    rw [if_pos k1, Bool.and_true]
    cases hs : ((D x.th.toNat).st == 0)
    · simp
    · have s : (D x.th.toNat).st = 0 := by simpa using hs
      unfold clI
      rw [if_pos s]
      rw [Bool.eq_iff_iff]
      simp only [Bool.and_eq_true, eqE_iff, beq_iff_eq, Bool.true_and, true_and]
      constructor
      · rintro ⟨e, hn, hm⟩
        exact ⟨by rw [← e]; simp [nxC]; rw [← hn], hm⟩
      · rintro ⟨e, hm⟩
        refine ⟨?_, congrArg Ent.nu e, hm⟩
        have hn : x.nu = (D x.th.toNat).nu := congrArg Ent.nu e
        rw [hn]; exact e.symm
  rw [if_neg k1, if_neg k1]
  by_cases k2 : x.kd = 2
  · rw [if_pos k2, if_pos k2]
    unfold comB bareB
    rw [if_neg k1, if_pos k2, Bool.and_true]
    cases e : eqE ⟨2, x.et, 0, 0, 0, 0, x.ek, x.et, x.eo, x.ea, x.er, 0, 0⟩ x
    · have : eqE x (nxM x) = false := by
        cases q : eqE x (nxM x)
        · rfl
        · rw [eqE_iff] at q
          have : eqE (nxM x) x = true := (eqE_iff _ _).2 q.symm
          rw [show nxM x = ⟨2, x.et, 0, 0, 0, 0, x.ek, x.et, x.eo, x.ea, x.er, 0, 0⟩ from rfl] at this
          rw [e] at this; cases this
      rw [this]; simp
    · have e2 := (eqE_iff _ _).1 e
      have : eqE x (nxM x) = true := (eqE_iff _ _).2 e2.symm
      rw [this]
      have ht : x.et = ((x.th.toNat : Nat) : Int) := by
        have := congrArg Ent.th e2
        simp only at this
        omega
      rw [ht, Bool.true_and, Bool.true_and]
      exact com_eq h _ _ _ _ _
  rw [if_neg k2, if_neg k2]
  by_cases k3 : x.kd = 3
  · rw [if_pos k3, toB_eq hl]
    unfold retB bareB
    rw [if_neg k1, if_neg k2, if_pos k3, Bool.and_true]
    cases hs : ((D x.th.toNat).st == 3)
    · simp
    · have s : (D x.th.toNat).st = 3 := by simpa using hs
      obtain ⟨hv, hr⟩ := to_va hl s
      unfold clI
      rw [if_neg (by omega), hv, hr]
      rw [Bool.eq_iff_iff]
      simp only [Bool.and_eq_true, eqE_iff, beq_iff_eq, Bool.true_and, true_and]
      constructor
      · rintro ⟨e, ⟨hn, hva⟩, hrr⟩
        rw [← e]
        simp only [nxR]
        rw [hva, hrr]
        congr 1; omega
      · intro e
        have h1 : x.nu = (D x.th.toNat).nu := congrArg Ent.nu e
        have h2 : x.va = (D x.th.toNat).va := congrArg Ent.va e
        have h3 : x.rr = (D x.th.toNat).er := congrArg Ent.rr e
        refine ⟨?_, ⟨by omega, h2⟩, h3⟩
        rw [h1, h2, h3]; exact e.symm
  · rw [if_neg k3]
    unfold bareB
    rw [if_neg k1, if_neg k2, if_neg k3]; simp
theorem jr_step {S : St} {D : Nat → Dg} {V : Nat → List Ev} (h : Jr S D V) (x : Ent) : Jr (takeS S D x) (takeD S D x) (takeV S D V x) := by
  cases hb : takeB S D x
  · have e1 : takeS S D x = S := by unfold takeS; rw [hb]; simp
    have e2 : takeD S D x = D := by unfold takeD; rw [hb]; simp
    have e3 : takeV S D V x = V := by unfold takeV; rw [hb]; simp
    rw [e1, e2, e3]; exact h
  have hD : takeD S D x = upd D x.th.toNat (if x.kd = 1 then begD (D x.th.toNat) x.ok x.oo x.oa else if x.kd = 2 then goD (D x.th.toNat) x.ek x.ea x.er else endD (D x.th.toNat)) := by unfold takeD; rw [if_pos hb]
  have hV : takeV S D V x = upd V x.th.toNat (if x.kd = 2 then V x.th.toNat ++ [evX x] else []) := by unfold takeV; rw [if_pos hb]
  have hb0 := hb
  unfold takeB at hb
  cases hT : isT S x.th
  · rw [hT, if_pos rfl] at hb; cases hb
  rw [hT, if_neg (by simp)] at hb
  have bt := isT_iff.1 hT
  rw [hD, hV]
  intro t
  by_cases k2 : x.kd = 2
  · rw [if_neg (by omega), if_pos k2] at hb
    have hS : takeS S D x = apS S x.ek x.et x.eo x.ea x.er := by unfold takeS; rw [if_pos ⟨hb0, k2⟩]
    rw [hS]
    simp only [comB, Bool.and_eq_true, beq_iff_eq, eqE_iff] at hb
    obtain ⟨⟨e, htk⟩, hap⟩ := hb
    have het : x.et = x.th := (congrArg Ent.th e).symm
    rw [if_neg (by omega), if_pos k2, if_pos k2]
    by_cases et : t = x.th.toNat
    · subst et
      rw [upd_same, upd_same]
      obtain ⟨hl, hw⟩ := h x.th.toNat
      refine ⟨lr_go hl (evX x) htk, fun s q5 => ?_⟩
      rw [lst_app] at q5
      have q5 : x.ek = 5 := q5
      have ob : (goD (D x.th.toNat) x.ek x.ea x.er).ob = (D x.th.toNat).ob := by
        unfold goD
        repeat' split
        all_goals rfl
      rw [ob]
      by_cases hn : S.wt (D x.th.toNat).ob ((x.th.toNat : Nat) : Int) = none
      · exact ap_wt (.inr (by omega)) hn
      · have hb1 : apB S x.ek x.et x.eo x.ea x.er = true := by
          unfold apE at hap
          split at hap
          · assumption
          · cases hap
        have hoo : x.eo = (D x.th.toNat).ob := by
          unfold tkB at htk
          split at htk
          · cases htk
          · rename_i q
            have q : x.eo = obO (D x.th.toNat) := by simpa using q
            rw [q]; unfold obO
            rw [if_neg]
            intro k9
            have s2 : (D x.th.toNat).st = 1 := by
              by_cases q1 : (D x.th.toNat).st = 1
              · exact q1
              · rw [if_neg q1] at htk
                split at htk
                · rename_i q2; have := (hl.s2 q2).1; omega
                · cases htk
            rw [if_pos s2] at htk
            unfold tfB at htk
            rw [k9, q5] at htk
            simp at htk
        unfold apS
        rw [if_pos hb1]
        unfold doS
        rw [if_pos q5]
        simp only [lvS, upd2]
        unfold apB at hb1
        simp only [Bool.and_eq_true] at hb1
        have bo := isO_iff.1 hb1.1.2
        rw [if_pos]
        exact ⟨by omega, by omega⟩
    · rw [upd_other _ _ et, upd_other _ _ et]
      obtain ⟨hl, hw⟩ := h t
      exact ⟨hl, fun s q5 => ap_wt (.inl (by omega)) (hw s q5)⟩
  · have hS : takeS S D x = S := by unfold takeS; rw [if_neg (by omega)]
    rw [hS, if_neg k2, if_neg k2]
    by_cases et : t = x.th.toNat
    · subst et
      rw [upd_same, upd_same]
      by_cases k1 : x.kd = 1
      · rw [if_pos k1] at hb ⊢
        simp only [calB, Bool.and_eq_true] at hb
        have hk : 1 ≤ x.ok ∧ x.ok ≤ 9 := by
          have := hb.2
          unfold mayO at this
          split at this
          · cases this
          split at this
          · omega
          split at this
          · omega
          split at this
          · omega
          · cases this
        exact ⟨lr_beg _ _ _ hk, fun s => by simp [begD] at s⟩
      · rw [if_neg k1]
        exact ⟨lr_0 _, fun s => by simp [endD] at s⟩
    · rw [upd_other _ _ et, upd_other _ _ et]; exact h t
end Go.Proofs.Ytacneghgimfklaa
