/- What a revocation's changes come to: no walk. -/
import Derived.Test.YtecopjehmpjniaaDoorC6
namespace Go.Proofs.YtecopjehmpjniaaDoor
open Go.RowKit
set_option linter.unusedSimpArgs false
set_option linter.unusedVariables false
/-- What One makes of a biased word. -/
theorem one_good {i : Int} {x : Ob} (h : oneB i x = true) (hv : InW x.w) : InW (oneV i x).w ∧ isB (oneV i x).w = false ∧ (hasB (ownW x.w) x.l = true → ownW (oneV i x).w = ownW x.w) := by
  have h2 := h
  simp only [oneB, Bool.and_eq_true, decide_eq_true_eq] at h2
  obtain ⟨hb, a, b⟩ := h2
  cases hh : hasB (ownW x.w) x.l
  · rw [one_free h hh]
    obtain ⟨g, k, _⟩ := neu_kd hv hb
    exact ⟨neu_in hv hb, not_b (by rw [k]; decide), fun q => by cases q⟩
  · rw [one_held h hh]
    obtain ⟨u0, u1⟩ := held_o hb hh
    obtain ⟨g, k, o⟩ := thi_kd hv u0 a b
    exact ⟨thi_in hv u0 a b, not_b (by rw [k]; decide), fun _ => by rw [o, own_b hb]⟩
theorem one_o {i : Int} {x : Ob} (h : oneB i x = true) : (oneV i x).o = i := by
  rw [oneV, if_pos h]; split <;> rfl
theorem reb_o {e i : Int} {x : Ob} (h : rebB x = true) : (rebV e i x).o = i := by rw [rebV, if_pos h]
theorem reb_w {e i : Int} {x : Ob} (h : rebB x = true) : (rebV e i x).w = frI e x.w := by rw [rebV, if_pos h]
theorem reb_b {x : Ob} (h : rebB x = true) : isB x.w = true ∧ hasB (ownW x.w) x.l = true := by simpa [rebB] using h

/-- What is asked of an object's word behind a revocation. -/
def Keeps (q : Int) (y : Kl) (j i : Nat) (a : Int) (x : Ob) (z : Int) : Prop :=
  InW z ∧ (isB x.w = true → hasB (ownW x.w) x.l = true → ownW z = ownW x.w) ∧ (x.k = a → (q = 2 ∨ i = j) → isB z = false) ∧
    (x.k = a → q = 1 → isB z = true → isB x.w = true → hasB (ownW x.w) x.l = true → valB (newK q y).b (newK q y).e z = true)
theorem keeps_one {q : Int} {y : Kl} {j i : Nat} {a : Int} {x : Ob} (h : oneB i x = true) (hv : InW x.w) : Keeps q y j i a x (oneV i x).w := by
  obtain ⟨h1, h2, h3⟩ := one_good h hv
  exact ⟨h1, fun _ => h3, fun _ _ => h2, fun _ _ b => by rw [h2] at b; cases b⟩
theorem keeps_no {q : Int} {y : Kl} {j i : Nat} {a : Int} {x : Ob} (hv : InW x.w) (hi : i ≤ 65535) (h2 : x.k = a → (q = 2 ∨ i = j) → (oneB i x && (oneV i x).w != x.w) = false)
    (h3 : x.k = a → q = 1 → i ≠ j → rebB x = true → frI (newK q y).e x.w = x.w) (hy : OkK y) (hb : q = 1 → y.b = true) : Keeps q y j i a x x.w := by
  have F2 : x.k = a → (q = 2 ∨ i = j) → isB x.w = false := by
    intro ha hq
    cases hB : isB x.w
    · rfl
    · have ho : oneB i x = true := one_yes hB (by omega) (by omega)
      have h := h2 ha hq
      rw [ho, Bool.true_and] at h
      have e : (oneV i x).w = x.w := by simpa using h
      have := (one_good ho hv).2.1
      rw [e, hB] at this
      cases this
  refine ⟨hv, fun _ _ => rfl, F2, fun ha hq b b2 hh => ?_⟩
  subst hq
  have hij : i ≠ j := by
    intro e
    rw [F2 ha (.inr e)] at b
    cases b
  have e0 := hy.e0
  have e1 := hy.e1
  have hn : (newK 1 y).b = true ∧ (newK 1 y).e = (y.e + 1) % 256 := ⟨hb rfl, rfl⟩
  have h := h3 ha rfl hij (by simp [rebB, b2, hh])
  rw [hn.1]
  have := (fr_kd (e := (newK 1 y).e) hv (by rw [hn.2]; omega) (by rw [hn.2]; omega) b2).2.2
  rw [h] at this
  exact this
theorem keeps_reb {y : Kl} {j i : Nat} {a : Int} {x : Ob} {e : Int} (h : rebB x = true) (hv : InW x.w) (hij : i ≠ j) (hy : OkK y) (hb : y.b = true) (he : e = (newK 1 y).e) : Keeps 1 y j i a x (rebV e i x).w := by
  subst he
  obtain ⟨b, hh⟩ := reb_b h
  rw [reb_w h]
  have e0 := hy.e0
  have e1 := hy.e1
  have hn : (newK 1 y).b = true ∧ (newK 1 y).e = (y.e + 1) % 256 := ⟨hb, rfl⟩
  obtain ⟨f1, f2, f3⟩ := fr_kd (e := (newK 1 y).e) hv (by rw [hn.2]; omega) (by rw [hn.2]; omega) b
  refine ⟨fr_in hv (by rw [hn.2]; omega) (by rw [hn.2]; omega), fun _ _ => f2, fun _ hq => ?_, fun _ _ _ _ _ => by rw [hn.1]; exact f3⟩
  rcases hq with hq | hq
  · exact absurd hq (by decide)
  · exact absurd hq hij
/-- The changes as those of the places I. -/
structure ChI (q : Int) (y : Kl) (j : Nat) (l : List Ob) (C : List Cg) (I : List Nat) (F : Nat → Cg) : Prop where
  c : C = I.map F
  nd : I.Nodup
  lt : ∀ i, i ∈ I → i < l.length
  o : ∀ i, i ∈ I → (F i).o = (i : Int)
  k : ∀ i, i ∈ I → (ob l i).k = (ob l j).k
  w : ∀ i, i ∈ I → (F i).w ≠ (ob l i).w
  keeps : ∀ i, i < l.length → Keeps q y j i (ob l j).k (ob l i) (if i ∈ I then (F i).w else (ob l i).w)
theorem one1_map (p : Bool) (f : Nat → Cg) (j : Nat) : one1 p (f j) = (if p = true then [j] else []).map f := by unfold one1; split <;> rfl
theorem chs_I (q : Int) (y : Kl) (j : Nat) (l : List Ob) (hj : j < l.length) (hl : l.length ≤ 256) (hv : ∀ i, i < l.length → InW (ob l i).w) (hy : OkK y) (hq : q = 0 ∨ (q = 1 ∧ y.b = true) ∨ (q = 2 ∧ y.b = true)) :
    ∃ I F, ChI q y j l (chs q y j l) I F := by
  have pw : ∀ i, pO l i = true → oneB i (ob l i) = true ∧ (cO l i).w ≠ (ob l i).w := fun i h => by
    simp only [pO, Bool.and_eq_true, bne_iff_ne] at h
    exact h
  rcases hq with rfl | ⟨rfl, hb⟩ | ⟨rfl, hb⟩
  · refine ⟨if pO l j = true then [j] else [], cO l, by simp only [chs, if_true]; exact one1_map _ _ _, by split <;> simp, ?_, ?_, ?_, ?_, ?_⟩
    · intro i hi; split at hi <;> simp at hi; omega
    · intro i hi
      split at hi <;> simp at hi
      rename_i h
      subst hi
      exact one_o (pw _ h).1
    · intro i hi; split at hi <;> simp at hi; rw [hi]
    · intro i hi
      split at hi <;> simp at hi
      rename_i h
      subst hi
      exact (pw _ h).2
    · intro i hi
      cases h : pO l j
      · simp only [Bool.false_eq_true, if_false, List.not_mem_nil]
        refine keeps_no (hv i hi) (by omega) (fun _ e => ?_) (fun _ e => absurd e (by decide)) hy (fun e => absurd e (by decide))
        rcases e with e | e
        · exact absurd e (by decide)
        · subst e; exact h
      · simp only [if_true, List.mem_singleton]
        by_cases e : i = j
        · rw [if_pos e]
          subst e
          exact keeps_one (pw _ h).1 (hv _ hi)
        · rw [if_neg e]
          refine keeps_no (hv i hi) (by omega) (fun _ e2 => ?_) (fun _ e => absurd e (by decide)) hy (fun e => absurd e (by decide))
          rcases e2 with e2 | e2
          · exact absurd e2 (by decide)
          · exact absurd e2 e
  · obtain ⟨e, he⟩ : ∃ e, e = (newK 1 y).e := ⟨_, rfl⟩
    obtain ⟨a, ha⟩ : ∃ a, a = (ob l j).k := ⟨_, rfl⟩
    have hR : ∀ i, qR e a j l i = true ↔ ((ob l i).k = a ∧ i ≠ j ∧ rebB (ob l i) = true ∧ (cR e l i).w ≠ (ob l i).w) := fun i => by
      simp only [qR, pR, cR, Bool.and_eq_true, bne_iff_ne, beq_iff_eq]
    have hm : ∀ i, i ∈ (List.range l.length).filter (qR e a j l) ++ (if pO l j = true then [j] else []) ↔ (i < l.length ∧ qR e a j l i = true) ∨ (pO l j = true ∧ i = j) := fun i => by
      rw [List.mem_append, List.mem_filter, List.mem_range]
      cases pO l j <;> simp
    have f1 : ∀ i, qR e a j l i = true → (if i = j then cO l i else cR e l i) = cR e l i := fun i h => if_neg ((hR i).1 h).2.1
    refine ⟨(List.range l.length).filter (qR e a j l) ++ (if pO l j = true then [j] else []), fun i => if i = j then cO l i else cR e l i, ?_, ?_, ?_, ?_, ?_, ?_, ?_⟩
    · have e1 : chs 1 y j l = gath (qR e a j l) (cR e l) l.length ++ one1 (pO l j) (cO l j) := by rw [he, ha]; simp [chs]
      rw [e1, List.map_append, ← one1_map (pO l j) (fun i => if i = j then cO l i else cR e l i) j, if_pos rfl]
      congr 1
      unfold gath
      exact List.map_congr_left fun i hi => (f1 i (List.mem_filter.1 hi).2).symm
    · rw [List.nodup_append]
      refine ⟨List.Pairwise.filter _ List.nodup_range, by split <;> simp, fun i hi k hk q => ?_⟩
      subst q
      have h1 := ((hR i).1 (List.mem_filter.1 hi).2).2.1
      split at hk <;> simp at hk
      exact h1 hk
    · intro i hi
      rcases (hm i).1 hi with h | h
      · exact h.1
      · rw [h.2]; exact hj
    · intro i hi
      rcases (hm i).1 hi with h | h
      · simp only [f1 i h.2]
        exact reb_o ((hR i).1 h.2).2.2.1
      · simp only [if_pos h.2]
        have h1 := h.1
        rw [← h.2] at h1
        exact one_o (pw i h1).1
    · intro i hi
      rcases (hm i).1 hi with h | h
      · rw [((hR i).1 h.2).1, ha]
      · rw [h.2]
    · intro i hi
      rcases (hm i).1 hi with h | h
      · simp only [f1 i h.2]
        exact ((hR i).1 h.2).2.2.2
      · simp only [if_pos h.2]
        have h1 := h.1
        rw [← h.2] at h1
        exact (pw i h1).2
    · intro i hi
      by_cases hI : i ∈ (List.range l.length).filter (qR e a j l) ++ (if pO l j = true then [j] else [])
      · rw [if_pos hI]
        rcases (hm i).1 hI with h | h
        · simp only [f1 i h.2]
          have h2 := (hR i).1 h.2
          exact keeps_reb h2.2.2.1 (hv i hi) h2.2.1 hy hb he
        · simp only [if_pos h.2]
          have h1 := h.1
          rw [← h.2] at h1
          exact keeps_one (pw i h1).1 (hv i hi)
      · rw [if_neg hI]
        have hn := fun h => hI ((hm i).2 h)
        refine keeps_no (hv i hi) (by omega) (fun _ e2 => ?_) (fun hk _ hij hr => ?_) hy (fun _ => hb)
        · rcases e2 with e2 | e2
          · exact absurd e2 (by decide)
          · cases h : pO l i
            · exact h
            · exact absurd (.inr ⟨by rw [← e2]; exact h, e2⟩) hn
        · by_cases q : frI (newK 1 y).e (ob l i).w = (ob l i).w
          · exact q
          · refine absurd (.inl ⟨hi, (hR i).2 ⟨by rw [hk, ha], hij, hr, ?_⟩⟩) hn
            show (rebV e i (ob l i)).w ≠ _
            rw [reb_w hr, he]
            exact q
  · obtain ⟨a, ha⟩ : ∃ a, a = (ob l j).k := ⟨_, rfl⟩
    have hR : ∀ i, qV a l i = true ↔ ((ob l i).k = a ∧ pO l i = true) := fun i => by simp only [qV, Bool.and_eq_true, beq_iff_eq]
    have hm : ∀ i, i ∈ (List.range l.length).filter (qV a l) ↔ (i < l.length ∧ qV a l i = true) := fun i => by rw [List.mem_filter, List.mem_range]
    refine ⟨(List.range l.length).filter (qV a l), cO l, ?_, List.Pairwise.filter _ List.nodup_range, fun i hi => ((hm i).1 hi).1, ?_, ?_, ?_, ?_⟩
    · rw [ha]; simp [chs, gath]
    · intro i hi; exact one_o (pw i ((hR i).1 ((hm i).1 hi).2).2).1
    · intro i hi; rw [((hR i).1 ((hm i).1 hi).2).1, ha]
    · intro i hi; exact (pw i ((hR i).1 ((hm i).1 hi).2).2).2
    · intro i hi
      by_cases hI : i ∈ (List.range l.length).filter (qV a l)
      · rw [if_pos hI]
        exact keeps_one (pw i ((hR i).1 ((hm i).1 hI).2).2).1 (hv i hi)
      · rw [if_neg hI]
        refine keeps_no (hv i hi) (by omega) (fun hk _ => ?_) (fun _ e => absurd e (by decide)) hy (fun e => absurd e (by decide))
        cases h : pO l i
        · exact h
        · exact absurd ((hm i).2 ⟨hi, (hR i).2 ⟨by rw [hk, ha], h⟩⟩) hI
end Go.Proofs.YtecopjehmpjniaaDoor
