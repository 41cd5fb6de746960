/- Those that are due, in their order: there is one list of them. -/
import Derived.Test.YtgfhpgbklcjooaaT4
namespace Go.Proofs.Ytgfhpgbklcjooaa
open Go.RowKit Go.Maps
set_option linter.unusedSimpArgs false
set_option linter.unusedVariables false

def ahd (f : Al) (x y : Nat) : Prop := f x < f y ∨ (f x = f y ∧ x < y)
structure DueL (f : Al) (now : Int) (l : List Nat) : Prop where
  mem : ∀ x, x ∈ l ↔ (f x ≠ 0 ∧ f x ≤ now)
  asc : l.Pairwise (ahd f)
theorem asc_one {r : Nat → Nat → Prop} (ha : ∀ x y, r x y → ¬ r y x) : ∀ l l' : List Nat, l.Pairwise r → l'.Pairwise r → (∀ x, x ∈ l ↔ x ∈ l') → l = l'
  | [], [], _, _, _ => rfl
  | [], b :: l', _, _, h => absurd ((h b).2 (by simp)) (by simp)
  | a :: l, [], _, _, h => absurd ((h a).1 (by simp)) (by simp)
  | a :: l, b :: l', h1, h2, h => by
    obtain ⟨p1, p2⟩ := List.pairwise_cons.1 h1
    obtain ⟨q1, q2⟩ := List.pairwise_cons.1 h2
    have e : a = b := by
      rcases List.mem_cons.1 ((h a).1 (by simp)) with e | e
      · exact e
      · rcases List.mem_cons.1 ((h b).2 (by simp)) with e2 | e2
        · exact e2.symm
        · exact absurd (q1 a e) (ha _ _ (p1 b e2))
    subst e
    rw [asc_one ha l l' p2 q2 fun x => ?_]
    constructor
    · intro hx
      rcases List.mem_cons.1 ((h x).1 (List.mem_cons_of_mem _ hx)) with e | e
      · subst e; exact absurd (p1 x hx) (ha _ _ (p1 x hx))
      · exact e
    · intro hx
      rcases List.mem_cons.1 ((h x).2 (List.mem_cons_of_mem _ hx)) with e | e
      · subst e; exact absurd (q1 x hx) (ha _ _ (q1 x hx))
      · exact e
theorem ahd_asymm (f : Al) : ∀ x y, ahd f x y → ¬ ahd f y x := by unfold ahd; omega
theorem DueL.one {f : Al} {now : Int} {l l' : List Nat} (h : DueL f now l) (h' : DueL f now l') : l = l' := asc_one (ahd_asymm f) _ _ h.asc h'.asc fun x => (h.mem x).trans (h'.mem x).symm
theorem DueL.lt {f : Al} {now : Int} {l : List Nat} (h : DueL f now l) (ok : OkA f) : ∀ x ∈ l, x < 256 := fun x hx => by
  rcases Nat.lt_or_ge x 256 with h1 | h1
  · exact h1
  · exact absurd (ok.th x h1) ((h.mem x).1 hx).1
theorem DueL.nodup {f : Al} {now : Int} {l : List Nat} (h : DueL f now l) : l.Nodup := h.asc.imp (fun {a b} hr e => by subst e; exact ahd_asymm f a a hr hr)
theorem DueL.nil {f : Al} {now : Int} (h : ∀ x, f x ≠ 0 → now < f x) : DueL f now [] := ⟨fun x => ⟨fun h => by simp at h, fun ⟨h1, h2⟩ => by have := h x h1; omega⟩, List.Pairwise.nil⟩
theorem cfA_lt (f : Al) (x y : Nat) : cfA f x y < 0 ↔ ahd f (x % 256) (y % 256) := by
  unfold cfA orI cmpI ahd
  generalize f (x % 256) = a
  generalize f (y % 256) = b
  generalize x % 256 = p
  generalize y % 256 = q
  repeat' split
  all_goals omega
theorem ltA (f : Al) (x y : Nat) : Proofs.ltOf (cfA f) x y = true ↔ ahd f (x % 256) (y % 256) := by
  unfold Proofs.ltOf
  rw [decide_eq_true_iff]; exact cfA_lt f x y
theorem ltA' (f : Al) (x y : Nat) : Proofs.ltOf (cfA f) x y = false ↔ ¬ ahd f (x % 256) (y % 256) := by
  rw [← ltA]; simp
theorem swoA (f : Al) : Sort.SWO (Proofs.ltOf (cfA f)) where
  irrefl x := by rw [ltA']; unfold ahd; omega
  trans x y z := by rw [ltA, ltA, ltA]; unfold ahd; omega
  ntrans x y z := by rw [ltA', ltA', ltA']; unfold ahd; omega
theorem perm_of {d d' : Array Nat} (h : Sort.PermIn 0 d.size d d') : d'.toList.Perm d.toList := by
  have h3 := h.2.2
  have e1 : d'.extract 0 d.size = d' := by rw [← h.1]; simp
  have e2 : d.extract 0 d.size = d := by simp
  rwa [e1, e2] at h3
/-- What was collected, sorted: those that are due, in their order. -/
theorem due_sorted {f : Al} {now : Int} {ss : List Nat} (ok : OkA f) (nd : ss.Nodup) (hm : ∀ x, x ∈ ss ↔ (f x ≠ 0 ∧ f x ≤ now)) {d' : Array Nat} (hp : Sort.PermIn 0 ss.toArray.size ss.toArray d') (hs : Sort.SortedIn (Proofs.ltOf (cfA f)) 0 ss.toArray.size d') : DueL f now d'.toList := by
  have p := perm_of hp
  have hmem : ∀ x, x ∈ d'.toList ↔ (f x ≠ 0 ∧ f x ≤ now) := fun x => by rw [p.mem_iff]; exact hm x
  have nd' : d'.toList.Nodup := p.nodup_iff.2 nd
  refine ⟨hmem, List.pairwise_iff_getElem.2 fun i j hi hj hij => ?_⟩
  have hi' : i < d'.size := by simpa using hi
  have hj' : j < d'.size := by simpa using hj
  have hsz := hp.1
  have h1 := hs i j (Nat.zero_le _) hij (by omega)
  rw [ltA', getElem!_pos d' i hi', getElem!_pos d' j hj'] at h1
  have lt : ∀ k (hk : k < d'.size), d'[k] < 256 := fun k hk => by
    have := (hmem d'[k]).1 (by simp)
    rcases Nat.lt_or_ge d'[k] 256 with h2 | h2
    · exact h2
    · exact absurd (ok.th _ h2) this.1
  rw [Nat.mod_eq_of_lt (lt i hi'), Nat.mod_eq_of_lt (lt j hj')] at h1
  have hne : d'[i] ≠ d'[j] := by
    have := List.pairwise_iff_getElem.1 nd' i j hi hj hij
    simpa using this
  simp only [Array.getElem_toList]
  unfold ahd at h1 ⊢
  omega
/-- What a round of the range has collected. -/
structure Coll (f : Al) (now : Int) (left : Lit → Bool) (ss : List Nat) : Prop where
  nd : ss.Nodup
  mem : ∀ x, x ∈ ss ↔ (f x ≠ 0 ∧ f x ≤ now ∧ left (ky (x : Int)) = false)
theorem Coll.start {f : Al} {now : Int} {D : DataW Unit} (ok : OkA f) (h : Rep D f) : Coll f now (Maps.has D) [] := by
  refine ⟨List.nodup_nil, fun x => ⟨fun h => by simp at h, fun ⟨h1, _, h3⟩ => ?_⟩⟩
  have hx : x < 256 := by
    rcases Nat.lt_or_ge x 256 with h2 | h2
    · exact h2
    · exact absurd (ok.th x h2) h1
  rw [h.has x (ky_wf (by omega) (by omega)), ix_nat] at h3
  simp at h3
  exact absurd h3 h1
theorem sameKy (a b : Int) : (ky a).sameKey (ky b) = decide (a = b) := by
  by_cases h : a = b
  · subst h; rw [WideAt.sameKey_self (ky_key _)]; simp
  · rw [Maps.sameKey_ne (ky_ne h)]; simp [h]
theorem Coll.took {f : Al} {now : Int} {left : Lit → Bool} {ss : List Nat} {t : Nat} (h : Coll f now left ss) (hl : left (ky (t : Int)) = true) (h0 : f t ≠ 0) (hle : f t ≤ now) : Coll f now (fun z => left z && !z.sameKey (ky (t : Int))) (ss ++ [t]) := by
  refine ⟨?_, fun x => ?_⟩
  · rw [List.nodup_append]
    refine ⟨h.nd, by simp, fun a ha b hb e => ?_⟩
    simp at hb
    subst hb e
    rw [h.mem] at ha
    rw [hl] at ha; exact absurd ha.2.2 (by simp)
  · rw [List.mem_append, h.mem, List.mem_singleton]
    simp only [Bool.and_eq_false_iff, Bool.not_eq_false', sameKy, decide_eq_true_iff]
    constructor
    · rintro (⟨h1, h2, h3⟩ | rfl)
      · exact ⟨h1, h2, .inl h3⟩
      · exact ⟨h0, hle, .inr rfl⟩
    · rintro ⟨h1, h2, h3 | h3⟩
      · exact .inl ⟨h1, h2, h3⟩
      · exact .inr (by omega)
theorem Coll.left {f : Al} {now : Int} {left : Lit → Bool} {ss : List Nat} {t : Nat} (h : Coll f now left ss) (hlt : ¬ f t ≤ now) : Coll f now (fun z => left z && !z.sameKey (ky (t : Int))) ss := by
  refine ⟨h.nd, fun x => ?_⟩
  rw [h.mem]
  simp only [Bool.and_eq_false_iff, Bool.not_eq_false', sameKy, decide_eq_true_iff]
  constructor
  · rintro ⟨h1, h2, h3⟩; exact ⟨h1, h2, .inl h3⟩
  · rintro ⟨h1, h2, h3 | h3⟩
    · exact ⟨h1, h2, h3⟩
    · obtain rfl : x = t := by omega
      exact absurd h2 hlt
theorem Coll.fin {f : Al} {now : Int} {left : Lit → Bool} {ss : List Nat} (h : Coll f now left ss) (hl : ∀ kl, left kl = false) : ∀ x, x ∈ ss ↔ (f x ≠ 0 ∧ f x ≤ now) := fun x => by
  rw [h.mem, hl]; simp
end Go.Proofs.Ytgfhpgbklcjooaa
