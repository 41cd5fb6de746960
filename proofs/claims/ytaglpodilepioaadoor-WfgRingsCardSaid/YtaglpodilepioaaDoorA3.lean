/- Distances as the program finds them; the least ring; orders. No walk of the program's text. -/
import Derived.Test.YtaglpodilepioaaDoorA2
namespace Go.Proofs.YtaglpodilepioaaDoor
set_option linter.unusedSimpArgs false
set_option linter.unusedVariables false

/-- What 'away' has found ahead of the round e: the labels a, and the nodes that were found last. -/
structure Aw (E : Gr) (b e : Nat) (a : Nat → Nat) (near : NS) : Prop where
  pos : 1 ≤ e
  lab : ∀ n, n < 64 → a n ≠ 0 → IsD E b n (a n) ∧ a n < e
  all : ∀ n, n < 64 → ∀ d, IsD E b n d → d < e → a n = d
  nea : ∀ n, n < 64 → (near n = true ↔ (e = 1 ∧ n = b) ∨ (2 ≤ e ∧ IsD E b n (e - 1)))
  cnt : (∃ n, n < 64 ∧ near n = true) → e ≤ cn (fun n => decide (a n ≠ 0)) 64 + 1
def hitS (E : Gr) (a : Nat → Nat) (near : NS) : NS := fun n => decide (a n = 0) && decide (wv (cap (E n) near) ≠ 0)
def prt (E : Gr) (a : Nat → Nat) (near : NS) (e k : Nat) : Nat → Nat := fun n => if n < k ∧ hitS E a near n = true then e else a n
def fnd (E : Gr) (a : Nat → Nat) (near : NS) (k : Nat) : NS := fun n => decide (n < k) && hitS E a near n
theorem cap_ne {f g : NS} : wv (cap f g) ≠ 0 ↔ ∃ k, k < 64 ∧ f k = true ∧ g k = true := by
  constructor
  · intro h
    apply Classical.byContradiction
    intro q
    refine h (wv_zero.2 fun j hj => ?_)
    unfold cap
    cases hf : f j
    · rfl
    · cases hg : g j
      · rfl
      · exact absurd ⟨j, hj, hf, hg⟩ q
  · rintro ⟨k, hk, hf, hg⟩ h
    have := wv_zero.1 h k hk
    simp [cap, hf, hg] at this
section
variable {E : Gr} {b e : Nat} {a : Nat → Nat} {near : NS}
theorem Aw.at0 (hb : b < 64) : Aw E b 1 (fun _ => 0) (one b) :=
  ⟨Nat.le_refl _, fun n _ h => absurd rfl h, fun n _ d h hd => absurd h.1 (by omega), fun n hn => by
    simp only [one, decide_eq_true_eq, true_and]
    exact ⟨fun h => .inl h, fun h => h.elim id (fun q => by omega)⟩, fun _ => by omega⟩
theorem Aw.hit (h : Aw E b e a near) {n : Nat} (hn : n < 64) : hitS E a near n = true ↔ IsD E b n e := by
  unfold hitS
  simp only [Bool.and_eq_true, decide_eq_true_eq]
  rw [cap_ne]
  constructor
  · rintro ⟨h0, k, hk, he, hnr⟩
    have hw : wk E e n b := by
      rcases (h.nea k hk).1 hnr with ⟨q, rfl⟩ | ⟨q, hd⟩
      · subst q; exact wk_one hk he
      · rw [show e = (e - 1) + 1 by omega]; exact ⟨k, hk, he, hd.2.1⟩
    refine ⟨h.pos, hw, fun m hm hme hw' => ?_⟩
    obtain ⟨d, hd, hI⟩ := isD_of m hm hw'
    have := h.all n hn d hI (by omega)
    have := hI.1
    omega
  · intro hI
    have h0 : a n = 0 := by
      apply Classical.byContradiction
      intro q
      obtain ⟨h1, h2⟩ := h.lab n hn q
      have := h1.one hI
      omega
    refine ⟨h0, ?_⟩
    obtain ⟨h1, hw, hmin⟩ := hI
    rw [show e = (e - 1) + 1 by omega] at hw
    obtain ⟨k, hk, he, hw⟩ := hw
    refine ⟨k, hk, he, (h.nea k hk).2 ?_⟩
    by_cases q : e = 1
    · subst q
      exact .inl ⟨rfl, hw⟩
    · refine .inr ⟨by omega, by omega, hw, fun m hm hme hw' => ?_⟩
      exact hmin (m + 1) (by omega) (by omega) ⟨k, hk, he, hw'⟩
theorem Aw.step (h : Aw E b e a near) (hne : ∃ n, n < 64 ∧ near n = true) : Aw E b (e + 1) (prt E a near e 64) (fnd E a near 64) := by
  have hp := h.pos
  have hv : ∀ n, n < 64 → prt E a near e 64 n = if hitS E a near n = true then e else a n := fun n hn => by unfold prt; simp [hn]
  refine ⟨by omega, fun n hn h0 => ?_, fun n hn d hI hd => ?_, fun n hn => ?_, fun ⟨q, hq, hf⟩ => ?_⟩
  · rw [hv n hn] at h0 ⊢
    by_cases q : hitS E a near n = true
    · rw [if_pos q]; exact ⟨(h.hit hn).1 q, by omega⟩
    · rw [if_neg q] at h0 ⊢
      have := h.lab n hn h0
      exact ⟨this.1, by omega⟩
  · rw [hv n hn]
    by_cases q : d = e
    · subst q; rw [if_pos ((h.hit hn).2 hI)]
    · have h1 := h.all n hn d hI (by omega)
      have : ¬ hitS E a near n = true := fun x => by
        have := ((h.hit hn).1 x).one hI
        omega
      rw [if_neg this, h1]
  · unfold fnd
    simp only [hn, decide_true, Bool.true_and]
    rw [h.hit hn]
    exact ⟨fun x => .inr ⟨by omega, x⟩, fun x => x.elim (fun q => by omega) (fun q => q.2)⟩
  · have h1 := h.cnt hne
    unfold fnd at hf
    simp only [hq, decide_true, Bool.true_and] at hf
    have h2 := cn_lt (f := fun n => decide (a n ≠ 0)) (g := fun n => decide (prt E a near e 64 n ≠ 0)) (m := 64) (q := q)
      (fun j hj hx => by
        rw [decide_eq_true_eq] at hx ⊢
        rw [hv j hj]
        split <;> omega) hq
      (by
        have : a q = 0 := by
          unfold hitS at hf
          simp only [Bool.and_eq_true, decide_eq_true_eq] at hf
          exact hf.1
        simp [this])
      (by rw [decide_eq_true_eq, hv q hq, if_pos hf]; omega)
    omega
theorem Aw.fin (h : Aw E b e a near) (hb : b < 64) (hne : ∀ n, n < 64 → near n = false) : ∀ n, n < 64 → a n = dist E b n := by
  intro n hn
  have hp := h.pos
  by_cases hx : ∃ d, IsD E b n d
  · obtain ⟨d, hI⟩ := hx
    rw [dist_eq hI]
    by_cases q : d < e
    · exact h.all n hn d hI q
    · exfalso
      by_cases q1 : e = 1
      · have := hne b hb
        rw [(h.nea b hb).2 (.inl ⟨q1, rfl⟩)] at this
        cases this
      · obtain ⟨h1, hw, hmin⟩ := hI
        rw [show d = (d - (e - 1)) + (e - 1) by omega] at hw
        obtain ⟨c, hw1, hw2⟩ := wk_split _ hw
        have hc : c < 64 := by
          rw [show d - (e - 1) = (d - e) + 1 by omega] at hw1
          exact wk_end _ hw1
        have := hne c hc
        rw [(h.nea c hc).2 (.inr ⟨by omega, by omega, hw2, fun m hm hme hw' => hmin (d - (e - 1) + m) (by omega) (by omega) (wk_add _ hw1 hw')⟩)] at this
        cases this
  · have h0 := dist_no fun d hd => hx ⟨d, hd⟩
    rw [h0]
    apply Classical.byContradiction
    intro q
    exact hx ⟨_, (h.lab n hn q).1⟩
theorem Aw.low (h : Aw E b e a near) (hne : ∃ n, n < 64 ∧ near n = true) : e ≤ 65 := by
  have := h.cnt hne
  have := cn_le (fun n => decide (a n ≠ 0)) 64
  omega
theorem fnd_step {k : Nat} (hk : k < 64) : (hitS E a near k = true → (∀ n, prt E a near e (k + 1) n = if n = k then e else prt E a near e k n) ∧ ∀ n, n < 64 → uni (fnd E a near k) (one k) n = fnd E a near (k + 1) n) ∧
    (hitS E a near k = false → prt E a near e (k + 1) = prt E a near e k ∧ fnd E a near (k + 1) = fnd E a near k) := by
  refine ⟨fun h => ⟨fun n => ?_, fun n _ => ?_⟩, fun h => ⟨?_, ?_⟩⟩
  · unfold prt
    by_cases q : n = k
    · subst q; simp [h]
    · have : n < k + 1 ↔ n < k := by omega
      simp [q, this]
  · unfold fnd uni one
    by_cases q : n = k
    · subst q; simp [h]
    · have : n < k + 1 ↔ n < k := by omega
      simp [q, this]
  · funext n
    unfold prt
    by_cases q : n = k
    · subst q; simp [h]
    · have : n < k + 1 ↔ n < k := by omega
      simp [q, this]
  · funext n
    unfold fnd
    by_cases q : n = k
    · subst q; simp [h]
    · have : n < k + 1 ↔ n < k := by omega
      simp [q, this]
theorem prt_at {k : Nat} : prt E a near e k k = a k := by unfold prt; simp
theorem prt_0 : prt E a near e 0 = a := by funext n; unfold prt; simp
theorem fnd_0 : fnd E a near 0 = non := by funext n; unfold fnd non; simp
end

/-- The least number, and the length, of the rings that begin below k. -/
def Bst (E : Gr) (k l e : Nat) : Prop := (e = 0 ∧ ∀ j, j < k → dist E j j = 0) ∨ (0 < e ∧ l < k ∧ dist E l l = e ∧ ∀ j, j < k → dist E j j ≠ 0 → e ≤ dist E j j ∧ (j < l → e < dist E j j))
theorem Bst.take {E : Gr} {k l e : Nat} (h : Bst E k l e) (h0 : dist E k k ≠ 0) (hc : e = 0 ∨ dist E k k < e) : Bst E (k + 1) k (dist E k k) := by
  refine .inr ⟨by omega, by omega, rfl, fun j hj hd => ?_⟩
  by_cases q : j = k
  · subst q; exact ⟨Nat.le_refl _, fun h => by omega⟩
  · rcases h with ⟨h1, h2⟩ | ⟨h1, h2, h3, h4⟩
    · exact absurd (h2 j (by omega)) hd
    · have := h4 j (by omega) hd
      exact ⟨by omega, fun _ => by omega⟩
theorem Bst.keep {E : Gr} {k l e : Nat} (h : Bst E k l e) (hc : dist E k k = 0 ∨ (e ≠ 0 ∧ ¬ dist E k k < e)) : Bst E (k + 1) l e := by
  rcases h with ⟨h1, h2⟩ | ⟨h1, h2, h3, h4⟩
  · refine .inl ⟨h1, fun j hj => ?_⟩
    by_cases q : j = k
    · subst q; exact hc.resolve_right (fun q => q.1 h1)
    · exact h2 j (by omega)
  · refine .inr ⟨h1, by omega, h3, fun j hj hd => ?_⟩
    by_cases q : j = k
    · subst q
      have := (hc.resolve_left hd).2
      exact ⟨by omega, fun h => by omega⟩
    · exact h4 j (by omega) hd
/-- On to each next node whose distance is one less. -/
noncomputable def gr (E : Gr) (b : Nat) : Nat → Nat → List Nat
  | 0, _ => []
  | f + 1, t => match (setL (E t)).find? (fun k => decide (dist E b k = f + 1)) with
    | some k => k :: gr E b f k
    | none => gr E b f t
/-- What the program's Ring tells. -/
def RingIs (E : Gr) (L : List Nat) : Prop := (L = [] ∧ ∀ j, j < 64 → dist E j j = 0) ∨ ∃ l e, 0 < e ∧ Bst E 64 l e ∧ L = l :: gr E l (e - 1) l
/-- The document's search: the ring begins with s, t stands behind it, so many are to come. -/
def lgr (E : Gr) (s : Nat) : Nat → List Nat → Option (List Nat)
  | 0, t => if E (t.getLastD s) s = true then some (s :: t) else none
  | f + 1, t => (setL (E (t.getLastD s))).findSome? fun k => if decide (s < k) && !(s :: t).contains k then lgr E s f (t ++ [k]) else none
def RefRing (E : Gr) (many : Nat) (L : List Nat) : Prop :=
  (L = [] ∧ ∀ z, 1 ≤ z → z ≤ many → ∀ s, s < 64 → lgr E s (z - 1) [] = none) ∨
  ∃ z s, 1 ≤ z ∧ z ≤ many ∧ s < 64 ∧ lgr E s (z - 1) [] = some L ∧ (∀ z', 1 ≤ z' → z' < z → ∀ s', s' < 64 → lgr E s' (z' - 1) [] = none) ∧ ∀ s', s' < s → lgr E s' (z - 1) [] = none
theorem lgr_sound {E : Gr} {s : Nat} (hs : s < 64) : ∀ (f : Nat) (t r : List Nat), lgr E s f t = some r → wk E (f + 1) (t.getLastD s) s
  | 0, t, r, h => by
    unfold lgr at h
    split at h
    · rename_i q; exact wk_one hs q
    · cases h
  | f + 1, t, r, h => by
    unfold lgr at h
    obtain ⟨k, hk, hr⟩ := List.exists_of_findSome?_eq_some h
    split at hr
    · have := lgr_sound hs f _ r hr
      rw [List.getLastD_concat] at this
      exact ⟨k, (mem_setL.1 hk).1, (mem_setL.1 hk).2, this⟩
    · cases hr
theorem some_find {α β : Type} {F : α → Option β} {p : α → Bool} {k : α} {r : β} : ∀ (l : List α), (∀ x, x ∈ l → p x = false → F x = none) → l.find? p = some k → F k = some r → l.findSome? F = some r
  | [], _, h, _ => by simp at h
  | x :: l, hn, h, hF => by
    rw [List.findSome?_cons]
    by_cases q : p x = true
    · rw [List.find?_cons_of_pos q] at h
      obtain rfl : x = k := Option.some.inj h
      rw [hF]
    · rw [List.find?_cons_of_neg q] at h
      rw [hn x (List.mem_cons_self ..) (by simpa using q)]
      exact some_find l (fun y hy => hn y (List.mem_cons_of_mem _ hy)) h hF
theorem lgr_exact {E : Gr} {s d : Nat} (hs : s < 64) (hlow : ∀ j, j < s → ¬ wk E d j j) (hg : ∀ j, j < 64 → ∀ m, 1 ≤ m → m < d → ¬ wk E m j j) :
    ∀ (f : Nat) (t : List Nat), t.length + 1 + f = d → wk E t.length s (t.getLastD s) → (∀ x, x ∈ s :: t → ∃ j, j ≤ t.length ∧ wk E j x (t.getLastD s)) →
      wk E (f + 1) (t.getLastD s) s → lgr E s f t = some (s :: (t ++ gr E s f (t.getLastD s)))
  | 0, t, hl, hw, hp, hc => by
    obtain ⟨k, hk, he, h⟩ := hc
    obtain rfl : k = s := h
    unfold lgr gr
    rw [if_pos he, List.append_nil]
  | f + 1, t, hl, hw, hp, hc => by
    have hiff : ∀ k, k ∈ setL (E (t.getLastD s)) → (wk E (f + 1) k s ↔ dist E s k = f + 1) := by
      intro k hk
      obtain ⟨hk, he⟩ := mem_setL.1 hk
      constructor
      · intro h
        refine dist_eq ⟨by omega, h, fun m hm hmf hw' => ?_⟩
        exact hg s hs (t.length + 1 + m) (by omega) (by omega) (wk_add _ (wk_snoc hw hk he) hw')
      · intro h
        have := dist_is (E := E) (b := s) (n := k) (by omega)
        rw [h] at this
        exact this.2.1
    obtain ⟨k0, hk0, he0, hw0⟩ := hc
    have hk0' := mem_setL.2 ⟨hk0, he0⟩
    cases hfd : (setL (E (t.getLastD s))).find? (fun k => decide (dist E s k = f + 1)) with
    | none =>
      have := List.find?_eq_none.1 hfd k0 hk0'
      simp only [decide_eq_true_eq] at this
      exact absurd ((hiff k0 hk0').1 hw0) this
    | some k =>
      have hkm := List.mem_of_find?_eq_some hfd
      have hkd : dist E s k = f + 1 := by simpa using List.find?_some hfd
      obtain ⟨hk, he⟩ := mem_setL.1 hkm
      have hwk := (hiff k hkm).2 hkd
      have hnot : k ∉ s :: t := fun hm => by
        obtain ⟨j, hj, hwj⟩ := hp k hm
        exact hg k hk (j + 1) (by omega) (by omega) (wk_snoc hwj hk he)
      have hsk : s < k := by
        rcases Nat.lt_trichotomy s k with q | q | q
        · exact q
        · exact absurd (List.mem_cons.2 (.inl q.symm)) hnot
        · refine absurd ?_ (hlow k q)
          have := wk_add _ hwk (wk_snoc hw hk he)
          rwa [show f + 1 + (t.length + 1) = d by omega] at this
      have hgr : gr E s (f + 1) (t.getLastD s) = k :: gr E s f k := by rw [gr, hfd]
      have hlast : (t ++ [k]).getLastD s = k := List.getLastD_concat ..
      have ih := lgr_exact hs hlow hg f (t ++ [k]) (by simp; omega) (by rw [hlast, List.length_append]; exact wk_snoc hw hk he)
        (fun x hx => by
          rw [hlast]
          rw [← List.cons_append] at hx
          rcases List.mem_append.1 hx with q | q
          · obtain ⟨j, hj, hwj⟩ := hp x q
            exact ⟨j + 1, by simp; omega, wk_snoc hwj hk he⟩
          · rw [List.mem_singleton.1 q]
            exact ⟨0, by omega, rfl⟩)
        (by rw [hlast]; exact hwk)
      rw [hgr]
      unfold lgr
      refine some_find (k := k) _ (fun x hx hpx => ?_) hfd ?_
      · have h1 : ¬ dist E s x = f + 1 := by simpa using hpx
        split
        · cases hq : lgr E s f (t ++ [x]) with
          | none => rfl
          | some r =>
            have := lgr_sound hs _ _ _ hq
            rw [List.getLastD_concat] at this
            exact absurd ((hiff x hx).1 this) h1
        · rfl
      · have h2 : (s :: t).contains k = false := by simpa using hnot
        rw [h2]
        simp only [hsk, decide_true, Bool.true_and, Bool.not_false, if_true]
        rw [ih, hlast]
        simp
end Go.Proofs.YtaglpodilepioaaDoor
