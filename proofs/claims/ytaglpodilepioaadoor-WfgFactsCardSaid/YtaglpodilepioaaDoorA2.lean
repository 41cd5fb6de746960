/- Graphs: how many, walks, ways, distances. No walk of the program's text. -/
import Derived.Test.YtaglpodilepioaaDoorA1
namespace Go.Proofs.YtaglpodilepioaaDoor
set_option linter.unusedSimpArgs false
set_option linter.unusedVariables false

/-- How many of the first numbers are in a set. -/
def cn (f : NS) : Nat → Nat
  | 0 => 0
  | k + 1 => cn f k + (if f k then 1 else 0)
section
variable {f g : NS} {m q : Nat}
theorem cn_le (f : NS) (m : Nat) : cn f m ≤ m := by
  induction m with
  | zero => exact Nat.le_refl _
  | succ m ih => unfold cn; split <;> omega
theorem cn_congr (h : ∀ j, j < m → f j = g j) : cn f m = cn g m := by
  induction m with
  | zero => rfl
  | succ m ih => unfold cn; rw [ih (fun j hj => h j (by omega)), h m (by omega)]
theorem cn_mono (h : ∀ j, j < m → f j = true → g j = true) : cn f m ≤ cn g m := by
  induction m with
  | zero => exact Nat.le_refl _
  | succ m ih =>
    have := ih (fun j hj => h j (by omega))
    have := h m (by omega)
    unfold cn
    cases hf : f m
    · simp; split <;> omega
    · rw [h m (by omega) hf]; simp; omega
theorem cn_lt (h : ∀ j, j < m → f j = true → g j = true) (hq : q < m) (hf : f q = false) (hg : g q = true) : cn f m < cn g m := by
  induction m with
  | zero => omega
  | succ m ih =>
    unfold cn
    by_cases e : q = m
    · subst e
      have := cn_mono (m := q) (fun j hj => h j (by omega))
      rw [hf, hg]; simp; omega
    · have h1 := ih (fun j hj => h j (by omega)) (by omega)
      cases hf' : f m
      · simp; split <;> omega
      · rw [h m (by omega) hf']; simp; omega
theorem cn_add (hq : q < m) (hf : f q = false) : cn (uni f (one q)) m = cn f m + 1 := by
  induction m with
  | zero => omega
  | succ m ih =>
    unfold cn
    by_cases e : q = m
    · subst e
      have : cn (uni f (one q)) q = cn f q := cn_congr fun j hj => by
        have : ¬ j = q := by omega
        simp [uni, one, this]
      rw [this, hf]; simp [uni, one]
    · have h1 := ih (by omega)
      have : uni f (one q) m = f m := by
        have : ¬ m = q := fun h => e h.symm
        simp [uni, one, this]
      rw [h1, this]; omega
theorem low_cn (f : NS) (m : Nat) : (low f m).length = cn f m := by
  induction m with
  | zero => rfl
  | succ m ih =>
    unfold low at ih ⊢
    rw [List.range_succ, List.filter_append, List.length_append, ih]
    rw [show cn f (m + 1) = cn f m + (if f m then 1 else 0) from rfl]
    cases h : f m <;> simp [h]
theorem setL_cn (f : NS) : (setL f).length = cn f 64 := low_cn f 64
theorem cn_all (h : cn f m = m) : ∀ j, j < m → f j = true := by
  intro j hj
  rcases hf : f j with _ | _
  · have := cn_lt (f := f) (g := fun _ => true) (m := m) (fun _ _ _ => rfl) hj hf rfl
    have := cn_le (fun _ => true) m
    omega
  · rfl
end
/-- No list without doubles is longer than one that has all of it. -/
theorem nodup_le {α : Type} [DecidableEq α] : ∀ (l m : List α), l.Nodup → (∀ x, x ∈ l → x ∈ m) → l.length ≤ m.length
  | [], m, _, _ => Nat.zero_le _
  | x :: l, m, h, k => by
    have h2 := List.nodup_cons.1 h
    have hx := k x (List.mem_cons_self ..)
    have := nodup_le l (m.erase x) h2.2 (fun y hy => (List.mem_erase_of_ne (fun e => h2.1 (by rw [← e]; exact hy))).2 (k y (List.mem_cons_of_mem _ hy)))
    rw [List.length_erase_of_mem hx] at this
    have : 0 < m.length := List.length_pos_of_mem hx
    simp only [List.length_cons]
    omega

/-- Walks of so many edges. -/
def wk (E : Gr) : Nat → Nat → Nat → Prop
  | 0, a, b => a = b
  | n + 1, a, b => ∃ k, k < 64 ∧ E a k = true ∧ wk E n k b
section
variable {E : Gr} {a b c m n : Nat}
theorem wk_add : ∀ (m : Nat) {a : Nat}, wk E m a c → wk E n c b → wk E (m + n) a b
  | 0, a, h, k => by
    obtain rfl : a = c := h
    rwa [Nat.zero_add]
  | m + 1, a, ⟨x, hx, he, h⟩, k => by
    rw [show m + 1 + n = (m + n) + 1 by omega]
    exact ⟨x, hx, he, wk_add m h k⟩
theorem wk_split : ∀ (m : Nat) {a : Nat}, wk E (m + n) a b → ∃ c, wk E m a c ∧ wk E n c b
  | 0, a, h => ⟨a, rfl, by rwa [Nat.zero_add] at h⟩
  | m + 1, a, h => by
    rw [show m + 1 + n = (m + n) + 1 by omega] at h
    obtain ⟨x, hx, he, h⟩ := h
    obtain ⟨c, h1, h2⟩ := wk_split m h
    exact ⟨c, ⟨x, hx, he, h1⟩, h2⟩
theorem wk_end : ∀ (m : Nat) {a : Nat}, wk E (m + 1) a b → b < 64
  | 0, a, ⟨x, hx, he, h⟩ => by
    obtain rfl : x = b := h
    exact hx
  | m + 1, a, ⟨x, hx, he, h⟩ => wk_end m h
theorem wk_one (hb : b < 64) (h : E a b = true) : wk E 1 a b := ⟨b, hb, h, rfl⟩
theorem wk_snoc (h : wk E m a c) (hb : b < 64) (he : E c b = true) : wk E (m + 1) a b := wk_add m h (wk_one hb he)
end
/-- One is reached from another one by an edge or more. -/
def Way (E : Gr) (a b : Nat) : Prop := ∃ n, wk E (n + 1) a b
open Classical in
noncomputable def wayS (E : Gr) (a : Nat) : NS := fun b => decide (Way E a b)
/-- The distance, of one edge or more. -/
def IsD (E : Gr) (b n d : Nat) : Prop := 1 ≤ d ∧ wk E d n b ∧ ∀ m, 1 ≤ m → m < d → ¬ wk E m n b
theorem IsD.one {E : Gr} {b n d d' : Nat} (h : IsD E b n d) (k : IsD E b n d') : d = d' := by
  rcases Nat.lt_trichotomy d d' with q | q | q
  · exact absurd h.2.1 (k.2.2 d h.1 q)
  · exact q
  · exact absurd k.2.1 (h.2.2 d' k.1 q)
theorem isD_of {E : Gr} {b n : Nat} : ∀ d, 1 ≤ d → wk E d n b → ∃ d', d' ≤ d ∧ IsD E b n d' := by
  intro d
  induction d using Nat.strongRecOn with
  | _ d ih =>
    intro h1 h2
    by_cases q : ∃ m, 1 ≤ m ∧ m < d ∧ wk E m n b
    · obtain ⟨m, hm, hd, hw⟩ := q
      obtain ⟨d', h3, h4⟩ := ih m hd hm hw
      exact ⟨d', by omega, h4⟩
    · exact ⟨d, Nat.le_refl _, h1, h2, fun m hm hd hw => q ⟨m, hm, hd, hw⟩⟩
open Classical in
noncomputable def dist (E : Gr) (b n : Nat) : Nat := if h : ∃ d, IsD E b n d then h.choose else 0
theorem dist_eq {E : Gr} {b n d : Nat} (h : IsD E b n d) : dist E b n = d := by
  have hx : ∃ d, IsD E b n d := ⟨d, h⟩
  unfold dist
  rw [dif_pos hx]
  exact hx.choose_spec.one h
theorem dist_no {E : Gr} {b n : Nat} (h : ∀ d, ¬ IsD E b n d) : dist E b n = 0 := by
  unfold dist
  rw [dif_neg (fun ⟨d, hd⟩ => h d hd)]
theorem dist_is {E : Gr} {b n : Nat} (h : dist E b n ≠ 0) : IsD E b n (dist E b n) := by
  by_cases hx : ∃ d, IsD E b n d
  · obtain ⟨d, hd⟩ := hx
    rw [dist_eq hd]; exact hd
  · exact absurd (dist_no fun d hd => hx ⟨d, hd⟩) h

/-- What 'reach' has found: R, and L still to look at. -/
structure Rch (E : Gr) (i : Nat) (R L : NS) : Prop where
  off : ∀ k, k < 64 → L k = true → R k = false
  way : ∀ k, k < 64 → R k = true ∨ L k = true → Way E i k
  beg : ∀ k, k < 64 → E i k = true → R k = true ∨ L k = true
  out : ∀ n, n < 64 → R n = true → ∀ k, k < 64 → E n k = true → R k = true ∨ L k = true
theorem Rch.at0 (E : Gr) (i : Nat) : Rch E i non (E i) :=
  ⟨fun _ _ _ => rfl, fun k hk h => ⟨0, wk_one hk (h.resolve_left (by simp [non]))⟩, fun k _ h => .inr h, fun n _ h => by simp [non] at h⟩
theorem Rch.step {E : Gr} {i : Nat} {R L : NS} (h : Rch E i R L) {n : Nat} (hn : IsL L n) : Rch E i (uni R (one n)) (sub (uni L (E n)) (uni R (one n))) := by
  obtain ⟨n1, n2, _⟩ := hn
  refine ⟨fun k hk hL => ?_, fun k hk hq => ?_, fun k hk he => ?_, fun x hx hR k hk he => ?_⟩
  · unfold sub at hL
    simp only [Bool.and_eq_true, Bool.not_eq_true'] at hL
    exact hL.2
  · rcases hq with hq | hq
    · simp only [uni, one, Bool.or_eq_true, decide_eq_true_eq] at hq
      rcases hq with hq | rfl
      · exact h.way k hk (.inl hq)
      · exact h.way k hk (.inr n2)
    · simp only [sub, uni, Bool.and_eq_true, Bool.or_eq_true] at hq
      rcases hq.1 with q | q
      · exact h.way k hk (.inr q)
      · obtain ⟨m, hm⟩ := h.way n n1 (.inr n2)
        exact ⟨m + 1, wk_snoc hm hk q⟩
  · rcases h.beg k hk he with q | q
    · left; simp [uni, q]
    · by_cases hr : uni R (one n) k = true
      · exact .inl hr
      · right; simp only [sub, Bool.and_eq_true]; exact ⟨by simp [uni, q], by simpa using hr⟩
  · by_cases hr : uni R (one n) k = true
    · exact .inl hr
    · right
      simp only [sub, Bool.and_eq_true]
      refine ⟨?_, by simpa using hr⟩
      simp only [uni, one, Bool.or_eq_true, decide_eq_true_eq] at hR
      rcases hR with hR | rfl
      · rcases h.out x hx hR k hk he with q | q
        · exact absurd (show uni R (one n) k = true by simp [uni, q]) hr
        · simp [uni, q]
      · simp [uni, he]
theorem Rch.fin {E : Gr} {i : Nat} {R L : NS} (h : Rch E i R L) (hL : ∀ k, k < 64 → L k = false) : ∀ k, k < 64 → R k = wayS E i k := by
  intro k hk
  have h1 : R k = true ↔ Way E i k := by
    refine ⟨fun q => h.way k hk (.inl q), fun ⟨m, hm⟩ => ?_⟩
    induction m generalizing k with
    | zero =>
      obtain ⟨x, hx, he, hxk⟩ := hm
      obtain rfl : x = k := hxk
      exact (h.beg x hx he).resolve_right (by rw [hL x hx]; simp)
    | succ m ih =>
      obtain ⟨c, hc, x, hx, he, hxk⟩ := wk_split (m + 1) (n := 1) hm
      obtain rfl : x = k := hxk
      have hc64 := wk_end m hc
      exact (h.out c hc64 (ih c hc64 ⟨m, hc⟩ hc) x hx he).resolve_right (by rw [hL x hx]; simp)
  unfold wayS
  cases hr : R k
  · have : ¬ Way E i k := fun q => by rw [h1.2 q] at hr; cases hr
    simp [this]
  · simp [h1.1 hr]
theorem Rch.more {E : Gr} {i : Nat} {R L : NS} (h : Rch E i R L) {n : Nat} (hn : IsL L n) : cn (uni R (one n)) 64 = cn R 64 + 1 := cn_add hn.1 (h.off n hn.1 hn.2.1)
end Go.Proofs.YtaglpodilepioaaDoor
