/- Calls in time: which may be next, the first order of them all, and that a set of calls leads to one state alone. Numbers only: no walk. -/
import Derived.Test.YtpielknodjppgaaA1
import Derived.Test.YtpielknodjppgaaGrow
import Derived.Test.YtpielknodjppgaaM1
import Derived.BigRegion
import Derived.BigQuiet
import Derived.Laws.BitsAllLaws
import Derived.Test.YtpielknodjppgaaP1
namespace Go.Proofs.Ytpielknodjppgaa
set_option linter.unusedSimpArgs false
set_option linter.unusedVariables false
/-- A call. -/
structure Cl where
  k : Int
  t : Int
  o : Int
  a : Int
  r : Int
  f : Int
  u : Int
instance : Inhabited Cl := ⟨⟨0, 0, 0, 0, 0, 0, 0⟩⟩
def cntE (k a r : Int) : Bool := if k = 1 ∨ k = 2 ∨ k = 3 ∨ k = 9 ∨ k = 11 ∨ k = 12 then true else if k = 8 then a == -1 else if k = 10 then r == 0 else false
def mayC (c : Cl) : Bool := cntE c.k c.a c.r && decide (c.f < c.u)
def acc (S : St) (c : Cl) : Bool := apB S c.k c.t c.o c.a c.r
def nxt (S : St) (c : Cl) : St := apS S c.k c.t c.o c.a c.r
def freeB (n : Nat) (g : Nat → Cl) (d k : Nat) : Bool := !d.testBit k && (List.range n).all fun i => d.testBit i || !decide ((g i).u < (g k).f)
theorem free_iff {n : Nat} {g : Nat → Cl} {d k : Nat} : freeB n g d k = true ↔ d.testBit k = false ∧ ∀ i, i < n → d.testBit i = true ∨ ¬ (g i).u < (g k).f := by
  unfold freeB
  simp [List.all_eq_true]
/-- The first order of those that are left: of m more. -/
def pick (n : Nat) (g : Nat → Cl) : Nat → St → Nat → Option (List Nat)
  | 0, _, _ => some []
  | m + 1, S, d => (List.range n).findSome? fun k => if freeB n g d k && acc S (g k) then (pick n g m (nxt S (g k)) (d ||| 2 ^ k)).map (k :: ·) else none
/-- What the one at a place gives. -/
def tryK (n : Nat) (g : Nat → Cl) (m : Nat) (S : St) (d k : Nat) : Option (List Nat) := if freeB n g d k && acc S (g k) then (pick n g m (nxt S (g k)) (d ||| 2 ^ k)).map (k :: ·) else none
theorem pick_succ (n : Nat) (g : Nat → Cl) (m : Nat) (S : St) (d : Nat) : pick n g (m + 1) S d = (List.range n).findSome? (tryK n g m S d) := rfl
theorem find_none {α : Type} {T : Nat → Option α} : ∀ {n : Nat}, (∀ i, i < n → T i = none) → (List.range n).findSome? T = none
  | 0, _ => rfl
  | n + 1, h => by
    rw [List.range_succ, List.findSome?_append, find_none fun i hi => h i (by omega)]
    simp [h n (by omega)]
theorem find_some {α : Type} {T : Nat → Option α} {n j : Nat} {x : α} (hj : j < n) (h : ∀ i, i < j → T i = none) (e : T j = some x) : (List.range n).findSome? T = some x := by
  induction n with
  | zero => omega
  | succ n ih =>
    rw [List.range_succ, List.findSome?_append]
    by_cases q : j = n
    · subst q
      rw [find_none h]
      simp [e]
    · rw [ih (by omega)]; rfl
theorem find_of {α : Type} {T : Nat → Option α} {n : Nat} {x : α} (h : (List.range n).findSome? T = some x) : ∃ j, j < n ∧ T j = some x := by
  obtain ⟨j, hj, e⟩ := List.exists_of_findSome?_eq_some h
  exact ⟨j, List.mem_range.1 hj, e⟩
/-- A way that goes, from some state and some calls on. -/
def seqB (n : Nat) (g : Nat → Cl) : St → Nat → List Nat → Prop
  | _, _, [] => True
  | S, d, k :: l => (k < n ∧ freeB n g d k = true ∧ acc S (g k) = true) ∧ seqB n g (nxt S (g k)) (d ||| 2 ^ k) l
theorem pick_sound {n : Nat} {g : Nat → Cl} : ∀ (m : Nat) (S : St) (d : Nat) (out : List Nat), pick n g m S d = some out → out.length = m ∧ seqB n g S d out
  | 0, S, d, out, h => by cases h; exact ⟨rfl, trivial⟩
  | m + 1, S, d, out, h => by
    rw [pick_succ] at h
    obtain ⟨j, hj, e⟩ := find_of h
    unfold tryK at e
    split at e
    · rename_i hb
      simp only [Bool.and_eq_true] at hb
      cases q : pick n g m (nxt S (g j)) (d ||| 2 ^ j) with
      | none => rw [q] at e; cases e
      | some l =>
        rw [q] at e
        cases e
        obtain ⟨h1, h2⟩ := pick_sound m _ _ _ q
        exact ⟨by simp [h1], ⟨hj, hb⟩, h2⟩
    · cases e
theorem pick_has {n : Nat} {g : Nat → Cl} : ∀ (m : Nat) (S : St) (d : Nat) (out : List Nat), out.length = m → seqB n g S d out → pick n g m S d ≠ none
  | 0, S, d, out, _, _ => by simp [pick]
  | m + 1, S, d, [], h, _ => by simp at h
  | m + 1, S, d, k :: l, h, hs => by
    intro q
    rw [pick_succ, List.findSome?_eq_none_iff] at q
    have := q k (List.mem_range.2 hs.1.1)
    unfold tryK at this
    rw [hs.1.2.1, hs.1.2.2, if_pos (show (true && true) = true from rfl)] at this
    exact pick_has m _ _ l (by simpa using h) hs.2 (by simpa using this)
/-- What a place of such a way tells. -/
theorem seq_at {n : Nat} {g : Nat → Cl} : ∀ {S : St} {d : Nat} {l : List Nat}, seqB n g S d l → ∀ j (hj : j < l.length), l[j] < n ∧ l[j] ∉ l.take j ∧ d.testBit l[j] = false ∧ ∀ x, x < n → d.testBit x = true ∨ x ∈ l.take j ∨ ¬ (g x).u < (g l[j]).f
  | S, d, [], _, j, hj => by simp at hj
  | S, d, k :: l, h, 0, hj => by
    obtain ⟨⟨h1, h2, h3⟩, h4⟩ := h
    obtain ⟨q1, q2⟩ := free_iff.1 h2
    exact ⟨h1, by simp, q1, fun x hx => (q2 x hx).elim .inl fun z => .inr (.inr z)⟩
  | S, d, k :: l, h, j + 1, hj => by
    obtain ⟨⟨h1, h2, h3⟩, h4⟩ := h
    obtain ⟨q1, q2, q3, q4⟩ := seq_at h4 j (by simpa using hj)
    have hb : ∀ x, (d ||| 2 ^ k).testBit x = (d.testBit x || decide (k = x)) := fun x => by rw [Nat.testBit_or, Nat.testBit_two_pow]
    rw [hb] at q3
    simp only [Bool.or_eq_false_iff, decide_eq_false_iff_not] at q3
    refine ⟨q1, ?_, q3.1, fun x hx => ?_⟩
    · simp only [List.getElem_cons_succ, List.take_succ_cons, List.mem_cons, not_or]
      exact ⟨fun e => q3.2 e.symm, q2⟩
    · simp only [List.getElem_cons_succ, List.take_succ_cons, List.mem_cons]
      rcases q4 x hx with z | z | z
      · rw [hb] at z
        simp only [Bool.or_eq_true, decide_eq_true_eq] at z
        rcases z with z | z
        · exact .inl z
        · exact .inr (.inl (.inl z.symm))
      · exact .inr (.inl (.inr z))
      · exact .inr (.inr z)
/-- The states, as calls stand. -/
def run (g : Nat → Cl) (S : St) : Nat → St
  | 0 => S
  | j + 1 => nxt (run g S j) (g j)
theorem run_seq {n : Nat} {g : Nat → Cl} : ∀ {S : St} {d : Nat} {l : List Nat}, seqB n g S d l → ∀ j (hj : j < l.length), acc (run (fun i => g (l.getD i 0)) S j) (g l[j]) = true := by
  intro S d l
  induction l generalizing S d with
  | nil => intro _ j hj; simp at hj
  | cons k l ih =>
    intro h j hj
    obtain ⟨⟨h1, h2, h3⟩, h4⟩ := h
    have e : ∀ j, run (fun i => g ((k :: l).getD i 0)) S (j + 1) = run (fun i => g (l.getD i 0)) (nxt S (g k)) j := by
      intro j
      induction j with
      | zero => rfl
      | succ j ih =>
        show nxt (run (fun i => g ((k :: l).getD i 0)) S (j + 1)) (g ((k :: l).getD (j + 1) 0)) = _
        rw [ih]; rfl
    cases j with
    | zero => exact h3
    | succ j => rw [e]; exact ih h4 j (by simpa using hj)
/-- Those that are taken as they stand, by times that rise. -/
theorem in_order {n : Nat} {g : Nat → Cl} {S : St} (ha : ∀ i, i < n → acc (run g S i) (g i) = true) (hf : ∀ i j, i ≤ j → j < n → ¬ (g j).u < (g i).f) : pick n g n S 0 ≠ none := by
  have key : ∀ m j, j + m = n → seqB n g (run g S j) (2 ^ j - 1) (List.range' j m) := by
    intro m
    induction m with
    | zero => intro j _; trivial
    | succ m ih =>
      intro j hj
      have e : (2 ^ j - 1) ||| 2 ^ j = 2 ^ (j + 1) - 1 := by
        apply Nat.eq_of_testBit_eq
        intro i
        rw [Nat.testBit_or, Nat.testBit_two_pow_sub_one, Nat.testBit_two_pow_sub_one, Nat.testBit_two_pow]
        by_cases q : i = j
        · subst q; simp
        · have : decide (j = i) = false := by simp; omega
          rw [this, Bool.or_false]
          congr 1
          simp; omega
      rw [List.range'_succ]
      refine ⟨⟨by omega, free_iff.2 ⟨by rw [Nat.testBit_two_pow_sub_one]; simp, fun i hi => ?_⟩, ha j (by omega)⟩, ?_⟩
      · rw [Nat.testBit_two_pow_sub_one]
        by_cases q : i < j
        · left; simpa using q
        · right; exact hf j i (by omega) hi
      · rw [e]; exact ih (j + 1) (by omega)
  have h0 := key n 0 (by omega)
  exact pick_has n S 0 (List.range' 0 n) (by simp) (by simpa [run] using h0)
/-- How far the model takes them. -/
def Ser (g : Nat → Cl) (n : Nat) (S : St) (j : Nat) (b : Bool) : Prop := (∀ i, i < j → acc (run g S i) (g i) = true) ∧ ((b = true ∧ j = n) ∨ (b = false ∧ j < n ∧ acc (run g S j) (g j) = false))
theorem ser_one {g : Nat → Cl} {n : Nat} {S : St} {j j' : Nat} {b b' : Bool} (h : Ser g n S j b) (h' : Ser g n S j' b') : j = j' ∧ b = b' := by
  obtain ⟨h1, h2⟩ := h
  obtain ⟨h3, h4⟩ := h'
  rcases h2 with ⟨rfl, rfl⟩ | ⟨rfl, h5, h6⟩
  · rcases h4 with ⟨rfl, rfl⟩ | ⟨rfl, h7, h8⟩
    · exact ⟨rfl, rfl⟩
    · rw [h1 _ h7] at h8; cases h8
  · rcases h4 with ⟨rfl, rfl⟩ | ⟨rfl, h7, h8⟩
    · rw [h3 _ h5] at h6; cases h6
    · refine ⟨?_, rfl⟩
      rcases Nat.lt_trichotomy j j' with z | z | z
      · rw [h3 _ z] at h6; cases h6
      · exact z
      · rw [h1 _ z] at h8; cases h8
theorem ser_le {g : Nat → Cl} {n : Nat} {S : St} {j : Nat} {b : Bool} (h : Ser g n S j b) : j ≤ n := by rcases h.2 with h | h <;> omega
end Go.Proofs.Ytpielknodjppgaa

namespace Go.Proofs.Ytpielknodjppgaa
set_option linter.unusedSimpArgs false
set_option linter.unusedVariables false
/-- How often a thread owns an object. -/
def cOf (S : St) (t o : Nat) : Int := if S.own o = (t : Int) then S.cnt o else 0
/-- What a call makes of that. -/
def dl (c : Cl) (t o : Nat) : Int := if c.r = 0 ∧ c.t.toNat = t ∧ c.o.toNat = o then (if c.k = 1 ∨ c.k = 2 then 1 else if c.k = 3 then -1 else 0) else 0
def sm (F : Nat → Int) (d : Nat) : Nat → Int
  | 0 => 0
  | n + 1 => sm F d n + if d.testBit n then F n else 0
def bts (d : Nat) : Nat → Nat
  | 0 => 0
  | n + 1 => bts d n + if d.testBit n then 1 else 0
theorem bts_le (d n : Nat) : bts d n ≤ n := by
  induction n with
  | zero => exact Nat.le_refl _
  | succ n ih => unfold bts; split <;> omega
theorem bt_or (d k i : Nat) : (d ||| 2 ^ k).testBit i = (d.testBit i || decide (k = i)) := by rw [Nat.testBit_or, Nat.testBit_two_pow]
theorem sm_or (F : Nat → Int) {d k : Nat} (h : d.testBit k = false) : ∀ n, sm F (d ||| 2 ^ k) n = sm F d n + if k < n then F k else 0
  | 0 => by simp [sm]
  | n + 1 => by
    unfold sm
    rw [sm_or F h n, bt_or]
    by_cases q : k = n
    · subst q
      rw [h, if_neg (Nat.lt_irrefl _), if_pos (Nat.lt_succ_self _)]
      simp
    · have : decide (k = n) = false := by simpa using q
      rw [this, Bool.or_false]
      by_cases q2 : k < n
      · rw [if_pos q2, if_pos (c := k < n + 1) (by omega)]; omega
      · rw [if_neg q2, if_neg (c := k < n + 1) (by omega)]; omega
theorem bts_or {d k : Nat} (h : d.testBit k = false) : ∀ n, bts (d ||| 2 ^ k) n = bts d n + if k < n then 1 else 0
  | 0 => by simp [bts]
  | n + 1 => by
    unfold bts
    rw [bts_or h n, bt_or]
    by_cases q : k = n
    · subst q
      rw [h, if_neg (Nat.lt_irrefl _), if_pos (Nat.lt_succ_self _)]
      simp
    · have : decide (k = n) = false := by simpa using q
      rw [this, Bool.or_false]
      by_cases q2 : k < n
      · rw [if_pos q2, if_pos (c := k < n + 1) (by omega)]; omega
      · rw [if_neg q2, if_neg (c := k < n + 1) (by omega)]; omega
/-- What a set of calls leads to. -/
structure InvK (n : Nat) (g : Nat → Cl) (N M K : Nat) (m d : Nat) (S : St) : Prop where
  ok : Ok S
  hN : S.N = N
  hM : S.M = M
  hK : S.K = K
  lt : d < 2 ^ n
  m : m = bts d n
  c : ∀ t o : Nat, cOf S t o = sm (fun i => dl (g i) t o) d n
  h1 : ∀ i, i < n → d.testBit i = true → (g i).k = 10 → S.hsh (g i).o.toNat = (g i).a ∧ (g i).a ≠ 0
  h0 : ∀ o, (∀ i, i < n → d.testBit i = true → (g i).k = 10 → (g i).o.toNat ≠ o) → S.hsh o = 0
  f1 : ∀ t, S.flg t = true ↔ ∃ i, i < n ∧ d.testBit i = true ∧ (g i).k = 12 ∧ (g i).a.toNat = t
  w0 : ∀ x y, S.wt x y = none
  l0 : ∀ x y, S.lf x y = none
theorem inv_0 {N M K : Nat} (h : okN N M K = true) (n : Nat) (g : Nat → Cl) : InvK n g N M K 0 0 (st0 N M K) := by
  have e : ∀ n, bts 0 n = 0 := fun n => by
    induction n with
    | zero => rfl
    | succ n ih => unfold bts; rw [ih]; simp
  have e2 : ∀ F n, sm F 0 n = 0 := fun F n => by
    induction n with
    | zero => rfl
    | succ n ih => unfold sm; rw [ih]; simp
  refine ⟨ok_st0 h, rfl, rfl, rfl, Nat.two_pow_pos n, (e n).symm, fun t o => ?_, fun i _ hb => by simp at hb, fun _ _ => rfl, fun t => ⟨fun q => (by cases q), fun ⟨i, _, hb, _⟩ => (by simp at hb)⟩, fun _ _ => rfl, fun _ _ => rfl⟩
  rw [e2]
  unfold cOf
  split
  · rfl
  · rfl
/-- Two states of one set are the same. -/
theorem inv_one {n : Nat} {g : Nat → Cl} {N M K m m' d : Nat} {S S' : St} (h : InvK n g N M K m d S) (h' : InvK n g N M K m' d S') : S = S' ∧ m = m' := by
  refine ⟨?_, by rw [h.m, h'.m]⟩
  have hc : ∀ t o, cOf S t o = cOf S' t o := fun t o => by rw [h.c, h'.c]
  have ho : ∀ o, S.own o = S'.own o ∧ S.cnt o = S'.cnt o := fun o => by
    have a := h.ok.own o
    have b := h'.ok.own o
    have c1 := hc (S.own o).toNat o
    have c2 := hc (S'.own o).toNat o
    unfold cOf at c1 c2
    rcases a with ⟨a1, a2⟩ | ⟨a1, a2, a3, a4⟩
    · rcases b with ⟨b1, b2⟩ | ⟨b1, b2, b3, b4⟩
      · omega
      · rw [if_neg (by omega), if_pos (by omega)] at c2; omega
    · rcases b with ⟨b1, b2⟩ | ⟨b1, b2, b3, b4⟩
      · rw [if_pos (by omega), if_neg (by omega)] at c1; omega
      · rw [if_pos (by omega)] at c1
        by_cases q : S.own o = S'.own o
        · rw [if_pos (by omega)] at c1; exact ⟨q, c1⟩
        · rw [if_neg (by omega)] at c1; omega
  have hh : ∀ o, S.hsh o = S'.hsh o := fun o => by
    by_cases q : ∃ i, i < n ∧ d.testBit i = true ∧ (g i).k = 10 ∧ (g i).o.toNat = o
    · obtain ⟨i, h1, h2, h3, rfl⟩ := q
      rw [(h.h1 i h1 h2 h3).1, (h'.h1 i h1 h2 h3).1]
    · rw [h.h0 o fun i h1 h2 h3 h4 => q ⟨i, h1, h2, h3, h4⟩, h'.h0 o fun i h1 h2 h3 h4 => q ⟨i, h1, h2, h3, h4⟩]
  have hf : ∀ t, S.flg t = S'.flg t := fun t => Bool.eq_iff_iff.2 ((h.f1 t).trans (h'.f1 t).symm)
  have e1 := h.hN.trans h'.hN.symm
  have e2 := h.hM.trans h'.hM.symm
  have e3 := h.hK.trans h'.hK.symm
  have e4 : S.own = S'.own := funext fun o => (ho o).1
  have e5 : S.cnt = S'.cnt := funext fun o => (ho o).2
  have e6 : S.hsh = S'.hsh := funext hh
  have e7 : S.flg = S'.flg := funext hf
  have e8 : S.wt = S'.wt := funext fun x => funext fun y => by rw [h.w0, h'.w0]
  have e9 : S.lf = S'.lf := funext fun x => funext fun y => by rw [h.l0, h'.l0]
  cases S
  cases S'
  simp only at e1 e2 e3 e4 e5 e6 e7 e8 e9
  subst e1 e2 e3 e4 e5 e6 e7 e8 e9
  rfl
theorem c_in {S : St} (ok : Ok S) {t o : Nat} (h : S.own o = -1 ∨ S.own o = t) (t' o' : Nat) : cOf (inS S t o) t' o' = cOf S t' o' + if t = t' ∧ o = o' then 1 else 0 := by
  unfold cOf inS upd
  simp only
  by_cases q : o' = o
  · subst q
    by_cases q2 : t = t'
    · subst q2
      rcases h with h | h
      · have := ok.own0 h
        have h2 : ¬ S.own o' = (t : Int) := by omega
        simp [h2, this]
      · simp [h]
    · have h1 : ¬ (t : Int) = (t' : Int) := by omega
      have h2 : ¬ S.own o' = (t' : Int) := by omega
      simp [q2, h1, h2]
  · have h1 : ¬ o = o' := fun e => q e.symm
    simp [q, h1]
theorem c_ex {S : St} (ok : Ok S) {t o : Nat} (h : S.own o = t) (t' o' : Nat) : cOf (exS S o) t' o' = cOf S t' o' + if t = t' ∧ o = o' then -1 else 0 := by
  unfold cOf exS upd
  simp only
  by_cases q : o' = o
  · subst q
    by_cases q1 : S.cnt o' = 1
    · by_cases q2 : t = t'
      · subst q2
        have h1 : ¬ (-1 : Int) = (t : Int) := by omega
        simp [q1, h, h1]
      · have h1 : ¬ (-1 : Int) = (t' : Int) := by omega
        have h2 : ¬ (t : Int) = (t' : Int) := by omega
        simp [q1, q2, h, h1, h2]
    · by_cases q2 : t = t'
      · subst q2
        simp [q1, h]; omega
      · have h2 : ¬ (t : Int) = (t' : Int) := by omega
        simp [q1, q2, h, h2]
  · have h1 : ¬ o = o' := fun e => q e.symm
    by_cases q1 : S.cnt o = 1
    · simp [q, h1, q1]
    · simp [q, h1, q1]
/-- What an accepted call makes of a state. -/
structure Turned (S S' : St) (c : Cl) : Prop where
  hN : S'.N = S.N
  hM : S'.M = S.M
  hK : S'.K = S.K
  cc : ∀ t o, cOf S' t o = cOf S t o + dl c t o
  h : (c.k ≠ 10 ∧ S'.hsh = S.hsh) ∨ (c.k = 10 ∧ c.a ≠ 0 ∧ (S.hsh c.o.toNat = 0 ∨ S.hsh c.o.toNat = c.a) ∧ S'.hsh = upd S.hsh c.o.toNat c.a)
  f : (c.k ≠ 12 ∧ S'.flg = S.flg) ∨ (c.k = 12 ∧ S'.flg = upd S.flg c.a.toNat true)
  wt : S'.wt = S.wt
  lf : S'.lf = S.lf
theorem Turned.same {S : St} {c : Cl} (h : ∀ t o, dl c t o = 0) (h1 : c.k ≠ 10) (h2 : c.k ≠ 12) : Turned S S c := ⟨rfl, rfl, rfl, fun t o => by rw [h, Int.add_zero], .inl ⟨h1, rfl⟩, .inl ⟨h2, rfl⟩, rfl, rfl⟩
theorem turned {S : St} (ok : Ok S) {c : Cl} (hc : cntE c.k c.a c.r = true) (ha : acc S c = true) : Turned S (nxt S c) c := by
  have hn : nxt S c = doS S c.k c.t.toNat c.o.toNat c.a c.r := by unfold nxt apS; exact if_pos ha
  rw [hn]
  obtain ⟨k, t, o, a, r, f, u⟩ := c
  unfold acc apB at ha
  simp only at *
  simp only [Bool.and_eq_true] at ha
  have hm := ha.2
  have k5 : ¬ (k = 5 ∨ k = 6) := by rintro (rfl | rfl) <;> simp [cntE] at hc
  unfold mayB at hm
  rw [if_neg k5] at hm
  cases hA : awB S t.toNat
  · rw [hA, if_neg (by simp)] at hm
    unfold doS
    rw [if_neg (fun q => k5 (.inl q)), if_neg (fun q => k5 (.inr q))]
    have dl0 : ∀ {k r : Int}, (r ≠ 0 ∨ (k ≠ 1 ∧ k ≠ 2 ∧ k ≠ 3)) → ∀ t' o', dl ⟨k, t, o, a, r, f, u⟩ t' o' = 0 := by
      intro k r h t' o'
      unfold dl
      split
      · rename_i q
        rcases h with h | h
        · exact absurd q.1 h
        · simp only
          rw [if_neg (by omega), if_neg (by omega)]
      · rfl
    by_cases k1 : k = 1 ∨ k = 2
    · rw [if_pos (by omega)] at hm
      simp only [Bool.and_eq_true] at hm
      have he : entB S t.toNat o.toNat r 11 = true ∨ entB S t.toNat o.toNat r 14 = true := by
        rcases k1 with rfl | rfl
        · exact .inl hm.2
        · exact .inr hm.2
      by_cases r0 : r = 0
      · subst r0
        have ho : S.own o.toNat = -1 ∨ S.own o.toNat = t.toNat := by
          unfold entB at he
          by_cases q1 : S.own o.toNat = -1
          · exact .inl q1
          · by_cases q2 : S.own o.toNat = t.toNat
            · exact .inr q2
            · rw [if_neg q1, if_neg q1, if_neg q2, if_neg q2] at he
              simp at he
        rw [if_neg (by omega), if_pos rfl]
        unfold tuS
        rw [if_pos k1]
        refine ⟨rfl, rfl, rfl, fun t' o' => ?_, .inl ⟨by simp only; omega, rfl⟩, .inl ⟨by simp only; omega, rfl⟩, rfl, rfl⟩
        rw [c_in ok ho]
        unfold dl
        simp only [true_and]
        split <;> simp [k1]
      · have r12 : r ≠ 12 := by
          rintro rfl
          unfold entB at he
          simp at he
        rw [if_neg r12, if_neg r0]
        exact Turned.same (dl0 (.inl r0)) (by simp only; omega) (by simp only; omega)
    by_cases k3 : k = 3
    · subst k3
      rw [if_pos (by omega)] at hm
      simp [mwoB, refB, owB] at hm
      by_cases r0 : r = 0
      · subst r0
        have ho : S.own o.toNat = t.toNat := by
          rcases hm.2 with h | h
          · exact absurd h.1 (by omega)
          · simpa using h
        rw [if_neg (by omega), if_pos rfl]
        refine ⟨rfl, rfl, rfl, fun t' o' => ?_, .inl ⟨by simp, rfl⟩, .inl ⟨by simp, rfl⟩, rfl, rfl⟩
        show cOf (exS S o.toNat) t' o' = _
        rw [c_ex ok ho]
        unfold dl
        simp only [true_and]
        split <;> simp
      · have r9 : r = 9 := by
          rcases hm.2 with h | h
          · exact h.1
          · exact absurd h.1 r0
        subst r9
        rw [if_neg (by omega), if_neg (by omega)]
        exact Turned.same (dl0 (.inl (by omega))) (by simp) (by simp)
    by_cases k10 : k = 10
    · subst k10
      rw [if_neg (by omega)] at hm
      have r0 : r = 0 := by simpa [cntE] using hc
      subst r0
      have hm2 : (1 ≤ a ∧ a ≤ 2147483647) ∧ (S.hsh o.toNat = 0 ∨ S.hsh o.toNat = a) := by simpa [mwiB, hshB, witB] using hm
      rw [if_neg (by omega), if_pos rfl]
      refine ⟨rfl, rfl, rfl, fun t' o' => ?_, .inr ⟨rfl, by simp only; omega, hm2.2, rfl⟩, .inl ⟨by simp, rfl⟩, rfl, rfl⟩
      rw [dl0 (.inr (by omega))]
      (first | (rw [Int.add_zero]; done) | (rw [Int.add_zero]; rfl))
    by_cases k12 : k = 12
    · subst k12
      rw [if_neg (by omega)] at hm
      simp [mwiB] at hm
      obtain ⟨rfl, hm⟩ := hm
      rw [if_neg (by omega), if_pos rfl]
      refine ⟨rfl, rfl, rfl, fun t' o' => ?_, .inl ⟨by simp, rfl⟩, .inr ⟨rfl, rfl⟩, rfl, rfl⟩
      rw [dl0 (.inr (by omega))]
      (first | (rw [Int.add_zero]; done) | (rw [Int.add_zero]; rfl))
    have hk : k = 8 ∨ k = 9 ∨ k = 11 := by
      unfold cntE at hc
      repeat' split at hc
      all_goals first | omega | cases hc
    have r12 : r ≠ 12 := by
      rintro rfl
      rcases hk with rfl | rfl | rfl
      · rw [if_neg (by omega)] at hm; simp [mwiB, refB] at hm
      · rw [if_pos (by omega)] at hm; simp [mwoB, refB] at hm
      · rw [if_neg (by omega)] at hm; simp [mwiB] at hm
    rw [if_neg r12]
    have e : (if r = 0 then tuS S k t.toNat o.toNat a else S) = S := by
      split
      · unfold tuS
        rw [if_neg (by omega), if_neg (by omega), if_neg (by omega), if_neg (by omega), if_neg (by omega), if_neg (by omega)]
      · rfl
    rw [e]
    exact Turned.same (dl0 (.inr (by omega))) (by simp only; omega) (by simp only; omega)
  · rw [hA, if_pos rfl] at hm; cases hm
/-- One more. -/
theorem inv_next {n : Nat} {g : Nat → Cl} {N M K m d k : Nat} {S : St} (h : InvK n g N M K m d S) (hk : k < n) (hd : d.testBit k = false) (hc : cntE (g k).k (g k).a (g k).r = true) (ha : acc S (g k) = true) : InvK n g N M K (m + 1) (d ||| 2 ^ k) (nxt S (g k)) := by
  have T := turned h.ok hc ha
  have hb := bt_or d k
  refine ⟨ap_ok h.ok _ _ _ _ _, T.hN.trans h.hN, T.hM.trans h.hM, T.hK.trans h.hK, ?_, ?_, fun t o => ?_, fun i hi hbi hki => ?_, fun o ho => ?_, fun t => ?_, fun x y => by rw [T.wt, h.w0], fun x y => by rw [T.lf, h.l0]⟩
  · exact Nat.or_lt_two_pow h.lt (Nat.pow_lt_pow_right (by omega) hk)
  · rw [bts_or hd, if_pos hk, h.m]
  · rw [T.cc, h.c, sm_or _ hd, if_pos hk]
  · rw [hb] at hbi
    simp only [Bool.or_eq_true, decide_eq_true_eq] at hbi
    rcases hbi with hbi | hbi
    · obtain ⟨q1, q2⟩ := h.h1 i hi hbi hki
      rcases T.h with ⟨_, e⟩ | ⟨e0, e1, e2, e3⟩
      · rw [e]; exact ⟨q1, q2⟩
      · rw [e3]
        unfold upd
        split
        · rename_i e4
          rw [e4] at q1
          rcases e2 with e2 | e2
          · rw [e2] at q1; exact absurd q1.symm q2
          · rw [e2] at q1; exact ⟨q1, q2⟩
        · exact ⟨q1, q2⟩
    · subst hbi
      rcases T.h with ⟨e, _⟩ | ⟨e0, e1, e2, e3⟩
      · exact absurd hki e
      · rw [e3]; exact ⟨upd_same _ _ _, e1⟩
  · have q := h.h0 o fun i hi hbi => ho i hi (by rw [hb, hbi]; rfl)
    rcases T.h with ⟨_, e⟩ | ⟨e0, e1, e2, e3⟩
    · rw [e]; exact q
    · rw [e3, upd_other _ _ (fun e => ho k hk (by rw [hb]; simp) e0 e.symm)]; exact q
  · rcases T.f with ⟨e0, e⟩ | ⟨e0, e⟩
    · rw [e, h.f1 t]
      constructor
      · rintro ⟨i, q1, q2, q3⟩
        exact ⟨i, q1, by rw [hb, q2]; rfl, q3⟩
      · rintro ⟨i, q1, q2, q3, q4⟩
        rw [hb] at q2
        simp only [Bool.or_eq_true, decide_eq_true_eq] at q2
        rcases q2 with q2 | q2
        · exact ⟨i, q1, q2, q3, q4⟩
        · subst q2; exact absurd q3 e0
    · rw [e]
      unfold upd
      constructor
      · intro q
        split at q
        · rename_i e2; exact ⟨k, hk, by rw [hb]; simp, e0, e2.symm⟩
        · obtain ⟨i, q1, q2, q3⟩ := (h.f1 t).1 q
          exact ⟨i, q1, by rw [hb, q2]; rfl, q3⟩
      · rintro ⟨i, q1, q2, q3, q4⟩
        rw [hb] at q2
        simp only [Bool.or_eq_true, decide_eq_true_eq] at q2
        split
        · rfl
        · rename_i e2
          rcases q2 with q2 | q2
          · exact (h.f1 t).2 ⟨i, q1, q2, q3, q4⟩
          · subst q2; exact absurd q4.symm e2
/-- Sets behind which nothing goes on. -/
def Dead (n : Nat) (g : Nat → Cl) (N M K : Nat) (D : Nat → Bool) : Prop := ∀ d m S, D d = true → InvK n g N M K m d S → pick n g (n - m) S d = none
theorem dead_no (n : Nat) (g : Nat → Cl) (N M K : Nat) : Dead n g N M K (fun _ => false) := fun _ _ _ h => by cases h
theorem Dead.put {n : Nat} {g : Nat → Cl} {N M K m d : Nat} {S : St} {D : Nat → Bool} (h : Dead n g N M K D) (hi : InvK n g N M K m d S) (hp : pick n g (n - m) S d = none) : Dead n g N M K (fun x => if x = d then true else D x) := by
  intro d' m' S' hd hi'
  simp only at hd
  split at hd
  · rename_i e
    subst e
    obtain ⟨rfl, rfl⟩ := inv_one hi hi'
    exact hp
  · exact h d' m' S' hd hi'
end Go.Proofs.Ytpielknodjppgaa

namespace Go.Proofs.Ytpielknodjppgaa
open Go.RowKit Go.Maps
set_option linter.unusedSimpArgs false
set_option linter.unusedVariables false
set_option maxRecDepth 100000


def cc (c : Cl) : Array Value := #[Value.int .i64 c.k, .int .i64 c.t, .int .i64 c.o, .int .i64 c.a, .int .i64 c.r, .int .i64 c.f, .int .i64 c.u]
structure OkC (c : Cl) : Prop where
  k : wfI c.k
  t : wfI c.t
  o : wfI c.o
  a : wfI c.a
  r : wfI c.r
  f : wfI c.f
  u : wfI c.u
/-- The calls that a slice reads as: the program's, or the document's (the same cells). -/
def Cs (w : World) (b0 : Nat) (A : Option Addr) (n : Nat) (g : Nat → Cl) : Prop :=
  ∀ k, k < n → ∃ b off, A = some ⟨b, off, none⟩ ∧ b < b0 ∧ ∀ i, i < 7 → w.cell? ⟨b, off + (k * 7 + i), none⟩ = (cc (g k))[i]?
theorem Cs.chg {w w' : World} {T : List Nat} {b0 n : Nat} {A : Option Addr} {g : Nat → Cl} (h : Cs w b0 A n g) (x : Chg T w w') (hb : b0 ≤ w.heap.size) (hT : ∀ t, t ∈ T → b0 ≤ t) : Cs w' b0 A n g := fun k hk => by
  obtain ⟨b, off, ha, hb2, hc⟩ := h k hk
  exact ⟨b, off, ha, hb2, fun i hi => (x.oldCell _ _ (by omega) (fun hm => by have := hT b hm; omega)).trans (hc i hi)⟩
theorem Cs.ext {w w' : World} {b0 n : Nat} {A : Option Addr} {g : Nat → Cl} (h : Cs w b0 A n g) (x : Ext w w') (hb : b0 ≤ w.heap.size) : Cs w' b0 A n g := h.chg (x.chg []) hb (by simp)
theorem Cs.more {w : World} {b0 b1 n : Nat} {A : Option Addr} {g : Nat → Cl} (h : Cs w b0 A n g) (hb : b0 ≤ b1) : Cs w b1 A n g := fun k hk => by
  obtain ⟨b, off, ha, hb2, hc⟩ := h k hk
  exact ⟨b, off, ha, by omega, hc⟩
theorem Cs.cut {w : World} {b0 n m : Nat} {A : Option Addr} {g : Nat → Cl} (h : Cs w b0 A n g) (hm : m ≤ n) : Cs w b0 A m g := fun k hk => h k (by omega)
/-- The cells of one, over all later worlds. -/
theorem Cs.rules {w : World} {b0 n : Nat} {A : Option Addr} {g : Nat → Cl} (h : Cs w b0 A n g) {k : Nat} (hk : k < n) :
    ∃ b off, A = some ⟨b, off, none⟩ ∧ b < b0 ∧ w.cell? ⟨b, off + k * 7, none⟩ = some (.int .i64 (g k).k) ∧ w.cell? ⟨b, off + k * 7 + 1, none⟩ = some (.int .i64 (g k).t) ∧ w.cell? ⟨b, off + k * 7 + 2, none⟩ = some (.int .i64 (g k).o) ∧ w.cell? ⟨b, off + k * 7 + 3, none⟩ = some (.int .i64 (g k).a) ∧ w.cell? ⟨b, off + k * 7 + 4, none⟩ = some (.int .i64 (g k).r) ∧ w.cell? ⟨b, off + k * 7 + 5, none⟩ = some (.int .i64 (g k).f) ∧ w.cell? ⟨b, off + k * 7 + 6, none⟩ = some (.int .i64 (g k).u) := by
  obtain ⟨b, off, ha, hb, hc⟩ := h k hk
  refine ⟨b, off, ha, hb, hc 0 (by omega), ?_, ?_, ?_, ?_, ?_, ?_⟩
  · rw [Nat.add_assoc]; exact hc 1 (by omega)
  · rw [Nat.add_assoc]; exact hc 2 (by omega)
  · rw [Nat.add_assoc]; exact hc 3 (by omega)
  · rw [Nat.add_assoc]; exact hc 4 (by omega)
  · rw [Nat.add_assoc]; exact hc 5 (by omega)
  · rw [Nat.add_assoc]; exact hc 6 (by omega)
theorem counts_any (k t o a r : Int) (w : World) : Calls Try.prog 22 #[.agg #[Value.int .i64 k, .int .i64 t, .int .i64 o, .int .i64 a, .int .i64 r]] w fun e w' => e = .returned (.bool (cntE k a r)) ∧ Ext w w' := by
  have x1 := Ext.alloc w (.cells #[Value.int .i64 k, .int .i64 t, .int .i64 o, .int .i64 a, .int .i64 r] 36)
  by_cases k1 : k = 1
  · subst k1; go_enter Try.func22, Try.ntmps22; go_wp2; go_ret; exact ⟨rfl, x1⟩
  by_cases k2 : k = 2
  · subst k2; go_enter Try.func22, Try.ntmps22; go_wp2; go_ret; exact ⟨rfl, x1⟩
  by_cases k3 : k = 3
  · subst k3; go_enter Try.func22, Try.ntmps22; go_wp2; go_ret; exact ⟨rfl, x1⟩
  by_cases k9 : k = 9
  · subst k9; go_enter Try.func22, Try.ntmps22; go_wp2; go_ret; exact ⟨rfl, x1⟩
  by_cases k11 : k = 11
  · subst k11; go_enter Try.func22, Try.ntmps22; go_wp2; go_ret; exact ⟨rfl, x1⟩
  by_cases k12 : k = 12
  · subst k12; go_enter Try.func22, Try.ntmps22; go_wp2; go_ret; exact ⟨rfl, x1⟩
  by_cases k8 : k = 8
  · subst k8; go_enter Try.func22, Try.ntmps22; go_wp2; go_ret; exact ⟨rfl, x1⟩
  by_cases k10 : k = 10
  · subst k10; go_enter Try.func22, Try.ntmps22; go_wp2; go_ret; exact ⟨rfl, x1⟩
  have E := hide (show cntE k a r = false by unfold cntE; rw [if_neg (by omega), if_neg k8, if_neg k10])
  go_enter Try.func22, Try.ntmps22
  go_wp2
  go_ret
  exact ⟨by rw [E.out]; rfl, x1⟩
theorem cmay_any (c : Cl) (w : World) : Calls Try.prog 11 #[.agg (cc c)] w fun e w' => e = .returned (.bool (mayC c)) ∧ Ext w w' := by
  unfold cc mayC
  obtain ⟨k, t, o, a, r, f, u⟩ := c
  simp only
  have hc := counts_any k t o a r
  generalize cntE k a r = b at *
  go_enter Try.func11, Try.ntmps11
  go_wp2_with fail
  have hX := fun w' (h : Ext (w.alloc (Obj.cells #[Value.int .i64 k, .int .i64 t, .int .i64 o, .int .i64 a, .int .i64 r, .int .i64 f, .int .i64 u] 38)) w') => h.boxCell
  have hXf := fun w' (h : Ext (w.alloc (Obj.cells #[Value.int .i64 k, .int .i64 t, .int .i64 o, .int .i64 a, .int .i64 r, .int .i64 f, .int .i64 u] 38)) w') => h.boxFree
  have hX0 : Ext w (w.alloc (Obj.cells #[Value.int .i64 k, .int .i64 t, .int .i64 o, .int .i64 a, .int .i64 r, .int .i64 f, .int .i64 u] 38)) := Ext.alloc _ _
  generalize w.alloc (Obj.cells #[Value.int .i64 k, .int .i64 t, .int .i64 o, .int .i64 a, .int .i64 r, .int .i64 f, .int .i64 u] 38) = W0 at *
  have hW := Ext.refl W0
  go_wp2_with (go_at_call 22; (with_reducible refine (hc _).mono ?_); rintro e w' ⟨rfl, hb⟩; have hW := Ext.trans2 hW (by repeat (first | exact Ext.refl _ | exact Ext.alloc _ _ | exact Ext.drewN _ _ | assumption | refine Ext.trans ?_ (Ext.alloc _ _) | refine Ext.trans ?_ (Ext.drew _) | refine Ext.trans ?_ (by assumption))) hb; (try have hV := Ext.trans2 hV (by repeat (first | exact Ext.refl _ | exact Ext.alloc _ _ | exact Ext.drewN _ _ | assumption | refine Ext.trans ?_ (Ext.alloc _ _) | refine Ext.trans ?_ (Ext.drew _) | refine Ext.trans ?_ (by assumption))) hb); clear hb)
  all_goals
    rename_i hb
    cases b <;> simp at hb
    go_ret
    exact ⟨by simp, (hX0.trans (hW.trans (by repeat (first | exact Ext.refl _ | exact Ext.alloc _ _ | exact Ext.drewN _ _ | assumption | refine Ext.trans ?_ (Ext.alloc _ _) | refine Ext.trans ?_ (Ext.drew _) | refine Ext.trans ?_ (by assumption)))))⟩
end Go.Proofs.Ytpielknodjppgaa

namespace Go.Proofs.Ytpielknodjppgaa
open Go.RowKit Go.Maps
set_option linter.unusedSimpArgs false
set_option linter.unusedVariables false
set_option maxRecDepth 100000


def s16v (x : Nat) : Value := .int .u16 (x : Int)
def ahd (g : Nat → Cl) (t : Int) : Nat → Nat
  | 0 => 0
  | j + 1 => ahd g t j ||| (if (g j).u < t then 2 ^ j else 0)
theorem ahd_bit (g : Nat → Cl) (t : Int) (i : Nat) : ∀ n, (ahd g t n).testBit i = decide (i < n ∧ (g i).u < t)
  | 0 => by simp [ahd]
  | j + 1 => by
    unfold ahd
    rw [Nat.testBit_or, ahd_bit g t i j]
    by_cases q : (g j).u < t
    · rw [if_pos q, Nat.testBit_two_pow]
      by_cases e : j = i
      · subst e; simp [q]
      · have : i < j + 1 ↔ i < j := by omega
        simp [e, this]
    · rw [if_neg q]
      simp only [Nat.zero_testBit, Bool.or_false]
      by_cases e : j = i
      · subst e; simp [q]
      · have : i < j + 1 ↔ i < j := by omega
        simp [this]
theorem ahd_lt (g : Nat → Cl) (t : Int) (n : Nat) : ahd g t n < 2 ^ n := by
  induction n with
  | zero => exact Nat.lt_of_lt_of_le Nat.zero_lt_one (Nat.le_refl _)
  | succ n ih =>
    unfold ahd
    refine Nat.or_lt_two_pow (Nat.lt_of_lt_of_le ih (Nat.pow_le_pow_right (by omega) (by omega))) ?_
    split
    · exact Nat.pow_lt_pow_right (by omega) (by omega)
    · exact Nat.two_pow_pos _
theorem pow_lt16 {i : Nat} (h : i < 16) : 2 ^ i < 65536 := Nat.lt_of_lt_of_le (Nat.pow_lt_pow_right (by omega) h) (by decide)
theorem ahd_lt16 (g : Nat → Cl) (t : Int) {n : Nat} (h : n ≤ 16) : ahd g t n < 65536 := Nat.lt_of_lt_of_le (ahd_lt g t n) (Nat.pow_le_pow_right (n := 2) (by omega) h)
theorem only_any {i : Nat} (h : i < 16) (w : World) : Calls Try.prog 40 #[.int .i64 (i : Int)] w fun e w' => e = .returned (s16v (2 ^ i)) ∧ w = w' := by
  unfold s16v
  have p := pow_lt16 h
  have E := hide (show IntKind.u16.wrap (2 ^ i : Int) = ((2 ^ i : Nat) : Int) by
    rw [show (2 : Int) ^ i = ((2 ^ i : Nat) : Int) by push_cast; rfl, IntKind.wrap_u16]
    generalize 2 ^ i = a at *
    omega)
  clear p
  go_enter Try.func40, Try.ntmps40
  go_wp2_with fail
  go_ret
  exact ⟨by simp [E.out], rfl⟩
theorem over_any {w : World} {b0 n c : Nat} {A : Option Addr} {g : Nat → Cl} (h : Cs w b0 A n g) (hb : b0 ≤ w.heap.size) (hn : n ≤ 16) (t : Int) :
    Calls Try.prog 27 #[.slice A n c, .int .i64 t] w fun e w' => e = .returned (s16v (ahd g t n)) ∧ Ext w w' := by
  have H := hide h
  clear h
  go_enter Try.func27, Try.ntmps27
  go_wp2_with fail
  go_loopw [5, 10] (fun v i wr => ∃ j : Nat, j ≤ n ∧ i = .int .i64 (j : Int) ∧ v = s16v (ahd g t j) ∧ Ext w wr) (fun _ i _ => n - (intOf i).toNat)
  case atStart => exact ⟨0, by omega, rfl, rfl, Ext.refl _⟩
  case round =>
    obtain ⟨j, hj, rfl, rfl, hX⟩ := hrel
    by_cases hlt : j < n
    · have hs := hX.size
      obtain ⟨b, off, rfl, hb0, r0, r1, r2, r3, r4, r5, r6⟩ := (H.out.ext hX hb).rules hlt
      have HX := hide (hX.trans (Ext.alloc wr (.cells (cc (g j)) 38)))
      have ho := only_any (i := j) (by omega)
      have p := pow_lt16 (i := j) (by omega)
      have p2 := ahd_lt16 g t (n := j) (by omega)
      have E := hide (show ahd g t (j + 1) = ahd g t j ||| (if (g j).u < t then 2 ^ j else 0) from rfl)
      have E2 := hide (u16_or_nat (ahd g t j) (2 ^ j) p2 p)
      unfold cc at HX
      unfold s16v at ho ⊢
      generalize ahd g t j = x at *
      generalize (2 : Nat) ^ j = y at *
      generalize (g j).u = uu at *
      by_cases q : uu < t
      · rw [if_pos q] at E
        clear p p2 hX
        go_wp2_with fail
        refine (ho _).mono ?_
        rintro e w1 ⟨rfl, rfl⟩
        go_wp2_with fail
        go_roundw
        case rel => exact ⟨j + 1, by omega, by go_num, by rw [E.out]; simp [E2.out, s16v], HX.out⟩
        case measure => simp [intOf]; omega
      · rw [if_neg q] at E
        clear p p2 hX
        go_wp2_with fail
        go_roundw
        case rel => exact ⟨j + 1, by omega, by go_num, by rw [E.out]; simp [s16v], HX.out⟩
        case measure => simp [intOf]; omega
    · obtain rfl : j = n := by omega
      go_wp2_with fail
      go_ret
      exact ⟨rfl, hX⟩
/-- Are all of them calls? -/
def allM (g : Nat → Cl) (n : Nat) : Bool := (List.range n).all fun i => mayC (g i)
theorem allM_iff {g : Nat → Cl} {n : Nat} : allM g n = true ↔ ∀ i, i < n → mayC (g i) = true := by unfold allM; simp
theorem allM_no {g : Nat → Cl} {n j : Nat} (hj : j < n) (h : mayC (g j) = false) : allM g n = false := by
  cases q : allM g n
  · rfl
  · rw [allM_iff.1 q j hj] at h; cases h
theorem clos_any (c : Cl) (w : World) : Calls Try.prog 17 #[.agg (cc c)] w fun e w' => e = .returned (.bool (!mayC c)) ∧ Ext w w' := by
  have hc := cmay_any c
  generalize mayC c = b at *
  unfold cc at *
  go_enter Try.func17, Try.ntmps17
  go_wp2_with fail
  have hX := fun w' (h : Ext (w.alloc (Obj.cells #[Value.int .i64 c.k, .int .i64 c.t, .int .i64 c.o, .int .i64 c.a, .int .i64 c.r, .int .i64 c.f, .int .i64 c.u] 38)) w') => h.boxCell
  have hXf := fun w' (h : Ext (w.alloc (Obj.cells #[Value.int .i64 c.k, .int .i64 c.t, .int .i64 c.o, .int .i64 c.a, .int .i64 c.r, .int .i64 c.f, .int .i64 c.u] 38)) w') => h.boxFree
  have hX0 : Ext w (w.alloc (Obj.cells #[Value.int .i64 c.k, .int .i64 c.t, .int .i64 c.o, .int .i64 c.a, .int .i64 c.r, .int .i64 c.f, .int .i64 c.u] 38)) := Ext.alloc _ _
  generalize w.alloc (Obj.cells #[Value.int .i64 c.k, .int .i64 c.t, .int .i64 c.o, .int .i64 c.a, .int .i64 c.r, .int .i64 c.f, .int .i64 c.u] 38) = W0 at *
  have hW := Ext.refl W0
  go_wp2_with (go_at_call 11; (with_reducible refine (hc _).mono ?_); rintro e w' ⟨rfl, hb⟩; have hW := Ext.trans2 hW (by repeat (first | exact Ext.refl _ | exact Ext.alloc _ _ | exact Ext.drewN _ _ | assumption | refine Ext.trans ?_ (Ext.alloc _ _) | refine Ext.trans ?_ (Ext.drew _) | refine Ext.trans ?_ (by assumption))) hb; (try have hV := Ext.trans2 hV (by repeat (first | exact Ext.refl _ | exact Ext.alloc _ _ | exact Ext.drewN _ _ | assumption | refine Ext.trans ?_ (Ext.alloc _ _) | refine Ext.trans ?_ (Ext.drew _) | refine Ext.trans ?_ (by assumption))) hb); clear hb)
  go_ret
  exact ⟨by simp, (hX0.trans (hW.trans (by repeat (first | exact Ext.refl _ | exact Ext.alloc _ _ | exact Ext.drewN _ _ | assumption | refine Ext.trans ?_ (Ext.alloc _ _) | refine Ext.trans ?_ (Ext.drew _) | refine Ext.trans ?_ (by assumption)))))⟩
theorem indexF_any {w : World} {b0 n c : Nat} {A : Option Addr} {g : Nat → Cl} (h : Cs w b0 A n g) (hb : b0 ≤ w.heap.size) (hn : n ≤ 1000000000) : Calls Try.prog 26 #[.slice A n c, (Value.func (.func 17) #[] #[])] w fun e w' => ∃ x : Int, e = .returned (.int .i64 x) ∧ (decide (0 ≤ x)) = !allM g n ∧ Ext w w' := by
  have H := hide h
  clear h
  go_enter Try.func26, Try.ntmps26
  go_wp2_with fail
  go_loopw [8] (fun i wr => ∃ j : Nat, j ≤ n ∧ i = .int .i64 (j : Int) ∧ (∀ k, k < j → mayC (g k) = true) ∧ Ext w wr) (fun i _ => n - (intOf i).toNat)
  case atStart => exact ⟨0, by omega, rfl, fun i hi => by omega, Ext.refl _⟩
  case round =>
    obtain ⟨j, hj, rfl, hbf, hX⟩ := hrel
    by_cases hlt : j < n
    · have hs := hX.size
      obtain ⟨b, off, rfl, hb0, r0, r1, r2, r3, r4, r5, r6⟩ := (H.out.ext hX hb).rules hlt
      have HC := hide (clos_any (g j) wr)
      have HX := hide hX
      have HB := hide hbf
      have HE := hide (show mayC (g j) = false → allM g n = false from allM_no hlt)
      unfold cc at HC
      generalize hm : mayC (g j) = m at *
      have HM := hide hm
      clear hm hX hbf
      generalize (g j).k = x0 at *
      generalize (g j).t = x1 at *
      generalize (g j).o = x2 at *
      generalize (g j).a = x3 at *
      generalize (g j).r = x4 at *
      generalize (g j).f = x5 at *
      generalize (g j).u = x6 at *
      cases m
      · have E := hide (HE.out rfl)
        clear HE HM
        go_wp2_with fail
        refine HC.out.mono ?_
        rintro e w1 ⟨rfl, hx⟩
        have HX := hide (HX.out.trans hx)
        clear hx
        go_wp2_with fail
        go_ret
        exact ⟨_, rfl, by rw [E.out]; simp, HX.out⟩
      · clear HE
        go_wp2_with fail
        refine HC.out.mono ?_
        rintro e w1 ⟨rfl, hx⟩
        have HX := hide (HX.out.trans hx)
        clear hx
        go_wp2_with fail
        go_roundw
        case rel => exact ⟨j + 1, by omega, by go_num, fun i hi => by
          by_cases q : i = j
          · subst q; exact HM.out
          · exact HB.out i (by omega), HX.out⟩
        case measure => simp [intOf]; omega
    · obtain rfl : j = n := by omega
      have E := hide (show allM g j = true from allM_iff.2 hbf)
      clear hbf
      go_wp2_with fail
      go_ret
      exact ⟨_, rfl, by rw [E.out]; rfl, hX⟩
theorem contF_any {w : World} {b0 n c : Nat} {A : Option Addr} {g : Nat → Cl} (h : Cs w b0 A n g) (hb : b0 ≤ w.heap.size) (hn : n ≤ 1000000000) : Calls Try.prog 18 #[.slice A n c, (Value.func (.func 17) #[] #[])] w fun e w' => e = .returned (.bool (!allM g n)) ∧ Ext w w' := by
  have hc := indexF_any (c := c) h hb hn
  generalize allM g n = b at *
  go_enter Try.func18, Try.ntmps18
  go_wp2_with fail
  refine hc.mono ?_
  rintro e w1 ⟨x, rfl, hx, hX⟩
  have HX := hide hx
  clear hx
  go_wp2_with fail
  go_ret
  exact ⟨by rw [← HX.out]; simp, hX⟩
end Go.Proofs.Ytpielknodjppgaa

namespace Go.Proofs.Ytpielknodjppgaa
open Go.RowKit Go.Maps
set_option linter.unusedSimpArgs false
set_option linter.unusedVariables false
set_option maxRecDepth 100000


def kyu (z : Nat) : Lit := .int .u16 (z : Int)
theorem kyu_key (z : Nat) : WideAt.IsKeyLit (kyu z) := trivial
theorem kyu_ne {a b : Nat} (h : a ≠ b) : kyu a ≠ kyu b := fun e => h (by unfold kyu at e; injection e; omega)
theorem kyu_wf {z : Nat} (h : z < 65536) : (kyu z).wf = true := WalkArith.wf_u16 ⟨by omega, by omega⟩
theorem kU : Keyed Try.prog 89 := int_keyed Try.underlying89
theorem kofu {z : Nat} (h : z < 65536) : keyOf Try.prog 89 (s16v z) = some (kyu z) := keyOf_int_mk Try.underlying89 (kyu_wf h)
def rdE (v : Value) : Option (DataW Unit × List MemPlace) := match v with
  | .agg cs => if cs = #[] then some (.agg [], []) else none
  | _ => none
theorem rdE_mk : rdE (.agg #[]) = some (.agg [], []) := rfl
theorem rdE_inv {v : Value} {y : DataW Unit × List MemPlace} (h : rdE v = some y) : v = .agg #[] := by
  unfold rdE at h
  split at h
  · split at h
    · rename_i e; rw [e]
    · cases h
  · cases h
theorem zE (w : World) : (zeroValue 99).run Try.prog w = .ok (.agg #[]) w := by kernel_rfl
def cntD (D : Nat → Bool) : Nat → Nat
  | 0 => 0
  | n + 1 => cntD D n + if D n then 1 else 0
theorem cntD_le (D : Nat → Bool) (n : Nat) : cntD D n ≤ n := by
  induction n with
  | zero => exact Nat.le_refl _
  | succ n ih => unfold cntD; split <;> omega
def updD (D : Nat → Bool) (k : Nat) : Nat → Bool := fun x => if x = k then true else D x
theorem updD_same {D : Nat → Bool} {k : Nat} (h : D k = true) : updD D k = D := by
  funext x
  unfold updD
  split
  · rename_i e; rw [e, h]
  · rfl
theorem cntD_upd {D : Nat → Bool} {k : Nat} (h : D k = false) : ∀ n, cntD (updD D k) n = cntD D n + if k < n then 1 else 0
  | 0 => by simp [cntD]
  | n + 1 => by
    unfold cntD
    rw [cntD_upd h n]
    by_cases q : n = k
    · subst q
      have : updD D n n = true := by unfold updD; rw [if_pos rfl]
      rw [this, h]; simp
    · have : updD D k n = D n := by unfold updD; rw [if_neg q]
      rw [this]
      by_cases q2 : k < n
      · rw [if_pos q2, if_pos (c := k < n + 1) (by omega)]; omega
      · rw [if_neg q2, if_neg (c := k < n + 1) (by omega)]; omega
/-- Block m is a set of numbers: those whose look is true. -/
def DS (w : World) (m : Nat) (D : Nat → Bool) : Prop := ∃ n Dt, w.ownsMap Try.prog 89 rdE m n Dt ∧ Maps.Tidy Dt ∧ (∀ a, Maps.has Dt (kyu a) = D a ∧ Dt.atKey (kyu a) (.agg []) = .agg []) ∧ Maps.size Dt = cntD D 65536
section
variable {w w' : World} {m : Nat} {D : Nat → Bool}
theorem DS.lt (h : DS w m D) : m < w.heap.size := by obtain ⟨n, Dt, h, _⟩ := h; exact h.lt
theorem DS.chg {T : List Nat} (h : DS w m D) (x : Chg T w w') (hm : m ∉ T) : DS w' m D := by
  have hl := h.lt
  obtain ⟨n, Dt, h, h2⟩ := h
  exact ⟨n, Dt, own_same h (x.block m hl hm), h2⟩
theorem DS.ext (h : DS w m D) (x : Ext w w') : DS w' m D := h.chg (x.chg []) (by simp)
theorem DS.made (w : World) : DS (w.alloc (.map #[] 0)) w.heap.size (fun _ => false) := by
  refine ⟨0, _, World.ownsMap_made w _ 89 _, Maps.tidy_empty, fun l => ⟨rfl, rfl⟩, ?_⟩
  have e : ∀ n, cntD (fun _ => false) n = 0 := fun n => by
    induction n with
    | zero => rfl
    | succ n ih => unfold cntD; rw [ih]; rfl
  rw [e]; rfl
theorem DS.noC (h : DS w m D) : ∀ cs t, ¬ Blk w m cs t := fun cs t hh => by
  obtain ⟨n, Dt, ⟨es, clock, hm, r⟩, h2⟩ := h
  unfold Blk at hh
  rw [hm] at hh
  cases hh
theorem DS.look (h : DS w m D) {z : Nat} (hz : z < 65536) : (Instr.lookup 84 (.map (some m)) (s16v z) true).run Try.prog w = .ok (.tuple #[.agg #[], .bool (D z)]) w := by
  obtain ⟨n, Dt, hown, _, h2, _⟩ := h
  obtain ⟨v, ps, hrun, hv⟩ := hown.look_ok kU Try.underlying84 (zE w) rdE_mk (kofu hz)
  rw [hrun, (h2 z).1, rdE_inv hv]
theorem DS.put (h : DS w m D) {z : Nat} (hz : z < 65536) : ∃ w', (Instr.mapUpdate 84 (.map (some m)) (s16v z) (.agg #[])).run Try.prog w = .ok () w' ∧ DS w' m (updD D z) ∧ w.grownBy w' (some m) := by
  obtain ⟨n, Dt, hown, h1, h2, h3⟩ := h
  have hown := own_tight hown
  have hle := cntD_le D 65536
  obtain ⟨wu, hu, hu2, hu3⟩ := hown.update kU Try.underlying84 (by rw [h3]; unfold maxLen; omega) (kofu hz) rdE_mk
  refine ⟨wu, hu, ⟨_, _, hu2, h1.put (kyu_key _) _, fun a => ?_, ?_⟩, hu3⟩
  · unfold updD
    by_cases e : a = z
    · rw [if_pos e, e, Maps.atKey_put_same h1.isMap (kyu_key _), Maps.has_put_same h1.isMap (kyu_key _)]; exact ⟨rfl, rfl⟩
    · rw [if_neg e, Maps.atKey_put_other (kyu_ne e), Maps.has_put_other (kyu_ne e)]; exact h2 a
  · rw [Maps.size_put h1, (h2 z).1]
    cases q : D z
    · rw [cntD_upd q, if_pos hz, h3]; rfl
    · rw [updD_same q, h3]; rfl
end
theorem own_atX {w : World} {base n : Nat} {e : TypeId} {v u : Value} {xs : List Value} (h : w.ownsRow base e 1 v n xs) {j : Nat} (hj : xs[j]? = some u) :
    ∃ g c, v = .slice (some ⟨g, 0, none⟩) n c ∧ base ≤ g ∧ ∀ w', Ext w w' → w'.cell? ⟨g, j, none⟩ = some u := by
  have hjn : j < n := by
    have := (List.getElem?_eq_some_iff.1 hj).1
    have := h.1
    omega
  rcases h.2 with ⟨_, h0⟩ | ⟨g, cap, cur, rfl, hb, hh, h3, h4, h5, h6⟩
  · omega
  · refine ⟨g, cap, rfl, hb, fun w' hx => (hx.oldCell _ _ (own_lt h g rfl)).trans ?_⟩
    rw [cell_of_row w g j cur e (0, 0) hh, ← Array.getElem?_toList, ← hj, ← h6, List.getElem?_take_of_lt (by omega)]
/-- A search: its block, its map's, its order's row. -/
structure SQ (w : World) (b0 SB DB : Nat) (A : Option Addr) (c : Nat) (av ov : Value) (n : Nat) (g : Nat → Cl) (D : Nat → Bool) (o : List Nat) : Prop where
  b : Blk w SB #[.slice A n c, av, .map (some DB), ov] 87
  row : w.ownsRow b0 3 1 ov o.length (o.map enI)
  map : DS w DB D
  cs : Cs w b0 A n g
  ah : w.ownsRow b0 89 1 av n ((List.range n).map fun i => s16v (ahd g (g i).f n))
  b1 : b0 ≤ SB
  b2 : b0 ≤ DB
  n12 : n ≤ 12
section
variable {w w' : World} {b0 SB DB c n : Nat} {A : Option Addr} {av ov : Value} {g : Nat → Cl} {D : Nat → Bool} {o : List Nat}
theorem SQ.lb (h : SQ w b0 SB DB A c av ov n g D o) : b0 ≤ w.heap.size := Nat.le_trans h.b1 (Nat.le_of_lt h.b.lt)
theorem SQ.ext (h : SQ w b0 SB DB A c av ov n g D o) (x : Ext w w') : SQ w' b0 SB DB A c av ov n g D o :=
  ⟨h.b.ext x, own_ext h.row x, h.map.ext x, h.cs.ext x h.lb, own_ext h.ah x, h.b1, h.b2, h.n12⟩
theorem and_pow (d i : Nat) : ((((d &&& 2 ^ i : Nat) : Int)) == 0) = !d.testBit i := by
  cases q : d.testBit i
  · have : d &&& 2 ^ i = 0 := Nat.eq_of_testBit_eq fun j => by
      rw [Nat.testBit_and, Nat.testBit_two_pow, Nat.zero_testBit]
      by_cases e : i = j
      · subst e; rw [q]; rfl
      · simp [e]
    rw [this]; rfl
  · have : d &&& 2 ^ i ≠ 0 := fun e => by
      have := congrArg (·.testBit i) e
      simp [Nat.testBit_and, Nat.testBit_two_pow, q] at this
    simp; exact this
theorem andNot_0 {a d : Nat} (ha : a < 65536) (hd : d < 65536) : ((((a &&& (65535 - d) : Nat) : Int)) == 0) = true ↔ ∀ j, a.testBit j = true → d.testBit j = true := by
  have e : ∀ j, (65535 - d).testBit j = (decide (j < 16) && !d.testBit j) := fun j => by
    have := Nat.testBit_two_pow_sub_succ (n := 16) (x := d) (by omega) j
    rw [← this]
    congr 1
    omega
  have hz : ((((a &&& (65535 - d) : Nat) : Int)) == 0) = true ↔ a &&& (65535 - d) = 0 := by simp
  rw [hz]
  constructor
  · intro h j hj
    have := congrArg (·.testBit j) h
    simp only [Nat.testBit_and, e, hj, Nat.zero_testBit, Bool.true_and] at this
    have h16 : j < 16 := by
      rcases Nat.lt_or_ge j 16 with q | q
      · exact q
      · rw [Nat.testBit_lt_two_pow (Nat.lt_of_lt_of_le ha (show 2 ^ 16 ≤ 2 ^ j from Nat.pow_le_pow_right (by omega) q))] at hj; cases hj
    simpa [h16] using this
  · intro h
    apply Nat.eq_of_testBit_eq
    intro j
    rw [Nat.testBit_and, e, Nat.zero_testBit]
    cases q : a.testBit j
    · rfl
    · rw [h j q]; simp
theorem free_num {n : Nat} {g : Nat → Cl} {d i : Nat} (hn : n ≤ 16) (hd : d < 65536) : freeB n g d i = ((((d &&& 2 ^ i : Nat) : Int) == 0) && (((ahd g (g i).f n &&& (65535 - d) : Nat) : Int) == 0)) := by
  apply Bool.eq_iff_iff.2
  rw [free_iff, Bool.and_eq_true, andNot_0 (ahd_lt16 _ _ hn) hd, and_pow]
  simp only [Bool.not_eq_true']
  refine and_congr_right fun _ => ?_
  constructor
  · intro h j hj
    rw [ahd_bit] at hj
    have hj := of_decide_eq_true hj
    rcases h j hj.1 with q | q
    · exact q
    · exact absurd hj.2 q
  · intro h j hj
    by_cases q : (g j).u < (g i).f
    · left; exact h j (by rw [ahd_bit]; exact decide_eq_true ⟨hj, q⟩)
    · exact .inr q
theorem next_any (h : SQ w b0 SB DB A c av ov n g D o) {i d : Nat} (hi : i < n) (hd : d < 65536) : Calls Try.prog 41 #[.pointer (some ⟨SB, 0, none⟩), .int .i64 (i : Int), s16v d] w fun e w' => e = .returned (.bool (freeB n g d i)) ∧ w = w' := by
  have h12 := h.n12
  rw [free_num (by omega) hd]
  obtain ⟨G, cx, rfl, _, hc⟩ := own_atX h.ah (j := i) (u := s16v (ahd g (g i).f n)) (by rw [List.getElem?_map, List.getElem?_range hi]; rfl)
  have r0 := hc w (Ext.refl _)
  have rb := h.b.cell
  have ho := only_any (i := i) (by omega)
  have p1 := ahd_lt16 g (g i).f (n := n) (by omega)
  have e1 := u16_and_nat d (2 ^ i) hd (pow_lt16 (by omega))
  have e2 := u16_andNot_nat (ahd g (g i).f n) d p1 hd
  have E1 := hide e1
  have E2 := hide e2
  unfold s16v at *
  generalize ahd g (g i).f n = x at *
  generalize (2 : Nat) ^ i = y at *
  clear hc h p1 e1 e2
  go_enter Try.func41, Try.ntmps41
  go_wp2_with fail
  refine (ho _).mono ?_
  rintro e w1 ⟨rfl, rfl⟩
  go_wp2_with fail
  all_goals
    rename_i hq
    go_ret
    rw [← E1.out, ← E2.out]
    exact ⟨by simp [hq], rfl⟩
end
end Go.Proofs.Ytpielknodjppgaa
