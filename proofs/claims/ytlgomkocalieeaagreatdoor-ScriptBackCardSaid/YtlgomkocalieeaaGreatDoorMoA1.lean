/- What a model has: owners, counts, hashes by objects, flags by threads, those who wait or left by both; what a transition makes of it. -/
import Derived.Test.YtlgomkocalieeaaGreatDoorTurn
namespace Go.Proofs.YtlgomkocalieeaaGreatDoor.Mo
set_option maxRecDepth 100000
set_option linter.unusedSimpArgs false
set_option linter.unusedVariables false
structure St where
  N : Nat
  M : Nat
  K : Nat
  own : Nat → Int
  cnt : Nat → Int
  hsh : Nat → Int
  flg : Nat → Bool
  wt : Int → Int → Option Int
  lf : Int → Int → Option (Int × Int)
def upd {α : Type} (f : Nat → α) (k : Nat) (v : α) : Nat → α := fun i => if i = k then v else f i
def upd2 {α : Type} (f : Int → Int → α) (x y : Int) (v : α) : Int → Int → α := fun a b => if a = x ∧ b = y then v else f a b
theorem upd_same {α : Type} (f : Nat → α) (k : Nat) (v : α) : upd f k v k = v := if_pos rfl
theorem upd_other {α : Type} (f : Nat → α) {k i : Nat} (v : α) (h : i ≠ k) : upd f k v i = f i := if_neg h
theorem upd2_same {α : Type} (f : Int → Int → α) (x y : Int) (v : α) : upd2 f x y v x y = v := if_pos ⟨rfl, rfl⟩
theorem upd2_other {α : Type} (f : Int → Int → α) {x y a b : Int} (v : α) (h : ¬ (a = x ∧ b = y)) : upd2 f x y v a b = f a b := if_neg h
structure Ok (S : St) : Prop where
  n0 : 1 ≤ S.N
  n1 : S.N ≤ 8
  m0 : 1 ≤ S.M
  m1 : S.M ≤ 8
  k0 : 1 ≤ S.K
  k1 : S.K ≤ 60
  own : ∀ o, (S.own o = -1 ∧ S.cnt o = 0) ∨ (0 ≤ S.own o ∧ S.own o < S.N ∧ 1 ≤ S.cnt o ∧ S.cnt o ≤ S.K)
  hsh : ∀ o, 0 ≤ S.hsh o ∧ S.hsh o ≤ 2147483647
  wt : ∀ x y c, S.wt x y = some c → 0 ≤ x ∧ x < S.M ∧ 0 ≤ y ∧ y < S.N ∧ 1 ≤ c ∧ c ≤ S.K
  lf : ∀ x y p, S.lf x y = some p → 0 ≤ x ∧ x < S.M ∧ 0 ≤ y ∧ y < S.N ∧ 1 ≤ p.1 ∧ p.1 ≤ S.K ∧ (p.2 = 0 ∨ p.2 = 12 ∨ p.2 = 13)
  ex : ∀ x y, (S.wt x y).isSome = true → S.lf x y = none
  ow : ∀ o : Nat, S.wt o (S.own o) = none ∧ S.lf o (S.own o) = none
  fl : ∀ t, S.N ≤ t → S.flg t = false
def st0 (n m k : Nat) : St := ⟨n, m, k, fun _ => -1, fun _ => 0, fun _ => 0, fun _ => false, fun _ _ => none, fun _ _ => none⟩
def okN (n m k : Int) : Bool := (decide (1 ≤ n) && decide (n ≤ 8)) && (decide (1 ≤ m) && decide (m ≤ 8)) && (decide (1 ≤ k) && decide (k ≤ 60))
theorem okN_iff (n m k : Int) : okN n m k = true ↔ 1 ≤ n ∧ n ≤ 8 ∧ 1 ≤ m ∧ m ≤ 8 ∧ 1 ≤ k ∧ k ≤ 60 := by unfold okN; simp [and_assoc]
theorem ok_st0 {n m k : Nat} (h : okN n m k = true) : Ok (st0 n m k) := by
  obtain ⟨h1, h2, h3, h4, h5, h6⟩ := (okN_iff n m k).1 h
  exact ⟨by show 1 ≤ n; omega, by show n ≤ 8; omega, by show 1 ≤ m; omega, by show m ≤ 8; omega, by show 1 ≤ k; omega, by show k ≤ 60; omega, fun _ => .inl ⟨rfl, rfl⟩, fun _ => ⟨Int.le_refl _, by show (0 : Int) ≤ 2147483647; omega⟩, fun _ _ _ h => (nomatch h), fun _ _ _ h => (nomatch h), fun _ _ _ => rfl, fun _ => ⟨rfl, rfl⟩, fun _ _ => rfl⟩
/-- Does a thread wait somewhere, or did it leave? -/
def awB (S : St) (t : Nat) : Bool := (List.range S.M).any fun o => (S.wt (o : Nat) (t : Nat)).isSome || (S.lf (o : Nat) (t : Nat)).isSome
def noW (S : St) (o : Nat) : Bool := (List.range S.N).all fun t => !(S.wt (o : Nat) (t : Nat)).isSome
def isT (S : St) (a : Int) : Bool := decide (0 ≤ a) && decide (a < S.N)
def isO (S : St) (a : Int) : Bool := decide (0 ≤ a) && decide (a < S.M)
def mcbB (S : St) (k : Int) (t o : Nat) (r : Int) : Bool :=
  if k = 6 then (S.lf o t).isSome && (((S.lf o t).getD (0, 0)).2 == r) && (S.own o == -1) else (S.wt o t).isSome && (r == 13 || (r == 12 && S.flg t))
def entB (S : St) (t o : Nat) (r x : Int) : Bool :=
  if S.own o = -1 then r == 0 else if S.own o = t then (r == 0 && decide (S.cnt o < S.K)) || (r == 10 && S.cnt o == S.K) else r == x
def refB (r : Int) (ow : Bool) : Bool := r == 9 && !ow
def begB (S : St) (t : Nat) (r : Int) : Bool := (r == 0 || r == 11) || (r == 12 && S.flg t)
def owB (S : St) (t o : Nat) : Bool := S.own o == (t : Int)
def mwoB (S : St) (k : Int) (t o : Nat) (r : Int) : Bool :=
  if k = 1 then entB S t o r 11
  else if k = 2 then entB S t o r 14
  else if k = 3 then refB r (owB S t o) || (r == 0 && owB S t o)
  else if k = 4 then refB r (owB S t o) || (owB S t o && begB S t r)
  else if k = 9 then refB r (owB S t o) || (r == 0 && owB S t o && noW S o)
  else false
def telB (S : St) (o : Nat) (a : Int) : Bool := isT S a || (a == -1 && noW S o)
def witB (n x : Int) : Bool := decide (1 ≤ n) && decide (n ≤ x)
def hshB (own hsh a r : Int) : Bool :=
  if r = 0 then witB a 2147483647 && (hsh == 0 || hsh == a) else if r = 11 then a == 0 && own != -1 else false
def mwiB (S : St) (k : Int) (t o : Nat) (a r : Int) : Bool :=
  if k = 7 then r == 0 && owB S t o && (S.wt o a).isSome
  else if k = 8 then (refB r (owB S t o) && a == -1) || (r == 0 && owB S t o && telB S o a)
  else if k = 10 then hshB (S.own o) (S.hsh o) a r
  else if k = 11 then r == 0 && ((a == 1 && owB S t o) || (a == 0 && !owB S t o))
  else if k = 12 then r == 0 && isT S a
  else false
def mayB (S : St) (k : Int) (t o : Nat) (a r : Int) : Bool :=
  if k = 5 ∨ k = 6 then a == 0 && mcbB S k t o r
  else if awB S t = true then false
  else if k = 1 ∨ k = 2 ∨ k = 3 ∨ k = 4 ∨ k = 9 then a == 0 && mwoB S k t o r
  else mwiB S k t o a r
def lvS (S : St) (x y r : Int) : St := { S with wt := upd2 S.wt x y none, lf := upd2 S.lf x y (some ((S.wt x y).getD 0, r)) }
def flS (S : St) (t : Nat) (b : Bool) : St := { S with flg := upd S.flg t b }
def enS0 (S : St) (t o : Nat) : St := { S with own := upd S.own o (t : Int), cnt := upd S.cnt o ((S.lf o t).getD (0, 0)).1, lf := upd2 S.lf o t none }
def enS (S : St) (t o : Nat) (r : Int) : St := if r = 12 then flS (enS0 S t o) t false else enS0 S t o
def inS (S : St) (t o : Nat) : St := { S with own := upd S.own o (t : Int), cnt := upd S.cnt o (S.cnt o + 1) }
def exS (S : St) (o : Nat) : St := { S with cnt := upd S.cnt o (S.cnt o - 1), own := if S.cnt o = 1 then upd S.own o (-1) else S.own }
def beS (S : St) (t o : Nat) : St := { S with own := upd S.own o (-1), cnt := upd S.cnt o 0, wt := upd2 S.wt o t (some (S.cnt o)) }
def haS (S : St) (o : Nat) (a : Int) : St := { S with hsh := upd S.hsh o a }
def tuS (S : St) (k : Int) (t o : Nat) (a : Int) : St :=
  if k = 1 ∨ k = 2 then inS S t o
  else if k = 3 then exS S o
  else if k = 4 then beS S t o
  else if k = 7 then lvS S o a 0
  else if k = 10 then haS S o a
  else if k = 12 then flS S a.toNat true
  else S
def doS (S : St) (k : Int) (t o : Nat) (a r : Int) : St :=
  if k = 5 then lvS S o t r
  else if k = 6 then enS S t o r
  else if r = 12 then flS S t false
  else if r = 0 then tuS S k t o a
  else S
/-- An Apply of any numbers. -/
def apB (S : St) (k t o a r : Int) : Bool := isT S t && isO S o && mayB S k t.toNat o.toNat a r
def apS (S : St) (k t o a r : Int) : St := if apB S k t o a r = true then doS S k t.toNat o.toNat a r else S
def apE (S : St) (k t o a r : Int) : Int := if apB S k t o a r = true then 0 else 15
theorem aw_no {S : St} {t o : Nat} (h : awB S t = false) (ho : o < S.M) : S.wt o t = none ∧ S.lf o t = none := by
  unfold awB at h
  rw [List.any_eq_false] at h
  have := h o (List.mem_range.2 ho)
  simp only [Bool.or_eq_true, not_or, Option.not_isSome_iff_eq_none] at this
  exact this
theorem isT_iff {S : St} {a : Int} : isT S a = true ↔ 0 ≤ a ∧ a < S.N := by unfold isT; simp
theorem isO_iff {S : St} {a : Int} : isO S a = true ↔ 0 ≤ a ∧ a < S.M := by unfold isO; simp
theorem Ok.own0 {S : St} (h : Ok S) {o : Nat} (e : S.own o = -1) : S.cnt o = 0 := by rcases h.own o with h | h <;> omega
theorem Ok.owned {S : St} (h : Ok S) {o : Nat} (e : S.own o ≠ -1) : 0 ≤ S.own o ∧ S.own o < S.N ∧ 1 ≤ S.cnt o ∧ S.cnt o ≤ S.K := by rcases h.own o with h | h <;> omega
theorem Ok.fls {S : St} (h : Ok S) (t : Nat) (b : Bool) (hb : b = true → t < S.N) : Ok (flS S t b) := by
  refine ⟨h.n0, h.n1, h.m0, h.m1, h.k0, h.k1, h.own, h.hsh, h.wt, h.lf, h.ex, h.ow, fun s hs => ?_⟩
  show upd S.flg t b s = false
  unfold upd
  split
  · rename_i e; subst e
    cases b
    · rfl
    · have := hb rfl; have hs' : S.N ≤ s := hs; omega
  · exact h.fl s hs
theorem Ok.lvs {S : St} (h : Ok S) {x y r : Int} (hw : (S.wt x y).isSome = true) (hr : r = 0 ∨ r = 12 ∨ r = 13) : Ok (lvS S x y r) := by
  obtain ⟨c, hc⟩ := Option.isSome_iff_exists.1 hw
  have b := h.wt x y c hc
  refine ⟨h.n0, h.n1, h.m0, h.m1, h.k0, h.k1, h.own, h.hsh, fun a b c hq => ?_, fun a b p hq => ?_, fun a b hq => ?_, fun o => ?_, h.fl⟩
  · simp only [lvS, upd2] at hq
    split at hq
    · cases hq
    · exact h.wt _ _ _ hq
  · simp only [lvS, upd2] at hq
    split at hq
    · rename_i e
      obtain ⟨rfl, rfl⟩ := e
      cases hq
      rw [hc]
      exact ⟨b.1, b.2.1, b.2.2.1, b.2.2.2.1, b.2.2.2.2.1, b.2.2.2.2.2, hr⟩
    · exact h.lf _ _ _ hq
  · simp only [lvS, upd2] at hq ⊢
    split
    · rename_i e; rw [if_pos e] at hq; cases hq
    · rename_i e; rw [if_neg e] at hq; exact h.ex _ _ hq
  · obtain ⟨h1, h2⟩ := h.ow o
    have hne : ¬ ((o : Int) = x ∧ S.own o = y) := fun ⟨e1, e2⟩ => by rw [e1, e2, hc] at h1; cases h1
    simp only [lvS, upd2]
    rw [if_neg hne, if_neg hne]; exact ⟨h1, h2⟩
theorem Ok.ens0 {S : St} (h : Ok S) {t o : Nat} (ht : t < S.N) (hl : (S.lf o t).isSome = true) : Ok (enS0 S t o) := by
  obtain ⟨p, hp⟩ := Option.isSome_iff_exists.1 hl
  have b := h.lf _ _ _ hp
  have hwn : S.wt o t = none := by
    cases e : S.wt o t with
    | none => rfl
    | some c => have := h.ex o t (by rw [e]; rfl); rw [hp] at this; cases this
  refine ⟨h.n0, h.n1, h.m0, h.m1, h.k0, h.k1, fun i => ?_, h.hsh, h.wt, fun x y q hq => ?_, fun x y hq => ?_, fun i => ?_, h.fl⟩
  · simp only [enS0, upd, hp, Option.getD_some]
    split
    · right; omega
    · exact h.own i
  · simp only [enS0, upd2] at hq
    split at hq
    · cases hq
    · exact h.lf _ _ _ hq
  · simp only [enS0, upd2]
    split
    · rfl
    · exact h.ex _ _ hq
  · simp only [enS0, upd, upd2]
    split
    · rename_i e; subst e
      rw [if_pos ⟨rfl, rfl⟩]; exact ⟨hwn, rfl⟩
    · rename_i e
      obtain ⟨h1, h2⟩ := h.ow i
      rw [if_neg (by omega)]; exact ⟨h1, h2⟩
theorem Ok.ens {S : St} (h : Ok S) {t o : Nat} {r : Int} (ht : t < S.N) (hl : (S.lf o t).isSome = true) : Ok (enS S t o r) := by
  unfold enS
  split
  · exact (h.ens0 ht hl).fls t false (fun e => by cases e)
  · exact h.ens0 ht hl
theorem Ok.ins {S : St} (h : Ok S) {t o : Nat} (ht : t < S.N) (h1 : S.wt o t = none) (h2 : S.lf o t = none) (hc : 0 ≤ S.cnt o ∧ S.cnt o < S.K) : Ok (inS S t o) := by
  refine ⟨h.n0, h.n1, h.m0, h.m1, h.k0, h.k1, fun i => ?_, h.hsh, h.wt, h.lf, h.ex, fun i => ?_, h.fl⟩
  · simp only [inS, upd]
    split
    · right; omega
    · exact h.own i
  · simp only [inS, upd]
    split
    · rename_i e; subst e; exact ⟨h1, h2⟩
    · exact h.ow i
theorem Ok.far {S : St} (h : Ok S) (x : Int) : S.wt x (-1) = none ∧ S.lf x (-1) = none := by
  constructor
  · cases e : S.wt x (-1) with
    | none => rfl
    | some c => have := h.wt _ _ _ e; omega
  · cases e : S.lf x (-1) with
    | none => rfl
    | some c => have := h.lf _ _ _ e; omega
theorem Ok.exs {S : St} (h : Ok S) {o : Nat} (ho : S.own o ≠ -1) : Ok (exS S o) := by
  have b := h.owned ho
  refine ⟨h.n0, h.n1, h.m0, h.m1, h.k0, h.k1, fun i => ?_, h.hsh, h.wt, h.lf, h.ex, fun i => ?_, h.fl⟩
  · by_cases e : S.cnt o = 1
    · simp only [exS, if_pos e, upd]
      split
      · left; omega
      · exact h.own i
    · simp only [exS, if_neg e, upd]
      split
      · rename_i q; subst q; right; omega
      · exact h.own i
  · by_cases e : S.cnt o = 1
    · simp only [exS, if_pos e, upd]
      split
      · exact h.far _
      · exact h.ow i
    · simp only [exS, if_neg e]; exact h.ow i
theorem Ok.bes {S : St} (h : Ok S) {t o : Nat} (ht : t < S.N) (hM : o < S.M) (ho : S.own o ≠ -1) (hl : S.lf o t = none) : Ok (beS S t o) := by
  have b := h.owned ho
  refine ⟨h.n0, h.n1, h.m0, h.m1, h.k0, h.k1, fun i => ?_, h.hsh, fun x y c hq => ?_, h.lf, fun x y hq => ?_, fun i => ?_, h.fl⟩
  · simp only [beS, upd]
    split
    · left; exact ⟨rfl, rfl⟩
    · exact h.own i
  · simp only [beS, upd2] at hq
    split at hq
    · rename_i e
      cases hq
      obtain ⟨rfl, rfl⟩ := e
      exact ⟨by omega, by show (o : Int) < (S.M : Int); omega, by omega, by show (t : Int) < (S.N : Int); omega, b.2.2.1, b.2.2.2⟩
    · exact h.wt _ _ _ hq
  · simp only [beS, upd2] at hq ⊢
    split at hq
    · rename_i e; obtain ⟨rfl, rfl⟩ := e; exact hl
    · exact h.ex _ _ hq
  · simp only [beS, upd, upd2]
    split
    · rename_i e; subst e
      rw [if_neg (by omega)]; exact h.far _
    · rename_i e
      rw [if_neg (by omega)]; exact h.ow i
theorem Ok.has {S : St} (h : Ok S) {o : Nat} {a : Int} (ha : 0 ≤ a ∧ a ≤ 2147483647) : Ok (haS S o a) := by
  refine ⟨h.n0, h.n1, h.m0, h.m1, h.k0, h.k1, h.own, fun i => ?_, h.wt, h.lf, h.ex, h.ow, h.fl⟩
  simp only [haS, upd]
  split
  · exact ha
  · exact h.hsh i
theorem may_ok {S : St} (h : Ok S) {k : Int} {t o : Nat} {a r : Int} (ht : t < S.N) (hM : o < S.M) (hm : mayB S k t o a r = true) : Ok (doS S k t o a r) := by
  unfold mayB at hm
  unfold doS
  by_cases k5 : k = 5
  · subst k5
    simp only [if_pos, true_or] at hm ⊢
    simp [mcbB] at hm
    refine h.lvs hm.2.1 ?_
    rcases hm.2.2 with e | ⟨e, _⟩
    · right; right; exact e
    · right; left; exact e
  rw [if_neg k5]
  by_cases k6 : k = 6
  · subst k6
    simp [mcbB] at hm
    rw [if_pos rfl]
    exact h.ens ht hm.2.1.1
  rw [if_neg k6]
  rw [if_neg (by omega)] at hm
  cases hA : awB S t
  · rw [hA, if_neg (by simp)] at hm
    obtain ⟨hw, hl⟩ := aw_no hA hM
    by_cases r12 : r = 12
    · rw [if_pos r12]; exact h.fls t false (fun e => by cases e)
    rw [if_neg r12]
    by_cases r0 : r = 0
    · rw [if_pos r0]
      subst r0
      unfold tuS
      by_cases k1 : k = 1 ∨ k = 2
      · rw [if_pos k1]
        rw [if_pos (by omega)] at hm
        have e : mwoB S k t o 0 = entB S t o 0 11 ∨ mwoB S k t o 0 = entB S t o 0 14 := by
          rcases k1 with rfl | rfl
          · left; rfl
          · right; rfl
        have hen : entB S t o 0 11 = true ∨ entB S t o 0 14 = true := by
          simp at hm
          rcases e with e | e <;> rw [e] at hm
          · exact .inl hm.2
          · exact .inr hm.2
        refine h.ins ht hw hl ?_
        have k0 := h.k0
        rcases h.own o with ⟨q1, q2⟩ | q
        · omega
        · have hne : S.own o ≠ -1 := by omega
          unfold entB at hen
          rw [if_neg hne, if_neg hne] at hen
          by_cases q3 : S.own o = t
          · rw [if_pos q3, if_pos q3] at hen
            simp at hen
            omega
          · rw [if_neg q3, if_neg q3] at hen
            simp at hen
      rw [if_neg k1]
      by_cases k3 : k = 3
      · subst k3
        rw [if_pos rfl]
        simp [mwoB, refB, owB] at hm
        exact h.exs (by rw [hm.2]; omega)
      rw [if_neg k3]
      by_cases k4 : k = 4
      · subst k4
        rw [if_pos rfl]
        simp [mwoB, refB, owB] at hm
        exact h.bes ht hM (by rw [hm.2.1]; omega) hl
      rw [if_neg k4]
      by_cases k7 : k = 7
      · subst k7
        rw [if_pos rfl]
        simp [mwiB] at hm
        exact h.lvs hm.2 (.inl rfl)
      rw [if_neg k7]
      by_cases k10 : k = 10
      · subst k10
        rw [if_pos rfl]
        simp [mwiB, hshB, witB] at hm
        exact h.has (by omega)
      rw [if_neg k10]
      by_cases k12 : k = 12
      · subst k12
        rw [if_pos rfl]
        simp [mwiB, isT] at hm
        exact h.fls _ true (fun _ => by omega)
      rw [if_neg k12]; exact h
    · rw [if_neg r0]; exact h
  · rw [hA, if_pos rfl] at hm; cases hm
theorem ap_ok {S : St} (h : Ok S) (k t o a r : Int) : Ok (apS S k t o a r) := by
  unfold apS
  split
  · rename_i e
    unfold apB at e
    simp only [Bool.and_eq_true] at e
    obtain ⟨⟨e1, e2⟩, e3⟩ := e
    have b1 := isT_iff.1 e1
    have b2 := isO_iff.1 e2
    exact may_ok h (by omega) (by omega) e3
  · exact h
end Go.Proofs.YtlgomkocalieeaaGreatDoor.Mo
