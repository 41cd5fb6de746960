/- The table of layer 10, as lists and functions: where each slot is; threads' own ones; the common ones' words. -/
import Derived.Test.YtpadepamknbkoaaDoorTurn
namespace Go.Proofs.YtpadepamknbkoaaDoor
open Go.RowKit
set_option linter.unusedSimpArgs false
set_option linter.unusedVariables false

/-- Where a slot is, of whom, when it came there, its generation. -/
structure Pl where
  a : Int
  t : Int
  c : Int
  g : Int
/-- A table: the block's size, how many frees, how many are made, the slots. -/
structure TS where
  b : Nat
  N : Nat
  m : Nat
  L : List Pl
def z0 : Pl := ⟨0, 0, 0, 0⟩
def TS.p (S : TS) (i : Nat) : Pl := S.L.getD i z0
def stA (a : Int) : Int := if a = 1 then 1 else if a = 4 then 2 else 0
def TS.made (S : TS) : List (Int × Int) := (List.range S.m).map fun i => (stA (S.p i).a, (S.p i).g)
def isO (x : Pl) (t : Int) (c : Nat) : Bool := x.a == 3 && x.t == t && x.c == c
def TS.row (S : TS) (t : Int) (c : Nat) : List Nat := (List.range S.L.length).filter fun i => isO (S.p i) t c
def TS.mine (S : TS) (t : Int) : List Nat := (List.range (S.N + 1)).flatMap fun c => S.row t c
def TS.com (S : TS) (i : Nat) : Bool := (S.p i).a == 2
def TS.inuse (S : TS) : List Nat := (List.range S.L.length).filter fun i => (S.p i).a == 1
def TS.cnt (S : TS) (a : Int) : Nat := (List.range S.L.length).countP fun i => (S.p i).a == a
structure Ok (S : TS) : Prop where
  b0 : 1 ≤ S.b
  b1 : S.b ≤ 64
  n0 : 1 ≤ S.L.length
  n1 : S.L.length ≤ 4096
  m1 : S.m ≤ S.L.length
  a0 : ∀ i, i < S.L.length → 0 ≤ (S.p i).a ∧ (S.p i).a ≤ 4
  un : ∀ i, i < S.L.length → ((S.p i).a = 0 ↔ S.m ≤ i)
  g0 : ∀ i, 0 ≤ (S.p i).g ∧ (S.p i).g ≤ 16777215
  gu : ∀ i, (S.p i).a = 0 → (S.p i).g = 0
  ow : ∀ i, (S.p i).a = 3 → 0 ≤ (S.p i).t ∧ (S.p i).t < 256 ∧ 0 ≤ (S.p i).c ∧ (S.p i).c ≤ S.N
/-- One slot is somewhere else. -/
def TS.set (S : TS) (k : Nat) (x : Pl) : TS := { S with L := S.L.set k x }
theorem TS.p_far {S : TS} {i : Nat} (h : S.L.length ≤ i) : S.p i = z0 := by
  unfold TS.p; rw [List.getD_eq_getElem?_getD, List.getElem?_eq_none h]; rfl
theorem TS.p_at {S : TS} {i : Nat} (h : i < S.L.length) : S.L[i]? = some (S.p i) := by
  unfold TS.p; rw [List.getD_eq_getElem?_getD, List.getElem?_eq_getElem h]; rfl
theorem TS.p_set (S : TS) (k : Nat) (x : Pl) (i : Nat) : (S.set k x).p i = if i = k ∧ k < S.L.length then x else S.p i := by
  unfold TS.set TS.p
  simp only [List.getD_eq_getElem?_getD, List.getElem?_set]
  by_cases h : k = i
  · subst h
    by_cases hk : k < S.L.length
    · simp [hk]
    · simp [hk]
  · rw [if_neg h, if_neg (fun q => h q.1.symm)]
theorem TS.p_self (S : TS) {k : Nat} (x : Pl) (h : k < S.L.length) : (S.set k x).p k = x := by rw [TS.p_set, if_pos ⟨rfl, h⟩]
theorem TS.p_other (S : TS) {k i : Nat} (x : Pl) (h : i ≠ k) : (S.set k x).p i = S.p i := by rw [TS.p_set, if_neg (fun q => h q.1)]
theorem TS.len_set (S : TS) (k : Nat) (x : Pl) : (S.set k x).L.length = S.L.length := by unfold TS.set; simp

theorem mem_mine {S : TS} {t : Int} {i : Nat} : i ∈ S.mine t ↔ i < S.L.length ∧ (S.p i).a = 3 ∧ (S.p i).t = t ∧ 0 ≤ (S.p i).c ∧ (S.p i).c ≤ S.N := by
  unfold TS.mine TS.row isO
  simp only [List.mem_flatMap, List.mem_filter, List.mem_range, Bool.and_eq_true, beq_iff_eq]
  constructor
  · rintro ⟨c, hc, hi, ⟨h1, h2⟩, h3⟩
    exact ⟨hi, h1, h2, by omega, by omega⟩
  · rintro ⟨hi, h1, h2, h3, h4⟩
    exact ⟨(S.p i).c.toNat, by omega, hi, ⟨h1, h2⟩, by omega⟩
theorem Ok.mem {S : TS} (h : Ok S) {t : Int} {i : Nat} : i ∈ S.mine t ↔ i < S.L.length ∧ (S.p i).a = 3 ∧ (S.p i).t = t := by
  rw [mem_mine]
  constructor
  · rintro ⟨h1, h2, h3, _⟩; exact ⟨h1, h2, h3⟩
  · rintro ⟨h1, h2, h3⟩
    have := h.ow i h2
    exact ⟨h1, h2, h3, this.2.2⟩
theorem mine_nodup (S : TS) (t : Int) : (S.mine t).Nodup := by
  unfold TS.mine List.Nodup
  rw [List.pairwise_flatMap]
  refine ⟨fun c _ => List.Pairwise.filter _ List.nodup_range, ?_⟩
  refine List.Pairwise.imp ?_ (List.nodup_range (n := S.N + 1))
  intro c d hcd x hx y hy hxy
  subst hxy
  unfold TS.row isO at hx hy
  simp only [List.mem_filter, Bool.and_eq_true, beq_iff_eq] at hx hy
  have := hx.2.2.symm.trans hy.2.2
  omega
theorem nodup_le (l : List Nat) : ∀ (r : List Nat), l.Nodup → (∀ x, x ∈ l → x ∈ r) → l.length ≤ r.length := by
  induction l with
  | nil => intro r _ _; simp
  | cons a l ih =>
    intro r h hs
    have ha := hs a (List.mem_cons_self ..)
    have h2 := List.nodup_cons.1 h
    have h3 := ih (r.erase a) h2.2 (fun x hx => (List.mem_erase_of_ne (by rintro rfl; exact h2.1 hx)).2 (hs x (List.mem_cons_of_mem _ hx)))
    have h4 := List.length_erase_of_mem ha
    have h5 := List.length_pos_of_mem ha
    rw [List.length_cons]
    omega
theorem nodup_range_le {l : List Nat} {n : Nat} (h : l.Nodup) (hs : ∀ x, x ∈ l → x < n) : l.length ≤ n := by
  have := nodup_le l (List.range n) h (fun x hx => List.mem_range.2 (hs x hx))
  rwa [List.length_range] at this
theorem mine_len (S : TS) (t : Int) (h : Ok S) : (S.mine t).length ≤ 4096 := by
  have := nodup_range_le (mine_nodup S t) (fun i hi => (mem_mine.1 hi).1)
  have := h.n1
  omega
theorem mine_none {S : TS} (h : Ok S) {t : Int} (ht : ¬ (0 ≤ t ∧ t < 256)) : S.mine t = [] := by
  apply List.eq_nil_iff_forall_not_mem.2
  intro i hi
  have := h.mem.1 hi
  have h2 := h.ow i this.2.1
  rw [this.2.2] at h2
  exact ht ⟨h2.1, h2.2.1⟩

/-- Two tables whose slots are own of the same, but for one, and that one is none's now. -/
theorem mine_drop {S S' : TS} {t : Int} {k : Nat} (hl : S'.L.length = S.L.length) (hN : S.N ≤ S'.N) (ok : ∀ i, (S'.p i).a = 3 → (S'.p i).c ≤ S.N)
    (ho : ∀ i, i ≠ k → S'.p i = S.p i) (hk : (S'.p k).a ≠ 3) : S'.mine t = (S.mine t).filter (fun i => i != k) := by
  have hrow : ∀ c, S'.row t c = (S.row t c).filter (fun i => i != k) := by
    intro c
    unfold TS.row
    rw [List.filter_filter, hl]
    congr 1
    funext i
    by_cases e : i = k
    · subst e
      unfold isO
      have : ((S'.p i).a == 3) = false := by simpa using hk
      simp [this]
    · have : (i != k) = true := by simpa using e
      rw [ho i e, this, Bool.true_and]
  have hz : ∀ d, S.N + 1 ≤ d → S'.row t d = [] := by
    intro d hd
    apply List.eq_nil_iff_forall_not_mem.2
    intro i hi
    unfold TS.row isO at hi
    simp only [List.mem_filter, Bool.and_eq_true, beq_iff_eq] at hi
    have := ok i hi.2.1.1
    omega
  unfold TS.mine
  obtain ⟨e, he⟩ : ∃ e, S'.N + 1 = (S.N + 1) + e := ⟨S'.N - S.N, by omega⟩
  rw [he, List.range_add, List.flatMap_append, List.filter_flatMap]
  have h0 : ((List.range e).map (S.N + 1 + ·)).flatMap (fun c => S'.row t c) = [] := by
    rw [List.flatMap_eq_nil_iff]
    intro c hc
    obtain ⟨q, _, rfl⟩ := List.mem_map.1 hc
    exact hz _ (by omega)
  rw [h0, List.append_nil]
  congr 1
  funext c
  exact hrow c
theorem filter_ne_self {l : List Nat} {k : Nat} (h : k ∉ l) : l.filter (fun i => i != k) = l := by
  rw [List.filter_eq_self]
  intro a ha
  simp only [bne_iff_ne, ne_eq]
  rintro rfl
  exact h ha
theorem filter_ne_last {r : List Nat} {k : Nat} (h : (r ++ [k]).Nodup) : (r ++ [k]).filter (fun i => i != k) = r := by
  rw [List.filter_append]
  have hk : k ∉ r := fun hk => by
    have := (List.nodup_append.1 h).2.2 k hk k (by simp)
    exact this rfl
  rw [filter_ne_self hk]
  simp
/-- One that was none's is a thread's now, as the last one. -/
theorem mine_add {S S' : TS} {t : Int} {k : Nat} (ok : Ok S) (hl : S'.L.length = S.L.length) (hN : S'.N = S.N + 1) (hkl : k < S.L.length)
    (ho : ∀ i, i ≠ k → S'.p i = S.p i) (hk : (S.p k).a ≠ 3) (ha : (S'.p k).a = 3) (hc : (S'.p k).c = S.N + 1) :
    S'.mine t = if (S'.p k).t = t then S.mine t ++ [k] else S.mine t := by
  have hrow : ∀ c, c < S.N + 1 → S'.row t c = S.row t c := by
    intro c hc2
    unfold TS.row
    rw [hl]
    congr 1
    funext i
    by_cases e : i = k
    · subst e
      unfold isO
      have h1 : ((S.p i).a == 3) = false := by simpa using hk
      have h2 : ((S'.p i).c == (c : Int)) = false := by rw [hc]; simp; omega
      simp [h1, h2]
    · rw [ho i e]
  have hlast : S'.row t (S.N + 1) = if (S'.p k).t = t then [k] else [] := by
    unfold TS.row
    rw [hl]
    have he : ∀ i, isO (S'.p i) t (S.N + 1) = (decide (i = k) && decide ((S'.p k).t = t)) := by
      intro i
      by_cases e : i = k
      · subst e
        unfold isO
        by_cases q : (S'.p i).t = t <;> simp [ha, hc, q]
      · rw [ho i e]
        unfold isO
        by_cases q : (S.p i).a = 3
        · have := (ok.ow i q).2.2.2
          have h2 : ¬ (S.p i).c = (S.N : Int) + 1 := by omega
          simp [h2, e]
        · simp [q, e]
    simp only [he]
    by_cases q : (S'.p k).t = t
    · rw [if_pos q]
      simp only [q, decide_true, Bool.and_true]
      have h9 : ∀ n, k < n → (List.range n).filter (fun i => decide (i = k)) = [k] := by
        intro n
        induction n with
        | zero => intro h; omega
        | succ n ih =>
          intro h
          rw [List.range_succ, List.filter_append]
          by_cases e : n = k
          · subst e
            have : (List.range n).filter (fun i => decide (i = n)) = [] := by
              rw [List.filter_eq_nil_iff]
              intro a ha
              have := List.mem_range.1 ha
              simp; omega
            rw [this]; simp
          · rw [ih (by omega)]
            simp [e]
      exact h9 _ hkl
    · rw [if_neg q]
      simp [q]
  unfold TS.mine
  rw [hN, List.range_succ (n := S.N + 1), List.flatMap_append]
  have e1 : (List.range (S.N + 1)).flatMap (fun c => S'.row t c) = (List.range (S.N + 1)).flatMap (fun c => S.row t c) := by
    rw [List.flatMap_def, List.flatMap_def]
    congr 1
    apply List.map_congr_left
    intro c hc2
    exact hrow c (List.mem_range.1 hc2)
  rw [e1, List.flatMap_singleton, hlast]
  split
  · rfl
  · rw [List.append_nil]
/-- Nothing of a thread's has turned. -/
theorem mine_same {S S' : TS} {t : Int} (hl : S'.L.length = S.L.length) (hN : S'.N = S.N) (h : ∀ i, i < S.L.length → ∀ c, isO (S'.p i) t c = isO (S.p i) t c) : S'.mine t = S.mine t := by
  unfold TS.mine TS.row
  rw [hl, hN, List.flatMap_def, List.flatMap_def]
  congr 1
  apply List.map_congr_left
  intro c _
  apply List.filter_congr
  intro i hi
  exact h i (List.mem_range.1 hi) c

/-- A word of 64 bits. -/
def wd (f : Nat → Bool) : Nat → Nat
  | 0 => 0
  | k + 1 => wd f k ||| (if f k then 2 ^ k else 0)
theorem wd_bit (f : Nat → Bool) (k j : Nat) : (wd f k).testBit j = (decide (j < k) && f j) := by
  induction k with
  | zero => simp [wd]
  | succ k ih =>
    rw [wd, Nat.testBit_or, ih]
    by_cases e : j = k
    · subst e
      by_cases hf : f j
      · simp [hf]
      · simp [hf]
    · have h1 : (if f k then 2 ^ k else 0 : Nat).testBit j = false := by
        split
        · rw [Nat.testBit_two_pow]; simp; omega
        · simp
      rw [h1, Bool.or_false]
      have : decide (j < k + 1) = decide (j < k) := by by_cases q : j < k <;> simp [q] <;> omega
      rw [this]
theorem wd_lt (f : Nat → Bool) (k : Nat) : wd f k < 2 ^ k := by
  induction k with
  | zero => simp [wd]
  | succ k ih =>
    rw [wd]
    refine Nat.or_lt_two_pow (Nat.lt_of_lt_of_le ih (Nat.pow_le_pow_right (by omega) (by omega))) ?_
    split
    · exact Nat.pow_lt_pow_right (by omega) (by omega)
    · exact Nat.pos_of_ne_zero (by simp)
def word (c : Nat → Bool) (i : Nat) : Nat := wd (fun j => c (64 * i + j)) 64
theorem word_lt (c : Nat → Bool) (i : Nat) : word c i < 18446744073709551616 := wd_lt _ 64
def updB (c : Nat → Bool) (k : Nat) (v : Bool) (i : Nat) : Bool := if i = k then v else c i
theorem word_other (c : Nat → Bool) (k : Nat) (v : Bool) {i : Nat} (h : i ≠ k / 64) : word (updB c k v) i = word c i := by
  apply Nat.eq_of_testBit_eq
  intro j
  unfold word
  rw [wd_bit, wd_bit]
  by_cases hj : j < 64
  · simp only [hj, decide_true, Bool.true_and]
    unfold updB
    rw [if_neg (by omega)]
  · simp [hj]
theorem word_add (c : Nat → Bool) (k : Nat) : word c (k / 64) ||| 2 ^ (k % 64) = word (updB c k true) (k / 64) := by
  apply Nat.eq_of_testBit_eq
  intro j
  unfold word
  rw [Nat.testBit_or, wd_bit, wd_bit, Nat.testBit_two_pow]
  unfold updB
  by_cases hj : j < 64
  · by_cases e : k % 64 = j
    · rw [if_pos (by omega)]; simp [hj, e]
    · rw [if_neg (by omega)]; simp [hj, e]
  · simp [hj]; omega
theorem word_drop (c : Nat → Bool) (k : Nat) : word c (k / 64) &&& (18446744073709551615 - 2 ^ (k % 64)) = word (updB c k false) (k / 64) := by
  apply Nat.eq_of_testBit_eq
  intro j
  unfold word
  have e0 : (18446744073709551615 - 2 ^ (k % 64)).testBit j = (decide (j < 64) && !decide (k % 64 = j)) := by
    have h1 : 18446744073709551615 - 2 ^ (k % 64) = 2 ^ 64 - (2 ^ (k % 64) + 1) := by omega
    rw [h1, Nat.testBit_two_pow_sub_succ (Nat.pow_lt_pow_right (by omega) (by omega)), Nat.testBit_two_pow]
  rw [Nat.testBit_and, wd_bit, wd_bit, e0]
  unfold updB
  by_cases hj : j < 64
  · by_cases e : k % 64 = j
    · rw [if_pos (by omega)]; simp [hj, e]
    · rw [if_neg (by omega)]; simp [hj, e]
  · simp [hj]
theorem word_zero {c : Nat → Bool} {i : Nat} : word c i = 0 ↔ ∀ j, j < 64 → c (64 * i + j) = false := by
  constructor
  · intro h j hj
    have h1 : (word c i).testBit j = false := by rw [h]; simp
    unfold word at h1
    rw [wd_bit] at h1
    simpa [hj] using h1
  · intro h
    apply Nat.eq_of_testBit_eq
    intro j
    unfold word
    rw [wd_bit]
    by_cases hj : j < 64
    · simp [h j hj]
    · simp [hj]
end Go.Proofs.YtpadepamknbkoaaDoor
