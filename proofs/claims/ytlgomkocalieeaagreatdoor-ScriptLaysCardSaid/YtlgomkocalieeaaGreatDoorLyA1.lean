/- What stands where, as numbers: no statement of the program. -/
import Derived.Test.YtlgomkocalieeaaGreatDoorKit
namespace Go.Proofs.YtlgomkocalieeaaGreatDoor.Ly
set_option maxRecDepth 100000
set_option linter.unusedSimpArgs false
set_option linter.unusedVariables false
/-- How many there are of a kind; where it begins. -/
def mostI (k : Int) : Int := if k = 1 then 8 else if k = 2 then 4 else if k = 3 then 16 else if k = 4 then 16 else if k = 5 then 8 else if k = 6 then 8 else if k = 7 then 8 else 0
def begI (k : Int) : Int := if k = 1 then 0 else if k = 2 then 8 else if k = 3 then 16 else if k = 4 then 32 else if k = 5 then 48 else if k = 6 then 56 else if k = 7 then 64 else 0
/-- The cell of what is of a kind. -/
def atS (k i j : Int) : Int :=
  if k < 1 ∨ 7 < k ∨ i < 0 ∨ mostI k ≤ i then -1 else if k = 7 then (if j < 0 ∨ 7 < j then -1 else 64 + 8 * i + j) else begI k + i
/-- What a cell is of. -/
def kN (a : Int) : Int := if a < 0 then 0 else if a < 8 then 1 else if a < 12 then 2 else if a < 16 then 0 else if a < 32 then 3 else if a < 48 then 4 else if a < 56 then 5 else if a < 64 then 6 else if a < 128 then 7 else 0
def iN (a : Int) : Int := if kN a = 0 then 0 else if kN a = 7 then (a - 64) / 8 else a - begI (kN a)
def jN (a : Int) : Int := if kN a = 7 then (a - 64) % 8 else 0
theorem kinds {k : Int} (h : ¬ (k < 1 ∨ 7 < k)) : k = 1 ∨ k = 2 ∨ k = 3 ∨ k = 4 ∨ k = 5 ∨ k = 6 ∨ k = 7 := by omega
theorem kN_rng (a : Int) : 0 ≤ kN a ∧ kN a ≤ 7 := by unfold kN; (repeat' split) <;> omega
/-- A cell's kind, by where it lies. -/
theorem kN_cases (a : Int) : (kN a = 0 ∧ (a < 0 ∨ (12 ≤ a ∧ a < 16) ∨ 128 ≤ a)) ∨ (kN a = 1 ∧ 0 ≤ a ∧ a < 8) ∨ (kN a = 2 ∧ 8 ≤ a ∧ a < 12) ∨ (kN a = 3 ∧ 16 ≤ a ∧ a < 32) ∨ (kN a = 4 ∧ 32 ≤ a ∧ a < 48) ∨ (kN a = 5 ∧ 48 ≤ a ∧ a < 56) ∨ (kN a = 6 ∧ 56 ≤ a ∧ a < 64) ∨ (kN a = 7 ∧ 64 ≤ a ∧ a < 128) := by
  unfold kN; (repeat' split) <;> omega
theorem iN_0 {a : Int} (h : kN a = 0) : iN a = 0 := by unfold iN; rw [if_pos h]
theorem jN_0 {a : Int} (h : ¬ kN a = 7) : jN a = 0 := by unfold jN; rw [if_neg h]
theorem iN_k {a : Int} (h0 : ¬ kN a = 0) (h7 : ¬ kN a = 7) : iN a = a - begI (kN a) := by unfold iN; rw [if_neg h0, if_neg h7]
theorem iN_7 {a : Int} (h : kN a = 7) : iN a = (a - 64) / 8 := by unfold iN; rw [if_neg (by omega), if_pos h]
theorem jN_7 {a : Int} (h : kN a = 7) : jN a = (a - 64) % 8 := by unfold jN; rw [if_pos h]
theorem begI_1 : begI 1 = 0 := rfl
theorem begI_2 : begI 2 = 8 := rfl
theorem begI_3 : begI 3 = 16 := rfl
theorem begI_4 : begI 4 = 32 := rfl
theorem begI_5 : begI 5 = 48 := rfl
theorem begI_6 : begI 6 = 56 := rfl
theorem begI_7 : begI 7 = 64 := rfl
theorem mostI_1 : mostI 1 = 8 := rfl
theorem mostI_2 : mostI 2 = 4 := rfl
theorem mostI_3 : mostI 3 = 16 := rfl
theorem mostI_4 : mostI 4 = 16 := rfl
theorem mostI_5 : mostI 5 = 8 := rfl
theorem mostI_6 : mostI 6 = 8 := rfl
theorem mostI_7 : mostI 7 = 8 := rfl
theorem iN_rng (a : Int) : 0 ≤ iN a ∧ (iN a < mostI (kN a) ∨ (iN a = 0 ∧ kN a = 0)) := by
  rcases kN_cases a with h | h | h | h | h | h | h | h
  · exact ⟨by rw [iN_0 h.1]; omega, .inr ⟨iN_0 h.1, h.1⟩⟩
  all_goals first
    | (rw [iN_k (by omega) (by omega), h.1]; simp only [begI_1, begI_2, begI_3, begI_4, begI_5, begI_6, mostI_1, mostI_2, mostI_3, mostI_4, mostI_5, mostI_6]; omega)
    | (rw [iN_7 h.1, h.1]; simp only [mostI_7]; omega)
theorem jN_rng (a : Int) : 0 ≤ jN a ∧ jN a ≤ 7 := by
  unfold jN; split <;> omega
/-- There and back. -/
theorem at_what {a : Int} (h : ¬ kN a = 0) : atS (kN a) (iN a) (jN a) = a := by
  rcases kN_cases a with k | k | k | k | k | k | k | k
  · exact absurd k.1 h
  all_goals first
    | (rw [iN_k (by omega) (by omega), jN_0 (by omega), k.1]; unfold atS; simp only [begI_1, begI_2, begI_3, begI_4, begI_5, begI_6, mostI_1, mostI_2, mostI_3, mostI_4, mostI_5, mostI_6]; (repeat' split) <;> omega)
    | (rw [iN_7 k.1, jN_7 k.1, k.1]; unfold atS; simp only [mostI_7, begI_7, if_true]; (repeat' split) <;> omega)
theorem kN_of {a k : Int} (hk : kN a = k) : kN a = k := hk
theorem what_at {k i j : Int} (h : ¬ atS k i j = -1) : kN (atS k i j) = k ∧ iN (atS k i j) = i ∧ jN (atS k i j) = (if k = 7 then j else 0) ∧ 0 ≤ atS k i j ∧ atS k i j < 128 := by
  have hA : ∃ a, atS k i j = a := ⟨_, rfl⟩
  obtain ⟨a, ha⟩ := hA
  rw [ha] at h ⊢
  unfold atS at ha
  split at ha
  · exact absurd ha.symm h
  · rename_i h1
    have hk : ¬ (k < 1 ∨ 7 < k) := by omega
    rcases kinds hk with rfl | rfl | rfl | rfl | rfl | rfl | rfl
    all_goals simp only [mostI_1, mostI_2, mostI_3, mostI_4, mostI_5, mostI_6, mostI_7, begI_1, begI_2, begI_3, begI_4, begI_5, begI_6] at ha h1
    · simp at ha
      have e : kN a = 1 := by rcases kN_cases a with c | c | c | c | c | c | c | c <;> omega
      rw [iN_k (by omega) (by omega), jN_0 (by omega), e, begI_1]; simp; omega
    · simp at ha
      have e : kN a = 2 := by rcases kN_cases a with c | c | c | c | c | c | c | c <;> omega
      rw [iN_k (by omega) (by omega), jN_0 (by omega), e, begI_2]; simp; omega
    · simp at ha
      have e : kN a = 3 := by rcases kN_cases a with c | c | c | c | c | c | c | c <;> omega
      rw [iN_k (by omega) (by omega), jN_0 (by omega), e, begI_3]; simp; omega
    · simp at ha
      have e : kN a = 4 := by rcases kN_cases a with c | c | c | c | c | c | c | c <;> omega
      rw [iN_k (by omega) (by omega), jN_0 (by omega), e, begI_4]; simp; omega
    · simp at ha
      have e : kN a = 5 := by rcases kN_cases a with c | c | c | c | c | c | c | c <;> omega
      rw [iN_k (by omega) (by omega), jN_0 (by omega), e, begI_5]; simp; omega
    · simp at ha
      have e : kN a = 6 := by rcases kN_cases a with c | c | c | c | c | c | c | c <;> omega
      rw [iN_k (by omega) (by omega), jN_0 (by omega), e, begI_6]; simp; omega
    · rw [if_pos trivial] at ha
      split at ha
      · exact absurd ha.symm h
      · have e : kN a = 7 := by rcases kN_cases a with c | c | c | c | c | c | c | c <;> omega
        rw [iN_7 e, jN_7 e, e, if_pos rfl]; omega
theorem kN_no {a : Int} (h : ¬ (0 ≤ a ∧ a < 128)) : kN a = 0 := by rcases kN_cases a with c | c | c | c | c | c | c | c <;> omega
/-- Whether a cell is there, of so many threads, objects, classes, slots. -/
def manyI (t o c s k : Int) : Int := if k = 1 then o else if k = 2 then c else if k = 3 then s else if k = 4 then s else if k = 0 then 0 else t
def isIn (t o c s : Int) (a : Int) : Bool := decide (iN a < manyI t o c s (kN a)) && (decide (kN a ≠ 7) || decide (jN a < o))
def allS (t o c s : Int) (n : Nat) : List Int := ((List.range n).map fun (x : Nat) => (x : Int)).filter (isIn t o c s)
theorem allS_succ (t o c s : Int) (n : Nat) : allS t o c s (n + 1) = allS t o c s n ++ if isIn t o c s n then [(n : Int)] else [] := by
  unfold allS
  rw [List.range_succ, List.map_append, List.filter_append]
  simp only [List.map_cons, List.map_nil, List.filter_cons, List.filter_nil]
theorem allS_len (t o c s : Int) (n : Nat) : (allS t o c s n).length ≤ n := by
  unfold allS
  exact Nat.le_trans (List.length_filter_le _ _) (by simp)
theorem isIn_0 {t o c s a : Int} (h : kN a = 0) : isIn t o c s a = false := by
  unfold isIn manyI
  rw [iN_0 h, h]
  simp
def cutI (n top : Int) : Int := if n < 0 then 0 else if top < n then top else n
theorem cut_in (t o c s a : Int) : isIn (cutI t 8) (cutI o 8) (cutI c 4) (cutI s 16) a = isIn t o c s a := by
  have hi := iN_rng a
  have hj := jN_rng a
  unfold isIn manyI cutI
  rcases kN_cases a with k | k | k | k | k | k | k | k
  case inl => rw [iN_0 k.1, k.1]; simp
  all_goals
    rw [k.1] at hi ⊢
    simp only [mostI_1, mostI_2, mostI_3, mostI_4, mostI_5, mostI_6, mostI_7] at hi
    rw [Bool.eq_iff_iff]
    simp
    (repeat' split) <;> omega
theorem cut_all (t o c s : Int) (n : Nat) : allS (cutI t 8) (cutI o 8) (cutI c 4) (cutI s 16) n = allS t o c s n := by
  unfold allS
  congr 1
  funext a
  exact cut_in t o c s a
theorem more_in {t o c s t' o' c' s' a : Int} (h : isIn t o c s a = true) (ht : t ≤ t') (ho : o ≤ o') (hc : c ≤ c') (hs : s ≤ s') : isIn t' o' c' s' a = true := by
  unfold isIn manyI at *
  simp only [Bool.and_eq_true, Bool.or_eq_true, decide_eq_true_eq] at h ⊢
  refine ⟨?_, by omega⟩
  have h1 := h.1
  revert h1
  (repeat' split) <;> omega
theorem mem_all {t o c s a : Int} {n : Nat} : a ∈ allS t o c s n ↔ (0 ≤ a ∧ a < n) ∧ isIn t o c s a = true := by
  unfold allS
  rw [List.mem_filter, List.mem_map]
  constructor
  · rintro ⟨⟨x, hx, rfl⟩, h⟩
    rw [List.mem_range] at hx
    exact ⟨by omega, h⟩
  · rintro ⟨⟨h0, h1⟩, h⟩
    exact ⟨⟨a.toNat, by rw [List.mem_range]; omega, by omega⟩, h⟩
theorem all_lt (t o c s : Int) (n : Nat) : (allS t o c s n).Pairwise (· < ·) := by
  unfold allS
  refine List.Pairwise.filter _ ?_
  rw [List.pairwise_map]
  exact List.pairwise_lt_range.imp (fun h => by omega)
end Go.Proofs.YtlgomkocalieeaaGreatDoor.Ly
