/- Lists of records: the places of an object's, the first one, the last one; what is left of them. -/
import Derived.Test.YtppjpicfiflkcaaTurn
namespace Go.Proofs.Ytppjpicfiflkcaa
open Go.RowKit
set_option linter.unusedSimpArgs false
set_option linter.unusedVariables false


abbrev Rec := Int × Int
def rcells (l : List Rec) : List Value := l.flatMap fun p => [.int .i64 p.1, .int .u64 p.2]
theorem rcells_length (l : List Rec) : (rcells l).length = l.length * 2 := by
  induction l with
  | nil => rfl
  | cons p l ih => simp only [rcells, List.flatMap_cons, List.length_append, List.length_cons, List.length_nil] at ih ⊢; omega
theorem rcells_at (l : List Rec) (k : Nat) (hk : k < l.length) : (rcells l)[k * 2]? = some (.int .i64 (l[k]).1) ∧ (rcells l)[k * 2 + 1]? = some (.int .u64 (l[k]).2) := by
  induction l generalizing k with
  | nil => simp at hk
  | cons p l ih =>
    cases k with
    | zero => simp [rcells]
    | succ k =>
      have := ih k (by simpa using hk)
      have e1 : (k + 1) * 2 = k * 2 + 1 + 1 := by omega
      simp only [rcells, List.flatMap_cons, List.cons_append, List.nil_append, e1, List.getElem?_cons_succ, List.getElem_cons_succ] at this ⊢
      exact this
theorem rcells_one (l : List Rec) : ∀ u ∈ rcells l, u.oneCell' = true := by
  intro u hu
  simp only [rcells, List.mem_flatMap, List.mem_cons, List.not_mem_nil, or_false] at hu
  obtain ⟨p, _, rfl | rfl⟩ := hu <;> rfl
theorem rcells_append (l m : List Rec) : rcells (l ++ m) = rcells l ++ rcells m := by simp [rcells]
theorem rcells_snoc (l : List Rec) (a x : Int) : rcells l ++ [.int .i64 a, .int .u64 x] = rcells (l ++ [(a, x)]) := by simp [rcells]
theorem rcells_take (l : List Rec) (k : Nat) : rcells (l.take k) = (rcells l).take (k * 2) := by
  induction l generalizing k with
  | nil => simp [rcells]
  | cons p l ih =>
    cases k with
    | zero => simp [rcells]
    | succ k =>
      have e1 : (k + 1) * 2 = k * 2 + 1 + 1 := by omega
      have := ih k
      simp only [rcells, List.take_succ_cons, List.flatMap_cons, List.cons_append, List.nil_append, e1] at this ⊢
      rw [this]
theorem rcells_drop (l : List Rec) (k : Nat) : rcells (l.drop k) = (rcells l).drop (k * 2) := by
  induction l generalizing k with
  | nil => simp [rcells]
  | cons p l ih =>
    cases k with
    | zero => simp
    | succ k =>
      have e1 : (k + 1) * 2 = k * 2 + 1 + 1 := by omega
      have := ih k
      simp only [rcells, List.drop_succ_cons, List.flatMap_cons, List.cons_append, List.nil_append, e1] at this ⊢
      exact this
theorem rcells_set (l : List Rec) (k : Nat) (x : Int) (hk : k < l.length) : (rcells l).set (k * 2 + 1) (.int .u64 x) = rcells (l.set k ((l[k]).1, x)) := by
  induction l generalizing k with
  | nil => simp at hk
  | cons p l ih =>
    cases k with
    | zero => simp [rcells]
    | succ k =>
      have e1 : (k + 1) * 2 + 1 = (k * 2 + 1) + 1 + 1 := by omega
      have := ih k (by simpa using hk)
      simp only [rcells, List.flatMap_cons, List.cons_append, List.nil_append, e1, List.set_cons_succ, List.getElem_cons_succ] at this ⊢
      rw [this]
theorem Sl.rec {w : World} {B : Nat} {A : Option Addr} {l : List Rec} (h : Sl w B 2 A l.length (rcells l)) {k : Nat} (hk : k < l.length) :
    ∃ b off, A = some ⟨b, off, none⟩ ∧ b < B ∧ w.cell? ⟨b, off + k * 2, none⟩ = some (.int .i64 (l[k]).1) ∧ w.cell? ⟨b, off + k * 2 + 1, none⟩ = some (.int .u64 (l[k]).2) := by
  obtain ⟨b, off, rfl, hb, hc⟩ := h.at_ hk
  obtain ⟨e0, e1⟩ := rcells_at l k hk
  exact ⟨b, off, rfl, hb, (hc 0 (by omega)).trans e0, by rw [Nat.add_assoc]; exact (hc 1 (by omega)).trans e1⟩

/-- The places ahead of k of an object's records. -/
def ofL (l : List Rec) (a : Int) (k : Nat) : List Nat := (List.range k).filter fun i => (l.getD i (0, 0)).1 == a
theorem ofL_yes {l : List Rec} {a : Int} {k : Nat} (hk : k < l.length) (h : (l[k]).1 = a) : ofL l a (k + 1) = ofL l a k ++ [k] := by
  unfold ofL
  rw [List.range_succ, List.filter_append]
  simp [List.getD_eq_getElem?_getD, hk, h]
theorem ofL_no {l : List Rec} {a : Int} {k : Nat} (hk : k < l.length) (h : ¬ (l[k]).1 = a) : ofL l a (k + 1) = ofL l a k := by
  unfold ofL
  rw [List.range_succ, List.filter_append]
  simp [List.getD_eq_getElem?_getD, hk, h]
theorem ofL_mem {l : List Rec} {a : Int} {k i : Nat} (hk : k ≤ l.length) : i ∈ ofL l a k ↔ ∃ h : i < k, (l[i]'(by omega)).1 = a := by
  unfold ofL
  rw [List.mem_filter, List.mem_range]
  constructor
  · rintro ⟨h, he⟩
    refine ⟨h, ?_⟩
    simpa [List.getD_eq_getElem?_getD, show i < l.length by omega] using he
  · rintro ⟨h, he⟩
    refine ⟨h, ?_⟩
    simpa [List.getD_eq_getElem?_getD, show i < l.length by omega] using he
theorem ofL_len (l : List Rec) (a : Int) (k : Nat) : (ofL l a k).length ≤ k := by
  unfold ofL
  have := List.length_filter_le (fun i => (l.getD i (0, 0)).1 == a) (List.range k)
  rwa [List.length_range] at this
theorem ofL_asc (l : List Rec) (a : Int) (k : Nat) : (ofL l a k).Pairwise (· < ·) := List.Pairwise.filter _ List.pairwise_lt_range

/-- i is the place of the first one of an object, or -1. -/
def IsFir (l : List Rec) (a i : Int) : Prop := (i = -1 ∧ ∀ k (h : k < l.length), (l[k]).1 ≠ a) ∨ ∃ k : Nat, ∃ h : k < l.length, i = k ∧ (l[k]).1 = a ∧ ∀ j (hj : j < k), (l[j]'(by omega)).1 ≠ a
/-- .. of the last one. -/
def IsTop (l : List Rec) (a i : Int) : Prop := (i = -1 ∧ ∀ k (h : k < l.length), (l[k]).1 ≠ a) ∨ ∃ k : Nat, ∃ h : k < l.length, i = k ∧ (l[k]).1 = a ∧ ∀ j (hj : j < l.length), k < j → (l[j]).1 ≠ a
def firI (l : List Rec) (a : Int) : Int := match (ofL l a l.length) with | [] => -1 | x :: _ => x
def topI (l : List Rec) (a : Int) : Int := match (ofL l a l.length).getLast? with | none => -1 | some x => x
theorem IsFir.eq {l : List Rec} {a i : Int} (h : IsFir l a i) : i = firI l a := by
  unfold firI
  have hm := fun j => ofL_mem (l := l) (a := a) (i := j) (Nat.le_refl l.length)
  have hp := ofL_asc l a l.length
  cases e : ofL l a l.length with
  | nil =>
    rcases h with ⟨rfl, _⟩ | ⟨k, hk, rfl, h1, _⟩
    · rfl
    · have := (hm k).2 ⟨hk, h1⟩
      rw [e] at this; cases this
  | cons x r =>
    rw [e] at hm hp
    obtain ⟨hx, hx2⟩ := (hm x).1 (List.mem_cons_self ..)
    rcases h with ⟨rfl, h0⟩ | ⟨k, hk, rfl, h1, h2⟩
    · exact absurd hx2 (h0 x hx)
    · have hk2 := (hm k).2 ⟨hk, h1⟩
      show (k : Int) = (x : Int)
      rcases List.mem_cons.1 hk2 with rfl | h3
      · rfl
      · have h4 := (List.pairwise_cons.1 hp).1 k h3
        exact absurd hx2 (h2 x h4)
theorem IsTop.eq {l : List Rec} {a i : Int} (h : IsTop l a i) : i = topI l a := by
  unfold topI
  have hm := fun j => ofL_mem (l := l) (a := a) (i := j) (Nat.le_refl l.length)
  have hp := ofL_asc l a l.length
  rcases List.eq_nil_or_concat (ofL l a l.length) with e | ⟨r, x, e⟩
  · rw [e] at hm ⊢
    rcases h with ⟨rfl, _⟩ | ⟨k, hk, rfl, h1, _⟩
    · rfl
    · have := (hm k).2 ⟨hk, h1⟩
      cases this
  · rw [List.concat_eq_append] at e
    rw [e] at hm hp ⊢
    obtain ⟨hx, hx2⟩ := (hm x).1 (by simp)
    rw [List.getLast?_concat]
    rcases h with ⟨rfl, h0⟩ | ⟨k, hk, rfl, h1, h2⟩
    · exact absurd hx2 (h0 x hx)
    · have hk2 := (hm k).2 ⟨hk, h1⟩
      show (k : Int) = (x : Int)
      rcases List.mem_append.1 hk2 with h3 | h3
      · have h4 := (List.pairwise_append.1 hp).2.2 k h3 x (by simp)
        exact absurd hx2 (h2 x hx h4)
      · simp at h3; rw [h3]
theorem firI_is (l : List Rec) (a : Int) : IsFir l a (firI l a) := by
  unfold firI
  have hm := fun j => ofL_mem (l := l) (a := a) (i := j) (Nat.le_refl l.length)
  have hp := ofL_asc l a l.length
  cases e : ofL l a l.length with
  | nil =>
    refine .inl ⟨rfl, fun k hk he => ?_⟩
    have := (hm k).2 ⟨hk, he⟩
    rw [e] at this; cases this
  | cons x r =>
    rw [e] at hm hp
    obtain ⟨hx, hx2⟩ := (hm x).1 (List.mem_cons_self ..)
    refine .inr ⟨x, hx, rfl, hx2, fun j hj he => ?_⟩
    rcases List.mem_cons.1 ((hm j).2 ⟨by omega, he⟩) with h3 | h3
    · omega
    · have := (List.pairwise_cons.1 hp).1 j h3
      omega
theorem topI_is (l : List Rec) (a : Int) : IsTop l a (topI l a) := by
  unfold topI
  have hm := fun j => ofL_mem (l := l) (a := a) (i := j) (Nat.le_refl l.length)
  have hp := ofL_asc l a l.length
  rcases List.eq_nil_or_concat (ofL l a l.length) with e | ⟨r, x, e⟩
  · rw [e] at hm ⊢
    refine .inl ⟨rfl, fun k hk he => ?_⟩
    have := (hm k).2 ⟨hk, he⟩
    cases this
  · rw [List.concat_eq_append] at e
    rw [e] at hm hp ⊢
    obtain ⟨hx, hx2⟩ := (hm x).1 (by simp)
    rw [List.getLast?_concat]
    refine .inr ⟨x, hx, rfl, hx2, fun j hj hlt he => ?_⟩
    rcases List.mem_append.1 ((hm j).2 ⟨hj, he⟩) with h3 | h3
    · have := (List.pairwise_append.1 hp).2.2 j h3 x (by simp)
      omega
    · simp at h3; omega
end Go.Proofs.Ytppjpicfiflkcaa
