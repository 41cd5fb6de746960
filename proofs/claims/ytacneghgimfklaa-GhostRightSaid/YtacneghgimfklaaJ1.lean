/- What the document has of a thread: its commits, one behind the other; and how that stands to what the program has. No program. -/
import Derived.Test.YtacneghgimfklaaG1
namespace Go.Proofs.Ytacneghgimfklaa
set_option linter.unusedSimpArgs false
set_option linter.unusedVariables false
/-- A commit. -/
structure Ev where
  k : Int
  t : Int
  o : Int
  a : Int
  r : Int
instance : Inhabited Ev := ⟨⟨0, 0, 0, 0, 0⟩⟩
def evc (x : Ev) : Array Value := #[.int .i64 x.k, .int .i64 x.t, .int .i64 x.o, .int .i64 x.a, .int .i64 x.r]
def evl (l : List Ev) : List Value := l.flatMap fun x => (evc x).toList
theorem evl_len (l : List Ev) : (evl l).length = l.length * 5 := by
  induction l with
  | nil => rfl
  | cons x l ih => simp only [evl, List.flatMap_cons, List.length_append, List.length_cons] at ih ⊢; rw [ih]; show 5 + _ = _; omega
theorem evl_app (l m : List Ev) : evl (l ++ m) = evl l ++ evl m := by simp [evl]
theorem evl_one (x : Ev) : evl [x] = (evc x).toList := by simp [evl]
theorem evl_at (l : List Ev) {k j : Nat} (hk : k < l.length) (hj : j < 5) : (evl l)[k * 5 + j]? = (evc l[k])[j]? := by
  induction l generalizing k with
  | nil => simp at hk
  | cons x l ih =>
    have e : evl (x :: l) = (evc x).toList ++ evl l := by simp [evl]
    rw [e]
    have h5 : (evc x).toList.length = 5 := rfl
    cases k with
    | zero => rw [List.getElem?_append_left (by rw [h5]; omega), Array.getElem?_toList]; simp
    | succ k =>
      rw [List.getElem?_append_right (by rw [h5]; omega), h5, show (k + 1) * 5 + j - 5 = k * 5 + j by omega, ih (by simpa using hk)]
      simp
/-- The last one. -/
def lst (l : List Ev) : Ev := l.getLast?.getD ⟨0, 0, 0, 0, 0⟩
theorem lst_app (l : List Ev) (x : Ev) : lst (l ++ [x]) = x := by simp [lst]
theorem lst_at {l : List Ev} (h : 0 < l.length) : l[l.length - 1]'(by omega) = lst l := by
  unfold lst
  rw [List.getLast?_eq_getElem?, List.getElem?_eq_getElem (by omega)]
  rfl
/-- How the commits of a thread stand to what it does. -/
structure Lr (d : Dg) (l : List Ev) : Prop where
  s : d.st = 0 ∨ d.st = 1 ∨ d.st = 2 ∨ d.st = 3
  k : d.st ≠ 0 → 1 ≤ d.kd ∧ d.kd ≤ 9
  s0 : d.st = 0 → l.length = 0
  s1 : d.st = 1 → (l.length = 0 ∧ d.wo = 0 ∧ d.la = -1) ∨ (0 < l.length ∧ (d.kd = 5 ∨ d.kd = 6) ∧ (lst l).k = 7 ∧ (lst l).a = d.la ∧ d.wo = l.length)
  s2 : d.st = 2 → d.kd = 4 ∧ 0 < l.length ∧ (((lst l).k = 4 ∧ (lst l).r = 0) ∨ (lst l).k = 5)
  s3 : d.st = 3 → 0 < l.length ∧ (lst l).r = d.er ∧ (d.kd = 4 → ((lst l).k = 6 ∨ ((lst l).k = 4 ∧ (lst l).r ≠ 0)) ∧ d.va = 0) ∧ (d.kd = 5 → (lst l).k = 8 ∧ d.va = (lst l).a) ∧ (d.kd = 6 → (lst l).k = 9 ∧ d.va = (l.length : Int) - 1) ∧
    (d.kd = 7 ∨ d.kd = 8 → d.va = (lst l).a) ∧ (d.kd = 1 ∨ d.kd = 2 ∨ d.kd = 3 ∨ d.kd = 9 → d.va = 0)
def ownI (k : Int) : Int := if k = 1 then 1 else if k = 2 then 2 else if k = 3 then 3 else if k = 4 then 6 else if k = 5 then 8 else if k = 6 then 9 else if k = 7 then 10 else if k = 8 then 11 else if k = 9 then 12 else 0
/-- The document's commit. -/
def rcB (d : Dg) (l : List Ev) (k o a : Int) : Bool :=
  if d.st = 0 then false
  else if (o != obO d) = true ∨ (d.kd = 9 ∧ (a != d.ar) = true) then false
  else if d.kd = 4 then (if l.length = 0 then k == 4 else ((lst l).r == 0 && (lst l).k == 4 && (k == 5 || k == 6)) || ((lst l).k == 5 && k == 6))
  else if d.kd = 5 ∨ d.kd = 6 then
    (if 0 < l.length ∧ (lst l).k ≠ 7 then false
     else if k = 7 then d.kd == 6 || decide (l.length = 0)
     else if k ≠ ownI d.kd then false
     else d.kd == 6 || a == (if 0 < l.length then (lst l).a else -1))
  else decide (l.length = 0) && k == ownI d.kd
theorem tfB_own {d : Dg} (h : 1 ≤ d.kd ∧ d.kd ≤ 9) (h4 : d.kd ≠ 4) (h5 : d.kd ≠ 5) (h6 : d.kd ≠ 6) (k a : Int) : tfB d k a = (k == ownI d.kd && (d.kd != 9 || a == d.ar)) := by
  unfold tfB ownI
  rcases (by omega : d.kd = 1 ∨ d.kd = 2 ∨ d.kd = 3 ∨ d.kd = 7 ∨ d.kd = 8 ∨ d.kd = 9) with e | e | e | e | e | e <;> rw [e] <;> simp
/-- Two commits are taken alike, but a second Leave. -/
theorem rcB_eq {d : Dg} {l : List Ev} (h : Lr d l) (k o a : Int) (hlv : d.st = 2 → (lst l).k = 5 → k ≠ 5) : rcB d l k o a = tkB d k o a := by
  obtain ⟨hs, hk, h0, h1, h2, h3⟩ := h
  unfold rcB tkB
  cases q : (o != obO d)
  · have hn9 : d.kd ≠ 9 → ¬ ((false = true) ∨ (d.kd = 9 ∧ (a != d.ar) = true)) := fun h q => by rcases q with q | ⟨q, _⟩; cases q; exact h q
    rw [if_neg (show ¬ (false = true) by simp)]
    rcases hs with s | s | s | s
    · rw [if_pos s, if_neg (by omega), if_neg (by omega)]
    · rw [if_neg (by omega), if_pos s]
      have hk := hk (by omega)
      by_cases k4 : d.kd = 4
      · have e : l.length = 0 := by rcases h1 s with h | h <;> omega
        rw [if_neg (hn9 (by omega)), if_pos k4, if_pos e]
        unfold tfB
        rw [if_neg (by omega), if_neg (by omega), if_neg (by omega), if_pos k4]
      by_cases k5 : d.kd = 5
      · have e5 : tfB d k a = ((k == 7 && d.wo == 0) || (k == 8 && a == d.la)) := by unfold tfB; rw [if_neg (by omega), if_neg (by omega), if_neg (by omega), if_neg k4, if_pos k5]
        rw [if_neg (hn9 (by omega)), if_neg k4, if_pos (by omega), e5, k5]
        rcases h1 s with ⟨e, hw, hl⟩ | ⟨e, _, hl7, hla, hw⟩
        · rw [if_neg (by omega), e, hw, hl]
          by_cases q7 : k = 7
          · subst q7; simp
          · rw [if_neg q7]
            by_cases q8 : k = 8
            · subst q8; simp [ownI]
            · rw [if_pos (by simp [ownI]; omega)]; simp [q7, q8]
        · rw [if_neg (by omega), if_pos e, hla, hw]
          by_cases q7 : k = 7
          · subst q7
            have hne : l ≠ [] := by rintro rfl; simp at e
            simp [hne]
          · rw [if_neg q7]
            by_cases q8 : k = 8
            · subst q8; simp [ownI]
            · rw [if_pos (by simp [ownI]; omega)]; simp [q7, q8]
      by_cases k6 : d.kd = 6
      · have e6 : tfB d k a = (k == 7 || k == 9) := by unfold tfB; rw [if_neg (by omega), if_neg (by omega), if_neg (by omega), if_neg k4, if_neg k5, if_pos k6]
        rw [if_neg (hn9 (by omega)), if_neg k4, if_pos (by omega), e6, k6]
        have e : ¬ (0 < l.length ∧ (lst l).k ≠ 7) := by rcases h1 s with h | h <;> omega
        rw [if_neg e]
        by_cases q7 : k = 7
        · subst q7; simp
        · rw [if_neg q7]
          by_cases q9 : k = 9
          · subst q9; simp [ownI]
          · rw [if_pos (by simp [ownI]; omega)]; simp [q7, q9]
      have e : l.length = 0 := by rcases h1 s with h | h <;> omega
      rw [tfB_own hk k4 k5 k6]
      by_cases k9 : d.kd = 9
      · by_cases qa : a = d.ar
        · rw [if_neg (by simp [qa]), if_neg k4, if_neg (by omega), e]; simp [qa]
        · rw [if_pos (by right; exact ⟨k9, by simpa using qa⟩)]; simp [k9, qa]
      · rw [if_neg (hn9 k9), if_neg k4, if_neg (by omega), e]; simp [k9]
    · obtain ⟨k4, e, h⟩ := h2 s
      rw [if_neg (by omega), if_neg (hn9 (by omega)), if_pos k4, if_neg (by omega), if_neg (by omega), if_pos s]
      rcases h with ⟨q1, q2⟩ | q1
      · rw [q1, q2]; simp
      · have := hlv s q1
        rw [q1]; simp [this]
    · obtain ⟨e, _, r4, r5, r6, _, _⟩ := h3 s
      have hk := hk (by omega)
      rw [if_neg (by omega : ¬ d.st = 1), if_neg (by omega : ¬ d.st = 2), if_neg (by omega)]
      split
      · rfl
      split
      · rename_i k4
        rw [if_neg (by omega)]
        rcases (r4 k4).1 with q | ⟨q, q2⟩
        · rw [q]; simp
        · rw [q]; simp [q2]
      split
      · rename_i k56
        rw [if_pos]
        rcases k56 with q | q
        · exact ⟨e, by rw [(r5 q).1]; omega⟩
        · exact ⟨e, by rw [(r6 q).1]; omega⟩
      · have : ¬ l.length = 0 := by omega
        simp [this]
  · rw [if_pos rfl]
    split
    · rfl
    · rw [if_pos (.inl rfl)]
/-- What is told. -/
def toV (d : Dg) (l : List Ev) : Int := if d.kd = 4 then 0 else if d.kd = 5 then (lst l).a else if d.kd = 6 then (l.length : Int) - 1 else if d.kd = 7 ∨ d.kd = 8 then (lst l).a else 0
def toB (d : Dg) (l : List Ev) : Bool :=
  if d.st = 0 ∨ l.length = 0 then false
  else if d.kd = 4 then (lst l).k == 6 || ((lst l).k == 4 && (lst l).r != 0)
  else if d.kd = 5 then (lst l).k == 8
  else if d.kd = 6 then (lst l).k == 9
  else true
theorem toB_eq {d : Dg} {l : List Ev} (h : Lr d l) : toB d l = (d.st == 3) := by
  obtain ⟨hs, hk, h0, h1, h2, h3⟩ := h
  unfold toB
  rcases hs with s | s | s | s
  · rw [if_pos (.inl s), s]; rfl
  · rw [s]
    rcases h1 s with ⟨e, _⟩ | ⟨e, k56, q, _⟩
    · rw [if_pos (.inr e)]; rfl
    · rw [if_neg (by omega), if_neg (by omega)]
      rcases k56 with q5 | q6
      · rw [if_pos q5, q]; rfl
      · rw [if_neg (by omega), if_pos q6, q]; rfl
  · obtain ⟨k4, e, h⟩ := h2 s
    rw [if_neg (by omega), if_pos k4, s]
    rcases h with ⟨q1, q2⟩ | q1
    · rw [q1, q2]; rfl
    · rw [q1]; rfl
  · obtain ⟨e, _, r4, r5, r6, _, _⟩ := h3 s
    rw [if_neg (by omega), s]
    split
    · rename_i k4
      rcases (r4 k4).1 with q | ⟨q, q2⟩
      · rw [q]; rfl
      · rw [q]; simp [q2]
    split
    · rename_i k5; rw [(r5 k5).1]; rfl
    split
    · rename_i k6; rw [(r6 k6).1]; rfl
    · rfl
theorem to_va {d : Dg} {l : List Ev} (h : Lr d l) (s : d.st = 3) : toV d l = d.va ∧ (lst l).r = d.er := by
  have hk := h.k (by omega)
  obtain ⟨e, r, r4, r5, r6, r78, r9⟩ := h.s3 s
  refine ⟨?_, r⟩
  unfold toV
  split
  · rename_i q; rw [(r4 q).2]
  split
  · rename_i q; rw [(r5 q).2]
  split
  · rename_i q; rw [(r6 q).2]
  split
  · rename_i q; rw [r78 q]
  · rw [r9 (by omega)]
theorem lr_0 (n : Int) : Lr { d0 with nu := n } [] := ⟨.inl rfl, fun h => absurd rfl h, fun _ => rfl, fun h => by simp [d0] at h, fun h => by simp [d0] at h, fun h => by simp [d0] at h⟩
theorem lr_beg (d : Dg) {k : Int} (o a : Int) (h : 1 ≤ k ∧ k ≤ 9) : Lr (begD d k o a) [] :=
  ⟨.inr (.inl rfl), fun _ => h, fun q => by simp [begD] at q, fun _ => .inl ⟨rfl, rfl, rfl⟩, fun q => by simp [begD] at q, fun q => by simp [begD] at q⟩
theorem lr_go {d : Dg} {l : List Ev} (h : Lr d l) (x : Ev) (ht : tkB d x.k x.o x.a = true) : Lr (goD d x.k x.a x.r) (l ++ [x]) := by
  have hl : (l ++ [x]).length = l.length + 1 := by simp
  have hx := lst_app l x
  obtain ⟨hs, hk, h0, h1, h2, h3⟩ := h
  unfold tkB at ht
  split at ht
  · cases ht
  split at ht
  · rename_i s
    have hk := hk (by omega)
    unfold tfB at ht
    by_cases x7 : x.k = 7
    · have k56 : d.kd = 5 ∨ d.kd = 6 := by
        rw [x7] at ht
        by_cases k5 : d.kd = 5
        · exact .inl k5
        by_cases k6 : d.kd = 6
        · exact .inr k6
        · rcases (by omega : d.kd = 1 ∨ d.kd = 2 ∨ d.kd = 3 ∨ d.kd = 4 ∨ d.kd = 7 ∨ d.kd = 8 ∨ d.kd = 9) with e | e | e | e | e | e | e <;> rw [e] at ht <;> simp at ht
      have hw : d.wo = l.length := by rcases h1 s with ⟨q1, q2, _⟩ | ⟨_, _, _, _, q⟩ <;> omega
      unfold goD
      rw [if_pos x7]
      refine ⟨.inr (.inl s), fun _ => hk, fun q => by simp [s] at q, fun _ => .inr ⟨by omega, k56, by rw [hx, x7], by rw [hx], ?_⟩, fun q => by simp [s] at q, fun q => by simp [s] at q⟩
      rw [hl]; dsimp only; omega
    by_cases k4 : d.kd = 4
    · have x4 : x.k = 4 := by rw [k4] at ht; simpa using ht
      unfold goD
      rw [if_neg x7]
      by_cases r0 : x.r = 0
      · rw [if_pos ⟨x4, r0⟩]
        exact ⟨.inr (.inr (.inl rfl)), fun _ => hk, fun q => by simp at q, fun q => by simp at q, fun _ => ⟨k4, by omega, .inl ⟨by rw [hx, x4], by rw [hx, r0]⟩⟩, fun q => by simp at q⟩
      · rw [if_neg (by omega), if_pos (by omega)]
        refine ⟨.inr (.inr (.inr rfl)), fun _ => hk, fun q => by simp at q, fun q => by simp at q, fun q => by simp at q, fun _ => ⟨by omega, by rw [hx], fun _ => ⟨.inr ⟨by rw [hx, x4], by rw [hx]; exact r0⟩, ?_⟩, fun q => ?_, fun q => ?_, fun q => ?_, fun q => ?_⟩⟩
        · simp [telI, k4]
        all_goals (exfalso; simp only [] at q; omega)
    have nk : x.k ≠ 4 ∧ x.k ≠ 5 := by
      by_cases k5 : d.kd = 5
      · rw [k5] at ht; simp at ht; omega
      by_cases k6 : d.kd = 6
      · rw [k6] at ht; simp at ht; omega
      · rcases (by omega : d.kd = 1 ∨ d.kd = 2 ∨ d.kd = 3 ∨ d.kd = 7 ∨ d.kd = 8 ∨ d.kd = 9) with e | e | e | e | e | e <;> rw [e] at ht <;> simp at ht <;> omega
    unfold goD
    rw [if_neg x7, if_neg (by omega), if_pos nk.2]
    refine ⟨.inr (.inr (.inr rfl)), fun _ => hk, fun q => by simp at q, fun q => by simp at q, fun q => by simp at q, fun _ => ⟨by omega, by rw [hx], fun q => absurd q k4, fun q => ?_, fun q => ?_, fun q => ?_, fun q => ?_⟩⟩
    · have q : d.kd = 5 := q
      rw [q] at ht; simp at ht
      exact ⟨by rw [hx]; omega, by simp [telI, q, hx]⟩
    · have q : d.kd = 6 := q
      rw [q] at ht; simp at ht
      refine ⟨by rw [hx]; omega, ?_⟩
      have hw : d.wo = l.length := by rcases h1 s with ⟨q1, q2, _⟩ | ⟨_, _, _, _, q⟩ <;> omega
      simp [telI, q, hw]
    · have q : d.kd = 7 ∨ d.kd = 8 := q
      rw [hx]
      show telI d x.a = x.a
      unfold telI; rw [if_pos (by omega)]
    · have q : d.kd = 1 ∨ d.kd = 2 ∨ d.kd = 3 ∨ d.kd = 9 := q
      show telI d x.a = 0
      unfold telI; rw [if_neg (by omega), if_neg (by omega)]
  · split at ht
    · rename_i s
      obtain ⟨k4, e, _⟩ := h2 s
      have hk := hk (by omega)
      simp only [Bool.or_eq_true, beq_iff_eq] at ht
      unfold goD
      rw [if_neg (by omega), if_neg (by omega)]
      by_cases x5 : x.k = 5
      · rw [if_neg (by omega)]
        exact ⟨.inr (.inr (.inl s)), fun _ => hk, fun q => by omega, fun q => by omega, fun _ => ⟨k4, by omega, .inr (by rw [hx, x5])⟩, fun q => by omega⟩
      · rw [if_pos x5]
        refine ⟨.inr (.inr (.inr rfl)), fun _ => hk, fun q => by simp at q, fun q => by simp at q, fun q => by simp at q, fun _ => ⟨by omega, by rw [hx], fun _ => ⟨.inl (by rw [hx]; omega), ?_⟩, fun q => ?_, fun q => ?_, fun q => ?_, fun q => ?_⟩⟩
        · simp [telI, k4]
        all_goals (exfalso; simp only [] at q; omega)
    · cases ht
end Go.Proofs.Ytacneghgimfklaa
