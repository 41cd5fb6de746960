/- Pairs, in lists that rise by slots; what is added, dropped, found. -/
import Derived.Test.YtcgbbgljchfbcaaTurn
import Derived.Maps.OwnOps
import Derived.Maps.OwnSet
import Derived.Maps.RangeWalk
namespace Go.Proofs.Ytcgbbgljchfbcaa
open Go.RowKit
set_option linter.unusedSimpArgs false
set_option linter.unusedVariables false

/-- A slot, its object, its thread. -/
structure Pr where
  s : Int
  o : Int
  t : Int
instance : Inhabited Pr := ⟨⟨0, 0, 0⟩⟩
def pz : Pr := ⟨0, 0, 0⟩
def pcells (l : List Pr) : List Value := l.flatMap fun p => [.int .i64 p.s, .int .i64 p.o, .int .i64 p.t]
theorem pcells_length (l : List Pr) : (pcells l).length = l.length * 3 := by
  induction l with
  | nil => rfl
  | cons p l ih => simp only [pcells, List.flatMap_cons, List.length_append, List.length_cons, List.length_nil] at ih ⊢; omega
theorem pcells_at (l : List Pr) (k : Nat) (hk : k < l.length) : (pcells l)[k * 3]? = some (.int .i64 (l[k]).s) ∧ (pcells l)[k * 3 + 1]? = some (.int .i64 (l[k]).o) ∧ (pcells l)[k * 3 + 2]? = some (.int .i64 (l[k]).t) := by
  induction l generalizing k with
  | nil => simp at hk
  | cons p l ih =>
    cases k with
    | zero => simp [pcells]
    | succ k =>
      have := ih k (by simpa using hk)
      have e1 : (k + 1) * 3 = k * 3 + 1 + 1 + 1 := by omega
      have e2 : k * 3 + 1 + 1 + 1 + 1 = k * 3 + 1 + 1 + 1 + 1 := rfl
      simp only [pcells, List.flatMap_cons, List.cons_append, List.nil_append, e1, List.getElem?_cons_succ, List.getElem_cons_succ] at this ⊢
      exact this
theorem pcells_one (l : List Pr) : ∀ u ∈ pcells l, u.oneCell' = true := by
  intro u hu
  simp only [pcells, List.mem_flatMap, List.mem_cons, List.not_mem_nil, or_false] at hu
  obtain ⟨p, _, rfl | rfl | rfl⟩ := hu <;> rfl
theorem pcells_append (l m : List Pr) : pcells (l ++ m) = pcells l ++ pcells m := by simp [pcells]
theorem pcells_snoc (l : List Pr) (p : Pr) : pcells l ++ [.int .i64 p.s, .int .i64 p.o, .int .i64 p.t] = pcells (l ++ [p]) := by simp [pcells]
theorem pcells_take (l : List Pr) (k : Nat) : pcells (l.take k) = (pcells l).take (k * 3) := by
  induction l generalizing k with
  | nil => simp [pcells]
  | cons p l ih =>
    cases k with
    | zero => simp [pcells]
    | succ k =>
      have e1 : (k + 1) * 3 = k * 3 + 1 + 1 + 1 := by omega
      have := ih k
      simp only [pcells, List.take_succ_cons, List.flatMap_cons, List.cons_append, List.nil_append, e1] at this ⊢
      rw [this]
theorem pcells_drop (l : List Pr) (k : Nat) : pcells (l.drop k) = (pcells l).drop (k * 3) := by
  induction l generalizing k with
  | nil => simp [pcells]
  | cons p l ih =>
    cases k with
    | zero => simp
    | succ k =>
      have e1 : (k + 1) * 3 = k * 3 + 1 + 1 + 1 := by omega
      have := ih k
      simp only [pcells, List.drop_succ_cons, List.flatMap_cons, List.cons_append, List.nil_append, e1] at this ⊢
      exact this
theorem Sl.pr {w : World} {B : Nat} {A : Option Addr} {l : List Pr} (h : Sl w B 3 A l.length (pcells l)) {k : Nat} (hk : k < l.length) :
    ∃ b off, A = some ⟨b, off, none⟩ ∧ b < B ∧ w.cell? ⟨b, off + k * 3, none⟩ = some (.int .i64 (l[k]).s) ∧ w.cell? ⟨b, off + k * 3 + 1, none⟩ = some (.int .i64 (l[k]).o) ∧ w.cell? ⟨b, off + k * 3 + 2, none⟩ = some (.int .i64 (l[k]).t) := by
  obtain ⟨b, off, rfl, hb, hc⟩ := h.at_ hk
  obtain ⟨e0, e1, e2⟩ := pcells_at l k hk
  exact ⟨b, off, rfl, hb, (hc 0 (by omega)).trans e0, by rw [Nat.add_assoc]; exact (hc 1 (by omega)).trans e1, by rw [Nat.add_assoc]; exact (hc 2 (by omega)).trans e2⟩

structure OkP (p : Pr) : Prop where
  s0 : 0 ≤ p.s
  s1 : p.s ≤ 4095
  o0 : 0 ≤ p.o
  o1 : p.o ≤ 65535
  t0 : 0 ≤ p.t
  t1 : p.t ≤ 255
def okP (p : Pr) : Bool := decide (0 ≤ p.s) && decide (p.s ≤ 4095) && decide (0 ≤ p.o) && decide (p.o ≤ 65535) && decide (0 ≤ p.t) && decide (p.t ≤ 255)
theorem okP_iff (p : Pr) : okP p = true ↔ OkP p := by
  unfold okP
  simp only [Bool.and_eq_true, decide_eq_true_eq]
  exact ⟨fun ⟨⟨⟨⟨⟨a, b⟩, c⟩, d⟩, e⟩, f⟩ => ⟨a, b, c, d, e, f⟩, fun h => ⟨⟨⟨⟨⟨h.s0, h.s1⟩, h.o0⟩, h.o1⟩, h.t0⟩, h.t1⟩⟩
structure OkS (S : List Pr) : Prop where
  rng : ∀ p ∈ S, OkP p
  asc : S.Pairwise (fun a b => a.s < b.s)
  obj : S.Pairwise (fun a b => a.o ≠ b.o)
theorem ok_nil : OkS [] := ⟨fun p h => by simp at h, List.Pairwise.nil, List.Pairwise.nil⟩
def bySlot (S : List Pr) (z : Int) : Option Pr := S.find? fun p => p.s == z
def byObj (S : List Pr) (z : Int) : Option Pr := S.find? fun p => p.o == z
theorem pw_one {α : Type} {r : α → α → Prop} {f : α → Int} {l : List α} (h : l.Pairwise r) (hr : ∀ x y, r x y → f x ≠ f y) : ∀ x ∈ l, ∀ y ∈ l, f x = f y → x = y := by
  induction l with
  | nil => intro x hx; simp at hx
  | cons a l ih =>
    obtain ⟨h1, h2⟩ := List.pairwise_cons.1 h
    intro x hx y hy e
    rcases List.mem_cons.1 hx with rfl | hx2
    · rcases List.mem_cons.1 hy with rfl | hy2
      · rfl
      · exact absurd e (hr _ _ (h1 y hy2))
    · rcases List.mem_cons.1 hy with rfl | hy2
      · exact absurd e.symm (hr _ _ (h1 x hx2))
      · exact ih h2 x hx2 y hy2 e
theorem OkS.sOne {S : List Pr} (h : OkS S) : ∀ x ∈ S, ∀ y ∈ S, x.s = y.s → x = y := pw_one (f := Pr.s) h.asc (fun x y q => by omega)
theorem OkS.oOne {S : List Pr} (h : OkS S) : ∀ x ∈ S, ∀ y ∈ S, x.o = y.o → x = y := pw_one (f := Pr.o) h.obj (fun x y q => q)
theorem bySlot_some {S : List Pr} (h : OkS S) {z : Int} {p : Pr} : bySlot S z = some p ↔ p ∈ S ∧ p.s = z := by
  unfold bySlot
  constructor
  · intro e
    exact ⟨List.mem_of_find?_eq_some e, by simpa using List.find?_some e⟩
  · rintro ⟨hm, rfl⟩
    cases e : S.find? (fun q => q.s == p.s) with
    | none => exact absurd (List.find?_eq_none.1 e p hm) (by simp)
    | some q =>
      rw [h.sOne q (List.mem_of_find?_eq_some e) p hm (by simpa using List.find?_some e)]
theorem byObj_some {S : List Pr} (h : OkS S) {z : Int} {p : Pr} : byObj S z = some p ↔ p ∈ S ∧ p.o = z := by
  unfold byObj
  constructor
  · intro e
    exact ⟨List.mem_of_find?_eq_some e, by simpa using List.find?_some e⟩
  · rintro ⟨hm, rfl⟩
    cases e : S.find? (fun q => q.o == p.o) with
    | none => exact absurd (List.find?_eq_none.1 e p hm) (by simp)
    | some q =>
      rw [h.oOne q (List.mem_of_find?_eq_some e) p hm (by simpa using List.find?_some e)]
theorem bySlot_none {S : List Pr} {z : Int} : bySlot S z = none ↔ ∀ p ∈ S, p.s ≠ z := by
  unfold bySlot; rw [List.find?_eq_none]; simp
theorem byObj_none {S : List Pr} {z : Int} : byObj S z = none ↔ ∀ p ∈ S, p.o ≠ z := by
  unfold byObj; rw [List.find?_eq_none]; simp
/-- A new pair, in its place. -/
def lowL (S : List Pr) (z : Int) : List Pr := S.filter fun q => decide (q.s < z)
def higL (S : List Pr) (z : Int) : List Pr := S.filter fun q => !decide (q.s < z)
def ins (S : List Pr) (p : Pr) : List Pr := lowL S p.s ++ p :: higL S p.s
theorem ins_mem {S : List Pr} {p q : Pr} : q ∈ ins S p ↔ q = p ∨ q ∈ S := by
  unfold ins lowL higL
  simp only [List.mem_append, List.mem_cons, List.mem_filter, decide_eq_true_eq, Bool.not_eq_true', decide_eq_false_iff_not]
  constructor
  · rintro (⟨h, _⟩ | rfl | ⟨h, _⟩)
    · exact .inr h
    · exact .inl rfl
    · exact .inr h
  · rintro (rfl | h)
    · exact .inr (.inl rfl)
    · by_cases e : q.s < p.s
      · exact .inl ⟨h, e⟩
      · exact .inr (.inr ⟨h, e⟩)
theorem filter_part {α : Type} (f : α → Bool) : ∀ l : List α, (l.filter f).length + (l.filter fun x => !f x).length = l.length
  | [] => rfl
  | a :: l => by
    have := filter_part f l
    cases h : f a <;> simp [h] <;> omega
theorem ins_length (S : List Pr) (p : Pr) : (ins S p).length = S.length + 1 := by
  unfold ins lowL higL
  have := filter_part (fun q : Pr => decide (q.s < p.s)) S
  rw [List.length_append, List.length_cons]
  omega
theorem OkS.ins {S : List Pr} (h : OkS S) {p : Pr} (hp : OkP p) (h1 : bySlot S p.s = none) (h2 : byObj S p.o = none) : OkS (ins S p) := by
  rw [bySlot_none] at h1
  rw [byObj_none] at h2
  refine ⟨fun q hq => ?_, ?_, ?_⟩
  · rcases ins_mem.1 hq with rfl | hq
    · exact hp
    · exact h.rng q hq
  · unfold Proofs.Ytcgbbgljchfbcaa.ins lowL higL
    refine List.pairwise_append.2 ⟨h.asc.filter _, List.pairwise_cons.2 ⟨fun q hq => ?_, h.asc.filter _⟩, fun a ha b hb => ?_⟩
    · rw [List.mem_filter] at hq
      have := h1 q hq.1
      simp at hq
      omega
    · rw [List.mem_filter] at ha
      simp at ha
      rcases List.mem_cons.1 hb with rfl | hb
      · exact ha.2
      · rw [List.mem_filter] at hb
        simp at hb
        omega
  · unfold Proofs.Ytcgbbgljchfbcaa.ins lowL higL
    refine List.pairwise_append.2 ⟨h.obj.filter _, List.pairwise_cons.2 ⟨fun q hq => ?_, h.obj.filter _⟩, fun a ha b hb => ?_⟩
    · rw [List.mem_filter] at hq
      exact fun e => h2 q hq.1 e.symm
    · rw [List.mem_filter] at ha
      rcases List.mem_cons.1 hb with rfl | hb
      · exact h2 a ha.1
      · rw [List.mem_filter] at hb
        intro e
        have := h.oOne a ha.1 b hb.1 e
        subst this
        have e1 := ha.2
        have e2 := hb.2
        rw [e1] at e2
        exact absurd e2 (by decide)
def updF (F : Int → Option Pr) (k : Int) (x : Option Pr) : Int → Option Pr := fun z => if z = k then x else F z
theorem opt_ext {α : Type} {a b : Option α} (h : ∀ x, a = some x ↔ b = some x) : a = b := by
  cases a with
  | none =>
    cases b with
    | none => rfl
    | some y => exact absurd ((h y).2 rfl) (by simp)
  | some x => exact ((h x).1 rfl).symm
theorem bySlot_ins {S : List Pr} (h : OkS S) {p : Pr} (hp : OkP p) (h1 : bySlot S p.s = none) (h2 : byObj S p.o = none) : bySlot (ins S p) = updF (bySlot S) p.s (some p) := by
  have h3 := h.ins hp h1 h2
  rw [bySlot_none] at h1
  funext z
  refine opt_ext fun q => ?_
  rw [bySlot_some h3, ins_mem]
  unfold updF
  split
  · rename_i e
    subst e
    constructor
    · rintro ⟨rfl | hq, e⟩
      · rfl
      · exact absurd e (h1 q hq)
    · intro e; cases e; exact ⟨.inl rfl, rfl⟩
  · rename_i e
    rw [bySlot_some h]
    constructor
    · rintro ⟨rfl | hq, e2⟩
      · exact absurd e2.symm e
      · exact ⟨hq, e2⟩
    · rintro ⟨hq, e2⟩; exact ⟨.inr hq, e2⟩
theorem byObj_ins {S : List Pr} (h : OkS S) {p : Pr} (hp : OkP p) (h1 : bySlot S p.s = none) (h2 : byObj S p.o = none) : byObj (ins S p) = updF (byObj S) p.o (some p) := by
  have h3 := h.ins hp h1 h2
  rw [byObj_none] at h2
  funext z
  refine opt_ext fun q => ?_
  rw [byObj_some h3, ins_mem]
  unfold updF
  split
  · rename_i e
    subst e
    constructor
    · rintro ⟨rfl | hq, e⟩
      · rfl
      · exact absurd e (h2 q hq)
    · intro e; cases e; exact ⟨.inl rfl, rfl⟩
  · rename_i e
    rw [byObj_some h]
    constructor
    · rintro ⟨rfl | hq, e2⟩
      · exact absurd e2.symm e
      · exact ⟨hq, e2⟩
    · rintro ⟨hq, e2⟩; exact ⟨.inr hq, e2⟩
/-- Without a slot's pair. -/
def dropS (S : List Pr) (z : Int) : List Pr := S.filter fun q => !(q.s == z)
theorem dropS_mem {S : List Pr} {z : Int} {q : Pr} : q ∈ dropS S z ↔ q ∈ S ∧ q.s ≠ z := by
  unfold dropS; rw [List.mem_filter]; simp
theorem OkS.drop {S : List Pr} (h : OkS S) (z : Int) : OkS (dropS S z) := ⟨fun p hp => h.rng p (dropS_mem.1 hp).1, h.asc.filter _, h.obj.filter _⟩
theorem dropS_none {S : List Pr} {z : Int} (h : bySlot S z = none) : dropS S z = S := by
  rw [bySlot_none] at h
  unfold dropS
  rw [List.filter_eq_self]
  intro p hp
  simpa using h p hp
theorem dropS_at {S : List Pr} (h : OkS S) {k : Nat} (hk : k < S.length) : dropS S (S[k]).s = S.take k ++ S.drop (k + 1) := by
  have e : S = S.take k ++ S[k] :: S.drop (k + 1) := by rw [List.getElem_cons_drop, List.take_append_drop]
  have ha := h.asc
  rw [e] at ha
  obtain ⟨_, h2, h3⟩ := List.pairwise_append.1 ha
  obtain ⟨h4, _⟩ := List.pairwise_cons.1 h2
  unfold dropS
  generalize hg : S[k] = g at *
  generalize S.take k = a at *
  generalize S.drop (k + 1) = b at *
  subst e
  rw [List.filter_append, List.filter_cons_of_neg (by simp)]
  congr 1
  · rw [List.filter_eq_self]
    intro x hx
    have := h3 x hx g (by simp)
    simp; omega
  · rw [List.filter_eq_self]
    intro x hx
    have := h4 x hx
    simp; omega
theorem dropS_length {S : List Pr} (h : OkS S) {z : Int} {p : Pr} (hp : bySlot S z = some p) : (dropS S z).length + 1 = S.length := by
  obtain ⟨hm, rfl⟩ := (bySlot_some h).1 hp
  obtain ⟨k, hk, rfl⟩ := List.getElem_of_mem hm
  rw [dropS_at h hk, List.length_append, List.length_take, List.length_drop]
  omega
theorem bySlot_drop {S : List Pr} (h : OkS S) (z : Int) : bySlot (dropS S z) = updF (bySlot S) z none := by
  funext y
  refine opt_ext fun q => ?_
  rw [bySlot_some (h.drop z), dropS_mem]
  unfold updF
  split
  · rename_i e; subst e
    constructor
    · rintro ⟨⟨_, h1⟩, h2⟩; exact absurd h2 h1
    · intro e; cases e
  · rename_i e
    rw [bySlot_some h]
    constructor
    · rintro ⟨⟨h1, _⟩, h2⟩; exact ⟨h1, h2⟩
    · rintro ⟨h1, h2⟩; exact ⟨⟨h1, by omega⟩, h2⟩
theorem byObj_drop {S : List Pr} (h : OkS S) {z : Int} {p : Pr} (hp : bySlot S z = some p) : byObj (dropS S z) = updF (byObj S) p.o none := by
  obtain ⟨hm, rfl⟩ := (bySlot_some h).1 hp
  funext y
  refine opt_ext fun q => ?_
  rw [byObj_some (h.drop _), dropS_mem]
  unfold updF
  split
  · rename_i e; subst e
    constructor
    · rintro ⟨⟨h0, h1⟩, h2⟩; exact absurd (congrArg Pr.s (h.oOne q h0 p hm h2)) h1
    · intro e; cases e
  · rename_i e
    rw [byObj_some h]
    constructor
    · rintro ⟨⟨h1, _⟩, h2⟩; exact ⟨h1, h2⟩
    · rintro ⟨h1, h2⟩; exact ⟨⟨h1, fun e2 => e (by rw [← h2, h.sOne q h1 p hm e2])⟩, h2⟩
/-- What the calls answer, and leave. -/
def addE (S : List Pr) (p : Pr) : Int := if okP p then (if (bySlot S p.s).isSome || (byObj S p.o).isSome then 7 else 0) else 1
def addS (S : List Pr) (p : Pr) : List Pr := if addE S p = 0 then ins S p else S
def dropR (S : List Pr) (z : Int) : Pr := (bySlot S z).getD pz
def dropE (S : List Pr) (z : Int) : Int := if (bySlot S z).isSome then 0 else 6
def slotA (S : List Pr) (z : Int) : Int := ((byObj S z).getD pz).s
def slotB (S : List Pr) (z : Int) : Bool := (byObj S z).isSome
def objA (S : List Pr) (z : Int) : Int := ((bySlot S z).getD pz).o
def objB (S : List Pr) (z : Int) : Bool := (bySlot S z).isSome
def ofT (S : List Pr) (z : Int) : List Pr := S.filter fun p => p.t == z
theorem OkS.add {S : List Pr} (h : OkS S) (p : Pr) : OkS (addS S p) := by
  unfold addS addE
  by_cases hp : okP p = true
  · rw [if_pos hp]
    by_cases hb : ((bySlot S p.s).isSome || (byObj S p.o).isSome) = true
    · rw [if_pos hb, if_neg (by decide)]; exact h
    · rw [if_neg hb, if_pos rfl]
      simp at hb
      exact h.ins ((okP_iff p).1 hp) hb.1 hb.2
  · rw [if_neg hp, if_neg (by decide)]; exact h
theorem OkS.of {S : List Pr} (h : OkS S) (z : Int) : OkS (ofT S z) := ⟨fun p hp => h.rng p (List.mem_filter.1 hp).1, h.asc.filter _, h.obj.filter _⟩
theorem addS_length (S : List Pr) (p : Pr) : (addS S p).length ≤ S.length + 1 := by
  unfold addS
  split
  · rw [ins_length]; omega
  · omega
theorem dropS_le (S : List Pr) (z : Int) : (dropS S z).length ≤ S.length := List.length_filter_le _ _
theorem ofT_le (S : List Pr) (z : Int) : (ofT S z).length ≤ S.length := List.length_filter_le _ _
theorem asc_bound {a b : Int} : ∀ {l : List Int}, l.Pairwise (· < ·) → (∀ x ∈ l, a ≤ x ∧ x ≤ b) → (l.length : Int) ≤ b - a + 1 ∨ l = [] := by
  intro l
  induction l generalizing a with
  | nil => intro _ _; exact .inr rfl
  | cons x l ih =>
    intro h hb
    obtain ⟨h1, h2⟩ := List.pairwise_cons.1 h
    have hx := hb x (by simp)
    left
    rcases ih (a := x + 1) h2 (fun y hy => ⟨by have := h1 y hy; omega, (hb y (by simp [hy])).2⟩) with h3 | rfl
    · rw [List.length_cons]; omega
    · simp; omega
theorem OkS.len {S : List Pr} (h : OkS S) : S.length ≤ 4096 := by
  have h1 : (S.map Pr.s).Pairwise (· < ·) := List.pairwise_map.2 h.asc
  rcases asc_bound (a := 0) (b := 4095) h1 (fun x hx => by
    obtain ⟨p, hp, rfl⟩ := List.mem_map.1 hx
    exact ⟨(h.rng p hp).s0, (h.rng p hp).s1⟩) with h2 | h2
  · rw [List.length_map] at h2; omega
  · have := List.map_eq_nil_iff.1 h2
    subst this; simp
end Go.Proofs.Ytcgbbgljchfbcaa
