/- What the table's calls make of it, as functions on its slots; what stays right. -/
import Derived.Test.YtpadepamknbkoaaDoorB6
namespace Go.Proofs.YtpadepamknbkoaaDoor
open Go.RowKit
set_option linter.unusedSimpArgs false
set_option linter.unusedVariables false

def Pl.to (x : Pl) (a : Int) : Pl := { x with a := a }
/-- All slots anew. -/
def TS.mapL (S : TS) (f : Nat → Pl) : TS := { S with L := (List.range S.L.length).map f }
theorem TS.len_map (S : TS) (f : Nat → Pl) : (S.mapL f).L.length = S.L.length := by unfold TS.mapL; simp
theorem TS.p_map {S : TS} {f : Nat → Pl} {i : Nat} (h : i < S.L.length) : (S.mapL f).p i = f i := by
  unfold TS.mapL TS.p
  rw [List.getD_eq_getElem?_getD, List.getElem?_map, List.getElem?_range h]; rfl
def TS.en (S : TS) : Nat := min (S.m + S.b) S.L.length
def TS.grow (S : TS) : TS := { (S.mapL fun i => if S.m ≤ i ∧ i < S.en then (S.p i).to 2 else S.p i) with m := S.en }
def TS.fl (S : TS) (z : Int) : TS := S.mapL fun i => if i ∈ S.mine z then (S.p i).to 2 else S.p i
inductive Tk (S : TS) (z : Int) : Int → Int → Int → TS → Prop
  | own (r : List Nat) (k : Nat) : S.mine z = r ++ [k] → Tk S z k (S.p k).g 0 (S.set k ((S.p k).to 1))
  | com (k : Nat) : (0 ≤ z ∧ z < 256) → S.mine z = [] → IsL S.com k → Tk S z k (S.p k).g 0 (S.set k ((S.p k).to 1))
  | grow : (0 ≤ z ∧ z < 256) → S.mine z = [] → (∀ j, S.com j = false) → S.m < S.L.length → Tk S z S.m (S.p S.m).g 0 (S.grow.set S.m ((S.p S.m).to 1))
  | out : (0 ≤ z ∧ z < 256) → S.mine z = [] → (∀ j, S.com j = false) → S.m = S.L.length → Tk S z 0 0 11 S
  | arg : ¬ (0 ≤ z ∧ z < 256) → Tk S z 0 0 1 S
def frOk (S : TS) (z y : Int) : Prop := (0 ≤ z ∧ z < 256) ∧ 0 ≤ y ∧ (S.p y.toNat).a = 1
instance (S : TS) (z y : Int) : Decidable (frOk S z y) := by unfold frOk; exact inferInstance
def frE (S : TS) (z y : Int) : Int := if frOk S z y then 0 else 1
def frX (S : TS) (z : Int) (k : Nat) : Pl :=
  if (S.p k).g = 16777215 then ⟨4, z, S.N + 1, (S.p k).g⟩ else if (S.mine z).length < S.b then ⟨3, z, S.N + 1, (S.p k).g + 1⟩ else ⟨2, z, S.N + 1, (S.p k).g + 1⟩
def TS.plus (S : TS) : TS := { S with N := S.N + 1 }
def frS (S : TS) (z y : Int) : TS := if frOk S z y then S.plus.set y.toNat (frX S z y.toNat) else S

theorem com_set (S : TS) {k : Nat} (x : Pl) (hk : k < S.L.length) : (S.set k x).com = updB S.com k (x.a == 2) := by
  funext i
  unfold TS.com updB
  rw [TS.p_set]
  by_cases e : i = k
  · rw [if_pos ⟨e, hk⟩, if_pos e]
  · rw [if_neg (fun q => e q.1), if_neg e]
theorem updB_self {c : Nat → Bool} {k : Nat} {v : Bool} (h : c k = v) : updB c k v = c := by
  funext i; unfold updB; split
  · rename_i e; rw [e, h]
  · rfl
theorem made_len (S : TS) : S.made.length = S.m := by unfold TS.made; simp
theorem made_at {S : TS} {i : Nat} (h : i < S.m) : S.made[i]? = some (stA (S.p i).a, (S.p i).g) := by
  unfold TS.made
  rw [List.getElem?_map, List.getElem?_range h]; rfl
theorem made_set (S : TS) {k : Nat} (x : Pl) (hk : k < S.m) (hl : k < S.L.length) : (S.set k x).made = S.made.set k (stA x.a, x.g) := by
  apply List.ext_getElem?
  intro i
  rw [List.getElem?_set]
  by_cases hi : i < S.m
  · rw [made_at (S := S.set k x) hi, TS.p_set]
    by_cases e : k = i
    · subst e
      rw [if_pos ⟨rfl, hl⟩, if_pos rfl, if_pos (by rw [made_len]; exact hk)]
    · rw [if_neg (fun q => e q.1.symm), if_neg e, made_at hi]
  · rw [List.getElem?_eq_none (by rw [made_len]; exact Nat.le_of_not_lt hi), if_neg (by omega), List.getElem?_eq_none (by rw [made_len]; exact Nat.le_of_not_lt hi)]
theorem st_at {S : TS} {i : Nat} (ok : Ok S) : stZ S.made i = stA (S.p i).a := by
  by_cases h : i < S.m
  · rw [stZ_at (by rw [made_len]; exact h)]
    have := made_at h
    rw [List.getElem?_eq_getElem (by rw [made_len]; exact h)] at this
    rw [Option.some.inj this]
  · rw [stZ_off (by rw [made_len]; omega)]
    by_cases q : i < S.L.length
    · rw [(ok.un i q).2 (by omega)]; rfl
    · rw [TS.p_far (by omega)]; rfl
theorem gn_at {S : TS} {i : Nat} (ok : Ok S) : genZ S.made i = (S.p i).g := by
  by_cases h : i < S.m
  · rw [genZ_at (by rw [made_len]; exact h)]
    have := made_at h
    rw [List.getElem?_eq_getElem (by rw [made_len]; exact h)] at this
    rw [Option.some.inj this]
  · rw [genZ_off (by rw [made_len]; omega)]
    by_cases q : i < S.L.length
    · rw [ok.gu i ((ok.un i q).2 (by omega))]
    · rw [TS.p_far (by omega)]; rfl
theorem Ok.lt {S : TS} (ok : Ok S) {i : Nat} (h : (S.p i).a ≠ 0) : i < S.m ∧ i < S.L.length := by
  by_cases q : i < S.L.length
  · refine ⟨?_, q⟩
    rcases Nat.lt_or_ge i S.m with h2 | h2
    · exact h2
    · exact absurd ((ok.un i q).2 h2) h
  · rw [TS.p_far (by omega)] at h; exact absurd rfl h
theorem stA_0 {a : Int} : stA a = 0 ↔ a ≠ 1 ∧ a ≠ 4 := by
  unfold stA
  by_cases h : a = 1 <;> by_cases h2 : a = 4 <;> simp [h, h2]
theorem stA_1 {a : Int} : stA a = 1 ↔ a = 1 := by
  unfold stA
  by_cases h : a = 1 <;> by_cases h2 : a = 4 <;> simp [h, h2]

/-- One slot turns that is made, and stays so. -/
theorem Ok.set {S : TS} (ok : Ok S) {k : Nat} {x : Pl} (hk : (S.p k).a ≠ 0) (h1 : 1 ≤ x.a) (h2 : x.a ≤ 4) (h3 : 0 ≤ x.g) (h4 : x.g ≤ 16777215) (h5 : x.a = 3 → 0 ≤ x.t ∧ x.t < 256 ∧ 0 ≤ x.c ∧ x.c ≤ S.N) : Ok (S.set k x) := by
  obtain ⟨hm, hl⟩ := ok.lt hk
  have hp : ∀ i, (S.set k x).p i = if i = k then x else S.p i := fun i => by
    rw [TS.p_set]
    by_cases e : i = k
    · rw [if_pos ⟨e, hl⟩, if_pos e]
    · rw [if_neg (fun q => e q.1), if_neg e]
  have hlen := TS.len_set S k x
  refine ⟨ok.b0, ok.b1, by rw [hlen]; exact ok.n0, by rw [hlen]; exact ok.n1, by rw [hlen]; exact ok.m1, fun i hi => ?_, fun i hi => ?_, fun i => ?_, fun i hi => ?_, fun i hi => ?_⟩
  · rw [hp]; split
    · omega
    · exact ok.a0 i (by rwa [hlen] at hi)
  · rw [hp]; split
    · rename_i e; subst e
      constructor
      · intro h; omega
      · intro h
        have : S.m ≤ i := h
        omega
    · exact ok.un i (by rwa [hlen] at hi)
  · rw [hp]; split
    · exact ⟨h3, h4⟩
    · exact ok.g0 i
  · rw [hp] at hi ⊢
    by_cases e : i = k
    · rw [if_pos e] at hi; omega
    · rw [if_neg e] at hi ⊢; exact ok.gu i hi
  · rw [hp] at hi ⊢
    by_cases e : i = k
    · rw [if_pos e] at hi ⊢; exact h5 hi
    · rw [if_neg e] at hi ⊢; exact ok.ow i hi
theorem Ok.plus {S : TS} (ok : Ok S) : Ok S.plus :=
  ⟨ok.b0, ok.b1, ok.n0, ok.n1, ok.m1, ok.a0, ok.un, ok.g0, ok.gu, fun i hi => by
    obtain ⟨h1, h2, h3, h4⟩ := ok.ow i hi
    exact ⟨h1, h2, h3, by show (S.p i).c ≤ ((S.N + 1 : Nat) : Int); omega⟩⟩
theorem to_a (x : Pl) (a : Int) : (x.to a).a = a := rfl
theorem to_g (x : Pl) (a : Int) : (x.to a).g = x.g := rfl
theorem Ok.use {S : TS} (ok : Ok S) {k : Nat} (hk : (S.p k).a ≠ 0) : Ok (S.set k ((S.p k).to 1)) :=
  ok.set hk (by rw [to_a]; omega) (by rw [to_a]; omega) (ok.g0 k).1 (ok.g0 k).2 (fun h => by rw [to_a] at h; omega)
theorem Ok.en1 {S : TS} (ok : Ok S) (h : S.m < S.L.length) : S.m < S.en ∧ S.en ≤ S.L.length := by
  unfold TS.en
  have := ok.b0
  omega
theorem p_grow (S : TS) (i : Nat) : S.grow.p i = if S.m ≤ i ∧ i < S.en ∧ i < S.L.length then (S.p i).to 2 else S.p i := by
  by_cases h : i < S.L.length
  · show (S.mapL _).p i = _
    rw [TS.p_map h]
    by_cases q : S.m ≤ i ∧ i < S.en
    · rw [if_pos q, if_pos ⟨q.1, q.2, h⟩]
    · rw [if_neg q, if_neg (fun e => q ⟨e.1, e.2.1⟩)]
  · rw [if_neg (fun e => h e.2.2), TS.p_far (S := S) (by omega), TS.p_far (S := S.grow) (by show (S.mapL _).L.length ≤ i; rw [TS.len_map]; omega)]
theorem len_grow (S : TS) : S.grow.L.length = S.L.length := TS.len_map S _
theorem Ok.grow {S : TS} (ok : Ok S) (h : S.m < S.L.length) : Ok S.grow := by
  obtain ⟨e1, e2⟩ := ok.en1 h
  refine ⟨ok.b0, ok.b1, by rw [len_grow]; exact ok.n0, by rw [len_grow]; exact ok.n1, by rw [len_grow]; exact e2, fun i hi => ?_, fun i hi => ?_, fun i => ?_, fun i hi => ?_, fun i hi => ?_⟩
  · rw [p_grow]; split
    · rw [to_a]; omega
    · exact ok.a0 i (by rwa [len_grow] at hi)
  · rw [len_grow] at hi
    have hu := ok.un i hi
    show (S.grow.p i).a = 0 ↔ S.en ≤ i
    rw [p_grow]; split
    · rw [to_a]; omega
    · rw [hu]; omega
  · rw [p_grow]; split
    · exact ok.g0 i
    · exact ok.g0 i
  · rw [p_grow] at hi ⊢
    by_cases q : S.m ≤ i ∧ i < S.en ∧ i < S.L.length
    · rw [if_pos q, to_a] at hi; omega
    · rw [if_neg q] at hi ⊢; exact ok.gu i hi
  · rw [p_grow] at hi ⊢
    by_cases q : S.m ≤ i ∧ i < S.en ∧ i < S.L.length
    · rw [if_pos q, to_a] at hi; omega
    · rw [if_neg q] at hi ⊢; exact ok.ow i hi
theorem p_fl (S : TS) (z : Int) (i : Nat) : (S.fl z).p i = if i ∈ S.mine z then (S.p i).to 2 else S.p i := by
  by_cases h : i < S.L.length
  · exact TS.p_map h
  · rw [if_neg (fun e => h (mem_mine.1 e).1), TS.p_far (S := S) (by omega), TS.p_far (S := S.fl z) (by rw [show (S.fl z).L.length = _ from TS.len_map S _]; omega)]
theorem len_fl (S : TS) (z : Int) : (S.fl z).L.length = S.L.length := TS.len_map S _
theorem Ok.fl {S : TS} (ok : Ok S) (z : Int) : Ok (S.fl z) := by
  have hm : ∀ i, i ∈ S.mine z → (S.p i).a = 3 := fun i hi => (mem_mine.1 hi).2.1
  refine ⟨ok.b0, ok.b1, by rw [len_fl]; exact ok.n0, by rw [len_fl]; exact ok.n1, by rw [len_fl]; exact ok.m1, fun i hi => ?_, fun i hi => ?_, fun i => ?_, fun i hi => ?_, fun i hi => ?_⟩
  · rw [p_fl]; split
    · rw [to_a]; omega
    · exact ok.a0 i (by rwa [len_fl] at hi)
  · rw [len_fl] at hi
    have hu := ok.un i hi
    show ((S.fl z).p i).a = 0 ↔ S.m ≤ i
    rw [p_fl]; split
    · rename_i q
      have := hm i q
      rw [to_a]; omega
    · exact hu
  · rw [p_fl]; split
    · exact ok.g0 i
    · exact ok.g0 i
  · rw [p_fl] at hi ⊢
    by_cases q : i ∈ S.mine z
    · rw [if_pos q, to_a] at hi; omega
    · rw [if_neg q] at hi ⊢; exact ok.gu i hi
  · rw [p_fl] at hi ⊢
    by_cases q : i ∈ S.mine z
    · rw [if_pos q, to_a] at hi; omega
    · rw [if_neg q] at hi ⊢; exact ok.ow i hi
theorem frX_a (S : TS) (z : Int) (k : Nat) : 2 ≤ (frX S z k).a ∧ (frX S z k).a ≤ 4 := by
  unfold frX; split
  · simp
  · split <;> simp
theorem Ok.fr {S : TS} (ok : Ok S) (z y : Int) : Ok (frS S z y) := by
  unfold frS
  split
  · rename_i h
    obtain ⟨hz, hy, ha⟩ := h
    have hx := frX_a S z y.toNat
    have hg := ok.g0 y.toNat
    refine ok.plus.set (k := y.toNat) (by show (S.p y.toNat).a ≠ 0; omega) (by omega) hx.2 ?_ ?_ ?_
    · unfold frX; split
      · exact hg.1
      · split <;> (simp only; omega)
    · unfold frX; split
      · exact hg.2
      · split <;> (simp only; omega)
    · intro _
      have h1 : (frX S z y.toNat).t = z ∧ (frX S z y.toNat).c = S.N + 1 := by
        unfold frX; split
        · exact ⟨rfl, rfl⟩
        · split <;> exact ⟨rfl, rfl⟩
      rw [h1.1, h1.2]
      exact ⟨hz.1, hz.2, by omega, by show ((S.N : Int) + 1) ≤ ((S.N + 1 : Nat) : Int); omega⟩
  · exact ok
theorem Tk.ok {S S' : TS} {z a g e : Int} (h : Tk S z a g e S') (ok : Ok S) : Ok S' := by
  cases h with
  | own r k h => exact ok.use (by have := ok.mem.1 (show k ∈ S.mine z by rw [h]; simp); omega)
  | com k hz h hk => exact ok.use (by have := hk.2.1; unfold TS.com at this; have := beq_iff_eq.1 this; omega)
  | grow hz h hc hl =>
    have e1 := ok.en1 hl
    have hp : S.grow.p S.m = (S.p S.m).to 2 := by rw [p_grow, if_pos ⟨Nat.le_refl _, e1.1, hl⟩]
    have := (ok.grow hl).use (k := S.m) (by rw [hp, to_a]; omega)
    rwa [hp] at this
  | out => exact ok
  | arg => exact ok
end Go.Proofs.YtpadepamknbkoaaDoor
