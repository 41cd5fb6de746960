/- What SlotsOnce keeps: which names were told, which slots are in use, how many. -/
import Derived.Test.YtpadepamknbkoaaDoorM1
namespace Go.Proofs.YtpadepamknbkoaaDoor
open Go.RowKit
set_option linter.unusedSimpArgs false
set_option linter.unusedVariables false
theorem and_small (x : Int) (m : Nat) (hm : m ≤ 15) : ∃ k : Nat, bits .and .i64 x (m : Int) = (k : Int) ∧ k ≤ m := by
  have h2 : (BitVec.ofInt 64 (m : Int)).toNat = m := by
    rw [BitVec.ofInt_natCast, BitVec.toNat_ofNat]; exact Nat.mod_eq_of_lt (by omega)
  refine ⟨(BitVec.ofInt 64 x).toNat &&& m, ?_, Nat.and_le_right⟩
  show IntKind.i64.wrap ((BitVec.ofInt 64 x &&& BitVec.ofInt 64 (m : Int)).toNat : Int) = _
  rw [BitVec.toNat_and, h2, IntKind.wrap_i64]
  have : (BitVec.ofInt 64 x).toNat &&& m ≤ m := Nat.and_le_right
  generalize (BitVec.ofInt 64 x).toNat &&& m = y at *
  omega
theorem countP_one {p q : Nat → Bool} {t : Nat} (h : ∀ s, s ≠ t → q s = p s) : ∀ l : List Nat, l.Nodup → t ∈ l → l.countP q + (if p t then 1 else 0) = l.countP p + (if q t then 1 else 0)
  | [], _, hm => by simp at hm
  | s :: l, hn, hm => by
    obtain ⟨hn1, hn2⟩ := List.nodup_cons.1 hn
    rw [List.countP_cons, List.countP_cons]
    by_cases e : s = t
    · subst e
      have : l.countP q = l.countP p := List.countP_congr fun x hx => by rw [h x (fun e => hn1 (e ▸ hx))]
      omega
    · have ih := countP_one h l hn2 (by rcases List.mem_cons.1 hm with h1 | h1; exact absurd h1.symm e; exact h1)
      rw [h s e]
      omega
theorem inuse_cnt (S : TS) : S.inuse.length = (List.range S.L.length).countP fun i => (S.p i).a == 1 := by
  unfold TS.inuse; rw [List.countP_eq_length_filter]
/-- Nothing of a slot has turned that the law sees. -/
def AsIt (S S' : TS) (i : Nat) : Prop := (S'.p i).g = (S.p i).g ∧ ((S'.p i).a = 1 ↔ (S.p i).a = 1) ∧ ((S'.p i).a = 4 ↔ (S.p i).a = 4)
theorem AsIt.rfl' {S S' : TS} {i : Nat} (h : S'.p i = S.p i) : AsIt S S' i := by unfold AsIt; rw [h]; simp
structure InvO (S : TS) (n j : Nat) (u : Int → Bool) (v : Int × Int → Bool) (many : Nat) : Prop where
  ok : Ok S
  ln : S.L.length = n
  us : ∀ k : Nat, u (k : Int) = ((S.p k).a == 1)
  vs : ∀ (k : Nat) (g : Int), v ((k : Int), g) = true → g < (S.p k).g ∨ (g = (S.p k).g ∧ (S.p k).a = 1)
  gs : ∀ i, (S.p i).g ≤ (j : Int)
  ns : ∀ i, (S.p i).a ≠ 4
  mn : many = S.inuse.length
section
variable {S S' : TS} {n j many : Nat} {u : Int → Bool} {v : Int × Int → Bool}
theorem InvO.next (h : InvO S n j u v many) : InvO S n (j + 1) u v many := ⟨h.ok, h.ln, h.us, h.vs, fun i => by have := h.gs i; omega, h.ns, h.mn⟩
theorem InvO.le (h : InvO S n j u v many) : many ≤ n := by
  rw [h.mn, ← h.ln]
  have := List.length_filter_le (fun i => (S.p i).a == 1) (List.range S.L.length)
  rw [List.length_range] at this
  exact this
theorem InvO.gone (h : InvO S n j u v many) : S.gone = many := by
  unfold TS.gone
  rw [h.mn, inuse_cnt]
  apply List.countP_congr
  intro i _
  have := h.ns i
  simp [this]
theorem InvO.asit (h : InvO S n j u v many) (ok' : Ok S') (hl : S'.L.length = S.L.length) (ha : ∀ i, AsIt S S' i) : InvO S' n j u v many := by
  refine ⟨ok', hl.trans h.ln, fun k => ?_, fun k g hv => ?_, fun i => by rw [(ha i).1]; exact h.gs i, fun i q => h.ns i ((ha i).2.2.1 q), ?_⟩
  · rw [h.us k, Bool.eq_iff_iff]; simp [(ha k).2.1]
  · rw [(ha k).1, (ha k).2.1]; exact h.vs k g hv
  · rw [h.mn, inuse_cnt, inuse_cnt, hl]
    apply List.countP_congr
    intro i _
    simp [(ha i).2.1]
theorem asit_fl (ok : Ok S) (z : Int) (i : Nat) : AsIt S (S.fl z) i := by
  unfold AsIt
  rw [p_fl]
  split
  · rename_i q
    have := (ok.mem.1 q).2.1
    rw [to_a, to_g, this]; simp
  · simp
/-- A Take that told a slot. -/
theorem Tk.got {z a g e : Int} (h : Tk S z a g e S') (ok : Ok S) (hz : 0 ≤ z ∧ z < 256) :
    (e = 11 ∧ S' = S) ∨ (e = 0 ∧ ∃ k : Nat, a = (k : Int) ∧ k < S.L.length ∧ (S.p k).a ≠ 1 ∧ g = (S.p k).g ∧ (S'.p k).a = 1 ∧ (S'.p k).g = g ∧ S'.L.length = S.L.length ∧ ∀ i, i ≠ k → AsIt S S' i) := by
  cases h with
  | own r k h =>
    have hm := ok.mem.1 (show k ∈ S.mine z by rw [h]; simp)
    refine .inr ⟨rfl, k, rfl, hm.1, by omega, rfl, by rw [TS.p_self S _ hm.1, to_a], by rw [TS.p_self S _ hm.1, to_g], TS.len_set _ _ _, fun i hi => AsIt.rfl' (TS.p_other S _ hi)⟩
  | com k hz h hk =>
    have ha : (S.p k).a = 2 := beq_iff_eq.1 hk.2.1
    have hl := (ok.lt (i := k) (by omega)).2
    refine .inr ⟨rfl, k, rfl, hl, by omega, rfl, by rw [TS.p_self S _ hl, to_a], by rw [TS.p_self S _ hl, to_g], TS.len_set _ _ _, fun i hi => AsIt.rfl' (TS.p_other S _ hi)⟩
  | grow hz h hc hl =>
    have ha : (S.p S.m).a = 0 := (ok.un S.m hl).2 (Nat.le_refl _)
    have hl2 : S.m < S.grow.L.length := by rw [len_grow]; exact hl
    refine .inr ⟨rfl, S.m, rfl, hl, by omega, rfl, by rw [TS.p_self S.grow _ hl2, to_a], by rw [TS.p_self S.grow _ hl2, to_g], by rw [TS.len_set, len_grow], fun i hi => ?_⟩
    unfold AsIt
    rw [TS.p_other S.grow _ hi, p_grow]
    split
    · rename_i q
      have := (ok.un i q.2.2).2 q.1
      rw [to_a, to_g, this]; simp
    · simp
  | out => exact .inl ⟨rfl, rfl⟩
  | arg h => exact absurd hz h
theorem InvO.take {k : Nat} {g : Int} (h : InvO S n j u v many) (ok' : Ok S') (hk : k < S.L.length) (h1 : (S.p k).a ≠ 1) (hg : g = (S.p k).g) (h2 : (S'.p k).a = 1) (h3 : (S'.p k).g = g) (hl : S'.L.length = S.L.length) (ha : ∀ i, i ≠ k → AsIt S S' i) :
    u (k : Int) = false ∧ v ((k : Int), g) = false ∧ InvO S' n j (updA u (k : Int) true) (updA v ((k : Int), g) true) (many + 1) := by
  refine ⟨by rw [h.us k]; simpa using h1, ?_, ok', hl.trans h.ln, fun i => ?_, fun i g' hv => ?_, fun i => ?_, fun i q => ?_, ?_⟩
  · apply Bool.eq_false_iff.2
    intro hv
    rcases h.vs k g hv with q | q
    · omega
    · exact h1 q.2
  · unfold updA
    by_cases e : i = k
    · subst e; rw [if_pos rfl, h2]; rfl
    · rw [if_neg (by omega), h.us i, Bool.eq_iff_iff]; simp [(ha i e).2.1]
  · unfold updA at hv
    by_cases e : i = k
    · subst e
      by_cases e2 : g' = g
      · right; rw [h3, h2]; exact ⟨e2, rfl⟩
      · rw [if_neg (fun q => e2 (Prod.mk.inj q).2)] at hv
        rcases h.vs i g' hv with q | q
        · left; rw [h3, hg]; exact q
        · exact absurd q.2 h1
    · rw [if_neg (fun q => e (by have := (Prod.mk.inj q).1; omega))] at hv
      rw [(ha i e).1, (ha i e).2.1]
      exact h.vs i g' hv
  · by_cases e : i = k
    · subst e; rw [h3, hg]; exact h.gs i
    · rw [(ha i e).1]; exact h.gs i
  · by_cases e : i = k
    · subst e; omega
    · exact h.ns i ((ha i e).2.2.1 q)
  · have c := countP_one (p := fun i => (S.p i).a == 1) (q := fun i => (S'.p i).a == 1) (t := k) (fun s hs => by rw [Bool.eq_iff_iff]; simp [(ha s hs).2.1]) (List.range S.L.length) List.nodup_range (List.mem_range.2 hk)
    have e1 : ((S.p k).a == 1) = false := by simpa using h1
    have e2 : ((S'.p k).a == 1) = true := by simpa using h2
    simp only [e1, e2] at c
    rw [h.mn, inuse_cnt, inuse_cnt, hl]
    simp at c
    omega
/-- A Free of a slot that is in use. -/
theorem InvO.free {k : Nat} {z : Int} (h : InvO S n j u v many) (hj : j ≤ 1000) (hz : 0 ≤ z ∧ z < 256) (h1 : (S.p k).a = 1) :
    frE S z k = 0 ∧ 1 ≤ many ∧ InvO (frS S z k) n (j + 1) (updA u (k : Int) false) v (many - 1) := by
  have hf : frOk S z (k : Int) := ⟨hz, by omega, by rw [Int.toNat_natCast]; exact h1⟩
  have hk := (h.ok.lt (i := k) (by omega)).2
  have hgs := h.gs k
  have hg0 := h.ok.g0 k
  have e0 : frS S z (k : Int) = S.plus.set k (frX S z k) := by
    unfold frS; rw [if_pos hf, Int.toNat_natCast]
  have hpk : (frS S z (k : Int)).p k = frX S z k := by rw [e0]; exact TS.p_self S.plus _ hk
  have hpo : ∀ i, i ≠ k → (frS S z (k : Int)).p i = S.p i := fun i hi => by rw [e0]; exact TS.p_other S.plus _ hi
  have hl : (frS S z (k : Int)).L.length = S.L.length := by rw [e0]; exact TS.len_set S.plus _ _
  have hX : (frX S z k).g = (S.p k).g + 1 ∧ ((frX S z k).a = 2 ∨ (frX S z k).a = 3) := by
    unfold frX
    rw [if_neg (by omega)]
    split
    · exact ⟨rfl, .inr rfl⟩
    · exact ⟨rfl, .inl rfl⟩
  have hcnt : many = (frS S z (k : Int)).inuse.length + 1 := by
    have c := countP_one (p := fun i => (S.p i).a == 1) (q := fun i => ((frS S z (k : Int)).p i).a == 1) (t := k) (fun s hs => by rw [hpo s hs]) (List.range S.L.length) List.nodup_range (List.mem_range.2 hk)
    have e1 : ((S.p k).a == 1) = true := by simpa using h1
    have e2 : (((frS S z (k : Int)).p k).a == 1) = false := by rw [hpk]; simp; omega
    simp only [e1, e2] at c
    rw [h.mn, inuse_cnt, inuse_cnt, hl]
    simp at c
    omega
  refine ⟨if_pos hf, by omega, h.ok.fr _ _, hl.trans h.ln, fun i => ?_, fun i g' hv => ?_, fun i => ?_, fun i q => ?_, by omega⟩
  · unfold updA
    by_cases e : i = k
    · subst e
      rw [if_pos rfl, hpk]
      symm; simp; omega
    · rw [if_neg (by omega), hpo i e]; exact h.us i
  · by_cases e : i = k
    · subst e
      rw [hpk]
      left
      rcases h.vs i g' hv with q | q <;> omega
    · rw [hpo i e]; exact h.vs i g' hv
  · by_cases e : i = k
    · subst e; rw [hpk]; omega
    · rw [hpo i e]; have := h.gs i; omega
  · by_cases e : i = k
    · subst e; rw [hpk] at q; omega
    · rw [hpo i e] at q; exact h.ns i q
theorem InvO.free_no {k : Nat} {z : Int} (h : InvO S n j u v many) (h1 : ¬ (S.p k).a = 1) : frE S z k = 1 ∧ frS S z k = S ∧ InvO S n j (updA u (k : Int) false) v many := by
  have hf : ¬ frOk S z (k : Int) := fun q => h1 (by have := q.2.2; rwa [Int.toNat_natCast] at this)
  have hu : u (k : Int) = false := by rw [h.us k]; simpa using h1
  have e : updA u (k : Int) false = u := by
    funext i; unfold updA; split
    · rename_i e; rw [e, hu]
    · rfl
  rw [e]
  exact ⟨if_neg hf, if_neg hf, h⟩
theorem inv_new {n b : Nat} (h1 : 1 ≤ n) (h2 : n ≤ 4096) (h3 : 1 ≤ b) (h4 : b ≤ 64) : InvO (TS.new n b) n 0 (fun _ => false) (fun _ => false) 0 := by
  refine ⟨new_ok h1 h2 h3 h4, by unfold TS.new; simp, fun k => by rw [new_p]; rfl, (fun k g h => by cases h), (fun i => by rw [new_p]; decide), (fun i => by rw [new_p]; decide), ?_⟩
  rw [inuse_cnt]
  symm
  rw [List.countP_eq_zero]
  intro i _
  rw [new_p]; decide
end
end Go.Proofs.YtpadepamknbkoaaDoor
