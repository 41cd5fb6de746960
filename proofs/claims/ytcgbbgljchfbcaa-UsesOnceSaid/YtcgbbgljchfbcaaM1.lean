/- Maps from ints to Booleans, that a law makes for its own; what UsesOnce counts. -/
import Derived.Test.YtcgbbgljchfbcaaS1
import Derived.Maps.OwnOps
import Derived.Maps.OwnSet
import Derived.Test.YtcgbbgljchfbcaaFrame
namespace Go.Proofs.Ytcgbbgljchfbcaa
open Go.RowKit Go.Maps
set_option linter.unusedSimpArgs false
set_option linter.unusedVariables false

theorem zB (w : World) : (zeroValue 4).run Try.prog w = .ok (.bool false) w := by kernel_rfl
theorem pe_bool (b : Bool) : (plainElem (H := Unit) Try.prog 4) (.bool b) = some (.lit (.bool b), []) := by cases b <;> kernel_rfl
/-- Block m is a map whose looks are u. -/
def BM (w : World) (m N : Nat) (u : Int → Bool) : Prop :=
  ∃ D, w.ownsMap Try.prog 3 (plainElem (H := Unit) Try.prog 4) m N D ∧ Maps.Tidy D ∧ ∀ a, D.atKey (ky a) (.lit (.bool false)) = .lit (.bool (u a))
def updB (u : Int → Bool) (k : Int) (b : Bool) (l : Int) : Bool := if l = k then b else u l
section
variable {w w' : World} {m N : Nat} {u : Int → Bool}
theorem BM.lt (h : BM w m N u) : m < w.heap.size := by obtain ⟨D, h, _⟩ := h; exact h.lt
theorem BM.chg {T : List Nat} (h : BM w m N u) (x : Chg T w w') (hm : m ∉ T) : BM w' m N u := by
  obtain ⟨D, h, h2⟩ := h
  exact ⟨D, own_chgM h x hm, h2⟩
theorem BM.ext (h : BM w m N u) (x : Ext w w') : BM w' m N u := h.chg (x.chg []) (by simp)
theorem BM.grown {b : Nat} (h : BM w m N u) (hg : w.grownBy w' (some b)) (hne : m ≠ b) : BM w' m N u := h.chg (T := [b]) (Chg.of_grown hg (by simp)) (by simpa using hne)
theorem BM.made (w : World) : BM (w.alloc (.map #[] 0)) w.heap.size 0 (fun _ => false) := ⟨_, World.ownsMap_made w _ 3 _, Maps.tidy_empty, fun l => rfl⟩
theorem BM.eq {u' : Int → Bool} (h : BM w m N u) (e : u = u') : BM w m N u' := e ▸ h
theorem pe_inv {v : Value} {b : Bool} {ps : List MemPlace} (hv : (plainElem (H := Unit) Try.prog 4) v = some (.lit (.bool b), ps)) : v = .bool b := by
  cases v <;> simp [plainElem, Try.underlying4] at hv
  rw [hv.1]
theorem BM.look {a : Int} (h : BM w m N u) (ha : (ky a).wf = true) :
    (Instr.lookup 57 (.map (some m)) (.int .i64 a) false).run Try.prog w = .ok (.bool (u a)) w := by
  obtain ⟨D, h, _, h2⟩ := h
  obtain ⟨v, ps, hrun, hv⟩ := h.lookup kI Try.underlying57 (zB w) (pe_bool false) (kof ha)
  rw [h2 a] at hv
  rw [hrun, pe_inv hv]
theorem BM.put {D : DataW Unit} {a0 : Int} {b : Bool} (h2 : Maps.Tidy D ∧ ∀ a, D.atKey (ky a) (.lit (.bool false)) = .lit (.bool (u a)))
    (h : w'.ownsMap Try.prog 3 (plainElem (H := Unit) Try.prog 4) m N (D.put (ky a0) (.lit (.bool b)))) : BM w' m N (updB u a0 b) := by
  refine ⟨_, h, h2.1.put (ky_key _) _, fun a => ?_⟩
  unfold updB
  by_cases e : a = a0
  · rw [if_pos e, e, Maps.atKey_put_same h2.1.isMap (ky_key _)]
  · rw [if_neg e, Maps.atKey_put_other (ky_ne e)]; exact h2.2 a
theorem BM.set (h : BM w m N u) (hN : N < maxLen) {a0 : Int} (hk : (ky a0).wf = true) (b : Bool) : ∃ w', (Instr.mapUpdate 57 (.map (some m)) (.int .i64 a0) (.bool b)).run Try.prog w = .ok () w' ∧ BM w' m (N + 1) (updB u a0 b) ∧ w.grownBy w' (some m) := by
  obtain ⟨D, hown, h2⟩ := h
  obtain ⟨wu, hu, hu2, hu3⟩ := hown.update kI Try.underlying57 hN (kof hk) (pe_bool b)
  exact ⟨wu, hu, BM.put h2 hu2, hu3⟩
/-- A store into a map of the law's own. -/
theorem wpList_put {ops : Array Oper} {rest : List Oper} {o : Oper} {a : Act} {Q : Exit → Act → World → Prop} (hg : o.guard = none) (mo x v : Operand) (hop : o.op = Op.mapUpdate 57 mo x v)
    (hm : a.eval mo = .map (some m)) (h : BM w m N u) (hN : N < maxLen) (a0 : Int) (b : Bool) (hx : a.eval x = .int .i64 a0) (hv : a.eval v = .bool b) (hk : (ky a0).wf = true)
    (hK : ∀ w', BM w' m (N + 1) (updB u a0 b) → w.grownBy w' (some m) → wpList Try.prog ops Q rest (a.put o.dst undef) w') : wpList Try.prog ops Q (o :: rest) a w := by
  obtain ⟨D, hown, h2⟩ := h
  exact wpList_mapUpdate_own w hg mo x v 57 hop 3 4 kI Try.underlying57 (plainElem (H := Unit) Try.prog 4) m N D hm hown hN _ (.bool b) (ky a0) hx hv (kof hk) (.lit (.bool b)) [] (pe_bool b) fun w' h3 h4 => hK w' (BM.put h2 h3) h4
end
/-- Whether a slot, an object is in a list's pairs. -/
def inS (l : List Pr) (z : Int) : Bool := l.any fun p => p.s == z
def inO (l : List Pr) (z : Int) : Bool := l.any fun p => p.o == z
theorem inS_snoc {S : List Pr} {q : Nat} (hq : q < S.length) : updB (inS (S.take q)) (S[q]).s true = inS (S.take (q + 1)) := by
  funext z
  unfold updB inS
  rw [← List.take_append_getElem hq, List.any_append]
  by_cases e : z = (S[q]).s
  · subst e; simp
  · rw [if_neg e]
    have : ((S[q]).s == z) = false := by simp; omega
    simp [this]
theorem inO_snoc {S : List Pr} {q : Nat} (hq : q < S.length) : updB (inO (S.take q)) (S[q]).o true = inO (S.take (q + 1)) := by
  funext z
  unfold updB inO
  rw [← List.take_append_getElem hq, List.any_append]
  by_cases e : z = (S[q]).o
  · subst e; simp
  · rw [if_neg e]
    have : ((S[q]).o == z) = false := by simp; omega
    simp [this]
theorem pw_take {α : Type} {r : α → α → Prop} {l : List α} (h : l.Pairwise r) {q : Nat} (hq : q < l.length) : ∀ x ∈ l.take q, r x l[q] := by
  have e : l = l.take q ++ l[q] :: l.drop (q + 1) := by rw [List.getElem_cons_drop, List.take_append_drop]
  rw [e] at h
  exact fun x hx => (List.pairwise_append.1 h).2.2 x hx _ List.mem_cons_self
theorem inS_no {S : List Pr} (ok : OkS S) {q : Nat} (hq : q < S.length) : inS (S.take q) (S[q]).s = false := by
  unfold inS
  rw [List.any_eq_false]
  intro x hx
  have := pw_take ok.asc hq x hx
  simp; omega
theorem inO_no {S : List Pr} (ok : OkS S) {q : Nat} (hq : q < S.length) : inO (S.take q) (S[q]).o = false := by
  unfold inO
  rw [List.any_eq_false]
  intro x hx
  have := pw_take ok.obj hq x hx
  simp; omega
theorem inS_mem {S : List Pr} {p : Pr} (h : p ∈ S) : inS S p.s = true := by
  unfold inS
  rw [List.any_eq_true]
  exact ⟨p, h, by simp⟩
/-- How many pairs the threads below t have. -/
def cntT (S : List Pr) (t : Nat) : Nat := (S.filter fun p => decide (p.t < (t : Int))).length
theorem cnt_zero {S : List Pr} (ok : OkS S) : cntT S 0 = 0 := by
  unfold cntT
  rw [List.length_eq_zero_iff, List.filter_eq_nil_iff]
  intro p hp
  have := (ok.rng p hp).t0
  simp; omega
theorem cnt_all {S : List Pr} (ok : OkS S) : cntT S 256 = S.length := by
  unfold cntT
  congr 1
  rw [List.filter_eq_self]
  intro p hp
  have := (ok.rng p hp).t1
  simp; omega
theorem cnt_succ (S : List Pr) (t : Nat) : cntT S (t + 1) = cntT S t + (ofT S (t : Int)).length := by
  unfold cntT ofT
  induction S with
  | nil => rfl
  | cons p S ih =>
    by_cases h1 : p.t < (t : Int)
    · have h2 : p.t < ((t + 1 : Nat) : Int) := by omega
      have h3 : (p.t == (t : Int)) = false := by simp; omega
      simp only [List.filter_cons, decide_eq_true h1, decide_eq_true h2, h3, if_true, List.length_cons, Bool.false_eq_true, if_false]
      omega
    · by_cases h4 : p.t = (t : Int)
      · have h2 : p.t < ((t + 1 : Nat) : Int) := by omega
        have h3 : (p.t == (t : Int)) = true := by simpa using h4
        simp only [List.filter_cons, decide_eq_false h1, decide_eq_true h2, h3, if_true, List.length_cons, Bool.false_eq_true, if_false]
        omega
      · have h2 : ¬ p.t < ((t + 1 : Nat) : Int) := by omega
        have h3 : (p.t == (t : Int)) = false := by simpa using h4
        simp only [List.filter_cons, decide_eq_false h1, decide_eq_false h2, h3, Bool.false_eq_true, if_false]
        exact ih
theorem cnt_le (S : List Pr) (t : Nat) : cntT S t ≤ S.length := List.length_filter_le _ _
end Go.Proofs.Ytcgbbgljchfbcaa
