/- A region that draws its order, walked in phases: operations that are quiet over the worlds that extend the one at hand, in the order of the text; then one that has to come next; and so on. -/
import Derived.Test.YtpadepamknbkoaaDoorKit
import Derived.RegionTactic
namespace Go.Proofs.YtpadepamknbkoaaDoor
open Go.RowKit
set_option linter.unusedVariables false

/-- Operation t waits, by way of others, for operation i. -/
def waitsOn (ops : Array Oper) : Nat → Nat → Nat → Bool
  | 0, _, _ => false
  | f + 1, t, i => match ops[t]? with
    | none => false
    | some o => o.after.any fun e => Region.binds .any e && (e.on == i || waitsOn ops f e.on i)
def closedB (ops : Array Oper) (done : Array Bool) : Bool :=
  decide (done.size = ops.size) && (List.range ops.size).all fun j => match ops[j]? with
    | none => true
    | some o => !done.getD j false || o.after.all fun e => !Region.binds .any e || done.getD e.on false
def markFrom : Nat → Nat → Array Bool → Array Bool
  | 0, _, d => d
  | m + 1, k, d => markFrom m (k + 1) (d.setIfInBounds k true)
def lexOk (ops : Array Oper) : Nat → Nat → Array Bool → Bool
  | 0, _, _ => true
  | f + 1, k, done => (Region.ready .any ops done).contains k && Region.free .any ops done k && lexOk ops f (k + 1) (done.setIfInBounds k true)
def phaseB (ops : Array Oper) (k m : Nat) (done : Array Bool) : Bool :=
  Region.noSelect ops && closedB ops done && lexOk ops m k done &&
  ((List.range ops.size).all fun t => done.getD t true || (decide (k ≤ t) && decide (t < k + m)) || (List.range m).all fun i => waitsOn ops ops.size t (k + i)) &&
  ((Region.ready .any ops (markFrom m k done)).all fun j => !(decide (k ≤ j) && decide (j < k + m)))

structure Inv (ops : Array Oper) (lo hi : Nat) (done0 done : Array Bool) : Prop where
  size : done.size = ops.size
  closed : ∀ j oj, ops[j]? = some oj → done.getD j false = true → ∀ e ∈ oj.after, Region.binds .any e = true → done.getD e.on false = true
  out : ∀ t, ¬ (lo ≤ t ∧ t < hi) → done.getD t true = done0.getD t true

theorem unlisted {done : Array Bool} {i : Nat} (h : done.getD i true = false) : done.getD i false = false := by
  rcases Nat.lt_or_ge i done.size with h' | h'
  · simp [h'] at h ⊢; exact h
  · simp [Array.getElem?_eq_none h'] at h
theorem unlisted_in {done : Array Bool} {i : Nat} (hi : i < done.size) (h : done.getD i false = false) : done.getD i true = false := by
  simp [hi] at h ⊢; exact h

theorem waits_done {ops : Array Oper} {done : Array Bool} (hc : ∀ j oj, ops[j]? = some oj → done.getD j false = true → ∀ e ∈ oj.after, Region.binds .any e = true → done.getD e.on false = true) (f : Nat) :
    ∀ t i, waitsOn ops f t i = true → (∀ o, ops[t]? = some o → ∀ e ∈ o.after, Region.binds .any e = true → done.getD e.on false = true) → done.getD i false = true := by
  induction f with
  | zero => intro t i h; cases h
  | succ f ih =>
    intro t i h ht
    unfold waitsOn at h
    split at h
    · cases h
    · rename_i o ho
      obtain ⟨e, he, hb⟩ := Array.any_eq_true'.1 h
      simp only [Bool.and_eq_true, Bool.or_eq_true, beq_iff_eq] at hb
      have hd := ht o ho e he hb.1
      rcases hb.2 with h1 | h1
      · rw [← h1]; exact hd
      · exact ih e.on i h1 fun o' ho' => hc e.on o' ho' hd

section
variable {P : Program} {ops : Array Oper} {C : World → Prop} {lo hi : Nat} {done0 : Array Bool}

theorem Inv.set {done : Array Bool} {i : Nat} (inv : Inv ops lo hi done0 done) (h : i ∈ Region.ready .any ops done) (hin : lo ≤ i ∧ i < hi) : Inv ops lo hi done0 (done.setIfInBounds i true) := by
  obtain ⟨_, oi, hoi, hall⟩ := mem_ready.1 h
  refine ⟨by simp [inv.size], fun j oj hj hl e he hb => ?_, fun t ht => by rw [getD_set_ne true (by rintro rfl; exact ht hin)]; exact inv.out t ht⟩
  by_cases hij : i = j
  · subst hij
    have : oj = oi := Option.some.inj (hj.symm.trans hoi)
    subst this
    exact getD_set_true (hall e he hb)
  · rw [getD_set_ne false hij] at hl
    exact getD_set_true (inv.closed j oj hj hl e he hb)

/-- While one of the head is not listed, only those of the head may come up. -/
theorem ready_in (hw : ∀ t, t < ops.size → done0.getD t true = false → ¬ (lo ≤ t ∧ t < hi) → ∀ i, lo ≤ i → i < hi → waitsOn ops ops.size t i = true)
    {done : Array Bool} (inv : Inv ops lo hi done0 done) {i : Nat} (hin : lo ≤ i ∧ i < hi) (hun : done.getD i true = false) {j : Nat} (hj : j ∈ Region.ready .any ops done) : lo ≤ j ∧ j < hi := by
  refine Classical.byContradiction fun hout => ?_
  obtain ⟨hjun, oj, hoj, hall⟩ := mem_ready.1 hj
  have h1 := hw j (Array.getElem?_eq_some_iff.1 hoj).1 (by rw [← inv.out j hout]; exact hjun) hout i hin.1 hin.2
  have h2 := waits_done inv.closed _ j i h1 fun o ho e he hb => by
    have : o = oj := Option.some.inj (ho.symm.trans hoj)
    subst this
    exact hall e he hb
  rw [unlisted hun] at h2
  cases h2

/-- f operations of the head are still to come; then L. -/
def phQ (P : Program) (ops : Array Oper) (C : World → Prop) (L : Array Bool → Act → Prop) : Nat → Array Bool → Act → Prop
  | 0, done, a => L done a
  | f + 1, done, a => Region.ready .any ops done ≠ [] ∧ ∀ i ∈ Region.ready .any ops done, qOp P ops C i (phQ P ops C L f (done.setIfInBounds i true)) a

theorem phQ_any {g : Nat} {L : Array Bool → Act → Prop} {Q : Exit → Act → World → Prop} (hL : ∀ done a w, C w → L done a → wpAny P .any ops Q g done a w) (f : Nat) :
    ∀ (done : Array Bool) (a : Act) (w : World), C w → phQ P ops C L f done a → wpAny P .any ops Q (f + g) done a w := by
  induction f with
  | zero => intro done a w hw h; simpa using hL done a w hw h
  | succ f ih =>
    intro done a w hw h
    have e : f + 1 + g = (f + g) + 1 := by omega
    rw [e]
    exact ⟨fun h0 => absurd h0 h.1, fun i hi => wpOp_of_qOp hw (fun a' w' hw' hk => ih _ a' w' hw' hk) (h.2 i hi)⟩

theorem phQ_first {i : Nat} {oi : Oper} {v : Value} {L : Array Bool → Act → Prop} (ho : ops[i]? = some oi) (hsel : ∀ (j : Nat) (o : Oper) cs b, ops[j]? = some o → o.op ≠ .select cs b)
    (hw : ∀ t, t < ops.size → done0.getD t true = false → ¬ (lo ≤ t ∧ t < hi) → ∀ i, lo ≤ i → i < hi → waitsOn ops ops.size t i = true) (hin : lo ≤ i ∧ i < hi)
    (hdone : ∀ done a, L done a → ∀ j ∈ Region.ready .any ops done, ¬ (lo ≤ j ∧ j < hi)) (f : Nat) :
    ∀ (done : Array Bool) (a : Act), Inv ops lo hi done0 done →
      (∀ j oj, ops[j]? = some oj → j ≠ i → done.getD j true = false → (∀ e ∈ oj.after, Region.binds .any e = true → e.on ≠ i) → oi.apart ops oj = true) →
      i ∈ Region.ready .any ops done → YieldsIn P ops C oi v a →
      phQ P ops C L f (done.setIfInBounds i true) (a.put oi.dst v) → phQ P ops C L (f + 1) done a := by
  induction f with
  | zero =>
    intro done a inv _ hr hy H
    refine ⟨List.ne_nil_of_mem hr, fun j hj => ?_⟩
    have hjn := ready_in hw inv hin (mem_ready.1 hr).1 hj
    by_cases e : j = i
    · subst e; exact hy.qOp ho H
    · exact absurd hjn (hdone _ _ H j (ready_mono hj e))
  | succ f ih =>
    intro done a inv hfree hr hy H
    refine ⟨List.ne_nil_of_mem hr, fun j hj => ?_⟩
    have hun := (mem_ready.1 hr).1
    have hjn := ready_in hw inv hin hun hj
    by_cases e : j = i
    · subst e; exact hy.qOp ho H
    · obtain ⟨hjun, oj, hoj, hall⟩ := mem_ready.1 hj
      have hap : oi.apart ops oj = true := hfree j oj hoj e hjun fun x hx hb hxi => by
        have h1 := hall x hx hb
        rw [hxi, unlisted hun] at h1
        cases h1
      have h2 := qOp_put hoj hap (fun cs b => hsel i oi cs b ho) (fun cs b => hsel j oj cs b hoj) hy (H.2 j (ready_mono hj e))
      refine qOp_mono (fun a' h3 => ih (done.setIfInBounds j true) a' (inv.set hj hjn) (fun k ok hk hki hku hno => hfree k ok hk hki ?_ hno) (ready_mono hr (Ne.symm e)) h3.1 ?_) h2
      · by_cases hjk : j = k
        · subst hjk; exact hjun
        · rwa [getD_set_ne true hjk] at hku
      · rw [Array.setIfInBounds_comm _ _ e]
        exact h3.2

theorem phQ_lex {Lq : Act → Prop} {D : Array Bool} (hsel : Region.noSelect ops = true)
    (hw : ∀ t, t < ops.size → done0.getD t true = false → ¬ (lo ≤ t ∧ t < hi) → ∀ i, lo ≤ i → i < hi → waitsOn ops ops.size t i = true)
    (hD : ∀ j ∈ Region.ready .any ops D, ¬ (lo ≤ j ∧ j < hi)) (l : List Oper) :
    ∀ (k : Nat) (done : Array Bool) (a : Act), lo ≤ k → k + l.length = hi → (∀ j, j < l.length → l[j]? = ops[k + j]?) → Inv ops lo hi done0 done → markFrom l.length k done = D →
    lexOk ops l.length k done = true → wpQuiet P ops C Lq l a → phQ P ops C (fun done' a' => done' = D ∧ Lq a') l.length done a := by
  induction l with
  | nil => intro k done a _ _ _ _ hm _ h; exact ⟨hm, h⟩
  | cons o l ih =>
    intro k done a hk hhi hl inv hm hB h
    have h0 : ops[k]? = some o := by simpa using (hl 0 (by simp)).symm
    simp only [List.length_cons] at hhi hm hB
    simp only [lexOk, Bool.and_eq_true] at hB
    have hin : lo ≤ k ∧ k < hi := ⟨hk, by omega⟩
    have hr : k ∈ Region.ready .any ops done := by simpa using hB.1.1
    have hst : qOp P ops C k (wpQuiet P ops C Lq l) a := by unfold qOp; simp only [h0]; exact h
    obtain ⟨v, hy, hK⟩ := yieldsIn_of_qOp h0 hst
    exact phQ_first h0 (Region.noSelect_spec hsel) hw hin (fun done' a' hL => by rw [hL.1]; exact hD) l.length done a inv (Region.free_spec h0 hB.1.2) hr hy
      (ih (k + 1) _ _ (by omega) (by omega) (fun j hj => by have := hl (j + 1) (by simp; omega); simpa [Nat.add_assoc, Nat.add_comm 1 j] using this) (inv.set hr hin) hm hB.2 hK)
end

/-- A QUIET PHASE: m operations from number k on, over a class of worlds. -/
theorem any_quietC {C : World → Prop} {P : Program} {ops : Array Oper} {Q : Exit → Act → World → Prop} (k m g : Nat) {fuel : Nat} {done : Array Bool} {a : Act} {w : World} (hfuel : fuel = m + g) (hB : phaseB ops k m done = true)
    (hl : ((ops.toList.drop k).take m).length = m) (hC : C w)
    (h : wpQuiet P ops C (fun a' => ∀ w', C w' → wpAny P .any ops Q g (markFrom m k done) a' w') ((ops.toList.drop k).take m) a) : wpAny P .any ops Q fuel done a w := by
  subst hfuel
  unfold phaseB at hB
  simp only [Bool.and_eq_true] at hB
  obtain ⟨⟨⟨⟨hsel, hcl⟩, hlex⟩, hwt⟩, hend⟩ := hB
  unfold closedB at hcl
  simp only [Bool.and_eq_true, decide_eq_true_eq] at hcl
  have inv : Inv ops k (k + m) done done := by
    refine ⟨hcl.1, fun j oj hj hd e he hb => ?_, fun _ _ => rfl⟩
    have h1 := List.all_eq_true.1 hcl.2 j (List.mem_range.2 (Array.getElem?_eq_some_iff.1 hj).1)
    simp only [hj, hd, Bool.not_true, Bool.false_or] at h1
    have h2 := Array.all_eq_true_iff_forall_mem.1 h1 e he
    simpa [hb] using h2
  have hw : ∀ t, t < ops.size → done.getD t true = false → ¬ (k ≤ t ∧ t < k + m) → ∀ i, k ≤ i → i < k + m → waitsOn ops ops.size t i = true := by
    intro t ht hun hout i hi1 hi2
    have h1 := List.all_eq_true.1 hwt t (List.mem_range.2 ht)
    simp only [Bool.or_eq_true, hun, Bool.false_eq_true, false_or, Bool.and_eq_true, decide_eq_true_eq] at h1
    rcases h1 with h1 | h1
    · exact absurd h1 hout
    · have := List.all_eq_true.1 h1 (i - k) (List.mem_range.2 (by omega))
      have e : k + (i - k) = i := by omega
      rwa [e] at this
  have hD : ∀ j ∈ Region.ready .any ops (markFrom m k done), ¬ (k ≤ j ∧ j < k + m) := by
    intro j hj hin
    have h1 := List.all_eq_true.1 hend j hj
    simp [hin.1, hin.2] at h1
  have H := phQ_lex (P := P) (C := C) (D := markFrom m k done) hsel hw hD ((ops.toList.drop k).take m) k done a (Nat.le_refl _) (by rw [hl]) (fun j hj => by
    rw [hl] at hj
    rw [List.getElem?_take, if_pos hj, List.getElem?_drop, Array.getElem?_toList]) inv (by rw [hl]) (by rw [hl]; exact hlex) h
  rw [hl] at H
  exact phQ_any (g := g) (fun done' a' w' hw' hL => by rw [hL.1]; exact hL.2 w' hw') m done a w hC H

/-- A QUIET PHASE: m operations from number k on. -/
theorem any_quiet {P : Program} {ops : Array Oper} {Q : Exit → Act → World → Prop} (k m g : Nat) {fuel : Nat} {done : Array Bool} {a : Act} {w : World} (hfuel : fuel = m + g) (hB : phaseB ops k m done = true)
    (hl : ((ops.toList.drop k).take m).length = m)
    (h : wpQuiet P ops (Ext w) (fun a' => ∀ w', Ext w w' → wpAny P .any ops Q g (markFrom m k done) a' w') ((ops.toList.drop k).take m) a) : wpAny P .any ops Q fuel done a w :=
  any_quietC (C := Ext w) k m g hfuel hB hl (Ext.refl w) h

/-- ONE THAT HAS TO COME NEXT. -/
theorem any_one {P : Program} {ops : Array Oper} {Q : Exit → Act → World → Prop} (k g : Nat) {o : Oper} {fuel : Nat} {done : Array Bool} {a : Act} {w : World} (hfuel : fuel = g + 1) (hr : Region.ready .any ops done = [k]) (ho : ops[k]? = some o)
    (h : ∀ K : Act → World → Prop, (∀ a w, wpAny P .any ops Q g (done.setIfInBounds k true) a w → K a w) → if Region.wanted o (yielded ops a.tmps) = true then Oper.wp P o a w K Q else K (a.put o.dst undef) w) :
    wpAny P .any ops Q fuel done a w := by
  subst hfuel
  exact wpAny_all hr (by simp) fun i hi => by
    have e : i = k := by simpa using hi
    subst e
    exact wpOp_step ho h
theorem wp_region_any' {P : Program} {ops : Array Oper} {Q : Exit → Act → World → Prop} {id : Nat} {a : Act} {w : World} (hm : P.follows .mixedOrders = true)
    (h : wpAny P .any ops Q ops.size (Array.replicate ops.size false) a w.drew) : (Code.region id ops true).wp P Q a w := wp_region_any hm h
end Go.Proofs.YtpadepamknbkoaaDoor
