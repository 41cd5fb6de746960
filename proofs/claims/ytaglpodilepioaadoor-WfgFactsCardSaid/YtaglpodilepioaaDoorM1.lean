/- Maps from ints to ints, that a law makes for its own. -/
import Derived.Test.YtaglpodilepioaaDoorP1
import Derived.Test.YtaglpodilepioaaDoorTurn
import Derived.Maps.OwnOps
import Derived.Maps.OwnSet
namespace Go.Proofs.YtaglpodilepioaaDoor
open Go.RowKit Go.Maps
set_option linter.unusedSimpArgs false
set_option linter.unusedVariables false

def ky (z : Int) : Lit := .int .i64 z
theorem ky_key (z : Int) : WideAt.IsKeyLit (ky z) := trivial
theorem ky_ne {a b : Int} (h : a ≠ b) : ky a ≠ ky b := fun e => h (by unfold ky at e; injection e)
theorem ky_wf {z : Int} (h0 : -9223372036854775808 ≤ z) (h1 : z ≤ 9223372036854775807) : (ky z).wf = true := WalkArith.wf_i64 ⟨h0, h1⟩
theorem kI : Keyed Tryd.prog 3 := int_keyed Tryd.underlying3
theorem kof {z : Int} (h : (ky z).wf = true) : keyOf Tryd.prog 3 (.int .i64 z) = some (ky z) := keyOf_int_mk Tryd.underlying3 h
theorem own_chgM {w w' : World} {H : Type} {P : Program} {k : TypeId} {R : Value → Option (DataW H × List MemPlace)} {b n : Nat} {D : DataW H} {T : List Nat} (h : w.ownsMap P k R b n D) (x : Chg T w w') (hne : b ∉ T) : w'.ownsMap P k R b n D := by
  have hlt := h.lt
  obtain ⟨es, clock, hb, r⟩ := h
  exact ⟨es, clock, (x.block b hlt hne).trans hb, r⟩
def updI (u : Int → Int) (k : Int) (b : Int) (l : Int) : Int := if l = k then b else u l
theorem zB (w : World) : (zeroValue 3).run Tryd.prog w = .ok (.int .i64 0) w := by kernel_rfl
theorem pe_int {z : Int} (h : (ky z).wf = true) : (plainElem (H := Unit) Tryd.prog 3) (.int .i64 z) = some (.lit (.int .i64 z), []) := by
  unfold ky at h
  simp [plainElem, Tryd.underlying3, h]
/-- Block m is a map whose looks are u. -/
def BM (w : World) (m N : Nat) (u : Int → Int) : Prop :=
  ∃ D, w.ownsMap Tryd.prog 3 (plainElem (H := Unit) Tryd.prog 3) m N D ∧ Maps.Tidy D ∧ ∀ a, D.atKey (ky a) (.lit (.int .i64 0)) = .lit (.int .i64 (u a))
section
variable {w w' : World} {m N : Nat} {u : Int → Int}
theorem BM.lt (h : BM w m N u) : m < w.heap.size := by obtain ⟨D, h, _⟩ := h; exact h.lt
theorem BM.chg {T : List Nat} (h : BM w m N u) (x : Chg T w w') (hm : m ∉ T) : BM w' m N u := by
  obtain ⟨D, h, h2⟩ := h
  exact ⟨D, own_chgM h x hm, h2⟩
theorem BM.ext (h : BM w m N u) (x : Ext w w') : BM w' m N u := h.chg (x.chg []) (by simp)
theorem BM.made (w : World) : BM (w.alloc (.map #[] 0)) w.heap.size 0 (fun _ => 0) := ⟨_, World.ownsMap_made w _ 3 _, Maps.tidy_empty, fun l => rfl⟩
theorem pe_inv {v : Value} {z : Int} {ps : List MemPlace} (hv : (plainElem (H := Unit) Tryd.prog 3) v = some (.lit (.int .i64 z), ps)) : v = .int .i64 z := by
  cases v <;> simp [plainElem, Tryd.underlying3] at hv
  · obtain ⟨⟨rfl, _⟩, h, _⟩ := hv
    exact congrArg _ h
theorem BM.look {a : Int} (h : BM w m N u) (ha : (ky a).wf = true) :
    (Instr.lookup 47 (.map (some m)) (.int .i64 a) false).run Tryd.prog w = .ok (.int .i64 (u a)) w := by
  obtain ⟨D, h, _, h2⟩ := h
  obtain ⟨v, ps, hrun, hv⟩ := h.lookup kI Tryd.underlying47 (zB w) (pe_int (z := 0) (by decide)) (kof ha)
  rw [h2 a] at hv
  rw [hrun, pe_inv hv]
theorem BM.put {D : DataW Unit} {a0 : Int} {b : Int} (h2 : Maps.Tidy D ∧ ∀ a, D.atKey (ky a) (.lit (.int .i64 0)) = .lit (.int .i64 (u a)))
    (h : w'.ownsMap Tryd.prog 3 (plainElem (H := Unit) Tryd.prog 3) m N (D.put (ky a0) (.lit (.int .i64 b)))) : BM w' m N (updI u a0 b) := by
  refine ⟨_, h, h2.1.put (ky_key _) _, fun a => ?_⟩
  unfold updI
  by_cases e : a = a0
  · rw [if_pos e, e, Maps.atKey_put_same h2.1.isMap (ky_key _)]
  · rw [if_neg e, Maps.atKey_put_other (ky_ne e)]; exact h2.2 a
/-- A store into a map of the law's own. -/
theorem wpList_put {ops : Array Oper} {rest : List Oper} {o : Oper} {a : Act} {Q : Exit → Act → World → Prop} (hg : o.guard = none) (mo x v : Operand) (hop : o.op = Op.mapUpdate 47 mo x v)
    (hm : a.eval mo = .map (some m)) (h : BM w m N u) (hN : N < maxLen) (a0 : Int) (b : Int) (hx : a.eval x = .int .i64 a0) (hv : a.eval v = .int .i64 b) (hk : (ky a0).wf = true) (hb : (ky b).wf = true)
    (hK : ∀ w', BM w' m (N + 1) (updI u a0 b) → w.grownBy w' (some m) → wpList Tryd.prog ops Q rest (a.put o.dst undef) w') : wpList Tryd.prog ops Q (o :: rest) a w := by
  obtain ⟨D, hown, h2⟩ := h
  exact wpList_mapUpdate_own w hg mo x v 47 hop 3 3 kI Tryd.underlying47 (plainElem (H := Unit) Tryd.prog 3) m N D hm hown hN _ (.int .i64 b) (ky a0) hx hv (kof hk) (.lit (.int .i64 b)) [] (pe_int hb) fun w' h3 h4 => hK w' (BM.put h2 h3) h4
end
end Go.Proofs.YtaglpodilepioaaDoor
