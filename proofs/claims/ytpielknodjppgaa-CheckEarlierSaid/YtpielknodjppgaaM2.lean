/- Maps from ints to Booleans that the law makes for its own. -/
import Derived.Test.YtpielknodjppgaaGA
namespace Go.Proofs.Ytpielknodjppgaa
open Go.RowKit Go.Maps
set_option linter.unusedSimpArgs false
set_option linter.unusedVariables false


def ky (z : Int) : Lit := .int .i64 z
theorem ky_key (z : Int) : WideAt.IsKeyLit (ky z) := trivial
theorem ky_ne {a b : Int} (h : a ≠ b) : ky a ≠ ky b := fun e => h (by unfold ky at e; injection e)
theorem ky_wf {z : Int} (h0 : -9223372036854775808 ≤ z) (h1 : z ≤ 9223372036854775807) : (ky z).wf = true := WalkArith.wf_i64 ⟨h0, h1⟩
theorem kI : Keyed Try.prog 3 := int_keyed Try.underlying3
theorem kof {z : Int} (h : (ky z).wf = true) : keyOf Try.prog 3 (.int .i64 z) = some (ky z) := keyOf_int_mk Try.underlying3 h
theorem own_chgM {w w' : World} {H : Type} {P : Program} {k : TypeId} {R : Value → Option (DataW H × List MemPlace)} {b n : Nat} {D : DataW H} {T : List Nat} (h : w.ownsMap P k R b n D) (x : Chg T w w') (hne : b ∉ T) : w'.ownsMap P k R b n D := by
  have hlt := h.lt
  obtain ⟨es, clock, hb, r⟩ := h
  exact ⟨es, clock, (x.block b hlt hne).trans hb, r⟩
theorem Chg.of_grownM {w w' : World} {T : List Nat} {b : Nat} (h : w.grownBy w' (some b)) (hb : b ∈ T) : Chg T w w' := ⟨h.os, h.tape, h.output, h.size, fun k hk hT => h.block k hk (fun e => by cases e; exact hT hb)⟩
def updB (u : Int → Bool) (k : Int) (b : Bool) (l : Int) : Bool := if l = k then b else u l
theorem zBL (w : World) : (zeroValue 4).run Try.prog w = .ok (.bool false) w := by kernel_rfl
theorem pe_bool (b : Bool) : (plainElem (H := Unit) Try.prog 4) (.bool b) = some (.lit (.bool b), []) := by cases b <;> kernel_rfl
/-- Block m is a map whose looks are u. -/
def BM (w : World) (m N : Nat) (u : Int → Bool) : Prop :=
  ∃ D, w.ownsMap Try.prog 3 (plainElem (H := Unit) Try.prog 4) m N D ∧ Maps.Tidy D ∧ ∀ a, D.atKey (ky a) (.lit (.bool false)) = .lit (.bool (u a))
section
variable {w w' : World} {m N : Nat} {u : Int → Bool}
theorem BM.lt (h : BM w m N u) : m < w.heap.size := by obtain ⟨D, h, _⟩ := h; exact h.lt
theorem BM.noC (h : BM w m N u) : ∀ cs t, ¬ Blk w m cs t := fun cs t hh => by
  obtain ⟨D, ⟨es, clock, hm, r⟩, h2⟩ := h
  unfold Blk at hh
  rw [hm] at hh
  cases hh
theorem BM.chg {T : List Nat} (h : BM w m N u) (x : Chg T w w') (hm : m ∉ T) : BM w' m N u := by
  obtain ⟨D, h, h2⟩ := h
  exact ⟨D, own_chgM h x hm, h2⟩
theorem BM.ext (h : BM w m N u) (x : Ext w w') : BM w' m N u := h.chg (x.chg []) (by simp)
theorem BM.grown {b : Nat} (h : BM w m N u) (hg : w.grownBy w' (some b)) (hne : m ≠ b) : BM w' m N u := h.chg (T := [b]) (Chg.of_grownM hg (by simp)) (by simpa using hne)
theorem BM.made (w : World) : BM (w.alloc (.map #[] 0)) w.heap.size 0 (fun _ => false) := ⟨_, World.ownsMap_made w _ 3 _, Maps.tidy_empty, fun l => rfl⟩
theorem BM.eq {u' : Int → Bool} (h : BM w m N u) (e : u = u') : BM w m N u' := e ▸ h
theorem pe_inv {v : Value} {b : Bool} {ps : List MemPlace} (hv : (plainElem (H := Unit) Try.prog 4) v = some (.lit (.bool b), ps)) : v = .bool b := by
  cases v <;> simp [plainElem, Try.underlying4] at hv
  rw [hv.1]
theorem BM.look {a : Int} (h : BM w m N u) (ha : (ky a).wf = true) :
    (Instr.lookup 59 (.map (some m)) (.int .i64 a) false).run Try.prog w = .ok (.bool (u a)) w := by
  obtain ⟨D, h, _, h2⟩ := h
  obtain ⟨v, ps, hrun, hv⟩ := h.lookup kI Try.underlying59 (zBL w) (pe_bool false) (kof ha)
  rw [h2 a] at hv
  rw [hrun, pe_inv hv]
theorem BM.put {D : DataW Unit} {a0 : Int} {b : Bool} (h2 : Maps.Tidy D ∧ ∀ a, D.atKey (ky a) (.lit (.bool false)) = .lit (.bool (u a)))
    (h : w'.ownsMap Try.prog 3 (plainElem (H := Unit) Try.prog 4) m N (D.put (ky a0) (.lit (.bool b)))) : BM w' m N (updB u a0 b) := by
  refine ⟨_, h, h2.1.put (ky_key _) _, fun a => ?_⟩
  unfold updB
  by_cases e : a = a0
  · rw [if_pos e, e, Maps.atKey_put_same h2.1.isMap (ky_key _)]
  · rw [if_neg e, Maps.atKey_put_other (ky_ne e)]; exact h2.2 a
theorem BM.set (h : BM w m N u) (hN : N < maxLen) {a0 : Int} (hk : (ky a0).wf = true) (b : Bool) : ∃ w', (Instr.mapUpdate 59 (.map (some m)) (.int .i64 a0) (.bool b)).run Try.prog w = .ok () w' ∧ BM w' m (N + 1) (updB u a0 b) ∧ w.grownBy w' (some m) := by
  obtain ⟨D, hown, h2⟩ := h
  obtain ⟨wu, hu, hu2, hu3⟩ := hown.update kI Try.underlying59 hN (kof hk) (pe_bool b)
  exact ⟨wu, hu, BM.put h2 hu2, hu3⟩
end
end Go.Proofs.Ytpielknodjppgaa
