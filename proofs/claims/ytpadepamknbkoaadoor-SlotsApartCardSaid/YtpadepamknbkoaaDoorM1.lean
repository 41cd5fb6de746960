/- Maps from ints, and from slots with generations, to Booleans, that a law makes for its own. -/
import Derived.Test.YtpadepamknbkoaaDoorS1
import Derived.Maps.OwnOps
import Derived.Maps.OwnSet
import Derived.DeepKeys4
import Derived.Test.YtpadepamknbkoaaDoorFrame
namespace Go.Proofs.YtpadepamknbkoaaDoor
open Go.RowKit Go.Maps
set_option linter.unusedSimpArgs false
set_option linter.unusedVariables false

theorem kI : Keyed Tryd.prog 3 := int_keyed Tryd.underlying3
theorem kN : Keyed Tryd.prog 50 := Keyed.of_law (deep_law_laid laidOut (m := 3) (by omega) (of_decide_eq_true (by kernel_rfl)) (by kernel_rfl) (by kernel_rfl))
theorem zB (w : World) : (zeroValue 4).run Tryd.prog w = .ok (.bool false) w := by kernel_rfl
theorem pe_bool (b : Bool) : (plainElem (H := Unit) Tryd.prog 4) (.bool b) = some (.lit (.bool b), []) := by cases b <;> kernel_rfl
theorem nm_key (k g : Int) (h1 : (Lit.int .i64 k).wf = true) (h2 : (Lit.int .u32 g).wf = true) : keyOf Tryd.prog 50 ((Value.agg #[.int .i64 k, .int .u32 g])) = some (.string (keyBytes [.int .i64 k, .int .u32 g])) := by
  have hp : 0 < Tryd.prog.types.size := of_decide_eq_true (by kernel_rfl)
  obtain ⟨d, hs⟩ : ∃ d, Tryd.prog.types.size + 1 = d + 1 + 1 := ⟨Tryd.prog.types.size - 1, by omega⟩
  have hk : Tryd.prog.keyType 50 = true := by kernel_rfl
  have hc : Tryd.prog.cellsOf 50 = 2 := by kernel_rfl
  have hci : Tryd.prog.cellsOf 3 = 1 := by kernel_rfl
  have hcu : Tryd.prog.cellsOf 39 = 1 := by kernel_rfl
  have hl : Tryd.prog.keyLits (Tryd.prog.types.size + 1) 50 [.int .i64 k, .int .u32 g] = some [.int .i64 k, .int .u32 g] := by
    rw [hs]
    have e1 : Tryd.prog.keyLits (d + 1) 3 [.int .i64 k] = some [.int .i64 k] := by
      unfold Program.keyLits
      simp [Tryd.underlying3, h1]
    have e2 : Tryd.prog.keyLits (d + 1) 39 [.int .u32 g] = some [.int .u32 g] := by
      unfold Program.keyLits
      simp [Tryd.underlying39, h2]
    unfold Program.keyLits
    rw [Tryd.underlying50]
    simp [hc, hci, hcu]
    simp [e1, e2]
  have hf : ((Value.agg #[.int .i64 k, .int .u32 g])).formed Tryd.prog 50 = true := by
    unfold Value.formed
    simp [Tryd.underlying50, hc]
  unfold keyOf
  simp only [Tryd.underlying50, hk, hf, Bool.and_self, if_true]
  have : ((Value.agg #[.int .i64 k, .int .u32 g])).cells.toList = [.int .i64 k, .int .u32 g] := rfl
  rw [this, hl]
  rfl

def ky (z : Int) : Lit := .int .i64 z
theorem ky_key (z : Int) : WideAt.IsKeyLit (ky z) := trivial
theorem ky_ne {a b : Int} (h : a ≠ b) : ky a ≠ ky b := fun e => h (by unfold ky at e; injection e)
theorem ky_wf {z : Int} (h0 : -9223372036854775808 ≤ z) (h1 : z ≤ 9223372036854775807) : (Lit.int .i64 z).wf = true := WalkArith.wf_i64 ⟨h0, h1⟩
theorem kof {z : Int} (h : (Lit.int .i64 z).wf = true) : keyOf Tryd.prog 3 (.int .i64 z) = some (ky z) := keyOf_int_mk Tryd.underlying3 h
def nk (k g : Int) : Lit := .string (keyBytes [.int .i64 k, .int .u32 g])
theorem nk_key (k g : Int) : WideAt.IsKeyLit (nk k g) := trivial
theorem nk_of {k g : Int} (h1 : (Lit.int .i64 k).wf = true) (h2 : (Lit.int .u32 g).wf = true) : keyOf Tryd.prog 50 ((Value.agg #[.int .i64 k, .int .u32 g])) = some (nk k g) := nm_key k g h1 h2
theorem nk_inj {k g k' g' : Int} (h1 : (Lit.int .i64 k).wf = true) (h2 : (Lit.int .u32 g).wf = true) (h3 : (Lit.int .i64 k').wf = true) (h4 : (Lit.int .u32 g').wf = true) (h : nk k g = nk k' g') : k = k' ∧ g = g' := by
  have e := kN.inj (nk_of h1 h2) (by rw [h]; exact nk_of h3 h4)
  simpa using e
/-- Block m is a map whose looks, at keys that are right, are u. -/
def BM {α : Type} (w : World) (m : Nat) (kt : TypeId) (N : Nat) (kf : α → Lit) (ok : α → Prop) (u : α → Bool) : Prop :=
  ∃ D, w.ownsMap Tryd.prog kt (plainElem (H := Unit) Tryd.prog 4) m N D ∧ Maps.Tidy D ∧ ∀ a, ok a → D.atKey (kf a) (.lit (.bool false)) = .lit (.bool (u a))
def updA {α : Type} [DecidableEq α] (u : α → Bool) (k : α) (b : Bool) (l : α) : Bool := if l = k then b else u l
section
variable {α : Type} {w w' : World} {m N : Nat} {kt : TypeId} {kf : α → Lit} {ok : α → Prop} {u : α → Bool}
theorem BM.lt (h : BM w m kt N kf ok u) : m < w.heap.size := by obtain ⟨D, h, _⟩ := h; exact h.lt
theorem BM.same (h : BM w m kt N kf ok u) (hb : w'.heap[m]? = w.heap[m]?) : BM w' m kt N kf ok u := by
  obtain ⟨D, ⟨es, clock, hm, r⟩, h2⟩ := h
  exact ⟨D, ⟨es, clock, hb.trans hm, r⟩, h2⟩
theorem BM.ext (h : BM w m kt N kf ok u) (x : Ext w w') : BM w' m kt N kf ok u := h.same (x.block m h.lt)
theorem BM.noC (h : BM w m kt N kf ok u) : ∀ cs t, w.heap[m]? ≠ some (.cells cs t (0, 0)) := fun cs t hh => by
  obtain ⟨D, ⟨es, clock, hm, r⟩, h2⟩ := h
  rw [hm] at hh
  cases hh
theorem BM.kp {ts : List TypeId} {B : Nat} (h : BM w m kt N kf ok u) (x : Kp ts B w w') : BM w' m kt N kf ok u :=
  h.same (x.block m h.lt (.inr fun cs t hh => absurd hh (h.noC cs t)))
theorem BM.grown {b : Nat} (h : BM w m kt N kf ok u) (hg : w.grownBy w' (some b)) (hne : m ≠ b) : BM w' m kt N kf ok u := h.same (hg.block m h.lt (fun e => hne (by cases e; rfl)))
theorem BM.made (w : World) (kt : TypeId) (kf : α → Lit) (ok : α → Prop) : BM (w.alloc (.map #[] 0)) w.heap.size kt 0 kf ok (fun _ => false) := ⟨_, World.ownsMap_made w _ kt _, Maps.tidy_empty, fun l _ => rfl⟩
theorem BM.mono {N' : Nat} (h : BM w m kt N kf ok u) (hN : N ≤ N') : BM w m kt N' kf ok u := by
  obtain ⟨D, h, h2⟩ := h
  exact ⟨D, h.mono hN, h2⟩
theorem pe_inv {v : Value} {b : Bool} {ps : List MemPlace} (hv : (plainElem (H := Unit) Tryd.prog 4) v = some (.lit (.bool b), ps)) : v = .bool b := by
  cases v <;> simp [plainElem, Tryd.underlying4] at hv
  rw [hv.1]
theorem BM.look {t : TypeId} {key : Value} {a : α} (h : BM w m kt N kf ok u) (K : Keyed Tryd.prog kt) (ht : Tryd.prog.underlying t = some (.map kt 4)) (hk : keyOf Tryd.prog kt key = some (kf a)) (ha : ok a) :
    (Instr.lookup t (.map (some m)) key false).run Tryd.prog w = .ok (.bool (u a)) w := by
  obtain ⟨D, h, _, h2⟩ := h
  obtain ⟨v, ps, hrun, hv⟩ := h.lookup K ht (zB w) (pe_bool false) hk
  rw [h2 a ha] at hv
  rw [hrun, pe_inv hv]
theorem BM.put [DecidableEq α] {D : DataW Unit} {a0 : α} {b : Bool} (h2 : Maps.Tidy D ∧ ∀ a, ok a → D.atKey (kf a) (.lit (.bool false)) = .lit (.bool (u a))) (hl : WideAt.IsKeyLit (kf a0)) (hi : ∀ a, ok a → a ≠ a0 → kf a ≠ kf a0)
    (h : w'.ownsMap Tryd.prog kt (plainElem (H := Unit) Tryd.prog 4) m N (D.put (kf a0) (.lit (.bool b)))) : BM w' m kt N kf ok (updA u a0 b) := by
  refine ⟨_, h, h2.1.put hl _, fun a ha => ?_⟩
  unfold updA
  by_cases e : a = a0
  · rw [if_pos e, e, Maps.atKey_put_same h2.1.isMap hl]
  · rw [if_neg e, Maps.atKey_put_other (hi a ha e)]; exact h2.2 a ha
/-- A store into a map of the law's own. -/
theorem wpList_put [DecidableEq α] {ops : Array Oper} {rest : List Oper} {o : Oper} {a : Act} {Q : Exit → Act → World → Prop} (hg : o.guard = none) (mo x v : Operand) (t : TypeId) (hop : o.op = Op.mapUpdate t mo x v)
    (K : Keyed Tryd.prog kt) (ht : Tryd.prog.underlying t = some (.map kt 4)) (hm : a.eval mo = .map (some m)) (h : BM w m kt N kf ok u) (hN : N < maxLen) (key : Value) (a0 : α) (b : Bool) (hx : a.eval x = key) (hv : a.eval v = .bool b)
    (hkey : keyOf Tryd.prog kt key = some (kf a0)) (hl : WideAt.IsKeyLit (kf a0)) (hi : ∀ a, ok a → a ≠ a0 → kf a ≠ kf a0)
    (hK : ∀ w', BM w' m kt (N + 1) kf ok (updA u a0 b) → w.grownBy w' (some m) → wpList Tryd.prog ops Q rest (a.put o.dst undef) w') : wpList Tryd.prog ops Q (o :: rest) a w := by
  obtain ⟨D, hown, h2⟩ := h
  exact wpList_mapUpdate_own w hg mo x v t hop kt 4 K ht (plainElem (H := Unit) Tryd.prog 4) m N D hm hown hN key (.bool b) (kf a0) hx hv hkey (.lit (.bool b)) [] (pe_bool b) fun w' h3 h4 => hK w' (BM.put h2 hl hi h3) h4
end
abbrev MI (w : World) (m N : Nat) (u : Int → Bool) : Prop := BM w m 3 N ky (fun _ => True) u
abbrev nkp (p : Int × Int) : Lit := nk p.1 p.2
abbrev okp (p : Int × Int) : Prop := (Lit.int .i64 p.1).wf = true ∧ (Lit.int .u32 p.2).wf = true
abbrev MN (w : World) (m N : Nat) (u : Int × Int → Bool) : Prop := BM w m 50 N nkp okp u
theorem ky_inj (z : Int) : ∀ a, (fun _ : Int => True) a → a ≠ z → ky a ≠ ky z := fun a _ h => ky_ne h
theorem nkp_inj {p : Int × Int} (hp : okp p) : ∀ a, okp a → a ≠ p → nkp a ≠ nkp p := fun a ha h e => h (by
  have := nk_inj ha.1 ha.2 hp.1 hp.2 e
  exact Prod.ext this.1 this.2)
theorem grown_kp {b B : Nat} {w w' : World} (ts : List TypeId) (h : w.grownBy w' (some b)) (hb : B ≤ b) (W : World) (x : Ext W w) (hB : W.heap.size ≤ B) : Ext W w' :=
  Ext.grown x h (fun k hk => by cases hk; omega)

theorem own_grownM {w w' : World} {m base n size : Nat} {e : TypeId} {v : Value} {xs : List Value} (h : w.ownsRow base e size v n xs) (hg : w.grownBy w' (some m)) (hm : ∀ cs t, w.heap[m]? ≠ some (.cells cs t (0, 0))) : w'.ownsRow base e size v n xs := by
  refine World.ownsRow.kept h hg (.inr fun q => ?_)
  obtain ⟨cs, hb⟩ := own_blk h m q
  exact hm cs _ hb
theorem TabT.grown {w w' : World} {m B M : Nat} {S : TS} (h : TabT w B M S) (hg : w.grownBy w' (some m)) (hm : ∀ cs t, w.heap[m]? ≠ some (.cells cs t (0, 0))) (h0 : 0 < m) : TabT w' B M S := by
  obtain ⟨vm, vo, h⟩ := h
  refine ⟨vm, vo, h.lo, h.bp, ⟨Nat.lt_of_lt_of_le h.tb.1 hg.size, fun j hj => (World.cell?_of_block (a := ⟨0, j, none⟩) (hg.block 0 h.tb.1 (fun e => by have : 0 = m := Option.some.inj e; omega))).trans (h.tb.2 j hj)⟩,
    h.blk.grown hg (fun k hk e => by cases hk; exact hm _ _ (e ▸ h.blk)), own_grownM h.row hg hm, fun t ht => own_grownM (h.own t ht) hg hm, h.apart⟩
end Go.Proofs.YtpadepamknbkoaaDoor
