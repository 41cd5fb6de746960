/- A book in the world: its two maps; what its small methods do. -/
import Derived.Test.YtcgbbgljchfbcaaA1
namespace Go.Proofs.Ytcgbbgljchfbcaa
open Go.RowKit Go.Maps
set_option linter.unusedSimpArgs false
set_option linter.unusedVariables false

def ky (z : Int) : Lit := .int .i64 z
theorem ky_key (z : Int) : WideAt.IsKeyLit (ky z) := trivial
theorem ky_ne {a b : Int} (h : a ≠ b) : ky a ≠ ky b := fun e => h (by unfold ky at e; injection e)
theorem ky_wf {z : Int} (h0 : -9223372036854775808 ≤ z) (h1 : z ≤ 9223372036854775807) : (ky z).wf = true := WalkArith.wf_i64 ⟨h0, h1⟩
theorem sameKy (a b : Int) : (ky a).sameKey (ky b) = decide (a = b) := by
  by_cases h : a = b
  · subst h; rw [WideAt.sameKey_self (ky_key _)]; simp
  · rw [Maps.sameKey_ne (ky_ne h)]; simp [h]
theorem kI : Keyed Try.prog 3 := int_keyed Try.underlying3
theorem kof {z : Int} (h : (ky z).wf = true) : keyOf Try.prog 3 (.int .i64 z) = some (ky z) := keyOf_int_mk Try.underlying3 h
theorem kof_inv {v : Value} {kl : Lit} (h : keyOf Try.prog 3 v = some kl) : ∃ z, v = .int .i64 z ∧ kl = ky z := by
  obtain ⟨x, rfl, rfl, _⟩ := Maps.keyOf_int_inv Try.underlying3 h
  exact ⟨x, rfl, rfl⟩
/-- How a pair reads. -/
def datP (p : Pr) : DataW Unit := .agg [.lit (.int .i64 p.s), .lit (.int .i64 p.o), .lit (.int .i64 p.t)]
def rdP (v : Value) : Option (DataW Unit × List MemPlace) :=
  match v with
  | .agg cs => (match cs.toList with
    | [.int .i64 a, .int .i64 b, .int .i64 c] => some (datP ⟨a, b, c⟩, [])
    | _ => none)
  | _ => none
theorem rdP_mk (p : Pr) : rdP ((Value.agg #[.int .i64 p.s, .int .i64 p.o, .int .i64 p.t])) = some (datP p, []) := rfl
theorem rdP_inv {v : Value} {y : DataW Unit × List MemPlace} (h : rdP v = some y) : ∃ p : Pr, v = (Value.agg #[.int .i64 p.s, .int .i64 p.o, .int .i64 p.t]) ∧ y = (datP p, []) := by
  unfold rdP at h
  split at h
  · rename_i cs
    split at h
    · rename_i a b c e
      cases h
      refine ⟨⟨a, b, c⟩, ?_, rfl⟩
      congr 1
      exact Array.toList_inj.1 e
    · cases h
  · cases h
theorem datP_inj {p q : Pr} (h : datP p = datP q) : p = q := by
  unfold datP at h
  injection h with h
  simp only [List.cons.injEq, DataW.lit.injEq, Lit.int.injEq, and_true, true_and] at h
  obtain ⟨h1, h2, h3⟩ := h
  cases p; cases q
  simp_all
theorem zP (w : World) : (zeroValue 33).run Try.prog w = .ok ((Value.agg #[.int .i64 pz.s, .int .i64 pz.o, .int .i64 pz.t])) w := by kernel_rfl
/-- A map reads as these pairs. -/
structure Rep (D : DataW Unit) (F : Int → Option Pr) (n : Nat) : Prop where
  tidy : Maps.Tidy D
  has : ∀ z, Maps.has D (ky z) = (F z).isSome
  val : ∀ z p, F z = some p → ∀ zd, D.atKey (ky z) zd = datP p
  size : Maps.size D = n
theorem rep_no : Rep (.map []) (bySlot []) 0 := ⟨Maps.tidy_empty, fun z => rfl, fun z p h => (nomatch h), rfl⟩
theorem rep_no' : Rep (.map []) (byObj []) 0 := ⟨Maps.tidy_empty, fun z => rfl, fun z p h => (nomatch h), rfl⟩
theorem Rep.get {D : DataW Unit} {F : Int → Option Pr} {n : Nat} (h : Rep D F n) (z : Int) : D.atKey (ky z) (datP pz) = datP ((F z).getD pz) := by
  cases e : F z with
  | none => rw [Maps.atKey_of_not_has (by rw [h.has z, e]; rfl)]; rfl
  | some p => exact h.val z p e _
theorem Rep.put {D : DataW Unit} {F : Int → Option Pr} {n : Nat} (h : Rep D F n) {k : Int} (hk : F k = none) (p : Pr) : Rep (D.put (ky k) (datP p)) (updF F k (some p)) (n + 1) := by
  refine ⟨h.tidy.put (ky_key _) _, fun z => ?_, fun z q hq zd => ?_, ?_⟩
  · unfold updF
    by_cases e : z = k
    · rw [if_pos e, e, Maps.has_put_same h.tidy.isMap (ky_key _)]; rfl
    · rw [if_neg e, Maps.has_put_other (ky_ne e), h.has z]
  · unfold updF at hq
    by_cases e : z = k
    · rw [if_pos e] at hq
      cases hq
      rw [e, Maps.atKey_put_same h.tidy.isMap (ky_key _)]
    · rw [if_neg e] at hq; rw [Maps.atKey_put_other (ky_ne e)]; exact h.val z q hq zd
  · rw [Maps.size_put h.tidy, h.has, hk, h.size]; rfl
theorem Rep.del {D : DataW Unit} {F : Int → Option Pr} {n : Nat} (h : Rep D F (n + 1)) {k : Int} (hk : (F k).isSome = true) : Rep (D.del (ky k)) (updF F k none) n := by
  refine ⟨h.tidy.del _, fun z => ?_, fun z q hq zd => ?_, ?_⟩
  · unfold updF
    by_cases e : z = k
    · rw [if_pos e, e, Maps.has_del_same]; rfl
    · rw [if_neg e, Maps.has_del_other (ky_ne e), h.has z]
  · unfold updF at hq
    by_cases e : z = k
    · rw [if_pos e] at hq; cases hq
    · rw [if_neg e] at hq; rw [Maps.atKey_del_other (ky_ne e)]; exact h.val z q hq zd
  · have s := Maps.size_del h.tidy (k := ky k)
    rw [h.has, hk, h.size] at s
    simp at s
    omega
/-- Block m is a map that holds these pairs. -/
def MpT (w : World) (m : Nat) (F : Int → Option Pr) (n : Nat) : Prop := ∃ D, w.ownsMap Try.prog 3 rdP m n D ∧ Rep D F n
section
variable {w w' : World} {C m n : Nat} {F : Int → Option Pr}
theorem own_tight {H : Type} {P : Program} {k : TypeId} {R : Value → Option (DataW H × List MemPlace)} {b n : Nat} {D : DataW H} (h : w.ownsMap P k R b n D) : w.ownsMap P k R b (Maps.size D) D := by
  obtain ⟨es, clock, hb, F, hs, rfl⟩ := h
  exact ⟨es, clock, hb, F, by simp [Maps.size, length_sorted], rfl⟩
theorem own_chgM {H : Type} {P : Program} {k : TypeId} {R : Value → Option (DataW H × List MemPlace)} {b n : Nat} {D : DataW H} {T : List Nat} (h : w.ownsMap P k R b n D) (x : Chg T w w') (hne : b ∉ T) : w'.ownsMap P k R b n D := by
  have hlt := h.lt
  obtain ⟨es, clock, hb, r⟩ := h
  exact ⟨es, clock, (x.block b hlt hne).trans hb, r⟩
theorem MpT.chg {T : List Nat} (h : MpT w m F n) (x : Chg T w w') (hne : m ∉ T) : MpT w' m F n := by
  obtain ⟨D, h, r⟩ := h
  exact ⟨D, own_chgM h x hne, r⟩
theorem MpT.lt (h : MpT w m F n) : m < w.heap.size := by
  obtain ⟨D, h, r⟩ := h; exact h.lt
theorem MpT.of {n' : Nat} {D : DataW Unit} (h : w.ownsMap Try.prog 3 rdP m n' D) (r : Rep D F n) : MpT w m F n := by
  have := own_tight h
  rw [r.size] at this
  exact ⟨D, this, r⟩
theorem MpT.noC (h : MpT w m F n) : ∀ cs t, w.heap[m]? ≠ some (.cells cs t (0, 0)) := fun cs t hh => by
  obtain ⟨D, ⟨es, clock, hm, r⟩, h2⟩ := h
  rw [hm] at hh
  cases hh
theorem MpT.look (h : MpT w m F n) {z : Int} (hz : (ky z).wf = true) : (Instr.lookup 52 (.map (some m)) (.int .i64 z) true).run Try.prog w = .ok (.tuple #[(Value.agg #[.int .i64 ((F z).getD pz).s, .int .i64 ((F z).getD pz).o, .int .i64 ((F z).getD pz).t]), .bool (F z).isSome]) w := by
  obtain ⟨D, hown, rep⟩ := h
  obtain ⟨v, ps, hrun, hv⟩ := hown.look_ok kI Try.underlying52 (zP w) (rdP_mk pz) (kof hz)
  obtain ⟨p, rfl, hp⟩ := rdP_inv hv
  rw [rep.get] at hp
  simp only [Prod.mk.injEq] at hp
  rw [hrun, rep.has, datP_inj hp.1]
theorem Chg.of_grown {T : List Nat} {b : Nat} (h : w.grownBy w' (some b)) (hb : b ∈ T) : Chg T w w' := ⟨h.os, h.tape, h.output, h.size, fun k hk hT => h.block k hk (fun e => by cases e; exact hT hb)⟩
/-- A book: its block, its maps' blocks, its pairs. -/
structure BookT (w : World) (C m1 m2 : Nat) (S : List Pr) : Prop where
  c : Blk w C #[.map (some m1), .map (some m2)] 54
  a : MpT w m1 (bySlot S) S.length
  b : MpT w m2 (byObj S) S.length
  ok : OkS S
  ne : m1 ≠ m2
theorem BookT.chg {T : List Nat} {m1 m2 : Nat} {S : List Pr} (h : BookT w C m1 m2 S) (x : Chg T w w') (hC : C ∉ T) (h1 : m1 ∉ T) (h2 : m2 ∉ T) : BookT w' C m1 m2 S := ⟨h.c.chg x hC, h.a.chg x h1, h.b.chg x h2, h.ok, h.ne⟩
theorem BookT.ext {m1 m2 : Nat} {S : List Pr} (h : BookT w C m1 m2 S) (x : Ext w w') : BookT w' C m1 m2 S := h.chg (x.chg []) (by simp) (by simp) (by simp)
theorem BookT.ne1 {m1 m2 : Nat} {S : List Pr} (h : BookT w C m1 m2 S) : C ≠ m1 := fun e => h.a.noC _ _ (e ▸ h.c)
theorem BookT.ne2 {m1 m2 : Nat} {S : List Pr} (h : BookT w C m1 m2 S) : C ≠ m2 := fun e => h.b.noC _ _ (e ▸ h.c)
end
/-- One that New did not give. -/
def Nob (w : World) (p : Value) : Prop := p = .pointer none ∨ ∃ C, p = .pointer (some ⟨C, 0, none⟩) ∧ Blk w C #[.map none, .map none] 54
theorem Nob.ext {w w' : World} {p : Value} (h : Nob w p) (x : Ext w w') : Nob w' p := by
  rcases h with h | ⟨C, h, b⟩
  · exact .inl h
  · exact .inr ⟨C, h, b.ext x⟩
/-- Any book: what it has (a book of nobody: nothing), and whether New gave it. -/
def Any (w : World) (p : Value) (g : Bool) (S : List Pr) : Prop := (g = false ∧ S = [] ∧ Nob w p) ∨ (g = true ∧ ∃ C m1 m2, p = .pointer (some ⟨C, 0, none⟩) ∧ BookT w C m1 m2 S)
theorem Any.ext {w w' : World} {p : Value} {g : Bool} {S : List Pr} (h : Any w p g S) (x : Ext w w') : Any w' p g S := by
  rcases h with ⟨h1, h2, h⟩ | ⟨h1, C, m1, m2, h2, h⟩
  · exact .inl ⟨h1, h2, h.ext x⟩
  · exact .inr ⟨h1, C, m1, m2, h2, h.ext x⟩
theorem BookT.any {w : World} {C m1 m2 : Nat} {S : List Pr} (h : BookT w C m1 m2 S) : Any w (.pointer (some ⟨C, 0, none⟩)) true S := .inr ⟨rfl, C, m1, m2, rfl, h⟩
/-- The maps that a book has. -/
inductive OwnV (w : World) (S : List Pr) : Value → Prop
  | none : S = [] → OwnV w S (.agg #[.map none, .map none])
  | some (m1 m2 : Nat) : MpT w m1 (bySlot S) S.length → MpT w m2 (byObj S) S.length → OwnV w S (.agg #[.map (some m1), .map (some m2)])
theorem neq_nn (w : World) : Sem.run Try.prog (binOp .neq 52 (.map none) (.map none)) w = .ok (.bool false) w := by kernel_rfl
theorem neq_sn (m : Nat) (w : World) : Sem.run Try.prog (binOp .neq 52 (.map (some m)) (.map none)) w = .ok (.bool true) w := by kernel_rfl
theorem run_f0 (a b : Value) (w : World) : Sem.run Try.prog (Instr.field 54 (.agg #[a, b]) 0) w = .ok a w := by kernel_rfl
theorem run_f1 (a b : Value) (w : World) : Sem.run Try.prog (Instr.field 54 (.agg #[a, b]) 1) w = .ok b w := by kernel_rfl
theorem given_any {w : World} {p : Value} {g : Bool} {S : List Pr} (h : Any w p g S) : Calls Try.prog 23 #[p] w fun e w' => e = .returned (.bool g) ∧ w = w' := by
  rcases h with ⟨rfl, rfl, rfl | ⟨C, rfl, h⟩⟩ | ⟨rfl, C, m1, m2, rfl, h⟩
  · go_enter Try.func23, Try.ntmps23
    go_wp2
    go_ret
    exact ⟨rfl, rfl⟩
  · have r := h.cell
    have n1 := neq_nn
    go_enter Try.func23, Try.ntmps23
    go_wp2
    go_ret
    exact ⟨by simp, rfl⟩
  · have r := h.c.cell
    have n1 := neq_sn
    go_enter Try.func23, Try.ntmps23
    go_wp2
    go_ret
    exact ⟨by simp, rfl⟩
theorem own_any {w : World} {p : Value} {g : Bool} {S : List Pr} (h : Any w p g S) : Calls Try.prog 26 #[p] w fun e w' => ∃ v, e = .returned v ∧ OwnV w' S v ∧ Ext w w' := by
  rcases h with ⟨rfl, rfl, rfl | ⟨C, rfl, h⟩⟩ | ⟨rfl, C, m1, m2, rfl, h⟩
  · go_enter Try.func26, Try.ntmps26
    go_wp2
    refine bodyPost_ret (v := .agg #[.map none, .map none]) (by simp [results, Try.results26, go_sem, *]) rfl ?_
    refine ⟨_, rfl, .none rfl, ?_⟩
    ((repeat (with_reducible refine Ext.set ?_ (by simp) _)); exact Ext.alloc _ _)
  · have r := (h.ext (Ext.alloc w (.cells #[.map none, .map none] 54))).cell
    go_enter Try.func26, Try.ntmps26
    go_wp2
    refine bodyPost_ret (v := .agg #[.map none, .map none]) (by simp [results, Try.results26, go_sem, *]) rfl ?_
    refine ⟨_, rfl, .none rfl, ?_⟩
    ((repeat (with_reducible refine Ext.set ?_ (by simp) _)); exact Ext.alloc _ _)
  · have h2 := h.ext (Ext.alloc w (.cells #[.map none, .map none] 54))
    have r := h2.c.cell
    go_enter Try.func26, Try.ntmps26
    go_wp2
    refine bodyPost_ret (v := .agg #[.map (some m1), .map (some m2)]) (by simp [results, Try.results26, go_sem, *]) rfl ?_
    have h3 := h.ext (Ext.alloc w (.cells #[.map (some m1), .map (some m2)] 54))
    exact ⟨_, rfl, .some m1 m2 h3.a h3.b, Ext.alloc _ _⟩
theorem OwnV.look1 {w : World} {S : List Pr} {v : Value} (h : OwnV w S v) {z : Int} (hz : (ky z).wf = true) : ∃ a b, v = .agg #[a, b] ∧ (Instr.lookup 52 a (.int .i64 z) true).run Try.prog w = .ok (.tuple #[(Value.agg #[.int .i64 ((bySlot S z).getD pz).s, .int .i64 ((bySlot S z).getD pz).o, .int .i64 ((bySlot S z).getD pz).t]), .bool (bySlot S z).isSome]) w := by
  cases h with
  | none e =>
    subst e
    exact ⟨_, _, rfl, Maps.look_nil true kI Try.underlying52 (zP w) (kof hz)⟩
  | some m1 m2 h1 h2 => exact ⟨_, _, rfl, h1.look hz⟩
theorem OwnV.look2 {w : World} {S : List Pr} {v : Value} (h : OwnV w S v) {z : Int} (hz : (ky z).wf = true) : ∃ a b, v = .agg #[a, b] ∧ (Instr.lookup 52 b (.int .i64 z) true).run Try.prog w = .ok (.tuple #[(Value.agg #[.int .i64 ((byObj S z).getD pz).s, .int .i64 ((byObj S z).getD pz).o, .int .i64 ((byObj S z).getD pz).t]), .bool (byObj S z).isSome]) w := by
  cases h with
  | none e =>
    subst e
    exact ⟨_, _, rfl, Maps.look_nil true kI Try.underlying52 (zP w) (kof hz)⟩
  | some m1 m2 h1 h2 => exact ⟨_, _, rfl, h2.look hz⟩
theorem slot_any {w : World} {p : Value} {g : Bool} {S : List Pr} (h : Any w p g S) {z : Int} (hz : (ky z).wf = true) : Calls Try.prog 14 #[p, .int .i64 z] w fun e w' => e = .returned (.tuple #[.int .i64 (slotA S z), .bool (slotB S z)]) ∧ Ext w w' := by
  have E := hide (show slotA S z = ((byObj S z).getD pz).s from rfl)
  have E2 := hide (show slotB S z = (byObj S z).isSome from rfl)
  have f0 := run_f0
  have f1 := run_f1
  go_enter Try.func14, Try.ntmps14
  go_wp2_with fail
  refine (own_any h).mono ?_
  rintro e w1 ⟨v, rfl, ho, hx⟩
  obtain ⟨a, b, rfl, hl⟩ := ho.look2 hz
  generalize (byObj S z).getD pz = q at *
  generalize (byObj S z).isSome = qb at *
  clear ho
  go_wp2_with fail
  go_ret2
  exact ⟨by rw [E.out, E2.out]; simp, hx.trans (Ext.alloc _ _)⟩
theorem obj_any {w : World} {p : Value} {g : Bool} {S : List Pr} (h : Any w p g S) {z : Int} (hz : (ky z).wf = true) : Calls Try.prog 16 #[p, .int .i64 z] w fun e w' => e = .returned (.tuple #[.int .i64 (objA S z), .bool (objB S z)]) ∧ Ext w w' := by
  have E := hide (show objA S z = ((bySlot S z).getD pz).o from rfl)
  have E2 := hide (show objB S z = (bySlot S z).isSome from rfl)
  have f0 := run_f0
  have f1 := run_f1
  go_enter Try.func16, Try.ntmps16
  go_wp2_with fail
  refine (own_any h).mono ?_
  rintro e w1 ⟨v, rfl, ho, hx⟩
  obtain ⟨a, b, rfl, hl⟩ := ho.look1 hz
  generalize (bySlot S z).getD pz = q at *
  generalize (bySlot S z).isSome = qb at *
  clear ho
  go_wp2_with fail
  go_ret2
  exact ⟨by rw [E.out, E2.out]; simp, hx.trans (Ext.alloc _ _)⟩
theorem len_any {w : World} {p : Value} {g : Bool} {S : List Pr} (h : Any w p g S) : Calls Try.prog 21 #[p] w fun e w' => e = .returned (.int .i64 (S.length : Int)) ∧ Ext w w' := by
  have f0 := run_f0
  have f1 := run_f1
  go_enter Try.func21, Try.ntmps21
  go_wp2_with fail
  refine (own_any h).mono ?_
  rintro e w1 ⟨v, rfl, ho, hx⟩
  cases ho with
  | none e =>
    subst e
    have L := fun ty => @Maps.len_nil Try.prog 3 w1 52 33 Try.underlying52 ty
    go_wp2_with fail
    go_ret
    exact ⟨by simp, hx⟩
  | some m1 m2 h1 h2 =>
    obtain ⟨D, hown, rep⟩ := h1
    have Sz := hide rep.size
    have L := fun ty => hown.len (t := 52) (e := 33) Try.underlying52 ty
    go_wp2_with fail
    go_ret
    exact ⟨by rw [← Sz.out]; simp, hx⟩
theorem new_any (w : World) : Calls Try.prog 7 #[] w fun e w' => ∃ C m1 m2, e = .returned (.pointer (some ⟨C, 0, none⟩)) ∧ BookT w' C m1 m2 [] ∧ w.heap.size ≤ C ∧ w.heap.size ≤ m1 ∧ w.heap.size ≤ m2 ∧ Ext w w' := by
  have hmm := @run_makeMap Try.prog
  go_enter Try.func7, Try.ntmps7
  go_wp2_with fail
  go_ret
  have hb := Blk.new ((w.alloc (.map #[] 0)).alloc (.map #[] 0)) #[.map (some w.heap.size), .map (some (w.heap.size + 1))] 54
  have h1 : MpT (((w.alloc (.map #[] 0)).alloc (.map #[] 0)).alloc (.cells #[.map (some w.heap.size), .map (some (w.heap.size + 1))] 54)) w.heap.size (bySlot []) 0 :=
    MpT.of (((World.ownsMap_made w Try.prog 3 rdP).alloc _).alloc _) rep_no
  have h2 : MpT (((w.alloc (.map #[] 0)).alloc (.map #[] 0)).alloc (.cells #[.map (some w.heap.size), .map (some (w.heap.size + 1))] 54)) (w.heap.size + 1) (byObj []) 0 := by
    have := (World.ownsMap_made (w.alloc (.map #[] 0)) Try.prog 3 rdP).alloc (.cells #[.map (some w.heap.size), .map (some (w.heap.size + 1))] 54)
    simp only [World.size_alloc] at this
    exact MpT.of this rep_no'
  refine ⟨w.heap.size + 1 + 1, w.heap.size, w.heap.size + 1, by simp, ⟨by simpa using hb, h1, h2, ok_nil, by omega⟩, by omega, by omega, by omega, ((Ext.alloc _ _).trans (Ext.alloc _ _)).trans (Ext.alloc _ _)⟩
theorem may_any (p : Pr) (w : World) : Calls Try.prog 24 #[(Value.agg #[.int .i64 p.s, .int .i64 p.o, .int .i64 p.t])] w fun e w' => e = .returned (.bool (okP p)) ∧ Ext w w' := by
  obtain ⟨s, o, t⟩ := p
  simp only
  by_cases a0 : 0 ≤ s
  · by_cases a1 : s ≤ 4095
    · by_cases a2 : 0 ≤ o
      · by_cases a3 : o ≤ 65535
        · by_cases a4 : 0 ≤ t
          · by_cases a5 : t ≤ 255
            · have E := hide (show okP ⟨s, o, t⟩ = true by unfold okP; simp [*])
              generalize okP ⟨s, o, t⟩ = ok at *
              go_enter Try.func24, Try.ntmps24
              go_wp2
              go_ret
              exact ⟨by rw [E.out]; try simp, Ext.alloc _ _⟩
            · have E := hide (show okP ⟨s, o, t⟩ = false by unfold okP; simp <;> omega)
              generalize okP ⟨s, o, t⟩ = ok at *
              go_enter Try.func24, Try.ntmps24
              go_wp2
              go_ret
              exact ⟨by rw [E.out]; try simp, Ext.alloc _ _⟩
          · have E := hide (show okP ⟨s, o, t⟩ = false by unfold okP; simp <;> omega)
            generalize okP ⟨s, o, t⟩ = ok at *
            go_enter Try.func24, Try.ntmps24
            go_wp2
            go_ret
            exact ⟨by rw [E.out]; try simp, Ext.alloc _ _⟩
        · have E := hide (show okP ⟨s, o, t⟩ = false by unfold okP; simp <;> omega)
          generalize okP ⟨s, o, t⟩ = ok at *
          go_enter Try.func24, Try.ntmps24
          go_wp2
          go_ret
          exact ⟨by rw [E.out]; try simp, Ext.alloc _ _⟩
      · have E := hide (show okP ⟨s, o, t⟩ = false by unfold okP; simp <;> omega)
        generalize okP ⟨s, o, t⟩ = ok at *
        go_enter Try.func24, Try.ntmps24
        go_wp2
        go_ret
        exact ⟨by rw [E.out]; try simp, Ext.alloc _ _⟩
    · have E := hide (show okP ⟨s, o, t⟩ = false by unfold okP; simp <;> omega)
      generalize okP ⟨s, o, t⟩ = ok at *
      go_enter Try.func24, Try.ntmps24
      go_wp2
      go_ret
      exact ⟨by rw [E.out]; try simp, Ext.alloc _ _⟩
  · have E := hide (show okP ⟨s, o, t⟩ = false by unfold okP; simp <;> omega)
    generalize okP ⟨s, o, t⟩ = ok at *
    go_enter Try.func24, Try.ntmps24
    go_wp2
    go_ret
    exact ⟨by rw [E.out]; try simp, Ext.alloc _ _⟩
end Go.Proofs.Ytcgbbgljchfbcaa
