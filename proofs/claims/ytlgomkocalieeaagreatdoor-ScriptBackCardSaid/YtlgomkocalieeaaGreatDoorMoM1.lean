/- Maps by an object and a thread: what they read as. -/
import Derived.Test.YtlgomkocalieeaaGreatDoorMoA1
import Derived.Maps.OwnOps
import Derived.Maps.OwnSet
import Derived.Maps.RangeWalk
import Derived.DeepKeys4
import Derived.Test.YtlgomkocalieeaaGreatDoorFrame
namespace Go.Proofs.YtlgomkocalieeaaGreatDoor.Mo
set_option maxRecDepth 100000
open Go.RowKit Go.Maps
set_option linter.unusedSimpArgs false
set_option linter.unusedVariables false


theorem kS : Keyed Tryz.prog 270 := Keyed.of_law (deep_law_laid laidOut (m := 3) (by omega) (of_decide_eq_true (by kernel_rfl)) (by kernel_rfl) (by kernel_rfl))
def wfI (x : Int) : Prop := (Lit.int .i64 x).wf = true
theorem wfI_of {x : Int} (h0 : -9223372036854775808 ≤ x) (h1 : x ≤ 9223372036854775807) : wfI x := WalkArith.wf_i64 ⟨h0, h1⟩
theorem sp_key (k g : Int) (h1 : wfI k) (h2 : wfI g) : keyOf Tryz.prog 270 ((Value.agg #[.int .i64 k, .int .i64 g])) = some (.string (keyBytes [.int .i64 k, .int .i64 g])) := by
  have hp : 0 < Tryz.prog.types.size := of_decide_eq_true (by kernel_rfl)
  obtain ⟨d, hs⟩ : ∃ d, Tryz.prog.types.size + 1 = d + 1 + 1 := ⟨Tryz.prog.types.size - 1, by omega⟩
  have hk : Tryz.prog.keyType 270 = true := by kernel_rfl
  have hc : Tryz.prog.cellsOf 270 = 2 := by kernel_rfl
  have hci : Tryz.prog.cellsOf 3 = 1 := by kernel_rfl
  unfold wfI at h1 h2
  have hl : Tryz.prog.keyLits (Tryz.prog.types.size + 1) 270 [.int .i64 k, .int .i64 g] = some [.int .i64 k, .int .i64 g] := by
    rw [hs]
    have e1 : ∀ x : Int, (Lit.int .i64 x).wf = true → Tryz.prog.keyLits (d + 1) 3 [.int .i64 x] = some [.int .i64 x] := by
      intro x hx
      unfold Program.keyLits
      simp [Tryz.underlying3, hx]
    unfold Program.keyLits
    rw [Tryz.underlying270]
    simp [hc, hci]
    simp [e1 k h1, e1 g h2]
  have hf : ((Value.agg #[.int .i64 k, .int .i64 g])).formed Tryz.prog 270 = true := by
    unfold Value.formed
    simp [Tryz.underlying270, hc]
  unfold keyOf
  simp only [Tryz.underlying270, hk, hf, Bool.and_self, if_true]
  have : ((Value.agg #[.int .i64 k, .int .i64 g])).cells.toList = [.int .i64 k, .int .i64 g] := rfl
  rw [this, hl]
  rfl
def sk (k g : Int) : Lit := .string (keyBytes [.int .i64 k, .int .i64 g])
theorem sk_key (k g : Int) : WideAt.IsKeyLit (sk k g) := trivial
theorem sk_of {k g : Int} (h1 : wfI k) (h2 : wfI g) : keyOf Tryz.prog 270 ((Value.agg #[.int .i64 k, .int .i64 g])) = some (sk k g) := sp_key k g h1 h2
theorem sk_inj {k g k' g' : Int} (h1 : wfI k) (h2 : wfI g) (h3 : wfI k') (h4 : wfI g') (h : sk k g = sk k' g') : k = k' ∧ g = g' := by
  have e := kS.inj (sk_of h1 h2) (by rw [h]; exact sk_of h3 h4)
  simpa using e
theorem sk_ne {k g k' g' : Int} (h1 : wfI k) (h2 : wfI g) (h3 : wfI k') (h4 : wfI g') (h : ¬ (k = k' ∧ g = g')) : sk k g ≠ sk k' g' := fun e => h (sk_inj h1 h2 h3 h4 e)
theorem same_sk {k g k' g' : Int} (h1 : wfI k) (h2 : wfI g) (h3 : wfI k') (h4 : wfI g') : (sk k g).sameKey (sk k' g') = decide (k = k' ∧ g = g') := by
  by_cases h : k = k' ∧ g = g'
  · obtain ⟨rfl, rfl⟩ := h; rw [WideAt.sameKey_self (sk_key _ _)]; simp
  · rw [Maps.sameKey_ne (sk_ne h1 h2 h3 h4 h)]; simp [h]
set_option maxRecDepth 100000 in
theorem sk_inv {v : Value} {kl : Lit} (h : keyOf Tryz.prog 270 v = some kl) : ∃ x y, v = ((Value.agg #[.int .i64 x, .int .i64 y])) ∧ kl = sk x y ∧ wfI x ∧ wfI y := by
  have hp : 0 < Tryz.prog.types.size := of_decide_eq_true (by kernel_rfl)
  obtain ⟨d, hs⟩ : ∃ d, Tryz.prog.types.size + 1 = d + 1 + 1 := ⟨Tryz.prog.types.size - 1, by omega⟩
  have hc : Tryz.prog.cellsOf 270 = 2 := by kernel_rfl
  have hci : Tryz.prog.cellsOf 3 = 1 := by kernel_rfl
  have inv : ∀ (c : Value) (ls : List Lit), Tryz.prog.keyLits (d + 1) 3 [c] = some ls → ∃ x : Int, c = .int .i64 x ∧ ls = [.int .i64 x] ∧ wfI x := by
    intro c ls hq
    unfold Program.keyLits at hq
    rw [Tryz.underlying3] at hq
    cases c <;> simp at hq
    rename_i q n
    obtain ⟨⟨rfl, hw⟩, rfl⟩ := hq
    exact ⟨n, rfl, rfl, hw⟩
  unfold keyOf at h
  simp only [Tryz.underlying270] at h
  split at h
  · rename_i hf
    simp only [Bool.and_eq_true] at hf
    replace hf := hf.2
    cases v <;> simp [Value.formed, Tryz.underlying270] at hf
    rename_i cs
    rw [hc] at hf
    obtain ⟨l⟩ := cs
    rcases l with _ | ⟨c1, _ | ⟨c2, _ | ⟨c3, l⟩⟩⟩
    · simp at hf
    · simp at hf
    · obtain ⟨ls, h1, rfl⟩ := Option.map_eq_some_iff.1 h
      have h2 : Tryz.prog.keyLits (d + 1 + 1) 270 [c1, c2] = some ls := by rw [← hs]; exact h1
      clear h1 h
      unfold Program.keyLits at h2
      rw [Tryz.underlying270] at h2
      simp [hc, hci] at h2
      cases e1 : Tryz.prog.keyLits (d + 1) 3 [c1] with
      | none => rw [e1] at h2; simp at h2
      | some l1 =>
        rw [e1] at h2
        cases e2 : Tryz.prog.keyLits (d + 1) 3 [c2] with
        | none => rw [e2] at h2; simp at h2
        | some l2 =>
          rw [e2] at h2
          obtain ⟨x, rfl, rfl, wx⟩ := inv _ _ e1
          obtain ⟨y, rfl, rfl, wy⟩ := inv _ _ e2
          simp at h2
          subst h2
          exact ⟨x, y, rfl, rfl, wx, wy⟩
    · simp at hf
  · cases h
/-- The places of such a map. -/
def Dom {α : Type} (f : Int → Int → Option α) : Prop := ∀ x y, (f x y).isSome = true → 0 ≤ x ∧ x < 8 ∧ 0 ≤ y ∧ y < 8
def cntF {α : Type} (f : Int → Int → Option α) : Nat := (List.range 64).countP fun i => (f (i / 8 : Nat) (i % 8 : Nat)).isSome
theorem cntF_le {α : Type} (f : Int → Int → Option α) : cntF f ≤ 64 := by
  have := List.countP_le_length (p := fun i => (f (i / 8 : Nat) (i % 8 : Nat)).isSome) (l := List.range 64)
  rwa [List.length_range] at this
theorem countP_one {p q : Nat → Bool} {t : Nat} (h : ∀ s, s ≠ t → q s = p s) : ∀ l : List Nat, l.Nodup → t ∈ l → l.countP q + (if p t then 1 else 0) = l.countP p + (if q t then 1 else 0)
  | [], _, hm => by simp at hm
  | s :: l, hn, hm => by
    obtain ⟨hn1, hn2⟩ := List.nodup_cons.1 hn
    rw [List.countP_cons, List.countP_cons]
    by_cases e : s = t
    · subst e
      have : l.countP q = l.countP p := List.countP_congr fun x hx => by rw [h x (fun e => hn1 (e ▸ hx))]
      omega
    · have ih := countP_one h l hn2 (by rcases List.mem_cons.1 hm with h1 | h1; exact absurd h1.symm e; exact h1)
      rw [h s e]
      omega
theorem cntF_upd {α : Type} (f : Int → Int → Option α) {x y : Int} (h : 0 ≤ x ∧ x < 8 ∧ 0 ≤ y ∧ y < 8) (v : Option α) : cntF (upd2 f x y v) + (if (f x y).isSome then 1 else 0) = cntF f + (if v.isSome then 1 else 0) := by
  have := countP_one (p := fun i => (f (i / 8 : Nat) (i % 8 : Nat)).isSome) (q := fun i => (upd2 f x y v (i / 8 : Nat) (i % 8 : Nat)).isSome) (t := x.toNat * 8 + y.toNat) (fun s hs => by
    have : ¬ (((s / 8 : Nat) : Int) = x ∧ ((s % 8 : Nat) : Int) = y) := by omega
    simp only [upd2_other f v this]) (List.range 64) List.nodup_range (List.mem_range.2 (by omega))
  have e1 : (((x.toNat * 8 + y.toNat) / 8 : Nat) : Int) = x := by omega
  have e2 : (((x.toNat * 8 + y.toNat) % 8 : Nat) : Int) = y := by omega
  simp only [e1, e2, upd2_same] at this
  exact this
section
variable {α : Type} {dat : α → DataW Unit} {D : DataW Unit} {f : Int → Int → Option α}
/-- A map's datum reads as f. -/
structure Rep (dat : α → DataW Unit) (D : DataW Unit) (f : Int → Int → Option α) : Prop where
  tidy : Maps.Tidy D
  has : ∀ x y, wfI x → wfI y → Maps.has D (sk x y) = (f x y).isSome
  val : ∀ x y a, wfI x → wfI y → f x y = some a → ∀ zd, D.atKey (sk x y) zd = dat a
  size : Maps.size D = cntF f
theorem rep_no (dat : α → DataW Unit) : Rep dat (.map []) (fun _ _ => none) := ⟨Maps.tidy_empty, fun _ _ _ _ => rfl, fun _ _ _ _ _ h => (nomatch h), (List.countP_eq_zero.2 fun t _ => by simp).symm⟩
theorem Rep.get (h : Rep dat D f) {x y : Int} (hx : wfI x) (hy : wfI y) (z : α) : D.atKey (sk x y) (dat z) = dat ((f x y).getD z) := by
  cases e : f x y with
  | none => rw [Maps.atKey_of_not_has (by rw [h.has x y hx hy, e]; rfl)]; rfl
  | some p => exact h.val x y p hx hy e _
theorem Rep.put (h : Rep dat D f) {x y : Int} (hd : 0 ≤ x ∧ x < 8 ∧ 0 ≤ y ∧ y < 8) (p : α) : Rep dat (D.put (sk x y) (dat p)) (upd2 f x y (some p)) := by
  have hx : wfI x := wfI_of (by omega) (by omega)
  have hy : wfI y := wfI_of (by omega) (by omega)
  refine ⟨h.tidy.put (sk_key _ _) _, fun a b ha hb => ?_, fun a b q ha hb hq zd => ?_, ?_⟩
  · unfold upd2
    by_cases e : a = x ∧ b = y
    · rw [if_pos e, e.1, e.2, Maps.has_put_same h.tidy.isMap (sk_key _ _)]; rfl
    · rw [if_neg e, Maps.has_put_other (sk_ne ha hb hx hy e), h.has a b ha hb]
  · unfold upd2 at hq
    by_cases e : a = x ∧ b = y
    · rw [if_pos e] at hq
      cases hq
      rw [e.1, e.2, Maps.atKey_put_same h.tidy.isMap (sk_key _ _)]
    · rw [if_neg e] at hq; rw [Maps.atKey_put_other (sk_ne ha hb hx hy e)]; exact h.val a b q ha hb hq zd
  · have c := cntF_upd f hd (some p)
    rw [Maps.size_put h.tidy, h.has x y hx hy, h.size]
    simp only [Option.isSome_some, if_true] at c
    cases hb : (f x y).isSome <;> rw [hb] at c <;> simp at c ⊢ <;> omega
theorem Rep.del (h : Rep dat D f) {x y : Int} (hd : 0 ≤ x ∧ x < 8 ∧ 0 ≤ y ∧ y < 8) : Rep dat (D.del (sk x y)) (upd2 f x y none) := by
  have hx : wfI x := wfI_of (by omega) (by omega)
  have hy : wfI y := wfI_of (by omega) (by omega)
  refine ⟨h.tidy.del _, fun a b ha hb => ?_, fun a b q ha hb hq zd => ?_, ?_⟩
  · unfold upd2
    by_cases e : a = x ∧ b = y
    · rw [if_pos e, e.1, e.2, Maps.has_del_same]; rfl
    · rw [if_neg e, Maps.has_del_other (sk_ne ha hb hx hy e), h.has a b ha hb]
  · unfold upd2 at hq
    by_cases e : a = x ∧ b = y
    · rw [if_pos e] at hq; cases hq
    · rw [if_neg e] at hq; rw [Maps.atKey_del_other (sk_ne ha hb hx hy e)]; exact h.val a b q ha hb hq zd
  · have c := cntF_upd f hd (none : Option α)
    have s := Maps.size_del h.tidy (k := sk x y)
    rw [h.has x y hx hy, h.size] at s
    simp only [Option.isSome_none] at c
    cases hb : (f x y).isSome <;> rw [hb] at c s <;> simp at c s ⊢ <;> omega
end
/-- How an int, and a leaver, read. -/
def datI (a : Int) : DataW Unit := .lit (.int .i64 a)
def rdI (v : Value) : Option (DataW Unit × List MemPlace) := match v with
  | .int .i64 a => some (datI a, [])
  | _ => none
theorem rdI_mk (a : Int) : rdI (.int .i64 a) = some (datI a, []) := rfl
theorem rdI_inv {v : Value} {y : DataW Unit × List MemPlace} (h : rdI v = some y) : ∃ a : Int, v = .int .i64 a ∧ y = (datI a, []) := by
  unfold rdI at h
  split at h
  · cases h; exact ⟨_, rfl, rfl⟩
  · cases h
theorem datI_inj {p q : Int} (h : datI p = datI q) : p = q := by unfold datI at h; injection h with h; injection h
def datL (p : Int × Int) : DataW Unit := .agg [.lit (.int .i64 p.1), .lit (.int .i64 p.2)]
def rdL (v : Value) : Option (DataW Unit × List MemPlace) :=
  match v with
  | .agg cs => (match cs.toList with
    | [.int .i64 a, .int .i64 b] => some (datL (a, b), [])
    | _ => none)
  | _ => none
theorem rdL_mk (p : Int × Int) : rdL ((Value.agg #[.int .i64 p.1, .int .i64 p.2])) = some (datL p, []) := rfl
theorem rdL_inv {v : Value} {y : DataW Unit × List MemPlace} (h : rdL v = some y) : ∃ p : Int × Int, v = ((Value.agg #[.int .i64 p.1, .int .i64 p.2])) ∧ y = (datL p, []) := by
  unfold rdL at h
  split at h
  · rename_i cs
    split at h
    · rename_i a b e
      cases h
      refine ⟨(a, b), ?_, rfl⟩
      congr 1
      exact Array.toList_inj.1 e
    · cases h
  · cases h
theorem datL_inj {p q : Int × Int} (h : datL p = datL q) : p = q := by
  unfold datL at h
  injection h with h
  simp only [List.cons.injEq, DataW.lit.injEq, Lit.int.injEq, and_true, true_and] at h
  obtain ⟨h1, h2⟩ := h
  exact Prod.ext h1 h2
theorem zI (w : World) : (zeroValue 3).run Tryz.prog w = .ok (.int .i64 0) w := by kernel_rfl
theorem zL (w : World) : (zeroValue 272).run Tryz.prog w = .ok ((Value.agg #[.int .i64 0, .int .i64 0])) w := by kernel_rfl
section
variable {w w' : World} {m : Nat} {α : Type} {dat : α → DataW Unit} {R : Value → Option (DataW Unit × List MemPlace)} {f : Int → Int → Option α}
/-- Block m is a map that reads as f. -/
def MpT (R : Value → Option (DataW Unit × List MemPlace)) (dat : α → DataW Unit) (w : World) (m : Nat) (f : Int → Int → Option α) : Prop := ∃ D, w.ownsMap Tryz.prog 270 R m 64 D ∧ Rep dat D f
theorem own_tight {H : Type} {P : Program} {k : TypeId} {R : Value → Option (DataW H × List MemPlace)} {b n : Nat} {D : DataW H} (h : w.ownsMap P k R b n D) : w.ownsMap P k R b (Maps.size D) D := by
  obtain ⟨es, clock, hb, F, hs, rfl⟩ := h
  exact ⟨es, clock, hb, F, by simp [Maps.size, length_sorted], rfl⟩
theorem own_same {H : Type} {P : Program} {k : TypeId} {R : Value → Option (DataW H × List MemPlace)} {b n : Nat} {D : DataW H} (h : w.ownsMap P k R b n D) (x : w'.heap[b]? = w.heap[b]?) : w'.ownsMap P k R b n D := by
  obtain ⟨es, clock, hb, r⟩ := h
  exact ⟨es, clock, x.trans hb, r⟩
theorem MpT.lt (h : MpT R dat w m f) : m < w.heap.size := by
  obtain ⟨D, h, r⟩ := h; exact h.lt
theorem MpT.chg {T : List Nat} (h : MpT R dat w m f) (x : Chg T w w') (hne : m ∉ T) : MpT R dat w' m f := by
  have hl := h.lt
  obtain ⟨D, h, r⟩ := h
  exact ⟨D, own_same h (x.block m hl hne), r⟩
theorem MpT.ext (h : MpT R dat w m f) (x : Ext w w') : MpT R dat w' m f := h.chg (x.chg []) (by simp)
theorem MpT.of {n : Nat} {D : DataW Unit} (h : w.ownsMap Tryz.prog 270 R m n D) (r : Rep dat D f) : MpT R dat w m f :=
  ⟨D, (own_tight h).mono (by rw [r.size]; exact cntF_le f), r⟩
theorem MpT.noC (h : MpT R dat w m f) : ∀ cs t, w.heap[m]? ≠ some (.cells cs t (0, 0)) := fun cs t hh => by
  obtain ⟨D, ⟨es, clock, hm, r⟩, h2⟩ := h
  rw [hm] at hh
  cases hh
end
abbrev MI (w : World) (m : Nat) (f : Int → Int → Option Int) : Prop := MpT rdI datI w m f
abbrev ML (w : World) (m : Nat) (f : Int → Int → Option (Int × Int)) : Prop := MpT rdL datL w m f
theorem MI.look {w : World} {m : Nat} {f : Int → Int → Option Int} (h : MI w m f) {x y : Int} (hx : wfI x) (hy : wfI y) : (Instr.lookup 226 (.map (some m)) ((Value.agg #[.int .i64 x, .int .i64 y])) true).run Tryz.prog w = .ok (.tuple #[.int .i64 ((f x y).getD 0), .bool (f x y).isSome]) w := by
  obtain ⟨D, hown, rep⟩ := h
  obtain ⟨v, ps, hrun, hv⟩ := hown.look_ok kS Tryz.underlying226 (zI w) (rdI_mk 0) (sk_of hx hy)
  obtain ⟨p, rfl, hp⟩ := rdI_inv hv
  rw [rep.get hx hy] at hp
  simp only [Prod.mk.injEq] at hp
  rw [hrun, rep.has x y hx hy, datI_inj hp.1]
theorem MI.look1 {w : World} {m : Nat} {f : Int → Int → Option Int} (h : MI w m f) {x y : Int} (hx : wfI x) (hy : wfI y) : (Instr.lookup 226 (.map (some m)) ((Value.agg #[.int .i64 x, .int .i64 y])) false).run Tryz.prog w = .ok (.int .i64 ((f x y).getD 0)) w := by
  obtain ⟨D, hown, rep⟩ := h
  obtain ⟨v, ps, hrun, hv⟩ := hown.lookup kS Tryz.underlying226 (zI w) (rdI_mk 0) (sk_of hx hy)
  obtain ⟨p, rfl, hp⟩ := rdI_inv hv
  rw [rep.get hx hy] at hp
  simp only [Prod.mk.injEq] at hp
  rw [hrun, datI_inj hp.1]
theorem ML.look {w : World} {m : Nat} {f : Int → Int → Option (Int × Int)} (h : ML w m f) {x y : Int} (hx : wfI x) (hy : wfI y) : (Instr.lookup 227 (.map (some m)) ((Value.agg #[.int .i64 x, .int .i64 y])) true).run Tryz.prog w = .ok (.tuple #[(Value.agg #[.int .i64 ((f x y).getD (0, 0)).1, .int .i64 ((f x y).getD (0, 0)).2]), .bool (f x y).isSome]) w := by
  obtain ⟨D, hown, rep⟩ := h
  obtain ⟨v, ps, hrun, hv⟩ := hown.look_ok kS Tryz.underlying227 (zL w) (rdL_mk (0, 0)) (sk_of hx hy)
  obtain ⟨p, rfl, hp⟩ := rdL_inv hv
  rw [rep.get hx hy] at hp
  simp only [Prod.mk.injEq] at hp
  rw [hrun, rep.has x y hx hy, datL_inj hp.1]
theorem ML.look1 {w : World} {m : Nat} {f : Int → Int → Option (Int × Int)} (h : ML w m f) {x y : Int} (hx : wfI x) (hy : wfI y) : (Instr.lookup 227 (.map (some m)) ((Value.agg #[.int .i64 x, .int .i64 y])) false).run Tryz.prog w = .ok ((Value.agg #[.int .i64 ((f x y).getD (0, 0)).1, .int .i64 ((f x y).getD (0, 0)).2])) w := by
  obtain ⟨D, hown, rep⟩ := h
  obtain ⟨v, ps, hrun, hv⟩ := hown.lookup kS Tryz.underlying227 (zL w) (rdL_mk (0, 0)) (sk_of hx hy)
  obtain ⟨p, rfl, hp⟩ := rdL_inv hv
  rw [rep.get hx hy] at hp
  simp only [Prod.mk.injEq] at hp
  rw [hrun, datL_inj hp.1]
theorem _root_.Go.Proofs.YtlgomkocalieeaaGreatDoor.Chg.of_grown {w w' : World} {T : List Nat} {b : Nat} (h : w.grownBy w' (some b)) (hb : b ∈ T) : Chg T w w' := ⟨h.os, h.tape, h.output, h.size, fun k hk hT => h.block k hk (fun e => by cases e; exact hT hb)⟩
/-- A put, a delete: the run as an equation. -/
theorem MpT.update {w : World} {m : Nat} {α : Type} {dat : α → DataW Unit} {R : Value → Option (DataW Unit × List MemPlace)} {f : Int → Int → Option α} {t e : TypeId} (h : MpT R dat w m f) (ht : Tryz.prog.underlying t = some (.map 270 e))
    {x y : Int} (hd : 0 ≤ x ∧ x < 8 ∧ 0 ≤ y ∧ y < 8) {v : Value} {p : α} (hv : R v = some (dat p, [])) :
    ∃ w', (Instr.mapUpdate t (.map (some m)) ((Value.agg #[.int .i64 x, .int .i64 y])) v).run Tryz.prog w = .ok () w' ∧ MpT R dat w' m (upd2 f x y (some p)) ∧ Chg [m] w w' := by
  have hx : wfI x := wfI_of (by omega) (by omega)
  have hy : wfI y := wfI_of (by omega) (by omega)
  obtain ⟨D, hown, rep⟩ := h
  obtain ⟨w', h1, h2, h3⟩ := hown.update kS ht (by unfold maxLen; omega) (sk_of hx hy) hv
  exact ⟨w', h1, MpT.of h2 (rep.put hd p), Chg.of_grown h3 (by simp)⟩
end Go.Proofs.YtlgomkocalieeaaGreatDoor.Mo
