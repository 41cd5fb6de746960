/- Maps by requests, and from threads to requests: what they read as. -/
import Derived.Test.YtonaibpenijomaaA1
import Derived.Maps.OwnOps
import Derived.Maps.OwnSet
import Derived.Maps.RangeWalk
import Derived.DeepKeys4
import Derived.Test.YtonaibpenijomaaFrame
namespace Go.Proofs.Ytonaibpenijomaa
open Go.RowKit Go.Maps
set_option linter.unusedSimpArgs false
set_option linter.unusedVariables false


theorem kS : Keyed Try.prog 33 := Keyed.of_law (deep_law_laid laidOut (m := 3) (by omega) (of_decide_eq_true (by kernel_rfl)) (by kernel_rfl) (by kernel_rfl))
def wfI (x : Int) : Prop := (Lit.int .i64 x).wf = true
theorem wfI_of {x : Int} (h0 : -9223372036854775808 ≤ x) (h1 : x ≤ 9223372036854775807) : wfI x := WalkArith.wf_i64 ⟨h0, h1⟩
theorem sp_key (k g : Int) (h1 : wfI k) (h2 : wfI g) : keyOf Try.prog 33 ((Value.agg #[.int .i64 k, .int .i64 g])) = some (.string (keyBytes [.int .i64 k, .int .i64 g])) := by
  have hp : 0 < Try.prog.types.size := of_decide_eq_true (by kernel_rfl)
  obtain ⟨d, hs⟩ : ∃ d, Try.prog.types.size + 1 = d + 1 + 1 := ⟨Try.prog.types.size - 1, by omega⟩
  have hk : Try.prog.keyType 33 = true := by kernel_rfl
  have hc : Try.prog.cellsOf 33 = 2 := by kernel_rfl
  have hci : Try.prog.cellsOf 3 = 1 := by kernel_rfl
  unfold wfI at h1 h2
  have hl : Try.prog.keyLits (Try.prog.types.size + 1) 33 [.int .i64 k, .int .i64 g] = some [.int .i64 k, .int .i64 g] := by
    rw [hs]
    have e1 : ∀ x : Int, (Lit.int .i64 x).wf = true → Try.prog.keyLits (d + 1) 3 [.int .i64 x] = some [.int .i64 x] := by
      intro x hx
      unfold Program.keyLits
      simp [Try.underlying3, hx]
    unfold Program.keyLits
    rw [Try.underlying33]
    simp [hc, hci]
    simp [e1 k h1, e1 g h2]
  have hf : ((Value.agg #[.int .i64 k, .int .i64 g])).formed Try.prog 33 = true := by
    unfold Value.formed
    simp [Try.underlying33, hc]
  unfold keyOf
  simp only [Try.underlying33, hk, hf, Bool.and_self, if_true]
  have : ((Value.agg #[.int .i64 k, .int .i64 g])).cells.toList = [.int .i64 k, .int .i64 g] := rfl
  rw [this, hl]
  rfl
def sk (k g : Int) : Lit := .string (keyBytes [.int .i64 k, .int .i64 g])
theorem sk_key (k g : Int) : WideAt.IsKeyLit (sk k g) := trivial
theorem sk_of {k g : Int} (h1 : wfI k) (h2 : wfI g) : keyOf Try.prog 33 ((Value.agg #[.int .i64 k, .int .i64 g])) = some (sk k g) := sp_key k g h1 h2
theorem sk_inj {k g k' g' : Int} (h1 : wfI k) (h2 : wfI g) (h3 : wfI k') (h4 : wfI g') (h : sk k g = sk k' g') : k = k' ∧ g = g' := by
  have e := kS.inj (sk_of h1 h2) (by rw [h]; exact sk_of h3 h4)
  simpa using e
theorem sk_ne {k g k' g' : Int} (h1 : wfI k) (h2 : wfI g) (h3 : wfI k') (h4 : wfI g') (h : ¬ (k = k' ∧ g = g')) : sk k g ≠ sk k' g' := fun e => h (sk_inj h1 h2 h3 h4 e)
theorem same_sk {k g k' g' : Int} (h1 : wfI k) (h2 : wfI g) (h3 : wfI k') (h4 : wfI g') : (sk k g).sameKey (sk k' g') = decide (k = k' ∧ g = g') := by
  by_cases h : k = k' ∧ g = g'
  · obtain ⟨rfl, rfl⟩ := h; rw [WideAt.sameKey_self (sk_key _ _)]; simp
  · rw [Maps.sameKey_ne (sk_ne h1 h2 h3 h4 h)]; simp [h]
set_option maxRecDepth 100000 in
theorem sk_inv {v : Value} {kl : Lit} (h : keyOf Try.prog 33 v = some kl) : ∃ x y, v = ((Value.agg #[.int .i64 x, .int .i64 y])) ∧ kl = sk x y ∧ wfI x ∧ wfI y := by
  have hp : 0 < Try.prog.types.size := of_decide_eq_true (by kernel_rfl)
  obtain ⟨d, hs⟩ : ∃ d, Try.prog.types.size + 1 = d + 1 + 1 := ⟨Try.prog.types.size - 1, by omega⟩
  have hc : Try.prog.cellsOf 33 = 2 := by kernel_rfl
  have hci : Try.prog.cellsOf 3 = 1 := by kernel_rfl
  have inv : ∀ (c : Value) (ls : List Lit), Try.prog.keyLits (d + 1) 3 [c] = some ls → ∃ x : Int, c = .int .i64 x ∧ ls = [.int .i64 x] ∧ wfI x := by
    intro c ls hq
    unfold Program.keyLits at hq
    rw [Try.underlying3] at hq
    cases c <;> simp at hq
    rename_i q n
    obtain ⟨⟨rfl, hw⟩, rfl⟩ := hq
    exact ⟨n, rfl, rfl, hw⟩
  unfold keyOf at h
  simp only [Try.underlying33] at h
  split at h
  · rename_i hf
    simp only [Bool.and_eq_true] at hf
    replace hf := hf.2
    cases v <;> simp [Value.formed, Try.underlying33] at hf
    rename_i cs
    rw [hc] at hf
    obtain ⟨l⟩ := cs
    rcases l with _ | ⟨c1, _ | ⟨c2, _ | ⟨c3, l⟩⟩⟩
    · simp at hf
    · simp at hf
    · obtain ⟨ls, h1, rfl⟩ := Option.map_eq_some_iff.1 h
      have h2 : Try.prog.keyLits (d + 1 + 1) 33 [c1, c2] = some ls := by rw [← hs]; exact h1
      clear h1 h
      unfold Program.keyLits at h2
      rw [Try.underlying33] at h2
      simp [hc, hci] at h2
      cases e1 : Try.prog.keyLits (d + 1) 3 [c1] with
      | none => rw [e1] at h2; simp at h2
      | some l1 =>
        rw [e1] at h2
        cases e2 : Try.prog.keyLits (d + 1) 3 [c2] with
        | none => rw [e2] at h2; simp at h2
        | some l2 =>
          rw [e2] at h2
          obtain ⟨x, rfl, rfl, wx⟩ := inv _ _ e1
          obtain ⟨y, rfl, rfl, wy⟩ := inv _ _ e2
          simp at h2
          subst h2
          exact ⟨x, y, rfl, rfl, wx, wy⟩
    · simp at hf
  · cases h
def wfR (r : Rq) : Prop := wfI r.1 ∧ wfI r.2
abbrev skR (r : Rq) : Lit := sk r.1 r.2
theorem skR_ne {r q : Rq} (h1 : wfR r) (h2 : wfR q) (h : r ≠ q) : skR r ≠ skR q := sk_ne h1.1 h1.2 h2.1 h2.2 (fun e => h (Prod.ext e.1 e.2))
theorem mayR_wf {r : Rq} (h : mayR r = true) : wfR r := by
  rcases mayR_of h with h | h
  · exact ⟨wfI_of (by omega) (by omega), wfI_of (by omega) (by omega)⟩
  · exact ⟨wfI_of (by omega) (by omega), wfI_of (by omega) (by omega)⟩
theorem same_skR {r q : Rq} (h1 : wfR r) (h2 : wfR q) : (skR r).sameKey (skR q) = decide (r = q) := by
  rw [same_sk h1.1 h1.2 h2.1 h2.2]
  exact decide_eq_decide.2 ⟨fun e => Prod.ext e.1 e.2, fun e => by rw [e]; exact ⟨rfl, rfl⟩⟩
/-- Slices, as they stand in a map. -/
structure Sl3 where
  b : Option Nat
  n : Nat
  c : Nat
def slA (b : Option Nat) : Option Addr := b.map fun b => ⟨b, 0, none⟩
def slV (s : Sl3) : Value := .slice (slA s.b) s.n s.c
def datN (n : Nat) : DataW Unit := .lit (.int .i64 (n : Int))
theorem datN_inj {a b : Nat} (h : datN a = datN b) : a = b := by
  unfold datN at h
  simp only [DataW.lit.injEq, Lit.int.injEq, true_and] at h
  omega
def datS (s : Sl3) : DataW Unit := match s.b with
  | none => .agg [datN s.n, datN s.c]
  | some b => .agg [datN b, datN s.n, datN s.c]
theorem datS_inj {p q : Sl3} (h : datS p = datS q) : p = q := by
  obtain ⟨a, b, c⟩ := p
  obtain ⟨x, y, z⟩ := q
  cases a <;> cases x <;> simp [datS] at h
  · rw [datN_inj h.1, datN_inj h.2]
  · rw [datN_inj h.1, datN_inj h.2.1, datN_inj h.2.2]
def rdS (v : Value) : Option (DataW Unit × List MemPlace) := match v with
  | .slice none n c => some (datS ⟨none, n, c⟩, [])
  | .slice (some ⟨b, 0, none⟩) n c => some (datS ⟨some b, n, c⟩, [])
  | _ => none
theorem rdS_mk (s : Sl3) : rdS (slV s) = some (datS s, []) := by
  obtain ⟨b, n, c⟩ := s
  cases b <;> rfl
theorem rdS_inv {v : Value} {y : DataW Unit × List MemPlace} (h : rdS v = some y) : ∃ s : Sl3, v = slV s ∧ y = (datS s, []) := by
  unfold rdS at h
  split at h
  · cases h; exact ⟨⟨none, _, _⟩, rfl, rfl⟩
  · cases h; exact ⟨⟨some _, _, _⟩, rfl, rfl⟩
  · cases h
theorem zS (w : World) : (zeroValue 34).run Try.prog w = .ok (.slice none 0 0) w := by kernel_rfl
section
variable {D : DataW Unit} {F : Rq → Option Sl3} {n : Nat}
/-- A map's datum reads as F. -/
structure Rep (D : DataW Unit) (F : Rq → Option Sl3) (n : Nat) : Prop where
  tidy : Maps.Tidy D
  has : ∀ r, wfR r → Maps.has D (skR r) = (F r).isSome
  val : ∀ r a, wfR r → F r = some a → ∀ zd, D.atKey (skR r) zd = datS a
  size : Maps.size D = n
theorem rep_no : Rep (.map []) (fun _ => none) 0 := ⟨Maps.tidy_empty, fun _ _ => rfl, fun _ _ _ h => (nomatch h), rfl⟩
def updR {α : Type} (F : Rq → α) (r : Rq) (v : α) : Rq → α := fun q => if q = r then v else F q
theorem updR_same {α : Type} (F : Rq → α) (r : Rq) (v : α) : updR F r v r = v := by unfold updR; rw [if_pos rfl]
theorem updR_other {α : Type} (F : Rq → α) {r q : Rq} (v : α) (h : q ≠ r) : updR F r v q = F q := by unfold updR; rw [if_neg h]
theorem Rep.get (h : Rep D F n) {r : Rq} (hr : wfR r) (z : Sl3) : D.atKey (skR r) (datS z) = datS ((F r).getD z) := by
  cases e : F r with
  | none => rw [Maps.atKey_of_not_has (by rw [h.has r hr, e]; rfl)]; rfl
  | some p => exact h.val r p hr e _
theorem Rep.put (h : Rep D F n) {r : Rq} (hr : wfR r) (p : Sl3) : Rep (D.put (skR r) (datS p)) (updR F r (some p)) (n + if (F r).isSome then 0 else 1) := by
  refine ⟨h.tidy.put (sk_key _ _) _, fun q hq => ?_, fun q a hq ha zd => ?_, ?_⟩
  · unfold updR
    by_cases e : q = r
    · rw [if_pos e, e, Maps.has_put_same h.tidy.isMap (sk_key _ _)]; rfl
    · rw [if_neg e, Maps.has_put_other (skR_ne hq hr e), h.has q hq]
  · unfold updR at ha
    by_cases e : q = r
    · rw [if_pos e] at ha
      cases ha
      rw [e, Maps.atKey_put_same h.tidy.isMap (sk_key _ _)]
    · rw [if_neg e] at ha; rw [Maps.atKey_put_other (skR_ne hq hr e)]; exact h.val q a hq ha zd
  · rw [Maps.size_put h.tidy, h.has r hr, h.size]
    cases (F r).isSome <;> simp
theorem Rep.del (h : Rep D F (n + 1)) {r : Rq} (hr : wfR r) (hs : (F r).isSome = true) : Rep (D.del (skR r)) (updR F r none) n := by
  refine ⟨h.tidy.del _, fun q hq => ?_, fun q a hq ha zd => ?_, ?_⟩
  · unfold updR
    by_cases e : q = r
    · rw [if_pos e, e, Maps.has_del_same]; rfl
    · rw [if_neg e, Maps.has_del_other (skR_ne hq hr e), h.has q hq]
  · unfold updR at ha
    by_cases e : q = r
    · rw [if_pos e] at ha; cases ha
    · rw [if_neg e] at ha; rw [Maps.atKey_del_other (skR_ne hq hr e)]; exact h.val q a hq ha zd
  · have s := Maps.size_del h.tidy (k := skR r)
    rw [h.has r hr, hs, h.size] at s
    simp at s
    omega
theorem Rep.eqF {F' : Rq → Option Sl3} (h : Rep D F n) (e : ∀ r, wfR r → F r = F' r) : Rep D F' n :=
  ⟨h.tidy, fun r hr => by rw [h.has r hr, e r hr], fun r a hr ha => h.val r a hr (by rw [e r hr]; exact ha), h.size⟩
end
section
variable {w w' : World} {m n : Nat} {F : Rq → Option Sl3}
/-- Block m is a map that reads as F. -/
def MpT (w : World) (m : Nat) (F : Rq → Option Sl3) (n : Nat) : Prop := ∃ D, w.ownsMap Try.prog 33 rdS m n D ∧ Rep D F n
theorem own_tight {H : Type} {P : Program} {k : TypeId} {R : Value → Option (DataW H × List MemPlace)} {b n : Nat} {D : DataW H} (h : w.ownsMap P k R b n D) : w.ownsMap P k R b (Maps.size D) D := by
  obtain ⟨es, clock, hb, F, hs, rfl⟩ := h
  exact ⟨es, clock, hb, F, by simp [Maps.size, length_sorted], rfl⟩
theorem own_same {H : Type} {P : Program} {k : TypeId} {R : Value → Option (DataW H × List MemPlace)} {b n : Nat} {D : DataW H} (h : w.ownsMap P k R b n D) (x : w'.heap[b]? = w.heap[b]?) : w'.ownsMap P k R b n D := by
  obtain ⟨es, clock, hb, r⟩ := h
  exact ⟨es, clock, x.trans hb, r⟩
theorem own_noC {H : Type} {P : Program} {k : TypeId} {R : Value → Option (DataW H × List MemPlace)} {b n : Nat} {D : DataW H} (h : w.ownsMap P k R b n D) : ∀ cs t, ¬ Blk w b cs t := fun cs t hh => by
  obtain ⟨es, clock, hm, r⟩ := h
  unfold Blk at hh
  rw [hm] at hh
  cases hh
theorem MpT.lt (h : MpT w m F n) : m < w.heap.size := by
  obtain ⟨D, h, r⟩ := h; exact h.lt
theorem MpT.chg {T : List Nat} (h : MpT w m F n) (x : Chg T w w') (hne : m ∉ T) : MpT w' m F n := by
  have hl := h.lt
  obtain ⟨D, h, r⟩ := h
  exact ⟨D, own_same h (x.block m hl hne), r⟩
theorem MpT.ext (h : MpT w m F n) (x : Ext w w') : MpT w' m F n := h.chg (x.chg []) (by simp)
theorem MpT.of {n' : Nat} {D : DataW Unit} (h : w.ownsMap Try.prog 33 rdS m n' D) (r : Rep D F n) : MpT w m F n := by
  have := own_tight h
  rw [r.size] at this
  exact ⟨D, this, r⟩
theorem MpT.noC (h : MpT w m F n) : ∀ cs t, ¬ Blk w m cs t := by
  obtain ⟨D, h, _⟩ := h; exact own_noC h
theorem MpT.eqF {F' : Rq → Option Sl3} (h : MpT w m F n) (e : ∀ r, wfR r → F r = F' r) : MpT w m F' n := by
  obtain ⟨D, h, r⟩ := h
  exact ⟨D, h, r.eqF e⟩
theorem MpT.look (h : MpT w m F n) {r : Rq} (hr : wfR r) : (Instr.lookup 55 (.map (some m)) ((Value.agg #[.int .i64 r.1, .int .i64 r.2])) true).run Try.prog w = .ok (.tuple #[slV ((F r).getD ⟨none, 0, 0⟩), .bool (F r).isSome]) w := by
  obtain ⟨D, hown, rep⟩ := h
  obtain ⟨v, ps, hrun, hv⟩ := hown.look_ok kS Try.underlying55 (zS w) (rdS_mk ⟨none, 0, 0⟩) (sk_of hr.1 hr.2)
  obtain ⟨p, rfl, hp⟩ := rdS_inv hv
  rw [rep.get hr] at hp
  simp only [Prod.mk.injEq] at hp
  rw [hrun, rep.has r hr, datS_inj hp.1]
theorem MpT.look1 (h : MpT w m F n) {r : Rq} (hr : wfR r) : (Instr.lookup 55 (.map (some m)) ((Value.agg #[.int .i64 r.1, .int .i64 r.2])) false).run Try.prog w = .ok (slV ((F r).getD ⟨none, 0, 0⟩)) w := by
  obtain ⟨D, hown, rep⟩ := h
  obtain ⟨v, ps, hrun, hv⟩ := hown.lookup kS Try.underlying55 (zS w) (rdS_mk ⟨none, 0, 0⟩) (sk_of hr.1 hr.2)
  obtain ⟨p, rfl, hp⟩ := rdS_inv hv
  rw [rep.get hr] at hp
  simp only [Prod.mk.injEq] at hp
  rw [hrun, datS_inj hp.1]
theorem look_nilm {r : Rq} (hr : wfR r) (w : World) : (Instr.lookup 55 (.map none) ((Value.agg #[.int .i64 r.1, .int .i64 r.2])) true).run Try.prog w = .ok (.tuple #[.slice none 0 0, .bool false]) w :=
  Maps.look_nil true kS Try.underlying55 (zS w) (sk_of hr.1 hr.2)
theorem Chg.of_grown {w w' : World} {T : List Nat} {b : Nat} (h : w.grownBy w' (some b)) (hb : b ∈ T) : Chg T w w' := ⟨h.os, h.tape, h.output, h.size, fun k hk hT => h.block k hk (fun e => by cases e; exact hT hb)⟩
/-- A put, a delete: the run as an equation. -/
theorem MpT.update (h : MpT w m F n) {r : Rq} (hr : wfR r) (p : Sl3) (hn : n < maxLen) :
    ∃ w', (Instr.mapUpdate 55 (.map (some m)) ((Value.agg #[.int .i64 r.1, .int .i64 r.2])) (slV p)).run Try.prog w = .ok () w' ∧ MpT w' m (updR F r (some p)) (n + if (F r).isSome then 0 else 1) ∧ w.grownBy w' (some m) := by
  obtain ⟨D, hown, rep⟩ := h
  obtain ⟨w', h1, h2, h3⟩ := hown.update kS Try.underlying55 hn (sk_of hr.1 hr.2) (rdS_mk p)
  exact ⟨w', h1, MpT.of h2 (rep.put hr p), h3⟩
end
end Go.Proofs.Ytonaibpenijomaa
