/- Rows of requests that a law makes for its own, cut at their beginning, appended to; its map from threads to requests. -/
import Derived.Test.YtonaibpenijomaaS1
import Derived.Test.YtonaibpenijomaaR3
namespace Go.Proofs.Ytonaibpenijomaa
open Go.RowKit Go.Maps
set_option linter.unusedVariables false
set_option linter.unusedSimpArgs false
set_option maxRecDepth 100000


/-- A row of requests, its block known whole up to its capacity. -/
def RowQ (w : World) (A : Option Addr) (n c : Nat) (l : List Rq) : Prop :=
  l.length = n ∧ n ≤ c ∧ c ≤ maxLen ∧ ((A = none ∧ c = 0) ∨ ∃ g off cur, A = some ⟨g, off, none⟩ ∧ Blk w g cur 33 ∧ (0 < c → cur.size = off + c * 2) ∧ ∀ j, j < n * 2 → cur[off + j]? = (rcells l)[j]?)
section
variable {w w' : World} {A : Option Addr} {n c : Nat} {l : List Rq}
theorem RowQ.nil (w : World) : RowQ w none 0 0 [] := ⟨rfl, Nat.le_refl _, Nat.zero_le _, .inl ⟨rfl, rfl⟩⟩
theorem RowQ.chg {T : List Nat} (h : RowQ w A n c l) (x : Chg T w w') (hT : ∀ a, A = some a → a.block ∉ T) : RowQ w' A n c l := by
  obtain ⟨h1, h2, h3, h | ⟨g, off, cur, h4, h5, h6, h7⟩⟩ := h
  · exact ⟨h1, h2, h3, .inl h⟩
  · exact ⟨h1, h2, h3, .inr ⟨g, off, cur, h4, h5.chg x (hT _ h4), h6, h7⟩⟩
theorem RowQ.ext (h : RowQ w A n c l) (x : Ext w w') : RowQ w' A n c l := h.chg (x.chg []) (by simp)
theorem RowQ.blk (h : RowQ w A n c l) : ∀ a, A = some a → ∃ cs, Blk w a.block cs 33 := by
  intro a ha
  obtain ⟨h1, h2, h3, ⟨h4, _⟩ | ⟨g, off, cur, h4, h5, h6, h7⟩⟩ := h
  · rw [h4] at ha; cases ha
  · rw [h4] at ha; cases ha; exact ⟨cur, h5⟩
theorem RowQ.lt (h : RowQ w A n c l) : ∀ a, A = some a → a.block < w.heap.size := fun a ha => by
  obtain ⟨cs, hb⟩ := h.blk a ha
  exact hb.lt
theorem RowQ.at_ (h : RowQ w A n c l) {j : Nat} (hj : j < l.length) : ∃ g off, A = some ⟨g, off, none⟩ ∧ ∀ w', Ext w w' → w'.cell? ⟨g, off + j * 2, none⟩ = some (.int .i64 (l[j]).1) ∧ w'.cell? ⟨g, off + j * 2 + 1, none⟩ = some (.int .i64 (l[j]).2) := by
  obtain ⟨h1, h2, h3, ⟨h4, h5⟩ | ⟨g, off, cur, h4, h5, h6, h7⟩⟩ := h
  · omega
  · obtain ⟨e0, e1⟩ := rcells_at l j hj
    refine ⟨g, off, h4, fun w' x => ⟨((h5.ext x).cell _).trans ?_, ((h5.ext x).cell _).trans ?_⟩⟩
    · rw [h7 _ (by omega)]; exact e0
    · rw [Nat.add_assoc, h7 _ (by omega)]; exact e1
theorem RowQ.drop (h : RowQ w A (n + 1) c l) : ∃ g off off', A = some ⟨g, off, none⟩ ∧ 0 < c ∧ (c = 1 → off' = off) ∧ (¬ c = 1 → off' = off + 2) ∧ RowQ w (some ⟨g, off', none⟩) n (c - 1) l.tail := by
  obtain ⟨h1, h2, h3, ⟨h4, h5⟩ | ⟨g, off, cur, h4, h5, h6, h7⟩⟩ := h
  · omega
  · have h6 := h6 (by omega)
    have ht : ∀ j, j < n * 2 → (rcells l)[2 + j]? = (rcells l.tail)[j]? := fun j hj => by
      cases l with
      | nil => simp at h1
      | cons x l => simp only [rcells, List.flatMap_cons, List.cons_append, List.nil_append, List.tail_cons, show 2 + j = j + 1 + 1 by omega, List.getElem?_cons_succ]
    refine ⟨g, off, if c = 1 then off else off + 2, h4, by omega, fun e => if_pos e, fun e => if_neg e, by rw [List.length_tail]; omega, by omega, by omega, .inr ⟨g, _, cur, rfl, h5, fun hc => ?_, fun j hj => ?_⟩⟩
    · rw [if_neg (by omega)]; omega
    · rw [if_neg (by omega), Nat.add_assoc, h7 _ (by omega)]
      exact ht j hj
theorem rowq_app {ty : TypeId} (h : RowQ w A n c l) {g0 cx : Nat} {r : Rq} (hb : Blk w g0 #[.int .i64 r.1, .int .i64 r.2] 33) (hn : n + 1 ≤ 1000) :
    ∃ A' c' w' g', (Builtin.append_ #[47, 47] ty #[.slice A n c, .slice (some ⟨g0, 0, none⟩) 1 cx]).run Try.prog w = .ok (.slice A' (n + 1) c') w' ∧ RowQ w' A' (n + 1) c' (l ++ [r]) ∧ Chg [g'] w w' ∧
      (w.heap.size ≤ g' ∨ ∃ a, A = some a ∧ a.block = g') ∧ (∀ a, A' = some a → a.block = g') := by
  obtain ⟨i, hi, hz, hsize, hbb⟩ := info_parts inf_spot
  have hnews : ∀ j u', (rcells [r])[j]? = some u' → w.cell? ((⟨g0, 0, none⟩ : Addr).add j) = some u' := by
    intro j u' hu
    rw [Addr.add_lit, Nat.zero_add, hb.cell, ← hu, ← Array.getElem?_toList]
    rfl
  have hone := rcells_one [r]
  have hown : ∀ v' w', w'.ownsRow w.heap.size 33 2 v' (n + 1) (rcells l ++ rcells [r]) → Ext w w' → (Builtin.append_ #[47, 47] ty #[.slice A n c, .slice (some ⟨g0, 0, none⟩) 1 cx]).run Try.prog w = .ok v' w' →
      ∃ A' c' w' g', (Builtin.append_ #[47, 47] ty #[.slice A n c, .slice (some ⟨g0, 0, none⟩) 1 cx]).run Try.prog w = .ok (.slice A' (n + 1) c') w' ∧ RowQ w' A' (n + 1) c' (l ++ [r]) ∧ Chg [g'] w w' ∧
      (w.heap.size ≤ g' ∨ ∃ a, A = some a ∧ a.block = g') ∧ (∀ a, A' = some a → a.block = g') := by
    intro v' w' h2 hx hr
    obtain ⟨hl, ⟨_, h0⟩ | ⟨g, cap, cur, rfl, hbg, hh, h3, h4, h5, h6⟩⟩ := h2
    · omega
    · refine ⟨_, _, w', g, hr, ⟨by have := h.1; simp; omega, h3, h4, .inr ⟨g, 0, cur, rfl, hh, fun _ => by omega, fun j hj => ?_⟩⟩, hx.chg _, .inl hbg, fun a ha => by cases ha; rfl⟩
      rw [Nat.zero_add, rcells_append, ← h6, List.getElem?_take_of_lt hj, Array.getElem?_toList]
  have hl1 := h.1
  obtain ⟨h1', h2, h3, ⟨rfl, rfl⟩ | ⟨g, off, cur, rfl, h5, h6, h7⟩⟩ := h
  · obtain rfl : n = 0 := by omega
    obtain rfl : l = [] := List.eq_nil_of_length_eq_zero h1'
    obtain ⟨v', w', r1, r2, r3, _⟩ := run_append_own (P := Try.prog) w w.heap.size 47 ty 33 i (.agg #[.int .i64 0, .int .i64 0]) 2 16 Try.underlying47 hi hz hsize hbb rfl (by omega) (.slice none 0 0) 0 [] (own_nil _ _ _ _) ⟨g0, 0, none⟩ 1 cx (rcells [r]) rfl hnews hone (by unfold maxLen; omega) (by omega) (Nat.le_refl _)
    exact hown v' w' r2 (Ext.grown (Ext.refl w) r3 (by intro k hk; cases hk)) r1
  · by_cases hroom : n + 1 ≤ c
    · have h6 := h6 (by omega)
      have hr := run_append_room_cells (P := Try.prog) w 47 ty 33 i Try.underlying47 hi g off n c ⟨g0, 0, none⟩ 1 cx (rcells [r]) (by rw [hsize]; rfl) hnews hone hroom
        (fun j hj => by have hj : j < 2 := hj; rw [hsize, h5.cell, Array.getElem?_eq_getElem (by omega)]; rfl) (fun j hj => h5.free _)
      rw [hsize] at hr
      refine ⟨_, _, _, g, hr, ⟨by simp; omega, hroom, h3, .inr ⟨g, off, layC cur (off + n * 2) (rcells [r]), rfl, Blk.lay _ _ _ _ h5, fun _ => by rw [layC_size]; omega, fun j hj => ?_⟩⟩, Chg.lay (by simp) _ _ _ _ (Chg.refl [g] w), .inr ⟨_, rfl, rfl⟩, fun a ha => by cases ha; rfl⟩
      rw [layC_get _ _ _ _ (by rw [rcells_length]; simp; omega), rcells_length, rcells_append]
      simp only [List.length_cons, List.length_nil]
      by_cases e0 : j < n * 2
      · rw [if_neg (by omega), h7 j e0, List.getElem?_append_left (by rw [rcells_length]; omega)]
      · rw [if_pos (by omega), List.getElem?_append_right (by rw [rcells_length]; omega), rcells_length]
        congr 1
        omega
    · obtain ⟨v', w', r1, r2, r3⟩ := run_append_arg_grows (P := Try.prog) w 47 ty 33 i (.agg #[.int .i64 0, .int .i64 0]) 2 16 Try.underlying47 hi hz hsize hbb rfl (by omega) ⟨g, off, none⟩ n c (rcells l) (by rw [rcells_length]; omega) (fun j u' hu => by
        have hj : j < n * 2 := by have := (List.getElem?_eq_some_iff.1 hu).1; rw [rcells_length] at this; omega
        rw [Addr.add_lit, h5.cell, h7 j hj]; exact hu) ⟨g0, 0, none⟩ 1 cx (rcells [r]) rfl hnews (by omega) (by unfold maxLen; omega) (by omega)
      exact hown v' w' r2 (Ext.grown (Ext.refl w) r3 (by intro k hk; cases hk)) r1
end
/-- Keys that are ints. -/
def ky (z : Int) : Lit := .int .i64 z
theorem ky_key (z : Int) : WideAt.IsKeyLit (ky z) := trivial
theorem ky_ne {a b : Int} (h : a ≠ b) : ky a ≠ ky b := fun e => h (by unfold ky at e; injection e)
theorem kI : Keyed Try.prog 3 := int_keyed Try.underlying3
theorem kof {z : Int} (h : wfI z) : keyOf Try.prog 3 (.int .i64 z) = some (ky z) := keyOf_int_mk Try.underlying3 h
def datR (p : Rq) : DataW Unit := .agg [.lit (.int .i64 p.1), .lit (.int .i64 p.2)]
def rdR (v : Value) : Option (DataW Unit × List MemPlace) :=
  match v with
  | .agg cs => (match cs.toList with
    | [.int .i64 a, .int .i64 b] => some (datR (a, b), [])
    | _ => none)
  | _ => none
theorem rdR_mk (p : Rq) : rdR ((Value.agg #[.int .i64 p.1, .int .i64 p.2])) = some (datR p, []) := rfl
theorem rdR_inv {v : Value} {y : DataW Unit × List MemPlace} (h : rdR v = some y) : ∃ p : Rq, v = ((Value.agg #[.int .i64 p.1, .int .i64 p.2])) ∧ y = (datR p, []) := by
  unfold rdR at h
  split at h
  · rename_i cs
    split at h
    · rename_i a b e
      cases h
      refine ⟨(a, b), ?_, rfl⟩
      congr 1
      exact Array.toList_inj.1 e
    · cases h
  · cases h
theorem datR_inj {p q : Rq} (h : datR p = datR q) : p = q := by
  unfold datR at h
  injection h with h
  simp only [List.cons.injEq, DataW.lit.injEq, Lit.int.injEq, and_true, true_and] at h
  obtain ⟨h1, h2⟩ := h
  exact Prod.ext h1 h2
theorem zR (w : World) : (zeroValue 33).run Try.prog w = .ok ((Value.agg #[.int .i64 0, .int .i64 0])) w := by kernel_rfl
def updI {α : Type} (F : Int → α) (k : Int) (v : α) : Int → α := fun z => if z = k then v else F z
/-- A map reads as F. -/
structure Rep2 (D : DataW Unit) (F : Int → Option Rq) (n : Nat) : Prop where
  tidy : Maps.Tidy D
  has : ∀ z, Maps.has D (ky z) = (F z).isSome
  val : ∀ z p, F z = some p → ∀ zd, D.atKey (ky z) zd = datR p
  size : Maps.size D = n
theorem rep2_no : Rep2 (.map []) (fun _ => none) 0 := ⟨Maps.tidy_empty, fun z => rfl, fun z p h => (nomatch h), rfl⟩
section
variable {D : DataW Unit} {F : Int → Option Rq} {n : Nat}
theorem Rep2.get (h : Rep2 D F n) (z : Int) (p0 : Rq) : D.atKey (ky z) (datR p0) = datR ((F z).getD p0) := by
  cases e : F z with
  | none => rw [Maps.atKey_of_not_has (by rw [h.has z, e]; rfl)]; rfl
  | some p => exact h.val z p e _
theorem Rep2.put (h : Rep2 D F n) {k : Int} (hk : F k = none) (p : Rq) : Rep2 (D.put (ky k) (datR p)) (updI F k (some p)) (n + 1) := by
  refine ⟨h.tidy.put (ky_key _) _, fun z => ?_, fun z q hq zd => ?_, ?_⟩
  · unfold updI
    by_cases e : z = k
    · rw [if_pos e, e, Maps.has_put_same h.tidy.isMap (ky_key _)]; rfl
    · rw [if_neg e, Maps.has_put_other (ky_ne e), h.has z]
  · unfold updI at hq
    by_cases e : z = k
    · rw [if_pos e] at hq
      cases hq
      rw [e, Maps.atKey_put_same h.tidy.isMap (ky_key _)]
    · rw [if_neg e] at hq; rw [Maps.atKey_put_other (ky_ne e)]; exact h.val z q hq zd
  · rw [Maps.size_put h.tidy, h.has, hk, h.size]; rfl
theorem Rep2.del (h : Rep2 D F (n + 1)) {k : Int} (hk : (F k).isSome = true) : Rep2 (D.del (ky k)) (updI F k none) n := by
  refine ⟨h.tidy.del _, fun z => ?_, fun z q hq zd => ?_, ?_⟩
  · unfold updI
    by_cases e : z = k
    · rw [if_pos e, e, Maps.has_del_same]; rfl
    · rw [if_neg e, Maps.has_del_other (ky_ne e), h.has z]
  · unfold updI at hq
    by_cases e : z = k
    · rw [if_pos e] at hq; cases hq
    · rw [if_neg e] at hq; rw [Maps.atKey_del_other (ky_ne e)]; exact h.val z q hq zd
  · have s := Maps.size_del h.tidy (k := ky k)
    rw [h.has, hk, h.size] at s
    simp at s
    omega
theorem Rep2.eqF {F' : Int → Option Rq} {n' : Nat} (h : Rep2 D F n) (e : F = F') (e2 : n = n') : Rep2 D F' n' := by subst e e2; exact h
end
def MpI (w : World) (m : Nat) (F : Int → Option Rq) (n : Nat) : Prop := ∃ D, w.ownsMap Try.prog 3 rdR m n D ∧ Rep2 D F n
section
variable {w w' : World} {m n : Nat} {F : Int → Option Rq}
theorem MpI.lt (h : MpI w m F n) : m < w.heap.size := by
  obtain ⟨D, h, r⟩ := h; exact h.lt
theorem MpI.chg {T : List Nat} (h : MpI w m F n) (x : Chg T w w') (hne : m ∉ T) : MpI w' m F n := by
  have hl := h.lt
  obtain ⟨D, h, r⟩ := h
  exact ⟨D, own_same h (x.block m hl hne), r⟩
theorem MpI.ext (h : MpI w m F n) (x : Ext w w') : MpI w' m F n := h.chg (x.chg []) (by simp)
theorem MpI.of {n' : Nat} {D : DataW Unit} (h : w.ownsMap Try.prog 3 rdR m n' D) (r : Rep2 D F n) : MpI w m F n := by
  have := own_tight h
  rw [r.size] at this
  exact ⟨D, this, r⟩
theorem MpI.noC (h : MpI w m F n) : ∀ cs t, ¬ Blk w m cs t := by
  obtain ⟨D, h, _⟩ := h; exact own_noC h
theorem MpI.eqF {F' : Int → Option Rq} {n' : Nat} (h : MpI w m F n) (e : F = F') (e2 : n = n') : MpI w m F' n' := by subst e e2; exact h
theorem MpI.look (h : MpI w m F n) {z : Int} (hz : wfI z) : (Instr.lookup 53 (.map (some m)) (.int .i64 z) true).run Try.prog w = .ok (.tuple #[(Value.agg #[.int .i64 ((F z).getD (0, 0)).1, .int .i64 ((F z).getD (0, 0)).2]), .bool (F z).isSome]) w := by
  obtain ⟨D, hown, rep⟩ := h
  obtain ⟨v, ps, hrun, hv⟩ := hown.look_ok kI Try.underlying53 (zR w) (rdR_mk (0, 0)) (kof hz)
  obtain ⟨p, rfl, hp⟩ := rdR_inv hv
  rw [rep.get z] at hp
  simp only [Prod.mk.injEq] at hp
  rw [hrun, rep.has z, datR_inj hp.1]
theorem MpI.update (h : MpI w m F n) {z : Int} (hz : wfI z) (hF : F z = none) (p : Rq) (hn : n < maxLen) :
    ∃ w', (Instr.mapUpdate 53 (.map (some m)) (.int .i64 z) ((Value.agg #[.int .i64 p.1, .int .i64 p.2]))).run Try.prog w = .ok () w' ∧ MpI w' m (updI F z (some p)) (n + 1) ∧ w.grownBy w' (some m) := by
  obtain ⟨D, hown, rep⟩ := h
  obtain ⟨w', h1, h2, h3⟩ := hown.update kI Try.underlying53 hn (kof hz) (rdR_mk p)
  exact ⟨w', h1, MpI.of h2 (rep.put hF p), h3⟩
theorem MpI.len (h : MpI w m F n) (ty : TypeId) : (Builtin.len_ #[53] ty #[.map (some m)]).run Try.prog w = .ok (.int .i64 (n : Int)) w := by
  obtain ⟨D, hown, rep⟩ := h
  rw [hown.len Try.underlying53 ty, rep.size]
theorem MpI.drop (h : MpI w m F (n + 1)) {z : Int} (hz : wfI z) (hs : (F z).isSome = true) (ty : TypeId) :
    ∃ w', (Builtin.delete_ #[53, 3] ty #[.map (some m), .int .i64 z]).run Try.prog w = .ok (.tuple #[]) w' ∧ MpI w' m (updI F z none) n ∧ w.grownBy w' (some m) := by
  obtain ⟨D, hown, rep⟩ := h
  obtain ⟨v1, k1, o1', t1⟩ := hown.drop kI Try.underlying53 (kof hz) ty
  exact ⟨v1, k1, MpI.of o1' (rep.del hs), t1.grown⟩
end
/-- What each thread waits for. -/
def wOf (S : List En) (t : Int) : Option Rq := (S.find? fun e => decide (t ∈ e.2)).map (·.1)
def wN : List En → Nat
  | [] => 0
  | e :: S => e.2.length + wN S
theorem wOf_none {S : List En} {t : Int} (h : waitsB S t = false) : wOf S t = none := by
  unfold wOf
  rw [List.find?_eq_none.2 fun e he => by simpa using waits_no h e he]
  rfl
theorem wOf_some {S : List En} (ok : Ok S) {e : En} {t : Int} (he : e ∈ S) (ht : t ∈ e.2) : wOf S t = some e.1 := by
  unfold wOf
  cases q : S.find? fun e => decide (t ∈ e.2) with
  | none => have := List.find?_eq_none.1 q e he; simp at this; exact absurd ht this
  | some e' =>
    have h1 := List.mem_of_find?_eq_some q
    have h2 := List.find?_some q
    simp only [decide_eq_true_eq] at h2
    rw [ok.one e he e' h1 t ht h2]
    rfl
theorem wOf_of {S : List En} {t : Int} {r : Rq} (h : wOf S t = some r) : ∃ e, e ∈ S ∧ e.1 = r ∧ t ∈ e.2 := by
  unfold wOf at h
  cases q : S.find? fun e => decide (t ∈ e.2) with
  | none => rw [q] at h; cases h
  | some e =>
    rw [q] at h
    have h2 := List.find?_some q
    simp only [decide_eq_true_eq] at h2
    simp only [Option.map_some, Option.some.injEq] at h
    exact ⟨e, List.mem_of_find?_eq_some q, h, h2⟩
theorem wOf_isSome (S : List En) (t : Int) : (wOf S t).isSome = waitsB S t := by
  cases h : waitsB S t with
  | false => rw [wOf_none h]; rfl
  | true =>
    cases q : wOf S t with
    | some r => rfl
    | none =>
      obtain ⟨e, he, ht⟩ := waits_of h
      unfold wOf at q
      cases q2 : S.find? fun e => decide (t ∈ e.2) with
      | none => have := List.find?_eq_none.1 q2 e he; simp at this; exact absurd ht this
      | some e' => rw [q2] at q; cases q
theorem wN_append (S T : List En) : wN (S ++ T) = wN S + wN T := by
  induction S with
  | nil => simp [wN]
  | cons e S ih => simp only [List.cons_append, wN, ih]; omega
theorem wOf_eq {S T : List En} (ok : Ok T) {f : Int → Option Rq} (h1 : ∀ t, waitsB T t = (f t).isSome) (h2 : ∀ e, e ∈ T → ∀ t, t ∈ e.2 → f t = some e.1) : wOf T = f := by
  funext t
  cases q : waitsB T t with
  | false =>
    rw [wOf_none q]
    have := h1 t
    rw [q] at this
    cases e : f t with
    | none => rfl
    | some r => rw [e] at this; cases this
  | true =>
    obtain ⟨e, he, ht⟩ := waits_of q
    rw [wOf_some ok he ht, h2 e he t ht]
/-- An Ask, told by who waits for what. -/
theorem wOf_ask {S : List En} (ok : Ok S) {r : Rq} {t : Int} (h : askE S r t = 0) : wOf (askS S r t) = (if 0 ≤ t then updI (wOf S) t (some r) else wOf S) := by
  have okn := ok.ask r t
  have key : ∀ e, e ∈ askS S r t → ∀ u, u ∈ e.2 → (∃ e0, e0 ∈ S ∧ e0.1 = e.1 ∧ u ∈ e0.2) ∨ (u = t ∧ 0 ≤ t ∧ e.1 = r) := by
    rcases ask_cases S r t with ⟨e0, _⟩ | ⟨_, h0, h1, h2, _, e2⟩ | ⟨_, h0, h1, h2, h3, _, e2⟩
    · exact absurd h e0
    · rw [e2]
      intro e he u hu
      obtain ⟨e0, he0, rfl⟩ := add_mem.1 he
      rw [addE_fst]
      rcases addE_mem hu with q | ⟨q1, q2, q3⟩
      · exact .inl ⟨e0, he0, rfl, q⟩
      · exact .inr ⟨q2, q3, q1⟩
    · rw [e2]
      intro e he u hu
      rcases List.mem_append.1 he with q | q
      · exact .inl ⟨e, q, rfl, hu⟩
      · simp at q; subst q
        obtain ⟨q1, q2⟩ := who_mem.1 hu
        exact .inr ⟨q1, q2, rfl⟩
  have old : ∀ e0, e0 ∈ S → ∀ u, u ∈ e0.2 → waitsB (askS S r t) u = true := by
    rcases ask_cases S r t with ⟨e0, _⟩ | ⟨_, h0, h1, h2, _, e2⟩ | ⟨_, h0, h1, h2, h3, _, e2⟩
    · exact absurd h e0
    · rw [e2]
      intro e0 he0 u hu
      refine waits_mem (add_mem.2 ⟨e0, he0, rfl⟩) ?_
      unfold addE
      split
      · exact List.mem_append_left _ hu
      · exact hu
    · rw [e2]
      intro e0 he0 u hu
      exact waits_mem (List.mem_append_left _ he0) hu
  have hw : waitsB S t = false := by
    rcases ask_cases S r t with ⟨e0, _⟩ | ⟨_, h0, h1, h2, _, e2⟩ | ⟨_, h0, h1, h2, h3, _, e2⟩
    · exact absurd h e0
    · exact h1
    · exact h1
  have new : 0 ≤ t → waitsB (askS S r t) t = true := fun h0 => by
    rcases ask_cases S r t with ⟨e0, _⟩ | ⟨_, _, h1, h2, _, e2⟩ | ⟨_, _, h1, h2, h3, _, e2⟩
    · exact absurd h e0
    · rw [e2]
      obtain ⟨e, he, q⟩ := has_of h2
      exact waits_mem (add_mem.2 ⟨e, he, rfl⟩) (by unfold addE; rw [if_pos q]; exact List.mem_append_right _ (who_mem.2 ⟨rfl, h0⟩))
    · rw [e2]
      exact waits_mem (List.mem_append_right _ (List.mem_singleton.2 rfl)) (who_mem.2 ⟨rfl, h0⟩)
  have hiff : ∀ u, waitsB (askS S r t) u = (waitsB S u || (decide (0 ≤ t) && decide (u = t))) := fun u => by
    cases q : waitsB (askS S r t) u with
    | true =>
      obtain ⟨e, he, hu⟩ := waits_of q
      rcases key e he u hu with ⟨e0, he0, _, hu0⟩ | ⟨h1, h2, _⟩
      · rw [waits_mem he0 hu0]; rfl
      · simp [h1, h2]
    | false =>
      cases q2 : waitsB S u with
      | true => obtain ⟨e, he, hu⟩ := waits_of q2; rw [old e he u hu] at q; cases q
      | false =>
        by_cases h0 : 0 ≤ t
        · by_cases h1 : u = t
          · subst h1; rw [new h0] at q; cases q
          · simp [h1]
        · simp [h0]
  refine wOf_eq (S := S) okn (fun u => ?_) (fun e he u hu => ?_)
  · rw [hiff]
    by_cases h0 : 0 ≤ t
    · rw [if_pos h0]
      unfold updI
      by_cases h1 : u = t
      · rw [if_pos h1]; simp [h0, h1]
      · rw [if_neg h1, wOf_isSome]; simp [h1]
    · rw [if_neg h0, wOf_isSome]; simp [h0]
  · rcases key e he u hu with ⟨e0, he0, h1, hu0⟩ | ⟨h1, h2, h3⟩
    · have hne : u ≠ t := fun z => waits_no hw e0 he0 (z ▸ hu0)
      have := wOf_some ok he0 hu0
      by_cases h0 : 0 ≤ t
      · rw [if_pos h0]; unfold updI; rw [if_neg hne, this, h1]
      · rw [if_neg h0, this, h1]
    · rw [if_pos h2]; unfold updI; rw [if_pos h1, h3]
theorem wN_addT {S : List En} (nd : (ks S).Nodup) {r : Rq} {t : Int} (h : hasR S r = true) : wN (addT S r t) = wN S + (who t).length := by
  induction S with
  | nil => simp [hasR, ks] at h
  | cons e S ih =>
    have nd2 := (List.nodup_cons.1 nd)
    show (addE r t e).2.length + wN (addT S r t) = _
    by_cases q : e.1 = r
    · have hn : addT S r t = S := by
        unfold addT
        conv => rhs; rw [← List.map_id S]
        refine List.map_congr_left fun x hx => ?_
        unfold addE
        rw [if_neg (fun z => nd2.1 (List.mem_map.2 ⟨x, hx, z.trans q.symm⟩))]
        rfl
      rw [hn]
      unfold addE
      rw [if_pos q]
      simp only [wN, List.length_append]; omega
    · have h2 : hasR S r = true := by
        obtain ⟨x, hx, hr⟩ := has_of h
        rcases List.mem_cons.1 hx with z | z
        · subst z; exact absurd hr q
        · rw [← hr]; exact has_mem z
      rw [ih nd2.2 h2]
      unfold addE
      rw [if_neg q]
      simp only [wN]; omega
theorem wN_ask {S : List En} (ok : Ok S) {r : Rq} {t : Int} (h : askE S r t = 0) : wN (askS S r t) = wN S + (who t).length := by
  rcases ask_cases S r t with ⟨e0, _⟩ | ⟨_, h0, h1, h2, _, e2⟩ | ⟨_, h0, h1, h2, h3, _, e2⟩
  · exact absurd h e0
  · rw [e2]; exact wN_addT ok.nd h2
  · rw [e2, wN_append]; simp [wN]
theorem wN_le {S : List En} (ok : Ok S) : wN S ≤ S.length * 256 := by
  induction S with
  | nil => simp [wN]
  | cons e S ih =>
    have := ih ok.tail
    have := ok.wlen (e := e) (List.mem_cons_self ..)
    simp only [wN, List.length_cons]; omega
/-- The map of a Next, when the first k of those who waited are out. -/
def wCut (e : En) (S : List En) (k : Nat) : Int → Option Rq := fun t => if t ∈ e.2.take k then none else wOf (e :: S) t
theorem wCut_zero (e : En) (S : List En) : wCut e S 0 = wOf (e :: S) := by
  funext t; unfold wCut; rw [if_neg (by simp)]
theorem wCut_at {e : En} {S : List En} (ok : Ok (e :: S)) {k : Nat} (h : k < e.2.length) : wCut e S k e.2[k] = some e.1 := by
  unfold wCut
  rw [if_neg, wOf_some ok (List.mem_cons_self ..) (List.getElem_mem h)]
  intro hm
  obtain ⟨i, hi, he⟩ := List.getElem_of_mem hm
  simp at hi
  rw [List.getElem_take] at he
  have hn := ok.wnd e (List.mem_cons_self ..)
  rw [List.nodup_iff_pairwise_ne] at hn
  exact List.pairwise_iff_getElem.1 hn i k (by omega) h (by omega) he
theorem wCut_succ {e : En} {S : List En} {k : Nat} (h : k < e.2.length) : updI (wCut e S k) e.2[k] none = wCut e S (k + 1) := by
  funext t
  unfold updI wCut
  rw [List.take_succ_eq_append_getElem h]
  by_cases q : t = e.2[k]
  · rw [if_pos q, if_pos (by rw [q]; exact List.mem_append_right _ (List.mem_singleton.2 rfl))]
  · rw [if_neg q]
    by_cases q2 : t ∈ e.2.take k
    · rw [if_pos q2, if_pos (List.mem_append_left _ q2)]
    · rw [if_neg q2, if_neg (by intro hm; rcases List.mem_append.1 hm with z | z; exact q2 z; exact q (List.mem_singleton.1 z))]
theorem wCut_all {e : En} {S : List En} (ok : Ok (e :: S)) : wCut e S e.2.length = wOf S := by
  symm
  refine wOf_eq (S := S) ok.tail (fun t => ?_) (fun x hx t ht => ?_)
  · unfold wCut
    rw [List.take_length]
    by_cases q : t ∈ e.2
    · rw [if_pos q]
      exact waits_none fun x hx hm => ok.head x hx (ok.one x (.tail _ hx) e (List.mem_cons_self ..) t hm q)
    · rw [if_neg q, wOf_isSome]
      cases z : waitsB S t with
      | true => obtain ⟨x, hx, hm⟩ := waits_of z; exact (waits_mem (.tail _ hx) hm).symm
      | false => exact (waits_none fun x hx hm => by
          rcases List.mem_cons.1 hx with y | y
          · subst y; exact q hm
          · exact waits_no z x y hm).symm
  · unfold wCut
    rw [List.take_length, if_neg (fun q => ok.head x hx (ok.one x (.tail _ hx) e (List.mem_cons_self ..) t ht q)), wOf_some ok (.tail _ hx) ht]
end Go.Proofs.Ytonaibpenijomaa
