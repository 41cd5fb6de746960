/- A queue in the world: its list, its map, the rows of those who wait; its small methods. -/
import Derived.Test.YtonaibpenijomaaM1
import Derived.BigRegion
import Derived.BigQuiet
namespace Go.Proofs.Ytonaibpenijomaa
open Go.RowKit Go.Maps
set_option linter.unusedSimpArgs false
set_option linter.unusedVariables false
set_option maxRecDepth 100000


/-- A slice of ints that reads as l. -/
def Ch (w : World) (A : Option Addr) (l : List Int) : Prop :=
  l.length = 0 ∨ ∃ b off, A = some ⟨b, off, none⟩ ∧ b < w.heap.size ∧ ∀ j (h : j < l.length), w.cell? ⟨b, off + j, none⟩ = some (.int .i64 l[j])
theorem Ch.ext {w w' : World} {A : Option Addr} {l : List Int} (h : Ch w A l) (x : Ext w w') : Ch w' A l := by
  rcases h with h | ⟨b, off, h1, h2, h3⟩
  · exact .inl h
  · exact .inr ⟨b, off, h1, Nat.lt_of_lt_of_le h2 x.size, fun j hj => (x.oldCell _ _ h2).trans (h3 j hj)⟩
theorem Ch.at_ {w : World} {A : Option Addr} {l : List Int} (h : Ch w A l) {j : Nat} (hj : j < l.length) : ∃ b off, A = some ⟨b, off, none⟩ ∧ ∀ w', Ext w w' → w'.cell? ⟨b, off + j, none⟩ = some (.int .i64 l[j]) := by
  rcases h with h | ⟨b, off, h1, h2, h3⟩
  · omega
  · exact ⟨b, off, h1, fun w' x => (x.oldCell _ _ h2).trans (h3 j hj)⟩
/-- A row of one's own that reads as l. -/
abbrev RowI (w : World) (v : Value) (l : List Int) : Prop := w.ownsRow 0 3 1 v l.length (l.map enJ)
theorem own_ch {w : World} {v : Value} {l : List Int} (h : RowI w v l) : ∃ A c, v = .slice A l.length c ∧ Ch w A l := by
  obtain ⟨A, c, rfl⟩ := own_sl h
  refine ⟨A, c, rfl, ?_⟩
  by_cases h0 : l.length = 0
  · exact .inl h0
  · refine .inr ?_
    obtain ⟨g, c2, e, _, _⟩ := own_atJ h (j := 0) (by omega)
    cases e
    refine ⟨g, 0, rfl, own_lt h g rfl, fun j hj => ?_⟩
    obtain ⟨g2, c2, e, _, hc⟩ := own_atJ h hj
    cases e
    rw [Nat.zero_add]; exact hc
def ixN (l : List Int) (t : Int) : Nat := l.idxOf t
def ixI (l : List Int) (t : Int) : Int := if t ∈ l then (ixN l t : Int) else -1
theorem ix_first (l : List Int) : ∀ {j : Nat} {t : Int} (hj : j < l.length), (∀ i (hi : i < j), (l[i]'(by omega)) ≠ t) → l[j] = t → ixN l t = j := by
  induction l with
  | nil => intro j t hj; simp at hj
  | cons x l ih =>
    intro j t hj hb he
    unfold ixN at *
    rw [List.idxOf_cons]
    cases j with
    | zero =>
      simp at he
      simp [he]
    | succ j =>
      have h0 : x ≠ t := hb 0 (by omega)
      have := ih (j := j) (t := t) (by simpa using hj) (fun i hi => by have := hb (i + 1) (by omega); simpa using this) (by simpa using he)
      have e1 : (x == t) = false := by simpa using h0
      rw [this, e1]; rfl
def hasQ (l : List Int) (t : Int) : Bool := decide (t ∈ l)
theorem index_any {w : World} {A : Option Addr} {c : Nat} {l : List Int} (t : Int) (h : Ch w A l) (hl : l.length ≤ 70000) : Calls Try.prog 28 #[.slice A l.length c, .int .i64 t] w fun e w' => e = .returned (.int .i64 (ixI l t)) ∧ w = w' := by
  have H := hide h
  clear h
  go_enter Try.func28, Try.ntmps28
  go_wp2_with fail
  go_loopw [8] (fun i wr => ∃ j : Nat, j ≤ l.length ∧ i = .int .i64 (j : Int) ∧ (∀ i (hi : i < j) (h : i < l.length), l[i] ≠ t) ∧ w = wr) (fun i _ => l.length - (intOf i).toNat)
  case atStart => exact ⟨0, by omega, rfl, fun i hi => by omega, rfl⟩
  case round =>
    obtain ⟨j, hj, rfl, hb, rfl⟩ := hrel
    by_cases hlt : j < l.length
    · obtain ⟨b, off, rfl, r⟩ := H.out.at_ hlt
      have r0 := r w (Ext.refl _)
      clear r
      by_cases e : l[j] = t
      · have E := hide (show ixI l t = (j : Int) by
          unfold ixI
          rw [if_pos (e ▸ List.getElem_mem hlt), ix_first l hlt (fun i hi => hb i hi (by omega)) e])
        rw [e] at r0
        clear hb
        go_wp2_with fail
        go_ret
        exact ⟨by rw [E.out]; simp, rfl⟩
      · have e2 : ¬ t = l[j] := fun q => e q.symm
        have HB := hide hb
        clear hb
        go_wp2_with fail
        go_roundw
        case rel => exact ⟨j + 1, by omega, by go_num, fun i hi h => by
          by_cases q : i = j
          · subst q; exact e
          · exact HB.out i (by omega) h, trivial⟩
        case measure => simp [intOf]; omega
    · have E := hide (show ixI l t = -1 by
        unfold ixI
        rw [if_neg]
        intro hm
        obtain ⟨i, hi, he⟩ := List.getElem_of_mem hm
        exact hb i (by omega) hi he)
      obtain rfl : j = l.length := by omega
      clear hb
      go_wp2_with fail
      go_ret
      exact ⟨by rw [E.out]; simp, rfl⟩
theorem contains_any {w : World} {A : Option Addr} {c : Nat} {l : List Int} (t : Int) (h : Ch w A l) (hl : l.length ≤ 70000) : Calls Try.prog 27 #[.slice A l.length c, .int .i64 t] w fun e w' => e = .returned (.bool (hasQ l t)) ∧ w = w' := by
  have hc := index_any (c := c) t h hl
  by_cases hm : t ∈ l
  · have E := hide (show hasQ l t = true by unfold hasQ; simpa using hm)
    have e2 : ixI l t = (ixN l t : Int) := by unfold ixI; rw [if_pos hm]
    rw [e2] at hc
    clear e2
    go_enter Try.func27, Try.ntmps27
    go_wp2_with fail
    refine hc.mono ?_
    rintro e w1 ⟨rfl, rfl⟩
    go_wp2_with fail
    go_ret
    exact ⟨by rw [E.out]; simp, rfl⟩
  · have E := hide (show hasQ l t = false by unfold hasQ; simpa using hm)
    have e2 : ixI l t = -1 := by unfold ixI; rw [if_neg hm]
    rw [e2] at hc
    clear e2
    go_enter Try.func27, Try.ntmps27
    go_wp2_with fail
    refine hc.mono ?_
    rintro e w1 ⟨rfl, rfl⟩
    go_wp2_with fail
    go_ret
    exact ⟨by rw [E.out]; simp, rfl⟩
def fS (g : Rq → Sl3) (S : List En) : Rq → Option Sl3 := fun r => if hasR S r = true then some (g r) else none
/-- A queue: its block and its map's, its list, those who wait; all of it lies in the blocks O. -/
structure QI (w : World) (O : List Nat) (C m : Nat) (ov : Value) (g : Rq → Sl3) (S : List En) : Prop where
  c : Blk w C #[ov, .map (some m)] 57
  row : w.ownsRow 0 33 2 ov S.length (rcells (ks S))
  map : MpT w m (fS g S) S.length
  rows : ∀ e, e ∈ S → RowI w (slV (g e.1)) e.2
  apart : ∀ e, e ∈ S → ∀ e', e' ∈ S → ∀ k, (slV (g e.1)).ownBlock = some k → (slV (g e'.1)).ownBlock = some k → e.1 = e'.1
  oc : C ∈ O
  om : m ∈ O
  orow : ∀ k, ov.ownBlock = some k → k ∈ O
  owait : ∀ e, e ∈ S → ∀ k, (slV (g e.1)).ownBlock = some k → k ∈ O
  lt : ∀ k, k ∈ O → k < w.heap.size
  ok : Ok S
def QT (w : World) (O : List Nat) (C : Nat) (S : List En) : Prop := ∃ m ov g, QI w O C m ov g S
/-- What is new of O' is new to w. -/
def Fr (O O' : List Nat) (w : World) : Prop := ∀ k, k ∈ O' → k ∈ O ∨ w.heap.size ≤ k
theorem Fr.refl (O : List Nat) (w : World) : Fr O O w := fun k h => .inl h
section
variable {w w' : World} {O : List Nat} {C m : Nat} {ov : Value} {g : Rq → Sl3} {S : List En}
theorem QI.chg {T : List Nat} (h : QI w O C m ov g S) (x : Chg T w w') (hT : ∀ k, k ∈ O → k ∉ T) : QI w' O C m ov g S :=
  ⟨h.c.chg x (hT _ h.oc), own_chgB h.row x (fun k hk => hT _ (h.orow k hk)), h.map.chg x (hT _ h.om), fun e he => own_chgB (h.rows e he) x (fun k hk => hT _ (h.owait e he k hk)), h.apart, h.oc, h.om, h.orow, h.owait,
    fun k hk => Nat.lt_of_lt_of_le (h.lt k hk) x.size, h.ok⟩
theorem QI.ext (h : QI w O C m ov g S) (x : Ext w w') : QI w' O C m ov g S := h.chg (x.chg []) (by simp)
theorem QT.chg {T : List Nat} (h : QT w O C S) (x : Chg T w w') (hT : ∀ k, k ∈ O → k ∉ T) : QT w' O C S := by
  obtain ⟨m, ov, g, h⟩ := h
  exact ⟨m, ov, g, h.chg x hT⟩
theorem QT.ext (h : QT w O C S) (x : Ext w w') : QT w' O C S := h.chg (x.chg []) (by simp)
theorem QT.ok (h : QT w O C S) : Ok S := by obtain ⟨m, ov, g, h⟩ := h; exact h.ok
theorem QT.lt (h : QT w O C S) : ∀ k, k ∈ O → k < w.heap.size := by obtain ⟨m, ov, g, h⟩ := h; exact h.lt
theorem QI.cm (h : QI w O C m ov g S) : C ≠ m := fun e => h.map.noC _ _ (e ▸ h.c)
end
/-- One that New did not give. -/
def Nob (w : World) (p : Value) : Prop := p = .pointer none ∨ ∃ C, p = .pointer (some ⟨C, 0, none⟩) ∧ Blk w C #[.slice none 0 0, .map none] 57
theorem Nob.ext {w w' : World} {p : Value} (h : Nob w p) (x : Ext w w') : Nob w' p := by
  rcases h with h | ⟨C, h, b⟩
  · exact .inl h
  · exact .inr ⟨C, h, b.ext x⟩
/-- Any queue: what it has (one of nobody: nothing), and whether New gave it. -/
def Any (w : World) (p : Value) (b : Bool) (S : List En) : Prop := (b = false ∧ S = [] ∧ Nob w p) ∨ (b = true ∧ ∃ O C, p = .pointer (some ⟨C, 0, none⟩) ∧ QT w O C S)
theorem Any.ext {w w' : World} {p : Value} {b : Bool} {S : List En} (h : Any w p b S) (x : Ext w w') : Any w' p b S := by
  rcases h with ⟨h1, h2, h⟩ | ⟨h1, O, C, h2, h⟩
  · exact .inl ⟨h1, h2, h.ext x⟩
  · exact .inr ⟨h1, O, C, h2, h.ext x⟩
theorem QT.any {w : World} {O : List Nat} {C : Nat} {S : List En} (h : QT w O C S) : Any w (.pointer (some ⟨C, 0, none⟩)) true S := .inr ⟨rfl, O, C, rfl, h⟩
theorem Nob.any {w : World} {p : Value} (h : Nob w p) : Any w p false [] := .inl ⟨rfl, rfl, h⟩
/-- What a queue has. -/
inductive OwnV (w : World) (S : List En) : Value → Prop
  | none : S = [] → OwnV w S (.agg #[.slice none 0 0, .map none])
  | some (O : List Nat) (C m : Nat) (ov : Value) (g : Rq → Sl3) : QI w O C m ov g S → OwnV w S (.agg #[ov, .map (some m)])
theorem neq_nn (w : World) : Sem.run Try.prog (binOp .neq 55 (.map none) (.map none)) w = .ok (.bool false) w := by kernel_rfl
theorem neq_sn (m : Nat) (w : World) : Sem.run Try.prog (binOp .neq 55 (.map (some m)) (.map none)) w = .ok (.bool true) w := by kernel_rfl
theorem run_f0 (a b : Value) (w : World) : Sem.run Try.prog (Instr.field 57 (.agg #[a, b]) 0) w = .ok a w := by kernel_rfl
theorem run_f1 (a b : Value) (w : World) : Sem.run Try.prog (Instr.field 57 (.agg #[a, b]) 1) w = .ok b w := by kernel_rfl
theorem given_any {w : World} {p : Value} {b : Bool} {S : List En} (h : Any w p b S) : Calls Try.prog 22 #[p] w fun e w' => e = .returned (.bool b) ∧ w = w' := by
  rcases h with ⟨rfl, rfl, rfl | ⟨C, rfl, h⟩⟩ | ⟨rfl, O, C, rfl, m, ov, g, h⟩
  · go_enter Try.func22, Try.ntmps22
    go_wp2
    go_ret
    exact ⟨rfl, rfl⟩
  · have r := h.cell
    have n1 := neq_nn
    go_enter Try.func22, Try.ntmps22
    go_wp2
    go_ret
    exact ⟨by simp, rfl⟩
  · have r := h.c.cell
    have n1 := neq_sn
    go_enter Try.func22, Try.ntmps22
    go_wp2
    go_ret
    exact ⟨by simp, rfl⟩
theorem own_any {w : World} {p : Value} {b : Bool} {S : List En} (h : Any w p b S) : Calls Try.prog 26 #[p] w fun e w' => ∃ v, e = .returned v ∧ OwnV w' S v ∧ Ext w w' := by
  rcases h with ⟨rfl, rfl, rfl | ⟨C, rfl, h⟩⟩ | ⟨rfl, O, C, rfl, m, ov, g, h⟩
  · go_enter Try.func26, Try.ntmps26
    go_wp2
    refine bodyPost_ret (v := .agg #[.slice none 0 0, .map none]) (by simp [results, Try.results26, go_sem, *]) rfl ?_
    refine ⟨_, rfl, .none rfl, ?_⟩
    ((repeat (with_reducible refine Ext.set ?_ (by simp) _)); exact Ext.alloc _ _)
  · have r := (h.ext (Ext.alloc w (.cells #[.slice none 0 0, .map none] 57))).cell
    go_enter Try.func26, Try.ntmps26
    go_wp2
    refine bodyPost_ret (v := .agg #[.slice none 0 0, .map none]) (by simp [results, Try.results26, go_sem, *]) rfl ?_
    refine ⟨_, rfl, .none rfl, ?_⟩
    ((repeat (with_reducible refine Ext.set ?_ (by simp) _)); exact Ext.alloc _ _)
  · obtain ⟨A, c, rfl⟩ := own_sl h.row
    have h2 := h.ext (Ext.alloc w (.cells #[.slice none 0 0, .map none] 57))
    have r := h2.c.cell
    go_enter Try.func26, Try.ntmps26
    go_wp2
    refine bodyPost_ret (v := .agg #[.slice A S.length c, .map (some m)]) (by simp [results, Try.results26, go_sem, *]) rfl ?_
    have h3 := h.ext (Ext.alloc w (.cells #[.slice A S.length c, .map (some m)] 57))
    exact ⟨_, rfl, .some O C m _ g h3, Ext.alloc _ _⟩
theorem may_any (r : Rq) (w : World) : Calls Try.prog 23 #[(Value.agg #[.int .i64 r.1, .int .i64 r.2])] w fun e w' => e = .returned (.bool (mayR r)) ∧ Ext w w' := by
  obtain ⟨k, o⟩ := r
  simp only
  by_cases a0 : k = 1
  · subst a0
    by_cases a1 : 0 ≤ o
    · by_cases a2 : o ≤ 65535
      · have E := hide (show mayR (1, o) = true by unfold mayR; simp; omega)
        generalize mayR (1, o) = ok at *
        go_enter Try.func23, Try.ntmps23
        go_wp2
        go_ret
        exact ⟨by rw [E.out]; try simp, Ext.alloc _ _⟩
      · have E := hide (show mayR (1, o) = false by unfold mayR; simp; omega)
        generalize mayR (1, o) = ok at *
        go_enter Try.func23, Try.ntmps23
        go_wp2
        go_ret
        exact ⟨by rw [E.out]; try simp, Ext.alloc _ _⟩
    · have E := hide (show mayR (1, o) = false by unfold mayR; simp; omega)
      generalize mayR (1, o) = ok at *
      go_enter Try.func23, Try.ntmps23
      go_wp2
      go_ret
      exact ⟨by rw [E.out]; try simp, Ext.alloc _ _⟩
  · by_cases a1 : k = 2
    · subst a1
      have E := hide (show mayR (2, o) = (o == 0) by unfold mayR; simp; by_cases q : o = 0 <;> simp [q])
      generalize mayR (2, o) = ok at *
      go_enter Try.func23, Try.ntmps23
      go_wp2
      go_ret
      exact ⟨by rw [E.out]; try simp, Ext.alloc _ _⟩
    · have E := hide (show mayR (k, o) = false by unfold mayR; simp; omega)
      generalize mayR (k, o) = ok at *
      go_enter Try.func23, Try.ntmps23
      go_wp2
      go_ret
      exact ⟨by rw [E.out]; try simp, Ext.alloc _ _⟩
theorem len_any {w : World} {p : Value} {b : Bool} {S : List En} (h : Any w p b S) : Calls Try.prog 17 #[p] w fun e w' => e = .returned (.int .i64 (S.length : Int)) ∧ Ext w w' := by
  have f0 := run_f0
  go_enter Try.func17, Try.ntmps17
  go_wp2_with fail
  refine (own_any h).mono ?_
  rintro e w1 ⟨v, rfl, ho, hx⟩
  cases ho with
  | none e =>
    subst e
    go_wp2_with fail
    go_ret
    exact ⟨by simp, hx⟩
  | some O C m ov g h1 =>
    obtain ⟨A, c, rfl⟩ := own_sl h1.row
    go_wp2_with fail
    go_ret
    exact ⟨by simp, hx⟩
theorem new_any (w : World) : Calls Try.prog 7 #[] w fun e w' => ∃ O C, e = .returned (.pointer (some ⟨C, 0, none⟩)) ∧ QT w' O C [] ∧ (∀ k, k ∈ O → w.heap.size ≤ k) ∧ Ext w w' := by
  have hmm := @run_makeMap Try.prog
  go_enter Try.func7, Try.ntmps7
  go_wp2_with fail
  go_ret
  have hb := Blk.new (w.alloc (.map #[] 0)) #[.slice none 0 0, .map (some w.heap.size)] 57
  have h1 : MpT ((w.alloc (.map #[] 0)).alloc (.cells #[.slice none 0 0, .map (some w.heap.size)] 57)) w.heap.size (fS (fun _ => ⟨none, 0, 0⟩) []) 0 :=
    MpT.of ((World.ownsMap_made w Try.prog 33 rdS).alloc _) rep_no
  refine ⟨[w.heap.size, w.heap.size + 1], w.heap.size + 1, by simp, ⟨w.heap.size, .slice none 0 0, fun _ => ⟨none, 0, 0⟩, ⟨by simpa using hb, own_nil _ _ _ _, h1, by simp, by simp, by simp, by simp, by simp [Value.ownBlock], by simp, by simp <;> omega, ok_nil⟩⟩, by simp <;> omega, (Ext.alloc _ _).trans (Ext.alloc _ _)⟩
end Go.Proofs.Ytonaibpenijomaa
