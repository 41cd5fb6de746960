/- How many entries are right together: as a number; what the document has of all threads, in memory. -/
import Derived.Test.YtacneghgimfklaaJB
import Derived.Test.YtacneghgimfklaaJA
import Derived.Test.YtacneghgimfklaaR19
import Derived.Test.YtacneghgimfklaaR20
import Derived.Laws.OwnMore
import Derived.Laws.AppendOwnNone
namespace Go.Proofs.Ytacneghgimfklaa
open Go.RowKit Go.Maps
set_option linter.unusedSimpArgs false
set_option linter.unusedVariables false
set_option maxRecDepth 100000
set_option maxHeartbeats 8000000


def stN (S0 : St) (f : Nat → Ent) : Nat → St × (Nat → Dg)
  | 0 => (S0, D0)
  | j + 1 => (takeS (stN S0 f j).1 (stN S0 f j).2 (f j), takeD (stN S0 f j).1 (stN S0 f j).2 (f j))
def okJ (S0 : St) (f : Nat → Ent) (j : Nat) : Bool := takeB (stN S0 f j).1 (stN S0 f j).2 (f j)
def cntR (S0 : St) (f : Nat → Ent) (n : Nat) : Nat := ((List.range n).find? fun j => !okJ S0 f j).getD n
theorem cnt_eq {S0 : St} {f : Nat → Ent} {n j : Nat} (h : ∀ i, i < j → okJ S0 f i = true) (hj : j ≤ n) (hn : j < n → okJ S0 f j = false) : cntR S0 f n = j := by
  unfold cntR
  by_cases e : j < n
  · rw [show (List.range n).find? (fun j => !okJ S0 f j) = some j from ?_]
    · rfl
    · rw [List.find?_range_eq_some]
      exact ⟨by rw [hn e]; rfl, by simpa using e, fun i hi => by rw [h i hi]; rfl⟩
  · obtain rfl : j = n := by omega
    rw [List.find?_eq_none.2]
    · rfl
    · intro i hi
      rw [h i (List.mem_range.1 hi)]; simp
theorem cnt_le (S0 : St) (f : Nat → Ent) (n : Nat) : cntR S0 f n ≤ n := by
  unfold cntR
  cases e : (List.range n).find? fun j => !okJ S0 f j with
  | none => simp
  | some j => have := List.mem_of_find?_eq_some e; simp at this ⊢; omega
theorem cnt_ok {S0 : St} {f : Nat → Ent} {n i : Nat} (h : i < cntR S0 f n) : okJ S0 f i = true := by
  unfold cntR at h
  cases e : (List.range n).find? fun j => !okJ S0 f j with
  | none =>
    rw [e] at h
    rw [List.find?_eq_none] at e
    have := e i (List.mem_range.2 (by simpa using h))
    simpa using this
  | some j =>
    rw [e] at h
    rw [List.find?_range_eq_some] at e
    have := e.2.2 i (by simpa using h)
    simpa using this
theorem stN_ok {S0 : St} (h : Ok S0) (f : Nat → Ent) (j : Nat) : Ok (stN S0 f j).1 := by
  induction j with
  | zero => exact h
  | succ j ih => exact takeS_ok ih _ _
theorem stN_NM (S0 : St) (f : Nat → Ent) (j : Nat) : (stN S0 f j).1.N = S0.N ∧ (stN S0 f j).1.M = S0.M := by
  induction j with
  | zero => exact ⟨rfl, rfl⟩
  | succ j ih =>
    have := takeS_NM (stN S0 f j).1 (stN S0 f j).2 (f j)
    exact ⟨this.1.trans ih.1, this.2.trans ih.2⟩
theorem stN_bd (S0 : St) (f : Nat → Ent) (j : Nat) : Bd j (stN S0 f j).2 := by
  induction j with
  | zero => exact bd_0
  | succ j ih => exact ih.take _ _
/-! ### In memory -/
def av (D : Nat → Dg) (sl : Nat → Value) (i : Nat) : Value :=
  if i % 6 = 0 then .int .i64 (clI (D (i / 6))) else if i % 6 = 1 then .bool ((D (i / 6)).st != 0) else if i % 6 = 2 then .int .i64 (D (i / 6)).kd
  else if i % 6 = 3 then .int .i64 (D (i / 6)).ob else if i % 6 = 4 then .int .i64 (D (i / 6)).ar else sl (i / 6)
def atc (D : Nat → Dg) (sl : Nat → Value) : Array Value := ((List.range 48).map (av D sl)).toArray
def a6 (d : Dg) (v : Value) : List Value := [.int .i64 (clI d), .bool (d.st != 0), .int .i64 d.kd, .int .i64 d.ob, .int .i64 d.ar, v]
section
variable {D : Nat → Dg} {sl : Nat → Value}
theorem atc_size : (atc D sl).size = 48 := by simp [atc]
theorem atc_at {i : Nat} (h : i < 48) : (atc D sl)[i]? = some (av D sl i) := by
  unfold atc
  rw [List.getElem?_toArray, List.getElem?_map, List.getElem?_range h]; rfl
theorem atc_6 {t k : Nat} (ht : t < 8) (hk : k < 6) : (atc D sl)[t * 6 + k]? = (a6 (D t) (sl t))[k]? := by
  rw [atc_at (by omega)]
  unfold av a6
  rw [show (t * 6 + k) % 6 = k by omega, show (t * 6 + k) / 6 = t by omega]
  rcases (by omega : k = 0 ∨ k = 1 ∨ k = 2 ∨ k = 3 ∨ k = 4 ∨ k = 5) with rfl | rfl | rfl | rfl | rfl | rfl <;> rfl
theorem atc_lay {t : Nat} (ht : t < 8) (d : Dg) (v : Value) : layC (atc D sl) (t * 6) (a6 d v) = atc (upd D t d) (upd sl t v) := by
  apply Array.ext_getElem?
  intro j
  have hl : (a6 d v).length = 6 := rfl
  rw [layC_get _ _ _ _ (by rw [atc_size, hl]; omega), hl]
  by_cases h : t * 6 ≤ j ∧ j < t * 6 + 6
  · rw [if_pos h]
    obtain ⟨k, rfl⟩ : ∃ k, j = t * 6 + k := ⟨j - t * 6, by omega⟩
    rw [atc_6 ht (by omega), upd_same, upd_same, Nat.add_sub_cancel_left]
  · rw [if_neg h]
    by_cases hj : j < 48
    · rw [atc_at hj, atc_at hj]
      congr 1
      unfold av
      rw [upd_other _ _ (by omega), upd_other _ _ (by omega)]
    · rw [Array.getElem?_eq_none (by rw [atc_size]; omega), Array.getElem?_eq_none (by rw [atc_size]; omega)]
theorem all_atc (h : ∀ t, (sl t).oneCell' = true) : (atc D sl).all (·.oneCell') = true := by
  refine Array.all_eq_true_iff_forall_mem.2 fun v hv => ?_
  unfold atc at hv
  simp only [List.mem_toArray, List.mem_map] at hv
  obtain ⟨j, _, rfl⟩ := hv
  unfold av
  repeat' split
  all_goals first | rfl | exact h _
theorem inf_a : (Try.prog.info? 51).map (·.size) = some 48 := by kernel_rfl
theorem atc_rng {w : World} {b : Nat} {t : TypeId} (h : Blk w b (atc D sl) t) : w.rangeAt b 0 (atc D sl).toList := fun j v hv => by rw [Nat.zero_add, h.cell, ← hv, Array.getElem?_toList]
theorem inf_al : (Try.prog.info? 51).map (·.size) = some (atc D sl).toList.length := by rw [Array.length_toList, atc_size]; exact inf_a
end
/-- What the document has behind some entries. -/
structure RT (w : World) (B bm ba : Nat) (S : St) (D : Nat → Dg) (V : Nat → List Ev) (sl : Nat → Value) : Prop where
  m : Blk w bm (rc S) 47
  a : Blk w ba (atc D sl) 51
  r : ∀ t, Lw w B (sl t) (V t)
theorem RT.ext {w w' : World} {B bm ba : Nat} {S : St} {D : Nat → Dg} {V : Nat → List Ev} {sl : Nat → Value} (h : RT w B bm ba S D V sl) (x : Ext w w') : RT w' B bm ba S D V sl := ⟨h.m.ext x, h.a.ext x, fun t => (h.r t).ext x⟩
theorem RT.one {w : World} {B bm ba : Nat} {S : St} {D : Nat → Dg} {V : Nat → List Ev} {sl : Nat → Value} (h : RT w B bm ba S D V sl) : ∀ t, (sl t).oneCell' = true := fun t => by
  obtain ⟨A, c, e⟩ := own_sl (h.r t)
  rw [e]; rfl
theorem zero_a (w : World) : (zeroValue 51).run Try.prog w = .ok (.agg (atc D0 fun _ => .slice none 0 0)) w := by kernel_rfl
/-- The results. -/
theorem rres_of {fn : Func} (h : fn.results = #[.tmp 8, .cell 9 47, .cell 10 51]) (tmps : Array Value) (w : World) {b9 b10 : Nat} {S : St} {D : Nat → Dg} {sl : Nat → Value} {u : Value} (e8 : tmps.getD 8 undef = u) (e9 : tmps.getD 9 undef = .pointer (some ⟨b9, 0, none⟩)) (e10 : tmps.getD 10 undef = .pointer (some ⟨b10, 0, none⟩))
    (h9 : Blk w b9 (rc S) 47) (h10 : Blk w b10 (atc D sl) 51) : (results fn tmps).run Try.prog w = .ok (.tuple #[u, .agg (rc S), .agg (atc D sl)]) w := by
  have l10 : (loadVar 51 ⟨b10, 0, none⟩).run Try.prog w = .ok (.agg (atc D sl)) w := by
    rw [run_loadVar_mid w b10 0 51 (atc D sl).toList _ (atc_rng h10) Try.underlying51 rfl inf_al, Array.toArray_toList]
  simp only [Array.getD_eq_getD_getElem?] at e8 e9 e10
  simp only [results, h]
  simp [Sem.run_bind, Result.andThen, e8, e9, e10, asAddr, ld_run w h9, l10]
end Go.Proofs.Ytacneghgimfklaa

namespace Go.Proofs.Ytacneghgimfklaa
open Go.RowKit Go.Maps
set_option linter.unusedSimpArgs false
set_option linter.unusedVariables false
set_option maxRecDepth 100000
set_option maxHeartbeats 4000000


theorem inf_ev : (Try.prog.info? 29).map (fun i => (i.zero, i.size, i.bytes)) = some (some (.agg #[.int .i64 0, .int .i64 0, .int .i64 0, .int .i64 0, .int .i64 0]), 5, 40) := by kernel_rfl
theorem evl_one' (l : List Ev) : ∀ u ∈ evl l, u.oneCell' = true := by
  intro u hu
  unfold evl at hu
  rw [List.mem_flatMap] at hu
  obtain ⟨x, _, hx⟩ := hu
  simp [evc] at hx
  rcases hx with h | h | h | h | h <;> rw [h] <;> rfl
theorem own_Tk {w w' : World} {row : Option Nat} (hg : w.grownBy w' row) : Chg row.toList w w' := Chg.grow1 hg (by rintro k rfl; simp)
theorem wp_dup {op : Oper} {a : Act} {w : World} {K : Act → World → Prop} {Q : Exit → Act → World → Prop} (s x : Operand) (ho : op.op = .call { callee := .builtin .append, args := #[s, x], argTypes := #[48, 48] })
    {v : Value} {l : List Ev} {B : Nat} (hs : a.eval s = .slice none 0 0) (hx : a.eval x = v) (h : Lw w B v l) (hl : l.length ≤ 1000)
    (k : ∀ A' c' w', Lw w' w.heap.size (.slice A' l.length c') l → Ext w w' → K (a.put op.dst (.slice A' l.length c')) w') : op.wp Try.prog a w K Q := by
  obtain ⟨ti, hi, hz, hsize, hby⟩ := info_parts inf_ev
  have hh := h
  rcases h.2 with ⟨rfl, h0⟩ | ⟨g, cap, cur, rfl, hb, hg, h3, h4, h5, h6⟩
  · have hrun := run_append_owned_none (P := Try.prog) (w := w) B 48 op.type 29 ti 5 Try.underlying48 hi (.slice none 0 0) 0 [] (own_nil _ _ _ _)
    unfold Oper.wp
    simp [execOp, ho, resolve, invoke, builtin, hs, hx, hrun, Result.andThen]
    have e0 : l = [] := List.eq_nil_of_length_eq_zero h0
    subst e0
    exact k none 0 w (own_nil _ _ _ _) (Ext.refl _)
  · refine wp_append_own w s x 48 ho w.heap.size 29 ti _ 5 40 Try.underlying48 hi hz hsize hby rfl (by omega) (.slice none 0 0) 0 [] hs (own_nil _ _ _ _) ⟨g, 0, none⟩ l.length cap (evl l) hx hh.1 (hh.cells rfl) (evl_one' l) (by unfold maxLen; omega) (by omega) (Nat.le_refl _) ?_
    intro v' w' ho' hg' _
    rw [Nat.zero_add, List.nil_append] at ho'
    obtain ⟨A', c', rfl⟩ := own_sl ho'
    exact k A' c' w' ho' (Ext.grown (Ext.refl _) hg' (fun k hk => by simp [Value.ownBlock] at hk))
theorem wp_one {op : Oper} {a : Act} {w : World} {K : Act → World → Prop} {Q : Exit → Act → World → Prop} (s x : Operand) (ho : op.op = .call { callee := .builtin .append, args := #[s, x], argTypes := #[48, 48] })
    {A : Option Addr} {c c2 nb : Nat} {l : List Ev} {B : Nat} {y : Ev} (hs : a.eval s = .slice A l.length c) (hx : a.eval x = .slice (some ⟨nb, 0, none⟩) 1 c2) (h : Lw w B (.slice A l.length c) l) (hn : Blk w nb (evc y) 29) (hl : l.length ≤ 1000) (hB : B ≤ w.heap.size)
    (k : ∀ A' c' w', Lw w' B (.slice A' (l.length + 1) c') (l ++ [y]) → (∃ T, (∀ t, t ∈ T → B ≤ t) ∧ Chg T w w') → K (a.put op.dst (.slice A' (l.length + 1) c')) w') : op.wp Try.prog a w K Q := by
  obtain ⟨ti, hi, hz, hsize, hby⟩ := info_parts inf_ev
  refine wp_append_own w s x 48 ho B 29 ti _ 5 40 Try.underlying48 hi hz hsize hby rfl (by omega) (.slice A l.length c) l.length (evl l) hs h ⟨nb, 0, none⟩ 1 c2 (evc y).toList hx rfl (fun j u hu => by rw [Addr.add_mid, Nat.zero_add, hn.cell, ← hu, Array.getElem?_toList]) (by simp [evc, Value.oneCell']) (by unfold maxLen; omega) (by omega) hB ?_
  intro v' w' ho' hg' _
  obtain ⟨A', c', rfl⟩ := own_sl ho'
  have e : evl l ++ (evc y).toList = evl (l ++ [y]) := by rw [evl_app, evl_one]
  rw [e] at ho'
  refine k A' c' w' ?_ ⟨_, fun t ht => own_row h t (by simpa using ht), own_Tk hg'⟩
  unfold Lw
  rw [List.length_append]; exact ho'
end Go.Proofs.Ytacneghgimfklaa
