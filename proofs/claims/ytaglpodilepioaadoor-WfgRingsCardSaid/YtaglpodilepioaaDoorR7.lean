/- The document's search for a ring. -/
import Derived.Test.YtaglpodilepioaaDoorR3
import Derived.Test.YtaglpodilepioaaDoorA4
import Derived.Test.YtaglpodilepioaaDoorP6
namespace Go.Proofs.YtaglpodilepioaaDoor
open Go.RowKit
set_option linter.unusedSimpArgs false
set_option linter.unusedVariables false
set_option maxRecDepth 100000
set_option maxHeartbeats 8000000


theorem enN_one (l : List Nat) : ∀ u ∈ l.map enN, u.oneCell' = true := by
  intro u hu
  obtain ⟨x, _, rfl⟩ := List.mem_map.1 hu
  rfl
theorem wp_dup {op : Oper} {a : Act} {w : World} {K : Act → World → Prop} {Q : Exit → Act → World → Prop} (s x : Operand) (ho : op.op = .call { callee := .builtin .append, args := #[s, x], argTypes := #[38, 38] })
    {v : Value} {l : List Nat} {B n : Nat} (hs : a.eval s = .slice none 0 0) (hx : a.eval x = v) (h : w.ownsRow B 3 1 v n (l.map enN)) (hl : n ≤ 1000)
    (k : ∀ A' c' w', w'.ownsRow w.heap.size 3 1 (.slice A' n c') n (l.map enN) → Ext w w' → K (a.put op.dst (.slice A' n c')) w') : op.wp Tryd.prog a w K Q := by
  obtain ⟨ti, hi, hz, hsize, hby⟩ := info_parts inf_int
  have hh := h
  rcases h.2 with ⟨rfl, h0⟩ | ⟨g, cap, cur, rfl, hb, hg, h3, h4, h5, h6⟩
  · have hrun := run_append_owned_none (P := Tryd.prog) (w := w) B 38 op.type 3 ti 1 Tryd.underlying38 hi (.slice none 0 0) 0 [] (own_nil _ _ _ _)
    unfold Oper.wp
    simp [execOp, ho, resolve, invoke, builtin, hs, hx, hrun, Result.andThen]
    subst h0
    have e0 : l = [] := by have := hh.1; simpa using this
    subst e0
    exact k none 0 w (own_nil _ _ _ _) (Ext.refl _)
  · refine wp_append_own w s x 38 ho w.heap.size 3 ti _ 1 8 Tryd.underlying38 hi hz hsize hby rfl (by omega) (.slice none 0 0) 0 [] hs (own_nil _ _ _ _) ⟨g, 0, none⟩ n cap (l.map enN) hx hh.1 (hh.cells rfl) (enN_one l) (by unfold maxLen; omega) (by omega) (Nat.le_refl _) ?_
    intro v' w' ho' hg' _
    rw [Nat.zero_add, List.nil_append] at ho'
    obtain ⟨A', c', rfl⟩ := own_sl ho'
    exact k A' c' w' ho' (Ext.grown (Ext.refl _) hg' (fun k hk => by simp [Value.ownBlock] at hk))
theorem wp_one {op : Oper} {a : Act} {w : World} {K : Act → World → Prop} {Q : Exit → Act → World → Prop} (s x : Operand) (ho : op.op = .call { callee := .builtin .append, args := #[s, x], argTypes := #[38, 38] })
    {A : Option Addr} {c c2 nb n : Nat} {l : List Nat} {B : Nat} {y : Nat} (hs : a.eval s = .slice A n c) (hx : a.eval x = .slice (some ⟨nb, 0, none⟩) 1 c2) (h : w.ownsRow B 3 1 (.slice A n c) n (l.map enN)) (hn : Blk w nb #[.int .i64 (y : Int)] 3) (hl : n ≤ 1000) (hB : B ≤ w.heap.size)
    (k : ∀ A' c' w', w'.ownsRow B 3 1 (.slice A' (n + 1) c') (n + 1) ((l ++ [y]).map enN) → (∀ W, Ext W w → W.heap.size ≤ B → Ext W w') → K (a.put op.dst (.slice A' (n + 1) c')) w') : op.wp Tryd.prog a w K Q := by
  obtain ⟨ti, hi, hz, hsize, hby⟩ := info_parts inf_int
  refine wp_append_own w s x 38 ho B 3 ti _ 1 8 Tryd.underlying38 hi hz hsize hby rfl (by omega) (.slice A n c) n (l.map enN) hs h ⟨nb, 0, none⟩ 1 c2 [.int .i64 (y : Int)] hx rfl (fun j u hu => by
    have hj := (List.getElem?_eq_some_iff.1 hu).1
    obtain rfl : j = 0 := by simpa using hj
    rw [show (⟨nb, 0, none⟩ : Addr).add 0 = ⟨nb, 0, none⟩ from rfl, hn.cell]; simpa using hu) (by simp [Value.oneCell']) (by unfold maxLen; omega) (by omega) hB ?_
  intro v' w' ho' hg' _
  obtain ⟨A', c', rfl⟩ := own_sl ho'
  refine k A' c' w' (by rw [List.map_append]; exact ho') (fun W hW hWB => Ext.grown hW hg' (fun t ht => Nat.le_trans hWB (own_row h t ht)))
theorem fs_at {α β : Type} {F : α → Option β} : ∀ (l : List α) {k : Nat} {y : α} {r : β}, (∀ i, i < k → ∀ x, l[i]? = some x → F x = none) → l[k]? = some y → F y = some r → l.findSome? F = some r
  | [], k, y, r, _, h, _ => by simp at h
  | x :: l, 0, y, r, _, h, hp => by
    obtain rfl : x = y := by simpa using h
    rw [List.findSome?_cons, hp]
  | x :: l, k + 1, y, r, hn, h, hp => by
    rw [List.findSome?_cons, hn 0 (by omega) x rfl]
    exact fs_at (k := k) l (fun i hi x hx => hn (i + 1) (by omega) x (by simpa using hx)) (by simpa using h) hp
theorem fs_no {α β : Type} {F : α → Option β} (l : List α) (h : ∀ i, i < l.length → ∀ x, l[i]? = some x → F x = none) : l.findSome? F = none := by
  rw [List.findSome?_eq_none_iff]
  intro x hx
  obtain ⟨i, hi⟩ := List.getElem?_of_mem hx
  exact h i (List.getElem?_eq_some_iff.1 hi).1 x hi
/-- What the search tells. -/
def LgA (E : Gr) (s f : Nat) (t : List Nat) (w : World) (v : Value) (b : Bool) : Prop :=
  b = (lgr E s f t).isSome ∧ ∀ r, lgr E s f t = some r → ∃ B, w.ownsRow B 3 1 v r.length (r.map enN)
def LgC (R : Nat) (L : EL) (s z f : Nat) : Prop := ∀ (B n : Nat) (t : List Nat) (v : Value) (w : World), t.length + 1 = n → n + f = z → w.ownsRow B 3 1 v n ((s :: t).map enN) → RG w R 0 L →
  Calls Tryd.prog 33 #[.pointer (some ⟨R, 0, none⟩), v, .int .i64 (z : Int)] w fun e w' => ∃ v' b, e = .returned (.tuple #[v', .bool b]) ∧ LgA (eg L) s f t w' v' b ∧ Ext w w'
theorem last_at (s : Nat) (t : List Nat) : (s :: t)[t.length]? = some (t.getLastD s) := by
  have : (s :: t).getLast? = (s :: t)[(s :: t).length - 1]? := List.getLast?_eq_getElem?
  rw [List.length_cons, Nat.add_sub_cancel] at this
  rw [← this, List.getLast?_cons, List.getLastD_eq_getLast?]
theorem longer_0 {R : Nat} {L : EL} {s z : Nat} (hl : L.length < 1000) (hz : z ≤ 64) : LgC R L s z 0 := by
  intro B n t v w hn hz2 hrow hG
  obtain ⟨b, off, c, rfl, _, hlast⟩ := row_at hrow (show (s :: t)[n - 1]? = _ by rw [← hn, Nat.add_sub_cancel]; exact last_at s t)
  obtain ⟨b2, off2, c2, he2, _, hfirst⟩ := row_at hrow (show (s :: t)[0]? = some s from rfl)
  simp only [Value.slice.injEq, Option.some.injEq, Addr.mk.injEq, and_true] at he2
  obtain ⟨⟨rfl, rfl⟩, -, rfl⟩ := he2
  obtain ⟨q, rfl⟩ : ∃ q, n = q + 1 := ⟨n - 1, by omega⟩
  rw [Nat.add_sub_cancel] at hlast
  have d1 := hlast _ (Ext.refl _)
  have d2 := hfirst _ (Ext.refl _)
  rw [Nat.add_zero] at d2
  have HH := rhas_any (t.getLastD s : Int) (s : Int) w hG hl
  rw [hasI_nat] at HH
  have HH := hide HH
  have HR := hide (show LgA (eg L) s 0 t w (.slice (some ⟨b, off, none⟩) (q + 1) c) (eg L (t.getLastD s) s) by
    unfold LgA lgr
    cases he : eg L (t.getLastD s) s
    · exact ⟨by simp, fun r hr => by simp at hr⟩
    · refine ⟨by simp, fun r hr => ?_⟩
      obtain rfl : s :: t = r := by simpa using hr
      exact ⟨B, by rw [List.length_cons, hn]; exact hrow⟩)
  have hzq : (z : Int) = (q : Int) + 1 := by omega
  have hq64 : q < 64 := by omega
  generalize t.getLastD s = x at *
  generalize eg L x s = b1 at *
  rw [hzq]
  clear hlast hfirst hrow hG hn hz2 hzq
  go_enter Tryd.func33, Tryd.ntmps33
  go_wp2_with (go_at_call 10; (with_reducible refine (HH.out).mono ?_); rintro e9 w9 ⟨rfl, rfl⟩; go_frame)
  go_ret2
  exact ⟨_, _, rfl, HR.out, Ext.refl _⟩
end Go.Proofs.YtaglpodilepioaaDoor
