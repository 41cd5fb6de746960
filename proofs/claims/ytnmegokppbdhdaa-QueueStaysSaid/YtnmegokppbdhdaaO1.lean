/- Rows of slices that a law makes for its own, cut at their beginning, appended to. -/
import Derived.Test.YtnmegokppbdhdaaB1
namespace Go.Proofs.Ytnmegokppbdhdaa
open Go.RowKit
set_option linter.unusedVariables false
set_option linter.unusedSimpArgs false
set_option maxRecDepth 100000

theorem inf_q : (Try.prog.info? 27).map (fun i => (i.zero, i.size, i.bytes)) = some (some (.agg #[.slice none 0 0]), 1, 24) := by kernel_rfl
theorem inf_sint : (Try.prog.info? 25).map (fun i => (i.zero, i.size, i.bytes)) = some (some (.slice none 0 0), 1, 24) := by kernel_rfl
/-- A row of one-cell elements of type e, its block known whole up to its capacity. -/
def RowV (w : World) (e : TypeId) (A : Option Addr) (n c : Nat) (xs : List Value) : Prop :=
  xs.length = n ∧ n ≤ c ∧ c ≤ maxLen ∧ ((A = none ∧ c = 0) ∨ ∃ g off cur, A = some ⟨g, off, none⟩ ∧ Blk w g cur e ∧ cur.size = off + c ∧ ∀ j, j < n → cur[off + j]? = xs[j]?)
section
variable {w w' : World} {e : TypeId} {A : Option Addr} {n c : Nat} {xs : List Value}
theorem RowV.nil (w : World) (e : TypeId) : RowV w e none 0 0 [] := ⟨rfl, Nat.le_refl _, Nat.zero_le _, .inl ⟨rfl, rfl⟩⟩
theorem RowV.ext (h : RowV w e A n c xs) (x : Ext w w') : RowV w' e A n c xs := by
  obtain ⟨h1, h2, h3, h | ⟨g, off, cur, h4, h5, h6, h7⟩⟩ := h
  · exact ⟨h1, h2, h3, .inl h⟩
  · exact ⟨h1, h2, h3, .inr ⟨g, off, cur, h4, h5.ext x, h6, h7⟩⟩
theorem RowV.chg {T : List Nat} (h : RowV w e A n c xs) (x : Chg T w w') (hT : ∀ a, A = some a → a.block ∉ T) : RowV w' e A n c xs := by
  obtain ⟨h1, h2, h3, h | ⟨g, off, cur, h4, h5, h6, h7⟩⟩ := h
  · exact ⟨h1, h2, h3, .inl h⟩
  · exact ⟨h1, h2, h3, .inr ⟨g, off, cur, h4, h5.chg x (hT _ h4), h6, h7⟩⟩
theorem RowV.lt (h : RowV w e A n c xs) : ∀ a, A = some a → a.block < w.heap.size := by
  intro a ha
  obtain ⟨h1, h2, h3, ⟨h4, _⟩ | ⟨g, off, cur, h4, h5, h6, h7⟩⟩ := h
  · rw [h4] at ha; cases ha
  · rw [h4] at ha; cases ha; exact h5.lt
theorem RowV.at_ (h : RowV w e A n c xs) {j : Nat} (hj : j < n) : ∃ g off, A = some ⟨g, off, none⟩ ∧ ∀ w', Ext w w' → w'.cell? ⟨g, off + j, none⟩ = xs[j]? := by
  obtain ⟨h1, h2, h3, ⟨h4, h5⟩ | ⟨g, off, cur, h4, h5, h6, h7⟩⟩ := h
  · omega
  · exact ⟨g, off, h4, fun w' x => ((h5.ext x).cell _).trans (h7 j hj)⟩
theorem RowV.drop (h : RowV w e A n c xs) {k : Nat} (hk : k < n) : ∃ g off, A = some ⟨g, off, none⟩ ∧ RowV w e (some ⟨g, off + k, none⟩) (n - k) (c - k) (xs.drop k) := by
  obtain ⟨h1, h2, h3, ⟨h4, h5⟩ | ⟨g, off, cur, h4, h5, h6, h7⟩⟩ := h
  · omega
  · refine ⟨g, off, h4, by simp; omega, by omega, by omega, .inr ⟨g, off + k, cur, rfl, h5, by omega, fun j hj => ?_⟩⟩
    rw [List.getElem?_drop, Nat.add_assoc]
    exact h7 (k + j) (by omega)
theorem rowv_app {t ty : TypeId} {z : Value} {bytes : Nat} (ht : Try.prog.underlying t = some (.slice e)) (hinf : (Try.prog.info? e).map (fun i => (i.zero, i.size, i.bytes)) = some (some z, 1, bytes)) (hzs : z.cells.size = 1) (h : RowV w e A n c xs)
    {g0 cx : Nat} {u : Value} (hc : w.cell? ⟨g0, 0, none⟩ = some u) (h1 : u.oneCell' = true) (hn : n + 1 ≤ 1000) (hby : bytes ≤ 64) :
    ∃ A' c' w' g', (Builtin.append_ #[t, t] ty #[.slice A n c, .slice (some ⟨g0, 0, none⟩) 1 cx]).run Try.prog w = .ok (.slice A' (n + 1) c') w' ∧ RowV w' e A' (n + 1) c' (xs ++ [u]) ∧ Chg [g'] w w' ∧
      (∀ cs ty2, Blk w g' cs ty2 → ty2 = e) ∧ (w.heap.size ≤ g' ∨ ∃ a, A = some a ∧ a.block = g') ∧ (∀ a, A' = some a → a.block = g') := by
  obtain ⟨i, hi, hz, hsize, hb⟩ := info_parts hinf
  have hnews : ∀ j u', [u][j]? = some u' → w.cell? ((⟨g0, 0, none⟩ : Addr).add j) = some u' := by
    intro j u' hu
    match j with
    | 0 => simp at hu; subst hu; exact hc
    | j + 1 => simp at hu
  have hone : ∀ u' ∈ [u], u'.oneCell' = true := by intro u' hu; simp at hu; subst hu; exact h1
  have hbb : (n + 1) * bytes ≤ 140737488355328 := Nat.le_trans (Nat.mul_le_mul hn hby) (by omega)
  have hown : ∀ v' w', w'.ownsRow w.heap.size e 1 v' (n + 1) (xs ++ [u]) → Ext w w' → (Builtin.append_ #[t, t] ty #[.slice A n c, .slice (some ⟨g0, 0, none⟩) 1 cx]).run Try.prog w = .ok v' w' →
      ∃ A' c' w' g', (Builtin.append_ #[t, t] ty #[.slice A n c, .slice (some ⟨g0, 0, none⟩) 1 cx]).run Try.prog w = .ok (.slice A' (n + 1) c') w' ∧ RowV w' e A' (n + 1) c' (xs ++ [u]) ∧ Chg [g'] w w' ∧
      (∀ cs ty2, Blk w g' cs ty2 → ty2 = e) ∧ (w.heap.size ≤ g' ∨ ∃ a, A = some a ∧ a.block = g') ∧ (∀ a, A' = some a → a.block = g') := by
    intro v' w' h2 hx hr
    obtain ⟨hl, ⟨_, h0⟩ | ⟨g, cap, cur, rfl, hbg, hh, h3, h4, h5, h6⟩⟩ := h2
    · omega
    · refine ⟨_, _, w', g, hr, ⟨by simpa using hl, h3, h4, .inr ⟨g, 0, cur, rfl, hh, by omega, fun j hj => ?_⟩⟩, hx.chg _, fun cs ty2 hb => absurd hb.lt (by omega), .inl hbg, fun a ha => by cases ha; rfl⟩
      rw [Nat.zero_add, ← h6, List.getElem?_take_of_lt (by omega), Array.getElem?_toList]
  obtain ⟨h1', h2, h3, ⟨rfl, rfl⟩ | ⟨g, off, cur, rfl, h5, h6, h7⟩⟩ := h
  · obtain rfl : n = 0 := by omega
    obtain rfl : xs = [] := List.eq_nil_of_length_eq_zero h1'
    obtain ⟨v', w', r1, r2, r3, _⟩ := run_append_own (P := Try.prog) w w.heap.size t ty e i z 1 bytes ht hi hz hsize hb hzs (by omega) (.slice none 0 0) 0 [] (World.ownsRow_nil w _ e 1) ⟨g0, 0, none⟩ 1 cx [u] rfl hnews hone (by unfold maxLen; omega) hbb (Nat.le_refl _)
    exact hown v' w' r2 (Ext.grown (Ext.refl w) r3 (by intro k hk; cases hk)) r1
  · by_cases hroom : n + 1 ≤ c
    · have hr := run_append_room_cells (P := Try.prog) w t ty e i ht hi g off n c ⟨g0, 0, none⟩ 1 cx [u] (by rw [hsize]; rfl) hnews hone hroom
        (fun j hj => by simp at hj; subst hj; rw [hsize, Nat.mul_one, Nat.add_zero, h5.cell, Array.getElem?_eq_getElem (by omega)]; rfl) (fun j hj => h5.free _)
      rw [hsize, Nat.mul_one] at hr
      refine ⟨_, _, _, g, hr, ⟨by simp [h1'], hroom, h3, .inr ⟨g, off, cur.setIfInBounds (off + n) u, rfl, h5.set (off + n) u, by simpa using h6, fun j hj => ?_⟩⟩, (Chg.refl [g] w).set (p := ⟨g, off + n, none⟩) (.inl (by simp)) u, fun cs ty2 hb => hb.type h5, .inr ⟨_, rfl, rfl⟩, fun a ha => by cases ha; rfl⟩
      rw [Array.getElem?_setIfInBounds]
      by_cases e0 : j = n
      · subst e0
        rw [if_pos rfl, if_pos (by omega), List.getElem?_append_right (by omega), h1', Nat.sub_self]; rfl
      · rw [if_neg (by omega), h7 j (by omega), List.getElem?_append_left (by omega)]
    · obtain ⟨v', w', r1, r2, r3⟩ := run_append_arg_grows (P := Try.prog) w t ty e i z 1 bytes ht hi hz hsize hb hzs (by omega) ⟨g, off, none⟩ n c xs (by omega) (fun j u' hu => by
        have hj : j < n := by have := (List.getElem?_eq_some_iff.1 hu).1; omega
        rw [Addr.add_lit, h5.cell, h7 j hj]; exact hu) ⟨g0, 0, none⟩ 1 cx [u] rfl hnews (by omega) (by unfold maxLen; omega) hbb
      exact hown v' w' r2 (Ext.grown (Ext.refl w) r3 (by intro k hk; cases hk)) r1
end
theorem wpList_rowv {ops : Array Oper} {rest : List Oper} {o : Oper} {a : Act} {w : World} {Q : Exit → Act → World → Prop} {t e : TypeId}
    (hg : o.guard = none) (s x : Operand) (ho : o.op = .call { callee := .builtin .append, args := #[s, x], argTypes := #[t, t] })
    {z : Value} {bytes : Nat} (ht : Try.prog.underlying t = some (.slice e)) (hinf : (Try.prog.info? e).map (fun i => (i.zero, i.size, i.bytes)) = some (some z, 1, bytes)) (hzs : z.cells.size = 1)
    {A : Option Addr} {n c : Nat} {xs : List Value} (hs : a.eval s = .slice A n c) (h : RowV w e A n c xs)
    {g0 cx : Nat} {u : Value} (hx : a.eval x = .slice (some ⟨g0, 0, none⟩) 1 cx) (hc : w.cell? ⟨g0, 0, none⟩ = some u) (h1 : u.oneCell' = true) (hn : n + 1 ≤ 1000) (hby : bytes ≤ 64)
    (hK : ∀ A' c' w' g', RowV w' e A' (n + 1) c' (xs ++ [u]) → Chg [g'] w w' → (∀ cs ty2, Blk w g' cs ty2 → ty2 = e) → (w.heap.size ≤ g' ∨ ∃ a, A = some a ∧ a.block = g') → (∀ a, A' = some a → a.block = g') → wpList Try.prog ops Q rest (a.put o.dst (.slice A' (n + 1) c')) w') : wpList Try.prog ops Q (o :: rest) a w :=
  wpList_plain hg fun K hK' => by
    obtain ⟨A', c', w', g', r1, r2, r3, r4, r5, r6⟩ := rowv_app (ty := o.type) ht hinf hzs h (cx := cx) hc h1 hn hby
    unfold Oper.wp execOp
    simp only [ho, resolve, invoke, builtin, Sem.run_bind, Sem.run_pure, Result.andThen_ok, List.map_toArray, List.map_cons, List.map_nil, hs, hx, r1]
    exact hK' _ _ (hK A' c' w' g' r2 r3 r4 r5 r6)
end Go.Proofs.Ytnmegokppbdhdaa
