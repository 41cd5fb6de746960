/- Rows that grow, for every seat: appends whose row stays or is new; what owns a row; rows of ints. -/
import Derived.Test.YtaglpodilepioaaDoorTurn
import Derived.OwnWalk
import Derived.Laws.AppendOwnNone
import Derived.Laws.IdiomCopy
import Derived.ArgAppend
import Derived.Deep.RegionLaw
namespace Go.Proofs.YtaglpodilepioaaDoor
open Go.RowKit
set_option linter.unusedSimpArgs false
set_option linter.unusedVariables false

theorem inf_int : (Tryd.prog.info? 3).map (fun i => (i.zero, i.size, i.bytes)) = some (some (.int .i64 0), 1, 8) := by kernel_rfl

/-- 'out = append(out, x)', where the row may lie among older blocks. -/
theorem wpList_app2 {P : Program} {w : World} {base : Nat} {ops : Array Oper} {rest : List Oper} {o : Oper} {a : Act} {Q : Exit → Act → World → Prop} {s x : Operand} {t : TypeId} (hgd : o.guard = none)
    (ho : o.op = .call { callee := .builtin .append, args := #[s, x], argTypes := #[t, t] })
    {e : TypeId} {z : Value} {size bytes : Nat} (ht : P.underlying t = some (.slice e)) (hinf : (P.info? e).map (fun i => (i.zero, i.size, i.bytes)) = some (some z, size, bytes))
    (hzs : z.cells.size = size) (hsz : 0 < size)
    {v : Value} {n : Nat} {xs : List Value} (hs : a.eval s = v) (hown : w.ownsRow base e size v n xs) (hbase : base ≤ w.heap.size)
    {cs : Array Value} {c g : Nat} (hx : a.eval x = .slice (some ⟨g, 0, none⟩) 1 c) (hg : g = w.heap.size) (hcs : cs.size = size) (h1 : ∀ u ∈ cs.toList, u.oneCell' = true)
    (hn : n + 1 ≤ maxLen) (hby : (n + 1) * bytes ≤ 140737488355328)
    (h : ∀ v' w', w'.ownsRow base e size v' (n + 1) (xs ++ cs.toList) → (w.alloc (.cells cs e)).grownBy w' v.ownBlock → wpList P ops Q rest (a.put o.dst v') w') :
    wpList P ops Q (o :: rest) a (w.alloc (.cells cs e)) := by
  subst hg
  obtain ⟨i, hi, hz, hsize, hb⟩ := info_parts hinf
  refine wpList_append_own _ hgd s x t ho base e i z size bytes ht hi hz hsize hb hzs hsz v n xs hs (own_ext hown (Ext.alloc _ _)) ⟨w.heap.size, 0, none⟩ 1 c cs.toList hx (by simp [hcs]) ?_ h1 hn hby (by simp; omega) ?_
  · intro j u hu
    have : (w.alloc (.cells cs e)).cell? ⟨w.heap.size, j, none⟩ = cs[j]? := cell_of_row _ _ j cs e (0, 0) (heap_alloc_new w _)
    rw [Array.getElem?_toList] at hu
    rw [← hu, ← this]
    unfold Addr.add
    by_cases hj : j = 0
    · rw [if_pos hj, hj]
    · rw [if_neg hj, Nat.zero_add]
  · intro v' w' h2 hg _
    exact h v' w' h2 hg

theorem Chg.of_row {T : List Nat} {w0 w w' : World} {row : Option Nat} (h : Chg T w0 w) (hg : w.grownBy w' row) (hr : ∀ k, row = some k → w0.heap.size ≤ k) : Chg T w0 w' :=
  ⟨hg.os.trans h.os, hg.tape.trans h.tape, hg.output.trans h.output, Nat.le_trans h.size hg.size, fun k hk hT => (hg.block k (Nat.lt_of_lt_of_le hk h.size) (fun e => by have := hr k e.symm; omega)).trans (h.block k hk hT)⟩

theorem Blk.grown {w w' : World} {g : Nat} {cs : Array Value} {t : TypeId} {row : Option Nat} (h : Blk w g cs t) (hg : w.grownBy w' row) (hr : ∀ k, row = some k → k ≠ g) : Blk w' g cs t :=
  (hg.block g h.lt (fun e => hr g e.symm rfl)).trans h

theorem own_sl {w : World} {base n size : Nat} {e : TypeId} {v : Value} {xs : List Value} (h : w.ownsRow base e size v n xs) : ∃ A c, v = .slice A n c := by
  rcases h.2 with ⟨rfl, h0⟩ | ⟨g, cap, cur, rfl, _⟩
  · exact ⟨none, 0, by rw [h0]⟩
  · exact ⟨_, _, rfl⟩

theorem Blk.type {w : World} {g : Nat} {a b : Array Value} {s t : TypeId} (h : Blk w g a s) (k : Blk w g b t) : s = t := by
  unfold Blk at h k
  rw [h] at k
  simp only [Option.some.injEq, Obj.cells.injEq] at k
  exact k.2.1

theorem Chg.of_grow {T : List Nat} {w0 w w' : World} {row : Option Nat} (h : Chg T w0 w) (hg : w.grownBy w' row) (hr : ∀ k, row = some k → k ∈ T) : Chg T w0 w' :=
  ⟨hg.os.trans h.os, hg.tape.trans h.tape, hg.output.trans h.output, Nat.le_trans h.size hg.size, fun k hk hT => (hg.block k (Nat.lt_of_lt_of_le hk h.size) (fun e => hT (hr k e.symm))).trans (h.block k hk hT)⟩

/-- 'out = append(out, x)': the row stays where it lay, or is a new block. -/
theorem wpList_app3 {P : Program} {w : World} {base : Nat} {ops : Array Oper} {rest : List Oper} {o : Oper} {a : Act} {Q : Exit → Act → World → Prop} {s x : Operand} {t : TypeId} (hgd : o.guard = none)
    (ho : o.op = .call { callee := .builtin .append, args := #[s, x], argTypes := #[t, t] })
    {e : TypeId} {z : Value} {size bytes : Nat} (ht : P.underlying t = some (.slice e)) (hinf : (P.info? e).map (fun i => (i.zero, i.size, i.bytes)) = some (some z, size, bytes))
    (hzs : z.cells.size = size) (hsz : 0 < size)
    {v : Value} {n : Nat} {xs : List Value} (hs : a.eval s = v) (hown : w.ownsRow base e size v n xs) (hbase : base ≤ w.heap.size)
    {cs : Array Value} {c g : Nat} (hx : a.eval x = .slice (some ⟨g, 0, none⟩) 1 c) (hg : g = w.heap.size) (hcs : cs.size = size) (h1 : ∀ u ∈ cs.toList, u.oneCell' = true)
    (hn : n + 1 ≤ maxLen) (hby : (n + 1) * bytes ≤ 140737488355328)
    (h : ∀ v' w', w'.ownsRow base e size v' (n + 1) (xs ++ cs.toList) → (w.alloc (.cells cs e)).grownBy w' v.ownBlock → (∀ k, v'.ownBlock = some k → v.ownBlock = some k ∨ w.heap.size ≤ k) → wpList P ops Q rest (a.put o.dst v') w') :
    wpList P ops Q (o :: rest) a (w.alloc (.cells cs e)) := by
  subst hg
  have hnews : ∀ j u, cs.toList[j]? = some u → (w.alloc (.cells cs e)).cell? ((⟨w.heap.size, 0, none⟩ : Addr).add j) = some u := by
    intro j u hu
    have : (w.alloc (.cells cs e)).cell? ⟨w.heap.size, j, none⟩ = cs[j]? := cell_of_row _ _ j cs e (0, 0) (heap_alloc_new w _)
    rw [Array.getElem?_toList] at hu
    rw [← hu, ← this, Addr.add_lit, Nat.zero_add]
  obtain ⟨i, hi, hz, hsize, hb⟩ := info_parts hinf
  have hl : cs.toList.length = 1 * size := by simp [hcs]
  have hown' := own_ext hown (Ext.alloc w (.cells cs e))
  have hnew : ∀ v' w', w'.ownsRow (w.alloc (.cells cs e)).heap.size e size v' (n + 1) (xs ++ cs.toList) → (w.alloc (.cells cs e)).grownBy w' none → wpList P ops Q rest (a.put o.dst v') w' := by
    intro v' w' h2 h3
    exact h v' w' (own_low h2 (by simp; omega)) ⟨h3.os, h3.tape, h3.output, h3.size, fun k hk _ => h3.block k hk (by simp)⟩ (fun k hk => .inr (by have := own_row h2 k hk; simp at this; omega))
  rcases hown'.2 with ⟨rfl, rfl⟩ | ⟨g, cap, cur, rfl, hbg, hh, hnc, hcm, hcs2, htake⟩
  · have e0 : xs = [] := List.eq_nil_of_length_eq_zero (by simpa using hown.1)
    subst e0
    refine wpList_append_own _ hgd s x t ho (w.alloc (.cells cs e)).heap.size e i z size bytes ht hi hz hsize hb hzs hsz (.slice none 0 0) 0 [] hs (own_nil _ _ _ _) ⟨w.heap.size, 0, none⟩ 1 c cs.toList hx hl hnews h1 hn hby (Nat.le_refl _) ?_
    intro v' w' h2 h3 _
    exact hnew v' w' h2 ⟨h3.os, h3.tape, h3.output, h3.size, fun k hk _ => h3.block k hk (by simp [Value.ownBlock])⟩
  · by_cases hr : n + 1 ≤ cap
    · refine wpList_append_fits _ hgd s x t ho base e i size ht hi hsize g n cap xs hs hown' ⟨w.heap.size, 0, none⟩ 1 c cs.toList hx hl hnews h1 hr ?_
      intro w' h2 h3
      exact h _ w' h2 h3 (fun k hk => .inl hk)
    · refine wpList_append_grows _ hgd s x t ho e i z size bytes ht hi hz hsize hb hzs hsz (some ⟨g, 0, none⟩) n cap xs hs (fun q => by cases q) hown'.1 (fun b hbb => ?_) ⟨w.heap.size, 0, none⟩ 1 c cs.toList hx hl hnews h1 (by omega) hn hby hnew
      simp only [Option.some.injEq] at hbb
      subst hbb
      exact hown'.cells rfl

/-- A row with values laid in it from a place on. -/
def layC (cs : Array Value) : Nat → List Value → Array Value
  | _, [] => cs
  | o, v :: r => layC (cs.setIfInBounds o v) (o + 1) r

theorem layC_size (vs : List Value) : ∀ (o : Nat) (cs : Array Value), (layC cs o vs).size = cs.size := by
  induction vs with
  | nil => intro o cs; rfl
  | cons v r ih => intro o cs; rw [layC, ih]; simp

theorem layC_get (vs : List Value) : ∀ (o k : Nat) (cs : Array Value), o + vs.length ≤ cs.size → (layC cs o vs)[k]? = if o ≤ k ∧ k < o + vs.length then vs[k - o]? else cs[k]? := by
  induction vs with
  | nil => intro o k cs _; rw [layC, if_neg (fun q => by simp at q; omega)]
  | cons v r ih =>
    intro o k cs h
    simp only [List.length_cons] at h ⊢
    rw [layC, ih (o + 1) k _ (by simp; omega), Array.getElem?_setIfInBounds]
    by_cases e : o = k
    · subst e
      rw [if_neg (by omega), if_pos rfl, if_pos (by omega), if_pos (by omega), Nat.sub_self]
      rfl
    · rw [if_neg e]
      by_cases q : o + 1 ≤ k ∧ k < o + 1 + r.length
      · rw [if_pos q, if_pos (by omega), show k - o = (k - (o + 1)) + 1 by omega, List.getElem?_cons_succ]
      · rw [if_neg q, if_neg (by omega)]

theorem Blk.lay {g : Nat} {t : TypeId} (vs : List Value) : ∀ (o : Nat) (w : World) (cs : Array Value), Blk w g cs t → Blk (w.setCells g o vs) g (layC cs o vs) t := by
  induction vs with
  | nil => intro o w cs h; exact h
  | cons v r ih => intro o w cs h; exact ih (o + 1) _ _ (h.set o v)

theorem Chg.lay {T : List Nat} {g : Nat} (hg : g ∈ T) (vs : List Value) : ∀ (o : Nat) (w w' : World), Chg T w w' → Chg T w (w'.setCells g o vs) := by
  induction vs with
  | nil => intro o w w' h; exact h
  | cons v r ih => intro o w w' h; exact ih (o + 1) _ _ (h.set (p := ⟨g, o, none⟩) (.inl hg) v)

/-- 'append(nil, v..)', v a row of the call's own, or nil. -/
theorem wpList_clone {P : Program} {w W0 : World} {ops : Array Oper} {rest : List Oper} {o : Oper} {a : Act} {Q : Exit → Act → World → Prop} (hgd : o.guard = none) (s x : Operand) (t : TypeId)
    (ho : o.op = .call { callee := .builtin .append, args := #[s, x], argTypes := #[t, t] })
    {e : TypeId} {z : Value} {size bytes : Nat} (ht : P.underlying t = some (.slice e)) (hinf : (P.info? e).map (fun i => (i.zero, i.size, i.bytes)) = some (some z, size, bytes))
    (hzs : z.cells.size = size) (hsz : 0 < size)
    {v : Value} {n base : Nat} {xs : List Value} (hs : a.eval s = .slice none 0 0) (hx : a.eval x = v) (hown : w.ownsRow base e size v n xs) (hW : Ext W0 w)
    (h1 : ∀ u ∈ xs, u.oneCell' = true) (hn : n ≤ maxLen) (hby : n * bytes ≤ 140737488355328)
    (h : ∀ v' w', w'.ownsRow W0.heap.size e size v' n xs → Ext W0 w' → wpList P ops Q rest (a.put o.dst v') w') : wpList P ops Q (o :: rest) a w := by
  obtain ⟨i, hi, hz, hsize, hb⟩ := info_parts hinf
  have hl := hown.1
  rcases hown.2 with ⟨rfl, rfl⟩ | ⟨g, cap, cur, rfl, _, hh, hnc, _, hcs, htake⟩
  · have e0 : xs = [] := List.eq_nil_of_length_eq_zero (by simpa using hl)
    subst e0
    exact wpList_append_own_none hgd s x t ho W0.heap.size e i size ht hi (.slice none 0 0) 0 [] hs (own_nil _ _ _ _) hx (h _ _ (own_nil _ _ _ _) hW)
  · refine wpList_append_own w hgd s x t ho W0.heap.size e i z size bytes ht hi hz hsize hb hzs hsz (.slice none 0 0) 0 [] hs (own_nil _ _ _ _) ⟨g, 0, none⟩ n cap xs hx hl (hown.cells rfl) h1 (by omega) (by rw [Nat.zero_add]; exact hby) hW.size ?_
    intro v' w' h2 hg _
    rw [Nat.zero_add, List.nil_append] at h2
    exact h v' w' h2 (Ext.grown hW hg (by intro k hk; cases hk))

/-- 'append(v, x..)' as a step of a region that draws its order. -/
theorem step_own {P : Program} {ops : Array Oper} {o : Oper} {a : Act} {w W0 : World} {K : Act → World → Prop} {Q : Exit → Act → World → Prop} {E : Prop}
    (hg : o.guard = none) (s x : Operand) (t : TypeId) (ho : o.op = .call { callee := .builtin .append, args := #[s, x], argTypes := #[t, t] })
    {e : TypeId} {z : Value} {size bytes : Nat} (ht : P.underlying t = some (.slice e)) (hinf : (P.info? e).map (fun i => (i.zero, i.size, i.bytes)) = some (some z, size, bytes))
    (hzs : z.cells.size = size) (hsz : 0 < size)
    {v : Value} {n : Nat} {xs : List Value} (hs : a.eval s = v) (hown : w.ownsRow W0.heap.size e size v n xs) (hW : Ext W0 w)
    {ad : Addr} {m c : Nat} {news : List Value} (hx : a.eval x = .slice (some ad) m c) (hl : news.length = m * size) (hnews : ∀ j u, news[j]? = some u → w.cell? (ad.add j) = some u) (h1 : ∀ u ∈ news, u.oneCell' = true)
    (hn : n + m ≤ maxLen) (hby : (n + m) * bytes ≤ 140737488355328)
    (h : ∀ A' c' w', w'.ownsRow W0.heap.size e size (.slice A' (n + m) c') (n + m) (xs ++ news) → Ext W0 w' → K (a.put o.dst (.slice A' (n + m) c')) w') :
    if Region.wanted o (yielded ops a.tmps) = true then Oper.wp P o a w K Q else E := by
  have hw : Region.wanted o (yielded ops a.tmps) = true := by simp [Region.wanted, hg]
  rw [if_pos hw]
  obtain ⟨i, hi, hz, hsize, hb⟩ := info_parts hinf
  refine wp_append_own w s x t ho W0.heap.size e i z size bytes ht hi hz hsize hb hzs hsz v n xs hs hown ad m c news hx hl hnews h1 hn hby hW.size ?_
  intro v' w' h2 hg2 _
  obtain ⟨A', c', rfl⟩ := own_sl h2
  exact h A' c' w' h2 (Ext.grown hW hg2 (own_row hown))

/-- Nothing but the blocks of T has turned, and the row lies in none of them. -/
theorem own_chgB {T : List Nat} {w w' : World} {base n size : Nat} {e : TypeId} {v : Value} {xs : List Value} (h : w.ownsRow base e size v n xs) (x : Chg T w w') (hT : ∀ k, v.ownBlock = some k → k ∉ T) : w'.ownsRow base e size v n xs := by
  obtain ⟨hl, h | ⟨g, cap, cur, rfl, hb, hh, h3, h4, h5, h6⟩⟩ := h
  · exact ⟨hl, .inl h⟩
  · refine ⟨hl, .inr ⟨g, cap, cur, rfl, hb, ?_, h3, h4, h5, h6⟩⟩
    have hlt : g < w.heap.size := (Array.getElem?_eq_some_iff.1 hh).1
    rw [x.block g hlt (hT g rfl)]; exact hh

theorem own_lt {w : World} {base n size : Nat} {e : TypeId} {v : Value} {xs : List Value} (h : w.ownsRow base e size v n xs) : ∀ k, v.ownBlock = some k → k < w.heap.size := by
  intro k hk
  rcases h.2 with ⟨rfl, _⟩ | ⟨g, cap, cur, rfl, _, hh, _⟩
  · cases hk
  · cases hk; exact (Array.getElem?_eq_some_iff.1 hh).1

theorem own_blk {w : World} {base n size : Nat} {e : TypeId} {v : Value} {xs : List Value} (h : w.ownsRow base e size v n xs) : ∀ k, v.ownBlock = some k → ∃ cs, Blk w k cs e := by
  intro k hk
  rcases h.2 with ⟨rfl, _⟩ | ⟨g, cap, cur, rfl, _, hh, _⟩
  · cases hk
  · cases hk; exact ⟨cur, hh⟩

theorem Chg.grow1 {w w' : World} {row : Option Nat} (hg : w.grownBy w' row) {T : List Nat} (hr : ∀ k, row = some k → k ∈ T) : Chg T w w' := (Chg.refl T w).of_grow hg hr

def enI (x : Nat) : Value := .int .i64 (x : Int)
abbrev enJ (x : Int) : Value := .int .i64 x

theorem own_atJ {w : World} {base : Nat} {v : Value} {l : List Int} (h : w.ownsRow base 3 1 v l.length (l.map enJ)) {j : Nat} (hj : j < l.length) :
    ∃ g c, v = .slice (some ⟨g, 0, none⟩) l.length c ∧ base ≤ g ∧ w.cell? ⟨g, j, none⟩ = some (.int .i64 l[j]) := by
  rcases h.2 with ⟨_, h0⟩ | ⟨g, cap, cur, rfl, hb, hh, h3, h4, h5, h6⟩
  · omega
  · refine ⟨g, cap, rfl, hb, ?_⟩
    have h1 : (cur.toList.take (l.length * 1))[j]? = (l.map enJ)[j]? := by rw [h6]
    rw [List.getElem?_take_of_lt (by omega), List.getElem?_map, List.getElem?_eq_getElem hj] at h1
    rw [cell_of_row w g j cur 3 (0, 0) hh, ← Array.getElem?_toList, h1]
    rfl

theorem own_atN {w : World} {base : Nat} {v : Value} {l : List Nat} (h : w.ownsRow base 3 1 v l.length (l.map enI)) {j : Nat} (hj : j < l.length) :
    ∃ g c, v = .slice (some ⟨g, 0, none⟩) l.length c ∧ base ≤ g ∧ w.cell? ⟨g, j, none⟩ = some (.int .i64 ((l[j] : Nat) : Int)) := by
  rcases h.2 with ⟨_, h0⟩ | ⟨g, cap, cur, rfl, hb, hh, h3, h4, h5, h6⟩
  · omega
  · refine ⟨g, cap, rfl, hb, ?_⟩
    have h1 : (cur.toList.take (l.length * 1))[j]? = (l.map enI)[j]? := by rw [h6]
    rw [List.getElem?_take_of_lt (by omega), List.getElem?_map, List.getElem?_eq_getElem hj] at h1
    rw [cell_of_row w g j cur 3 (0, 0) hh, ← Array.getElem?_toList, h1]
    rfl

theorem own_atN3 {w : World} {base n q : Nat} {v : Value} {l : List Nat} (h : w.ownsRow base 3 1 v n (l.map enI)) (hn : l.length = n) {j : Nat} (hj : l[j]? = some q) :
    ∃ g c, v = .slice (some ⟨g, 0, none⟩) n c ∧ ∀ w', Ext w w' → w'.cell? ⟨g, j, none⟩ = some (.int .i64 (q : Int)) := by
  subst hn
  obtain ⟨hlt, he⟩ := List.getElem?_eq_some_iff.1 hj
  obtain ⟨g, c, rfl, hb, hc⟩ := own_atN h hlt
  rw [he] at hc
  exact ⟨g, c, rfl, fun w' hx => (hx.oldCell _ _ (own_lt h g rfl)).trans hc⟩

end Go.Proofs.YtaglpodilepioaaDoor
