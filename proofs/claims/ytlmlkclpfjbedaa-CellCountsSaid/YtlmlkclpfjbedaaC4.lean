/- The reference's memory: all that was stored, the last one last. -/
import Derived.Test.YtlmlkclpfjbedaaC3
import Derived.OwnWalk
import Derived.Laws.AppendOwnNone
namespace Go.Proofs.Ytlmlkclpfjbedaa
open Go.RowKit
set_option linter.unusedSimpArgs false
set_option linter.unusedVariables false


/-- 'append(nil, v..)', v a row of the call's own, or nil. -/
theorem wpList_clone {P : Program} {w W0 : World} {ops : Array Oper} {rest : List Oper} {o : Oper} {a : Act} {Q : Exit → Act → World → Prop} (hgd : o.guard = none) (s x : Operand) (t : TypeId)
    (ho : o.op = .call { callee := .builtin .append, args := #[s, x], argTypes := #[t, t] })
    {e : TypeId} {z : Value} {size bytes : Nat} (ht : P.underlying t = some (.slice e)) (hinf : (P.info? e).map (fun i => (i.zero, i.size, i.bytes)) = some (some z, size, bytes))
    (hzs : z.cells.size = size) (hsz : 0 < size)
    {v : Value} {n base : Nat} {xs : List Value} (hs : a.eval s = .slice none 0 0) (hx : a.eval x = v) (hown : w.ownsRow base e size v n xs) (hW : Ext W0 w)
    (h1 : ∀ u ∈ xs, u.oneCell' = true) (hn : n ≤ maxLen) (hby : n * bytes ≤ 140737488355328)
    (h : ∀ v' w', w'.ownsRow W0.heap.size e size v' n xs → Ext W0 w' → wpList P ops Q rest (a.put o.dst v') w') : wpList P ops Q (o :: rest) a w := by
  obtain ⟨i, hi, hz, hsize, hb⟩ := info_parts hinf
  have hl := hown.1
  rcases hown.2 with ⟨rfl, rfl⟩ | ⟨g, cap, cur, rfl, _, hh, hnc, _, hcs, htake⟩
  · have e0 : xs = [] := List.eq_nil_of_length_eq_zero (by simpa using hl)
    subst e0
    exact wpList_append_own_none hgd s x t ho W0.heap.size e i size ht hi (.slice none 0 0) 0 [] hs (own_nil _ _ _ _) hx (h _ _ (own_nil _ _ _ _) hW)
  · refine wpList_append_own w hgd s x t ho W0.heap.size e i z size bytes ht hi hz hsize hb hzs hsz (.slice none 0 0) 0 [] hs (own_nil _ _ _ _) ⟨g, 0, none⟩ n cap xs hx hl (hown.cells rfl) h1 (by omega) (by rw [Nat.zero_add]; exact hby) hW.size ?_
    intro v' w' h2 hg _
    rw [Nat.zero_add, List.nil_append] at h2
    exact h v' w' h2 (Ext.grown hW hg (by intro k hk; cases hk))

def pcells (l : List (Int × Int)) : List Value := l.flatMap fun p => [.int .i64 p.1, .int .u64 p.2]
theorem pcells_length (l : List (Int × Int)) : (pcells l).length = l.length * 2 := by
  induction l with
  | nil => rfl
  | cons p l ih => simp only [pcells, List.flatMap_cons, List.length_append, List.length_cons, List.length_nil] at ih ⊢; omega
theorem pcells_at (l : List (Int × Int)) (k : Nat) (hk : k < l.length) : (pcells l)[k * 2]? = some (.int .i64 (l[k]).1) ∧ (pcells l)[k * 2 + 1]? = some (.int .u64 (l[k]).2) := by
  induction l generalizing k with
  | nil => simp at hk
  | cons p l ih =>
    cases k with
    | zero => simp [pcells]
    | succ k =>
      have := ih k (by simpa using hk)
      have e1 : (k + 1) * 2 = k * 2 + 1 + 1 := by omega
      simp only [pcells, List.flatMap_cons, List.cons_append, List.nil_append, e1, List.getElem?_cons_succ, List.getElem_cons_succ] at this ⊢
      exact this
theorem pcells_one (l : List (Int × Int)) : ∀ u ∈ pcells l, u.oneCell' = true := by
  intro u hu
  simp only [pcells, List.mem_flatMap, List.mem_cons, List.not_mem_nil, or_false] at hu
  obtain ⟨p, _, rfl | rfl⟩ := hu <;> rfl
theorem pcells_snoc (l : List (Int × Int)) (a x : Int) : pcells l ++ [.int .i64 a, .int .u64 x] = pcells (l ++ [(a, x)]) := by simp [pcells]
theorem Sl.put {w : World} {B : Nat} {A : Option Addr} {l : List (Int × Int)} (h : Sl w B 2 A l.length (pcells l)) {k : Nat} (hk : k < l.length) :
    ∃ b off, A = some ⟨b, off, none⟩ ∧ b < B ∧ w.cell? ⟨b, off + k * 2, none⟩ = some (.int .i64 (l[k]).1) ∧ w.cell? ⟨b, off + k * 2 + 1, none⟩ = some (.int .u64 (l[k]).2) := by
  obtain ⟨b, off, rfl, hb, hc⟩ := h.at_ hk
  obtain ⟨e0, e1⟩ := pcells_at l k hk
  exact ⟨b, off, rfl, hb, (hc 0 (by omega)).trans e0, by rw [Nat.add_assoc]; exact (hc 1 (by omega)).trans e1⟩

def lookL (l : List (Int × Int)) (a : Int) : Int := l.foldl (fun s p => if p.1 = a then p.2 else s) 0
theorem lookL_snoc (l : List (Int × Int)) (b x a : Int) : lookL (l ++ [(b, x)]) a = if b = a then x else lookL l a := by simp [lookL, List.foldl_append]
theorem lookI_set {ws : List Int} {b x a : Int} (h0 : 0 ≤ b) (h1 : b < ws.length) : lookI (setI ws b x) a = if b = a then x else lookI ws a := by
  unfold lookI setI
  rw [if_pos h0]
  by_cases ha : 0 ≤ a
  · simp only [if_pos ha, List.getD_eq_getElem?_getD, List.getElem?_set]
    by_cases e : b = a
    · subst e
      have h2 : b.toNat < ws.length := by omega
      simp [h2]
    · have : b.toNat ≠ a.toNat := by omega
      simp [e, this]
  · have e : b ≠ a := by omega
    simp [ha, e]

/-- The reference's memory at block R: its stores are such as give ws; at most m of them, and of accesses. -/
structure RefT (w : World) (R base : Nat) (N : Int) (ws : List Int) (m : Nat) (v : Value) (l : List (Int × Int)) : Prop where
  b : Blk w R #[.int .i64 ws.length, v, .int .i64 N] 30
  own : w.ownsRow base 55 2 v l.length (pcells l)
  low : R < base
  rel : ∀ a, lookL l a = lookI ws a
  len : l.length ≤ m
  n0 : 0 ≤ N
  n1 : N ≤ m
def RefX (w : World) (R base : Nat) (N : Int) (ws : List Int) (m : Nat) : Prop := ∃ v l, RefT w R base N ws m v l
theorem own_chg {T : List Nat} {w w' : World} {base n size : Nat} {e : TypeId} {v : Value} {xs : List Value} (h : w.ownsRow base e size v n xs) (x : Chg T w w') (hT : ∀ t, t ∈ T → t < base) : w'.ownsRow base e size v n xs := by
  obtain ⟨hl, h | ⟨g, cap, cur, rfl, hb, hh, h3, h4, h5, h6⟩⟩ := h
  · exact ⟨hl, .inl h⟩
  · refine ⟨hl, .inr ⟨g, cap, cur, rfl, hb, ?_, h3, h4, h5, h6⟩⟩
    have hlt : g < w.heap.size := by
      rcases Nat.lt_or_ge g w.heap.size with h | h
      · exact h
      · rw [Array.getElem?_eq_none h] at hh; cases hh
    rw [x.block g hlt (fun hm => by have := hT g hm; omega)]; exact hh
theorem own_low {w : World} {base base' n size : Nat} {e : TypeId} {v : Value} {xs : List Value} (h : w.ownsRow base e size v n xs) (hb : base' ≤ base) : w.ownsRow base' e size v n xs := by
  obtain ⟨hl, h | ⟨g, cap, cur, rfl, hb, hh, h3⟩⟩ := h
  · exact ⟨hl, .inl h⟩
  · exact ⟨hl, .inr ⟨g, cap, cur, rfl, by omega, hh, h3⟩⟩
section
variable {w w' : World} {R base m : Nat} {N : Int} {ws : List Int}
theorem RefX.chg {T : List Nat} (h : RefX w R base N ws m) (x : Chg T w w') (hR : R ∉ T) (hT : ∀ t, t ∈ T → t < base) : RefX w' R base N ws m := by
  obtain ⟨v, l, h⟩ := h
  exact ⟨v, l, h.b.chg x hR, own_chg h.own x hT, h.low, h.rel, h.len, h.n0, h.n1⟩
theorem RefX.ext (h : RefX w R base N ws m) (x : Ext w w') : RefX w' R base N ws m := h.chg (x.chg []) (by simp) (by simp)
end
def upN (ws : List Int) (a N : Int) : Int := if hasB ws a = true then N + 1 else N

theorem rhas_any (R base m : Nat) (N : Int) (ws : List Int) (a : Int) (w : World) (h : RefX w R base N ws m) :
    Calls Try.prog 24 #[.pointer (some ⟨R, 0, none⟩), .int .i64 a] w fun e w' => e = .returned (.bool (hasB ws a)) ∧ w = w' := by
  obtain ⟨v, l, h⟩ := h
  have r := h.b.cell
  by_cases h0 : 0 ≤ a
  · by_cases h1 : a < ws.length
    · have E := hide (hasB_yes h0 h1)
      go_enter Try.func24, Try.ntmps24
      go_wp2
      go_ret
      exact ⟨by rw [E.out]; simp, rfl⟩
    · have E := hide (hasB_no (ws := ws) (a := a) (by omega))
      go_enter Try.func24, Try.ntmps24
      go_wp2
      go_ret
      exact ⟨by rw [E.out]; simp, rfl⟩
  · have E := hide (hasB_no (ws := ws) (a := a) (by omega))
    go_enter Try.func24, Try.ntmps24
    go_wp2
    go_ret
    exact ⟨by rw [E.out]; simp, rfl⟩
theorem rlook_any (R base m : Nat) (N : Int) (ws : List Int) (a : Int) (w : World) (h : RefX w R base N ws m) (hm : m ≤ 200) :
    Calls Try.prog 16 #[.pointer (some ⟨R, 0, none⟩), .int .i64 a] w fun e w' => e = .returned (.int .u64 (lookI ws a)) ∧ Ext w w' := by
  obtain ⟨v, l, h⟩ := h
  have r := h.b.cell
  obtain ⟨A, c, rfl, hs⟩ := Sl.of_own h.own
  have hl := h.len
  have E := hide (h.rel a)
  go_enter Try.func16, Try.ntmps16
  go_wp2
  go_loop [5, 6] (fun v i => ∃ j : Nat, j ≤ l.length ∧ i = .int .i64 j ∧ v = .int .u64 (lookL (l.take j) a)) (fun _ i => l.length - (intOf i).toNat)
  case atStart => exact ⟨0, by omega, rfl, rfl⟩
  case round =>
    obtain ⟨j, hj, rfl, rfl⟩ := hrel
    by_cases hlt : j < l.length
    · obtain ⟨b, off, rfl, hb, c0, c1⟩ := hs.put hlt
      have S := hide (show lookL (l.take (j + 1)) a = if (l[j]).1 = a then (l[j]).2 else lookL (l.take j) a by rw [List.take_succ_eq_append_getElem hlt]; exact lookL_snoc _ _ _ _)
      by_cases he : (l[j]).1 = a
      · have S2 := hide (S.out.trans (if_pos he))
        clear S
        go_wp2
        go_round
        case rel => exact ⟨j + 1, by omega, by go_num, by rw [S2.out]⟩
        case measure => simp [intOf]; omega
      · have S2 := hide (S.out.trans (if_neg he))
        clear S
        go_wp2
        go_round
        case rel => exact ⟨j + 1, by omega, by go_num, by rw [S2.out]⟩
        case measure => simp [intOf]; omega
    · have e : l.take j = l := List.take_of_length_le (by omega)
      rw [e]
      clear e
      go_wp2
      go_ret
      exact ⟨by rw [← E.out]; simp, Ext.refl _⟩

theorem rload_any (R base m : Nat) (N : Int) (ws : List Int) (a : Int) (w : World) (h : RefX w R base N ws m) (hm : m < 200) :
    Calls Try.prog 11 #[.pointer (some ⟨R, 0, none⟩), .int .i64 a] w fun e w' => e = .returned (.int .u64 (lookI ws a)) ∧ RefX w' R base (upN ws a N) ws (m + 1) ∧ Chg [R] w w' := by
  cases hh : hasB ws a
  · have E := hide (show lookI ws a = 0 from lookI_no (of_decide_eq_false hh))
    have E2 := hide (show upN ws a N = N by unfold upN; rw [hh]; simp)
    go_enter Try.func11, Try.ntmps11
    go_wp2_with fail
    refine (rhas_any R base m N ws a w h).mono ?_
    rintro e w1 ⟨rfl, rfl⟩
    go_wp2_with fail
    go_ret
    obtain ⟨v, l, h⟩ := h
    exact ⟨by rw [E.out]; simp, by rw [E2.out]; exact ⟨v, l, h.b, h.own, h.low, h.rel, by have := h.len; omega, h.n0, by have := h.n1; omega⟩, Chg.refl _ _⟩
  · have E2 := hide (show upN ws a N = N + 1 by unfold upN; rw [hh]; simp)
    have h9 := h
    obtain ⟨v, l, h9⟩ := h9
    have r := h9.b.cell
    have f := h9.b.free
    have n0 := h9.n0
    have n1 := h9.n1
    have hb := h9.b.set 2 (.int .i64 (N + 1))
    have E3 := hide (show #[Value.int .i64 ws.length, v, .int .i64 N].setIfInBounds 2 (.int .i64 (N + 1)) = #[.int .i64 ws.length, v, .int .i64 (N + 1)] by simp)
    rw [E3.out] at hb
    have c := (Chg.refl [R] w).set (p := ⟨R, 2, none⟩) (.inl (by simp)) (.int .i64 (N + 1))
    have HX : Hid (RefX (w.setCell ⟨R, 2, none⟩ (.int .i64 (N + 1))) R base (N + 1) ws (m + 1)) :=
      ⟨v, l, hb, own_chg h9.own c (by have := h9.low; simpa using this), h9.low, h9.rel, by have := h9.len; omega, by omega, by omega⟩
    clear hb h9 E3
    have C := hide c
    clear c
    have N1 : N + 1 ≤ 200 := by omega
    go_enter Try.func11, Try.ntmps11
    go_wp2_with fail
    refine (rhas_any R base m N ws a w h).mono ?_
    rintro e w1 ⟨rfl, rfl⟩
    go_wp2_with fail
    refine (rlook_any R base (m + 1) (N + 1) ws a _ HX.out (by omega)).mono ?_
    rintro e w1 ⟨rfl, hx⟩
    go_wp2_with fail
    go_ret
    exact ⟨by simp, by rw [E2.out]; exact HX.out.ext hx, C.out.trans (hx.chg _)⟩
end Go.Proofs.Ytlmlkclpfjbedaa
