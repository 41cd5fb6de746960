/- A ring in the world; its small methods. -/
import Derived.Test.YtbkpmlcockkfnaaA1
import Derived.BigRegion
import Derived.Deep.RegionHeld3
namespace Go.Proofs.Ytbkpmlcockkfnaa
open Go.RowKit
set_option linter.unusedSimpArgs false
set_option linter.unusedVariables false
set_option maxRecDepth 100000

/-- A slice of waiters of type E that reads as l, its block known whole. -/
def Row (E : TypeId) (w : World) (A : Option Addr) (n c : Nat) (l : List Wt) : Prop :=
  n = l.length ∧ n ≤ c ∧ c ≤ maxLen ∧ ((A = none ∧ c = 0) ∨ ∃ b off cs, A = some ⟨b, off, none⟩ ∧ Blk w b cs E ∧ ∀ j (h : j < l.length), cs[off + j * 2]? = some (.int .i64 (l[j]).1) ∧ cs[off + j * 2 + 1]? = some (.int .i64 (l[j]).2))
/-- A slice that reads as l. -/
def Ch (w : World) (A : Option Addr) (l : List Wt) : Prop :=
  l.length = 0 ∨ ∃ b off, A = some ⟨b, off, none⟩ ∧ b < w.heap.size ∧ ∀ j (h : j < l.length), w.cell? ⟨b, off + j * 2, none⟩ = some (.int .i64 (l[j]).1) ∧ w.cell? ⟨b, off + j * 2 + 1, none⟩ = some (.int .i64 (l[j]).2)
section
variable {E : TypeId} {w w' : World} {A : Option Addr} {n c : Nat} {l : List Wt}
theorem Row.ext (h : Row E w A n c l) (x : Ext w w') : Row E w' A n c l := by
  obtain ⟨h1, h2, h3, h | ⟨b, off, cs, h4, h5, h6⟩⟩ := h
  · exact ⟨h1, h2, h3, .inl h⟩
  · exact ⟨h1, h2, h3, .inr ⟨b, off, cs, h4, h5.ext x, h6⟩⟩
theorem Row.far {g i : Nat} {u : Value} (h : Row E w A n c l) (hne : ∀ b off, A = some ⟨b, off, none⟩ → b ≠ g) : Row E (w.setCell ⟨g, i, none⟩ u) A n c l := by
  obtain ⟨h1, h2, h3, h | ⟨b, off, cs, h4, h5, h6⟩⟩ := h
  · exact ⟨h1, h2, h3, .inl h⟩
  · exact ⟨h1, h2, h3, .inr ⟨b, off, cs, h4, h5.far (p := ⟨g, i, none⟩) (hne b off h4) u, h6⟩⟩
theorem Row.ne {g : Nat} {cs : Array Value} {t : TypeId} (h : Row E w A n c l) (hb : Blk w g cs t) (ht : t ≠ E) : ∀ b off, A = some ⟨b, off, none⟩ → b ≠ g := by
  rintro b off e rfl
  obtain ⟨h1, h2, h3, ⟨h4, _⟩ | ⟨b2, off2, cs2, h4, h5, h6⟩⟩ := h
  · rw [h4] at e; cases e
  · rw [h4] at e; cases e; exact ht (hb.type h5)
theorem Row.set {g i : Nat} {cs : Array Value} {t : TypeId} {u : Value} (h : Row E w A n c l) (hb : Blk w g cs t) (ht : t ≠ E) : Row E (w.setCell ⟨g, i, none⟩ u) A n c l := h.far (h.ne hb ht)
theorem Row.chgN {m : Nat} (h : Row E w A n c l) (x : Chg [m] w w') (hm : ∀ cs t, ¬ Blk w m cs t) : Row E w' A n c l := by
  obtain ⟨h1, h2, h3, h | ⟨b, off, cs, h4, h5, h6⟩⟩ := h
  · exact ⟨h1, h2, h3, .inl h⟩
  · exact ⟨h1, h2, h3, .inr ⟨b, off, cs, h4, h5.chg x (by rintro q; simp at q; exact hm _ _ (q ▸ h5)), h6⟩⟩
theorem Row.lt (h : Row E w A n c l) : ∀ b off, A = some ⟨b, off, none⟩ → b < w.heap.size := by
  intro b off e
  obtain ⟨h1, h2, h3, ⟨h4, _⟩ | ⟨b2, off2, cs, h4, h5, h6⟩⟩ := h
  · rw [h4] at e; cases e
  · rw [h4] at e; cases e; exact h5.lt
theorem Row.nil (E : TypeId) (w : World) : Row E w none 0 0 [] := ⟨rfl, Nat.le_refl _, Nat.zero_le _, .inl ⟨rfl, rfl⟩⟩
theorem Row.eq {l2 : List Wt} (h : Row E w A n c l) (e : l = l2) : Row E w A n c l2 := e ▸ h
theorem Row.ch (h : Row E w A n c l) : Ch w A l := by
  obtain ⟨h1, h2, h3, ⟨rfl, rfl⟩ | ⟨b, off, cs, h4, h5, h6⟩⟩ := h
  · exact .inl (by omega)
  · exact .inr ⟨b, off, h4, h5.lt, fun j hj => ⟨(h5.cell _).trans (h6 j hj).1, (h5.cell _).trans (h6 j hj).2⟩⟩
theorem Row.noA (h : Row E w none n c l) : n = 0 ∧ c = 0 ∧ l = [] := by
  obtain ⟨h1, h2, h3, ⟨_, rfl⟩ | ⟨b, off, cs, h4, _⟩⟩ := h
  · exact ⟨by omega, rfl, List.eq_nil_of_length_eq_zero (by omega)⟩
  · cases h4
theorem Row.none0 (h : Row E w A n c l) : A = none → n = 0 ∧ c = 0 := fun e => by subst e; exact ⟨h.noA.1, h.noA.2.1⟩
theorem Ch.ext (h : Ch w A l) (x : Ext w w') : Ch w' A l := by
  rcases h with h | ⟨b, off, h1, h2, h3⟩
  · exact .inl h
  · exact .inr ⟨b, off, h1, Nat.lt_of_lt_of_le h2 x.size, fun j hj => ⟨(x.oldCell _ _ h2).trans (h3 j hj).1, (x.oldCell _ _ h2).trans (h3 j hj).2⟩⟩
theorem Ch.at_ (h : Ch w A l) {j : Nat} (hj : j < l.length) : ∃ b off, A = some ⟨b, off, none⟩ ∧ ∀ w', Ext w w' → w'.cell? ⟨b, off + j * 2, none⟩ = some (.int .i64 (l[j]).1) ∧ w'.cell? ⟨b, off + j * 2 + 1, none⟩ = some (.int .i64 (l[j]).2) := by
  rcases h with h | ⟨b, off, h1, h2, h3⟩
  · omega
  · exact ⟨b, off, h1, fun w' x => ⟨(x.oldCell _ _ h2).trans (h3 j hj).1, (x.oldCell _ _ h2).trans (h3 j hj).2⟩⟩
theorem Row.take (h : Row E w A n c l) {k : Nat} (hk : k ≤ n) : Row E w A k c (l.take k) := by
  obtain ⟨h1, h2, h3, ⟨e1, e2⟩ | ⟨b, off, cs, h4, h5, h6⟩⟩ := h
  · exact ⟨by rw [List.length_take]; omega, by omega, by omega, .inl ⟨e1, by omega⟩⟩
  · refine ⟨by rw [List.length_take]; omega, by omega, by omega, .inr ⟨b, off, cs, h4, h5, fun j hj => ?_⟩⟩
    rw [List.length_take] at hj
    rw [List.getElem_take]
    exact h6 j (by omega)
theorem Ch.take (h : Ch w A l) (k : Nat) : Ch w A (l.take k) := by
  rcases h with h | ⟨b, off, h1, h2, h3⟩
  · exact .inl (by rw [List.length_take]; omega)
  · exact .inr ⟨b, off, h1, h2, fun j hj => by rw [List.length_take] at hj; rw [List.getElem_take]; exact h3 j (by omega)⟩
theorem Ch.drop {b off : Nat} (h : Ch w (some ⟨b, off, none⟩) l) {k : Nat} (hk : k < l.length) : Ch w (some ⟨b, off + k * 2, none⟩) (l.drop k) := by
  rcases h with h | ⟨b2, off2, h1, h2, h3⟩
  · omega
  · cases h1
    refine .inr ⟨b, _, rfl, h2, fun j hj => ?_⟩
    rw [List.length_drop] at hj
    rw [List.getElem_drop, show off + k * 2 + j * 2 = off + (k + j) * 2 by omega]
    exact h3 (k + j) (by omega)
theorem Row.of_own {base : Nat} {v : Value} (h : w.ownsRow base E 2 v n (rcells l)) : ∃ A c, v = .slice A n c ∧ Row E w A n c l ∧ (∀ b off, A = some ⟨b, off, none⟩ → base ≤ b) := by
  have hl : n = l.length := by have := h.1; rw [rcells_length] at this; omega
  rcases h.2 with ⟨rfl, rfl⟩ | ⟨g, cap, cur, rfl, hb, hh, h3, h4, h5, h6⟩
  · exact ⟨none, 0, rfl, ⟨hl, Nat.le_refl _, Nat.zero_le _, .inl ⟨rfl, rfl⟩⟩, fun b off e => by cases e⟩
  · have hc : ∀ k, k < n * 2 → cur[k]? = (rcells l)[k]? := by
      intro k hk
      rw [← h6, List.getElem?_take_of_lt hk, Array.getElem?_toList]
    refine ⟨_, _, rfl, ⟨hl, h3, h4, .inr ⟨g, 0, cur, rfl, hh, fun j hj => ?_⟩⟩, fun b off e => by cases e; exact hb⟩
    obtain ⟨e0, e1⟩ := rcells_at l j hj
    rw [Nat.zero_add, hc _ (by omega), hc _ (by omega)]
    exact ⟨e0, e1⟩
end
theorem Ch.cells {w : World} {b : Addr} {l : List Wt} (h : Ch w (some b) l) : ∀ w', Ext w w' → ∀ j u, (rcells l)[j]? = some u → w'.cell? (b.add j) = some u := by
  intro w' x j u hu
  have hj : j < l.length * 2 := by have := (List.getElem?_eq_some_iff.1 hu).1; rwa [rcells_length] at this
  have hk : j / 2 < l.length := by omega
  obtain ⟨b2, off, e, r⟩ := h.at_ hk
  cases e
  obtain ⟨r1, r2⟩ := r w' x
  obtain ⟨e0, e1⟩ := rcells_at l (j / 2) hk
  rw [Addr.add_lit, ← hu]
  by_cases q : j % 2 = 0
  · have : j = j / 2 * 2 := by omega
    rw [this, e0]
    rw [← this] at r1 ⊢
    exact r1
  · have : j = j / 2 * 2 + 1 := by omega
    rw [this, e1]
    rw [Nat.add_assoc, ← this] at r2
    rw [← this]
    exact r2
theorem inf_wt : (Try.prog.info? 32).map (fun i => (i.zero, i.size, i.bytes)) = some (some (.agg #[.int .i64 0, .int .i64 0]), 2, 16) := by kernel_rfl
theorem inf_rw : (Try.prog.info? 29).map (fun i => (i.zero, i.size, i.bytes)) = some (some (.agg #[.int .i64 0, .int .i64 0]), 2, 16) := by kernel_rfl
/-- A ring: its waiters from the place p on, then those ahead of it. -/
def Rg (w : World) (A : Option Addr) (n c p : Nat) (l : List Wt) : Prop := ∃ m, Row 32 w A n c m ∧ (p < n ∨ p = 0) ∧ l = tuK m p
section
variable {w w' : World} {A : Option Addr} {n c p : Nat} {l : List Wt}
theorem Rg.ext (h : Rg w A n c p l) (x : Ext w w') : Rg w' A n c p l := by
  obtain ⟨m, h1, h2, h3⟩ := h
  exact ⟨m, h1.ext x, h2, h3⟩
theorem Rg.far {g i : Nat} {u : Value} (h : Rg w A n c p l) (hne : ∀ b off, A = some ⟨b, off, none⟩ → b ≠ g) : Rg (w.setCell ⟨g, i, none⟩ u) A n c p l := by
  obtain ⟨m, h1, h2, h3⟩ := h
  exact ⟨m, h1.far hne, h2, h3⟩
theorem Rg.set {g i : Nat} {cs : Array Value} {t : TypeId} {u : Value} (h : Rg w A n c p l) (hb : Blk w g cs t) (ht : t ≠ 32) : Rg (w.setCell ⟨g, i, none⟩ u) A n c p l := by
  obtain ⟨m, h1, h2, h3⟩ := h
  exact ⟨m, h1.set hb ht, h2, h3⟩
theorem Rg.chgN {m : Nat} (h : Rg w A n c p l) (x : Chg [m] w w') (hm : ∀ cs t, ¬ Blk w m cs t) : Rg w' A n c p l := by
  obtain ⟨m, h1, h2, h3⟩ := h
  exact ⟨m, h1.chgN x hm, h2, h3⟩
theorem Rg.lt (h : Rg w A n c p l) : ∀ b off, A = some ⟨b, off, none⟩ → b < w.heap.size := by
  obtain ⟨m, h1, h2, h3⟩ := h
  exact h1.lt
theorem Rg.len (h : Rg w A n c p l) : l.length = n := by
  obtain ⟨m, h1, h2, rfl⟩ := h
  rw [tuK_len]; exact h1.1.symm
theorem Rg.eq {l2 : List Wt} (h : Rg w A n c p l) (e : l = l2) : Rg w A n c p l2 := e ▸ h
theorem Rg.nil (w : World) : Rg w none 0 0 0 [] := ⟨[], Row.nil _ _, .inr rfl, rfl⟩
theorem Rg.row {m : List Wt} (h : Row 32 w A n c m) : Rg w A n c 0 m := ⟨m, h, .inr rfl, (tuK_zero m).symm⟩
end
theorem len_any (A : Option Addr) (n c p : Nat) (w : World) : Calls Try.prog 15 #[(Value.agg #[.slice A n c, .int .i64 (p : Int)])] w fun e w' => e = .returned (.int .i64 (n : Int)) ∧ Ext w w' := by
  go_enter Try.func15, Try.ntmps15
  go_wp2
  go_ret
  exact ⟨rfl, Ext.alloc _ _⟩
theorem isW_any (a b : Int) (w : World) : Calls Try.prog 26 #[(Value.agg #[.int .i64 a, .int .i64 b])] w fun e w' => e = .returned (.bool (inW (a, b))) ∧ Ext w w' := by
  have hW := Ext.refl w
  by_cases a0 : 0 ≤ a
  · by_cases a1 : a ≤ 65534
    · by_cases a2 : 1 ≤ b
      · by_cases a3 : b ≤ 65535
        · have E := hide (show inW (a, b) = true by unfold inW; simp [*])
          go_enter Try.func26, Try.ntmps26
          go_wp2
          go_ret
          exact ⟨by rw [E.out]; try simp, Ext.alloc _ _⟩
        · have E := hide (show inW (a, b) = false by unfold inW; simp; omega)
          go_enter Try.func26, Try.ntmps26
          go_wp2
          go_ret
          exact ⟨by rw [E.out]; try simp, Ext.alloc _ _⟩
      · have E := hide (show inW (a, b) = false by unfold inW; simp; omega)
        go_enter Try.func26, Try.ntmps26
        go_wp2
        go_ret
        exact ⟨by rw [E.out]; try simp, Ext.alloc _ _⟩
    · have E := hide (show inW (a, b) = false by unfold inW; simp; omega)
      go_enter Try.func26, Try.ntmps26
      go_wp2
      go_ret
      exact ⟨by rw [E.out]; try simp, Ext.alloc _ _⟩
  · have E := hide (show inW (a, b) = false by unfold inW; simp; omega)
    go_enter Try.func26, Try.ntmps26
    go_wp2
    go_ret
    exact ⟨by rw [E.out]; try simp, Ext.alloc _ _⟩
theorem sameT_any (a b x y : Int) (w : World) : Calls Try.prog 24 #[(Value.agg #[.int .i64 a, .int .i64 b]), (Value.agg #[.int .i64 x, .int .i64 y])] w fun e w' => e = .returned (.bool (x == a)) ∧ Ext w w' := by
  go_enter Try.func24, Try.ntmps24
  go_wp2
  go_ret
  exact ⟨rfl, (Ext.alloc _ _).trans (Ext.alloc _ _)⟩
theorem first_no (A : Option Addr) (c p : Nat) (w : World) : Calls Try.prog 12 #[(Value.agg #[.slice A 0 c, .int .i64 (p : Int)])] w fun e w' => e = .returned (.tuple #[(Value.agg #[.int .i64 0, .int .i64 0]), .bool false]) ∧ Ext w w' := by
  have hX0 : Ext w ((w.alloc (Obj.cells #[.slice A 0 c, .int .i64 (p : Int)] 25)).alloc (Obj.cells #[.int .i64 0, .int .i64 0] 32)) := (Ext.alloc _ _).trans (Ext.alloc _ _)
  have hB := (Blk.new w #[.slice A 0 c, .int .i64 (p : Int)] 25).ext (Ext.alloc _ (Obj.cells #[.int .i64 0, .int .i64 0] 32))
  have hD := Blk.new (w.alloc (Obj.cells #[.slice A 0 c, .int .i64 (p : Int)] 25)) #[.int .i64 0, .int .i64 0] 32
  rw [World.size_alloc] at hD
  have r := hB.cell
  go_enter Try.func12, Try.ntmps12
  go_wp2_with fail
  refine (len_any _ _ _ _ _).mono ?_
  rintro e w1 ⟨rfl, hx⟩
  have r3 := (hD.ext hx).cell
  have r4 := (hD.ext hx).free
  go_wp2_with fail
  refine bodyPost_ret (v := .tuple #[(Value.agg #[.int .i64 0, .int .i64 0]), .bool false]) (by simp [results, Try.results12, go_sem, *]) rfl ?_
  exact ⟨rfl, ((hX0.trans hx).set (p := ⟨w.heap.size + 1, 0, none⟩) (by simp) _).set (p := ⟨w.heap.size + 1, 1, none⟩) (by simp) _⟩
theorem first_yes {w : World} {A : Option Addr} {n c p : Nat} {l : List Wt} (h : Rg w A n c p l) (h0 : 0 < l.length) (hl : l.length ≤ 70000) : Calls Try.prog 12 #[(Value.agg #[.slice A n c, .int .i64 (p : Int)])] w fun e w' => e = .returned (.tuple #[(Value.agg #[.int .i64 (l[0]).1, .int .i64 (l[0]).2]), .bool true]) ∧ Ext w w' := by
  have hn := h.len
  obtain ⟨m, hr, hp, rfl⟩ := h
  have hm := hr.1
  have hp2 : p < m.length := by omega
  have e0 := tuK_at m hp2
  rw [e0]
  clear e0
  obtain ⟨b, off, rfl, r⟩ := hr.ch.at_ hp2
  have hX0 : Ext w ((w.alloc (Obj.cells #[.slice (some ⟨b, off, none⟩) n c, .int .i64 (p : Int)] 25)).alloc (Obj.cells #[.int .i64 0, .int .i64 0] 32)) := (Ext.alloc _ _).trans (Ext.alloc _ _)
  have hB := (Blk.new w #[.slice (some ⟨b, off, none⟩) n c, .int .i64 (p : Int)] 25).ext (Ext.alloc _ (Obj.cells #[.int .i64 0, .int .i64 0] 32))
  have hD := Blk.new (w.alloc (Obj.cells #[.slice (some ⟨b, off, none⟩) n c, .int .i64 (p : Int)] 25)) #[.int .i64 0, .int .i64 0] 32
  rw [World.size_alloc] at hD
  have r0 := hB.cell
  generalize m[p] = x at *
  have hn1 : ¬ n = 0 := by omega
  have hn2 : p < n := by omega
  have HN := hide hn
  clear hn hm hp hp2 h0 hl hr
  go_enter Try.func12, Try.ntmps12
  go_wp2_with fail
  refine (len_any _ _ _ _ _).mono ?_
  rintro e w1 ⟨rfl, hx⟩
  have r1 := (hB.ext hx).cell
  have r3 := (hD.ext hx).cell
  have r4 := (hD.ext hx).free
  obtain ⟨r5, r6⟩ := r _ (hX0.trans hx)
  clear r0 r
  go_wp2_with fail
  refine bodyPost_ret (v := .tuple #[(Value.agg #[.int .i64 x.1, .int .i64 x.2]), .bool true]) (by simp [results, Try.results12, go_sem, *]) rfl ?_
  exact ⟨rfl, ((hX0.trans hx).set (p := ⟨w.heap.size + 1, 0, none⟩) (by simp) _).set (p := ⟨w.heap.size + 1, 1, none⟩) (by simp) _⟩
end Go.Proofs.Ytbkpmlcockkfnaa
