/- What Drain's loop keeps; its append. -/
import Derived.Test.YtnmegokppbdhdaaD1
namespace Go.Proofs.Ytnmegokppbdhdaa
open Go.RowKit Go.Shelf
set_option linter.unusedSimpArgs false
set_option linter.unusedVariables false
set_option maxRecDepth 100000

attribute [local go_sem] Oper.semAt_some
/-- The threads that Drain gathers: the queue's own list, cut to its length, or a row of the call's. -/
def Thr (w : World) (base : Nat) (v : Value) (xs : List Int) : Prop :=
  (∃ A, v = .slice A xs.length xs.length ∧ Row w A xs.length xs.length xs) ∨ w.ownsRow base 3 1 v xs.length (xs.map enJ)
theorem Thr.sl {w : World} {base : Nat} {v : Value} {xs : List Int} (h : Thr w base v xs) : ∃ A c, v = .slice A xs.length c ∧ Row w A xs.length c xs := by
  rcases h with ⟨A, rfl, h⟩ | h
  · exact ⟨A, _, rfl, h⟩
  · obtain ⟨A, c, e, hr⟩ := Row.of_own h
    exact ⟨A, c, e, hr⟩
theorem Thr.chg {w w' : World} {base : Nat} {v : Value} {xs : List Int} {T : List Nat} (h : Thr w base v xs) (x : Chg T w w') (hT : ∀ b cs, b ∈ T → ¬ Blk w b cs 3) : Thr w' base v xs := by
  rcases h with ⟨A, e, h1, h2, h3, h4⟩ | h
  · refine .inl ⟨A, e, h1, h2, h3, ?_⟩
    rcases h4 with h4 | ⟨b, off, cs, h5, h6, h7⟩
    · exact .inl h4
    · exact .inr ⟨b, off, cs, h5, h6.chg x (fun q => hT b cs q h6), h7⟩
  · refine .inr (own_chgB h x fun k hk hm => ?_)
    obtain ⟨cs, hb⟩ := own_blk h k hk
    exact hT k cs hm hb
theorem grown_chg {A B : World} {row : Option Nat} (hg : A.grownBy B row) : Chg (match row with | some r => [r] | none => []) A B :=
  ⟨hg.os, hg.tape, hg.output, hg.size, fun k hk hT => hg.block k hk (by rintro rfl; simp at hT)⟩
/-- 'threads = append(threads, thread)', within a round. -/
theorem wpListIn_thr {F : Fence} {nF : Nat} {ops : Array Oper} {rest : List Oper} {o : Oper} {a : Act} {w : World} {Q : Exit → Act → World → Prop}
    (hg : o.guard = none) (s x : Operand) (hop : o.op = Op.call { callee := Callee.builtin Builtin.append, args := #[s, x], argTypes := #[25, 25] })
    {base : Nat} {v : Value} {xs : List Int} (hs : a.eval s = v) (ht : Thr w base v xs) (hbase : base ≤ w.heap.size)
    {g0 c : Nat} {t : Int} (hx : a.eval x = .slice (some ⟨g0, 0, none⟩) 1 c) (hc : w.cell? ⟨g0, 0, none⟩ = some (.int .i64 t)) (hb : xs.length + 1 ≤ 200000)
    (hK : ∀ A' c' w' g, w'.ownsRow base 3 1 (.slice A' (xs.length + 1) c') (xs.length + 1) ((xs ++ [t]).map enJ) → base ≤ g → (∀ ob, w.heap[g]? = some ob → ob.isCells = true) → Chg [g] w w' → wpListIn F nF Try.prog ops Q rest (a.put o.dst (.slice A' (xs.length + 1) c')) w') :
    wpListIn F nF Try.prog ops Q (o :: rest) a w := by
  have hnews := news_one hc
  have hsz : ∀ ob, w.heap[w.heap.size]? = some ob → ob.isCells = true := fun ob h => by rw [Array.getElem?_eq_none (Nat.le_refl _)] at h; cases h
  have H : ∃ A' c' w' g, (Builtin.append_ #[25, 25] o.type #[v, .slice (some ⟨g0, 0, none⟩) 1 c]).run Try.prog w = .ok (.slice A' (xs.length + 1) c') w' ∧ w'.ownsRow base 3 1 (.slice A' (xs.length + 1) c') (xs.length + 1) ((xs ++ [t]).map enJ) ∧ base ≤ g ∧ (∀ ob, w.heap[g]? = some ob → ob.isCells = true) ∧ Chg [g] w w' := by
    rcases ht with ⟨A, rfl, hr⟩ | hown
    · have hA : A = none → xs.length = 0 ∧ xs.length = 0 := fun e => by subst e; have := hr.noA; exact ⟨this.1, this.1⟩
      obtain ⟨v', w', h1, h2, h3⟩ := grows_run (P := Try.prog) (w := w) 25 o.type 3 Try.underlying25 inf_int rfl hA (olds := xs.map enJ) (by simp) (fun b e j u hu => by subst e; exact hr.ch.olds w (Ext.refl w) j u hu) (news := [t].map enJ) (m := 1) rfl hnews (enJ_one [t]) (by omega) (c := c) (by unfold maxLen; omega) (by omega)
      rw [← List.map_append] at h2
      obtain ⟨A', c', rfl⟩ := own_sl h2
      exact ⟨A', c', w', w.heap.size, h1, own_low h2 hbase, hbase, hsz, h3.chg _⟩
    · obtain ⟨i, hi, hz, hsize, hb2⟩ := info_parts inf_int
      obtain ⟨v', w', h1, h2, h3, _⟩ := run_append_own (P := Try.prog) w base 25 o.type 3 i (.int .i64 0) 1 8 Try.underlying25 hi hz hsize hb2 rfl (by omega) v xs.length (xs.map enJ) hown ⟨g0, 0, none⟩ 1 c ([t].map enJ) rfl hnews (enJ_one [t]) (by unfold maxLen; omega) (by omega) hbase
      rw [← List.map_append] at h2
      obtain ⟨A', c', rfl⟩ := own_sl h2
      cases hv : v.ownBlock with
      | none =>
        rw [hv] at h3
        exact ⟨A', c', w', w.heap.size, h1, h2, hbase, hsz, (Chg.refl [w.heap.size] w).of_grow h3 (by intro k e; cases e)⟩
      | some g =>
        rw [hv] at h3
        obtain ⟨cs, hbk⟩ := own_blk hown g hv
        exact ⟨A', c', w', g, h1, h2, own_row hown g hv, (fun ob h => by unfold Blk at hbk; rw [hbk] at h; cases h; rfl), (Chg.refl [g] w).of_grow h3 (by intro k e; cases e; simp)⟩
  obtain ⟨A', c', w', g, hrun, r1, r2, r3, r4⟩ := H
  refine wpListIn_plain hg fun K hK' => ?_
  unfold Oper.wpIn
  refine ⟨?_, ?_⟩
  · simp [Oper.about, hop, resolve, Target.leads, Sem.run_pure]
  · rw [Oper.semAt_plain F _ _ (by rw [hop]; intro c hc'; cases hc')]
    simp [execOp, hop, resolve, invoke, builtin, hs, hx, hrun, Result.andThen]
    exact hK' _ _ (hK A' c' w' g r1 r2 r3 r4)
def fo (ch l : List Int) (pre : List Nat) : List Int := pre.foldl (fun l k => apL l (ch[k]?.getD 0)) l
theorem fo_snoc (ch l : List Int) (pre : List Nat) (x : Nat) : fo ch l (pre ++ [x]) = apL (fo ch l pre) (ch[x]?.getD 0) := by simp [fo]
theorem fo_rv (ch l : List Int) {k : Nat} (hk : k ≤ ch.length) : fo ch l (rv ch.length k) = drK l ch k := by
  induction k with
  | zero => simp [fo, rv, drK_zero]
  | succ k ih =>
    rw [rv_succ, fo_snoc, ih (by omega), drK_succ l ch (by omega), List.getElem?_eq_getElem (by omega), Option.getD_some]
theorem updB_hasQ (xs : List Int) (z : Int) : updB (hasQ xs) z true = hasQ (xs ++ [z]) := by
  funext y
  unfold updB hasQ
  by_cases e : y = z
  · rw [if_pos e, e]; exact (decide_eq_true (List.mem_append_right _ (List.mem_singleton.2 rfl))).symm
  · rw [if_neg e]; exact decide_eq_decide.2 ⟨fun h => List.mem_append_left _ h, fun h => (List.mem_append.1 h).resolve_right (fun q => e (List.mem_singleton.1 q))⟩
/-- What the loop's rounds keep. -/
structure InvD (w1 : World) (B6 B7 m Z N : Nat) (xs : List Int) (W : World) : Prop where
  ext : Ext w1 W
  v : ∃ v, W.cell? ⟨B6, 0, none⟩ = some v ∧ Thr W Z v xs
  f6 : W.frozen? ⟨B6, 0, none⟩ = false
  c7 : W.cell? ⟨B7, 0, none⟩ = some (.map (some m))
  f7 : W.frozen? ⟨B7, 0, none⟩ = false
  ms : ∃ n, n ≤ N ∧ MS W m n (hasQ xs)
  sz : Z ≤ W.heap.size
  ok : OkQ xs
theorem InvD.chg {w1 W W' : World} {B6 B7 m Z N : Nat} {xs : List Int} {T : List Nat} (h : InvD w1 B6 B7 m Z N xs W) (x : Chg T W W') (hT : ∀ b, b ∈ T → w1.heap.size ≤ b ∧ b ≠ B6 ∧ b ≠ B7 ∧ b ≠ m) (hT2 : ∀ b cs, b ∈ T → ¬ Blk W b cs 3) : InvD w1 B6 B7 m Z N xs W' := by
  obtain ⟨v, c6, ht⟩ := h.v
  have l6 : B6 < W.heap.size := World.block_lt_of_cell? W _ c6
  have l7 : B7 < W.heap.size := World.block_lt_of_cell? W _ h.c7
  have e6 := x.block B6 l6 (fun q => (hT B6 q).2.1 rfl)
  have e7 := x.block B7 l7 (fun q => (hT B7 q).2.2.1 rfl)
  refine ⟨h.ext.turn x fun t ht => (hT t ht).1, ⟨v, (World.cell?_of_block (a := ⟨B6, 0, none⟩) e6).trans c6, ht.chg x hT2⟩, (World.frozen?_of_block (a := ⟨B6, 0, none⟩) e6).trans h.f6, (World.cell?_of_block (a := ⟨B7, 0, none⟩) e7).trans h.c7, (World.frozen?_of_block (a := ⟨B7, 0, none⟩) e7).trans h.f7, (by obtain ⟨n, hn, hm⟩ := h.ms; exact ⟨n, hn, hm.chg x (fun q => (hT m q).2.2.2 rfl)⟩), Nat.le_trans h.sz x.size, h.ok⟩
theorem InvD.own {β : Type} {w1 : World} {B6 B7 m Z B : Nat} {N : β → Nat} {xs : β → List Int} (h1 : w1.heap.size ≤ B) (h6 : B6 < B) (h7 : B7 < B) (hm : m < B) : OwnFrom B (fun (s : β) W => InvD w1 B6 B7 m Z (N s) (xs s) W) := by
  intro s W W' row hs hg hr
  refine hs.chg (grown_chg hg) (fun b hb => ?_) (fun b cs hb hbk => ?_)
  · cases row with
    | none => simp at hb
    | some r =>
      simp at hb; subst hb
      have := (hr b rfl).1
      omega
  · cases row with
    | none => simp at hb
    | some r =>
      simp at hb; subst hb
      obtain ⟨_, o, ho, hc⟩ := hr b rfl
      unfold Blk at hbk
      rw [hbk] at ho; cases ho; cases hc
theorem InvD.le {w1 W : World} {B6 B7 m Z N N' : Nat} {xs : List Int} (h : InvD w1 B6 B7 m Z N xs W) (hN : N ≤ N') : InvD w1 B6 B7 m Z N' xs W :=
  ⟨h.ext, h.v, h.f6, h.c7, h.f7, (by obtain ⟨n, hn, hm⟩ := h.ms; exact ⟨n, by omega, hm⟩), h.sz, h.ok⟩
theorem MS.neCell {w : World} {m N b o : Nat} {u : Int → Bool} {v : Value} (h : MS w m N u) (hc : w.cell? ⟨b, o, none⟩ = some v) : m ≠ b := by
  rintro rfl
  obtain ⟨ob, ho, hi⟩ := cells_of_cell hc
  obtain ⟨D, ⟨es, clock, hm, r⟩, h2⟩ := h
  rw [hm] at ho
  cases ho
  cases hi
theorem MS.setc {w : World} {m N : Nat} {u : Int → Bool} {p : Addr} (h : MS w m N u) (hne : m ≠ p.block) (v : Value) : MS (w.setCell p v) m N u :=
  h.chg ((Chg.refl [p.block] w).set (.inl (by simp)) v) (by simpa using hne)
/-- What a round leaves that has appended. -/
theorem InvD.app {w1 W w4 : World} {B6 B7 m Z N g : Nat} {xs : List Int} {z : Int} {A4 : Option Addr} {c4 N2 : Nat} (h : InvD w1 B6 B7 m Z N xs W) (h6 : B6 < Z) (h7 : B7 < Z) (hne : B6 ≠ B7) (h6m : m ≠ B6) (h7m : m ≠ B7) (k6 : w1.heap.size ≤ B6) (km : w1.heap.size ≤ m) (kZ : w1.heap.size ≤ Z) (hg : Z ≤ g)
    (hc : Chg [m, g] W w4) (hown : w4.ownsRow Z 3 1 (.slice A4 (xs.length + 1) c4) (xs.length + 1) ((xs ++ [z]).map enJ)) (hms : MS w4 m N2 (updB (hasQ xs) z true)) (hN : N2 ≤ N + 1) (ea : apB xs z = true) :
    InvD w1 B6 B7 m Z (N + 1) (apL xs z) (w4.setCell ⟨B6, 0, none⟩ (.slice A4 (xs.length + 1) c4)) := by
  obtain ⟨v, c6, ht⟩ := h.v
  have l6 : B6 < W.heap.size := World.block_lt_of_cell? W _ c6
  have l7 : B7 < W.heap.size := World.block_lt_of_cell? W _ h.c7
  have hok := h.ok.ap z
  rw [apL_yes ea] at hok ⊢
  have hc2 : Chg [m, g, B6] W (w4.setCell ⟨B6, 0, none⟩ (.slice A4 (xs.length + 1) c4)) := (hc.mono (by intro k hk; simp at hk ⊢; omega)).set (.inl (by simp)) _
  have b6 : w4.heap[B6]? = W.heap[B6]? := hc.block B6 l6 (by simp; omega)
  have b7 := hc2.block B7 l7 (by simp; omega)
  refine ⟨h.ext.turn hc2 (by intro t ht; simp at ht; omega), ⟨_, World.cell?_setCell_same' _ _ _ (by rw [World.cell?_of_block (a := ⟨B6, 0, none⟩) b6, c6]; rfl), .inr ?_⟩, ?_, (World.cell?_of_block (a := ⟨B7, 0, none⟩) b7).trans h.c7, (World.frozen?_of_block (a := ⟨B7, 0, none⟩) b7).trans h.f7, ⟨N2, hN, by rw [← updB_hasQ]; exact hms.setc h6m _⟩, Nat.le_trans h.sz hc2.size, hok⟩
  · have := own_chgB hown ((Chg.refl [B6] w4).set (p := ⟨B6, 0, none⟩) (.inl (by simp)) (.slice A4 (xs.length + 1) c4)) (fun k hk => by have := own_row hown k hk; simp; omega)
    simpa using this
  · rw [World.frozen?_setCell, World.frozen?_of_block (a := ⟨B6, 0, none⟩) b6]; exact h.f6
theorem kb_of {n Bs : Nat} {T : List Nat} {W W' : World} (x : Chg T W W') (hT : ∀ b, b ∈ T → n ≤ b ∧ b ≠ Bs) : KB n Bs W W' :=
  ⟨x.size, fun b hb hq => x.block b hb (fun hm => by obtain ⟨h1, h2⟩ := hT b hm; rcases hq with hq | hq <;> omega)⟩
theorem kf_of {B : Nat} {T : List Nat} {W W' : World} (x : Chg T W W') (hT : ∀ b, b ∈ T → b < B ∨ ∀ ob, W.heap[b]? = some ob → ob.isCells = true) : KeepsFrom B W W' :=
  ⟨x.size, fun k o hk ho hc => (x.block k (Array.getElem?_eq_some_iff.1 ho).1 (fun hm => by
    rcases hT k hm with h | h
    · omega
    · rw [h o ho] at hc; cases hc)).trans ho⟩
end Go.Proofs.Ytnmegokppbdhdaa
