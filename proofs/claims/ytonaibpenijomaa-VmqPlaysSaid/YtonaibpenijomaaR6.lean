/- The document's Ask: of what is new. -/
import Derived.Test.YtonaibpenijomaaR4
import Derived.Deep.RegionLaw
namespace Go.Proofs.Ytonaibpenijomaa
open Go.RowKit Go.Maps
set_option linter.unusedSimpArgs false
set_option linter.unusedVariables false
set_option maxRecDepth 100000



/-- The cells of the document's requests. -/
def acells : List En → (Nat → Sl3) → List Value
  | [], _ => []
  | e :: S, vs => .int .i64 e.1.1 :: .int .i64 e.1.2 :: slV (vs 0) :: acells S (fun j => vs (j + 1))
theorem acells_length (S : List En) : ∀ vs, (acells S vs).length = S.length * 3 := by
  induction S with
  | nil => intro vs; rfl
  | cons e S ih => intro vs; simp only [acells, List.length_cons, ih]; omega
theorem acells_at (S : List En) : ∀ (vs : Nat → Sl3) (j : Nat) (h : j < S.length), (acells S vs)[j * 3]? = some (.int .i64 (S[j]).1.1) ∧ (acells S vs)[j * 3 + 1]? = some (.int .i64 (S[j]).1.2) ∧ (acells S vs)[j * 3 + 2]? = some (slV (vs j)) := by
  induction S with
  | nil => intro vs j h; simp at h
  | cons e S ih =>
    intro vs j h
    cases j with
    | zero => simp [acells]
    | succ j =>
      have := ih (fun j => vs (j + 1)) j (by simpa using h)
      have e1 : (j + 1) * 3 = j * 3 + 1 + 1 + 1 := by omega
      simp only [acells, e1, List.getElem?_cons_succ, List.getElem_cons_succ] at this ⊢
      exact this
theorem slV_one (s : Sl3) : (slV s).oneCell' = true := rfl
theorem acells_one (S : List En) : ∀ vs, ∀ u ∈ acells S vs, u.oneCell' = true := by
  induction S with
  | nil => intro vs u hu; simp [acells] at hu
  | cons e S ih =>
    intro vs u hu
    simp only [acells, List.mem_cons] at hu
    rcases hu with rfl | rfl | rfl | hu
    · rfl
    · rfl
    · rfl
    · exact ih _ u hu
theorem acells_snoc (S : List En) (e : En) : ∀ vs, acells (S ++ [e]) vs = acells S vs ++ [.int .i64 e.1.1, .int .i64 e.1.2, slV (vs S.length)] := by
  induction S with
  | nil => intro vs; rfl
  | cons x S ih => intro vs; simp only [List.cons_append, acells, ih, List.length_cons]
theorem acells_eq (S : List En) : ∀ vs vs', (∀ j, j < S.length → vs j = vs' j) → acells S vs = acells S vs' := by
  induction S with
  | nil => intro vs vs' _; rfl
  | cons x S ih =>
    intro vs vs' h
    simp only [acells]
    rw [h 0 (by simp), ih _ (fun j => vs' (j + 1)) (fun j hj => h (j + 1) (by simpa using hj))]
theorem inf_asked : (Try.prog.info? 38).map (fun i => (i.zero, i.size, i.bytes)) = some (some (.agg #[.int .i64 0, .int .i64 0, .slice none 0 0]), 3, 40) := by kernel_rfl
theorem cells_of {w : World} {b off : Nat} {cs : Array Value} {S : List En} {vs : Nat → Sl3} (hb : Blk w b cs 38) (h : Row3 cs off S vs) : ∀ j u, (acells S vs)[j]? = some u → w.cell? ((⟨b, off, none⟩ : Addr).add j) = some u := by
  intro j u hu
  have hj : j < S.length * 3 := by have := (List.getElem?_eq_some_iff.1 hu).1; rwa [acells_length] at this
  have hk : j / 3 < S.length := by omega
  obtain ⟨e0, e1, e2⟩ := acells_at S vs (j / 3) hk
  rw [Addr.add_lit, hb.cell, ← hu]
  rcases (show j % 3 = 0 ∨ j % 3 = 1 ∨ j % 3 = 2 by omega) with q | q | q
  · have : j = j / 3 * 3 := by omega
    rw [this, e0]; exact h.k _ hk
  · have : j = j / 3 * 3 + 1 := by omega
    rw [this, e1]; exact h.o _ hk
  · have : j = j / 3 * 3 + 2 := by omega
    rw [this, e2]; exact h.v _ hk
/-- 'append(nil, q.L..)'. -/
theorem dup3_run {w : World} {O : List Nat} {X c : Nat} {A : Option Addr} {vs : Nat → Sl3} {S : List En} (ty : TypeId) (h : RI w O X A c vs S) (hl : S.length ≤ 70000) :
    ∃ A' c' w', (Builtin.append_ #[25, 25] ty #[.slice none 0 0, .slice A S.length c]).run Try.prog w = .ok (.slice A' S.length c') w' ∧ w'.ownsRow w.heap.size 38 3 (.slice A' S.length c') S.length (acells S vs) ∧ Ext w w' := by
  obtain ⟨i, hi, hz, hsize, hb⟩ := info_parts inf_asked
  have hnc := h.nc
  rcases h.row with ⟨rfl, rfl⟩ | ⟨b, off, cs, rfl, h2, h3, h4⟩
  · have e0 : S = [] := List.eq_nil_of_length_eq_zero (by omega)
    subst e0
    exact ⟨none, 0, w, run_append_owned_none w w.heap.size 25 ty 38 i 3 Try.underlying25 hi (.slice none 0 0) 0 [] (own_nil _ _ _ _), own_nil _ _ _ _, Ext.refl w⟩
  · obtain ⟨v', w', k1, k2, k3, _⟩ := run_append_own (P := Try.prog) w w.heap.size 25 ty 38 i (.agg #[.int .i64 0, .int .i64 0, .slice none 0 0]) 3 40 Try.underlying25 hi hz hsize hb rfl (by omega) (.slice none 0 0) 0 [] (own_nil _ _ _ _) ⟨b, off, none⟩ S.length c (acells S vs) (acells_length S vs) (cells_of h2 h3) (acells_one S vs) (by unfold maxLen; omega) (by omega) (Nat.le_refl _)
    rw [Nat.zero_add, List.nil_append] at k2
    obtain ⟨A', c', rfl⟩ := own_sl k2
    exact ⟨A', c', w', k1, k2, Ext.grown (Ext.refl w) k3 (by intro k hk; cases hk)⟩
/-- A step of a region: 'append(nil, q.L..)', whatever the world. -/
theorem step_dup3 {ops : Array Oper} {op : Oper} {a : Act} {w w0 : World} {K : Act → World → Prop} {Q : Exit → Act → World → Prop} {E : Prop} {O : List Nat} {X c n : Nat} {A : Option Addr} {vs : Nat → Sl3} {S : List En}
    (hg : op.guard = none) (s x : Operand) (ho : op.op = .call { callee := .builtin .append, args := #[s, x], argTypes := #[25, 25] }) (hs : a.eval s = .slice none 0 0) (hx : a.eval x = .slice A n c) (hn : S.length = n)
    (hi : RI w0 O X A c vs S) (hl : S.length ≤ 70000) (hw : Ext w0 w)
    (h : ∀ A' c' w', w'.ownsRow w0.heap.size 38 3 (.slice A' n c') n (acells S vs) → Ext w w' → K (a.put op.dst (.slice A' n c')) w') :
    if Region.wanted op (yielded ops a.tmps) = true then Oper.wp Try.prog op a w K Q else E := by
  subst hn
  obtain ⟨A', c', w', h1, h2, h3⟩ := dup3_run op.type (hi.ext hw) hl
  exact step_app hg s x 25 ho hs hx h1 (h A' c' w' (own_low h2 hw.size) h3)
/-- A step of a region: one more of the document's requests. -/
theorem step_add3 {ops : Array Oper} {op : Oper} {a : Act} {w w0 : World} {K : Act → World → Prop} {Q : Exit → Act → World → Prop} {E : Prop} {n g : Nat} {v : Value} {xs : List Value} {x0 x1 x2 : Value}
    (hg : op.guard = none) (s x : Operand) (ho : op.op = .call { callee := .builtin .append, args := #[s, x], argTypes := #[25, 25] }) (hs : a.eval s = v) (hx : a.eval x = .slice (some ⟨g, 0, none⟩) 1 1)
    (hown : w.ownsRow w0.heap.size 38 3 v n xs) (hw : Ext w0 w) (hn : n ≤ 70000) (h0 : w.cell? ⟨g, 0, none⟩ = some x0) (h1 : w.cell? ⟨g, 1, none⟩ = some x1) (h2 : w.cell? ⟨g, 2, none⟩ = some x2) (h3 : ∀ u ∈ [x0, x1, x2], u.oneCell' = true)
    (h : ∀ A' c' w', w'.ownsRow w0.heap.size 38 3 (.slice A' (n + 1) c') (n + 1) (xs ++ [x0, x1, x2]) → Ext w0 w' → K (a.put op.dst (.slice A' (n + 1) c')) w') :
    if Region.wanted op (yielded ops a.tmps) = true then Oper.wp Try.prog op a w K Q else E := by
  obtain ⟨v', w', k1, k2, k3, _⟩ := app_run (P := Try.prog) (m := 1) (c := 1) op.type Try.underlying25 inf_asked rfl (by omega) hown hw.size (ad := ⟨g, 0, none⟩) (news := [x0, x1, x2]) rfl (fun j u hu => by
    rw [Addr.add_lit, Nat.zero_add]
    match j with
    | 0 => simp at hu; subst hu; exact h0
    | 1 => simp at hu; subst hu; exact h1
    | 2 => simp at hu; subst hu; exact h2
    | j + 3 => simp at hu) h3 (by unfold maxLen; omega) (by omega)
  obtain ⟨A', c', rfl⟩ := own_sl k2
  exact step_app hg s x 25 ho hs hx k1 (h A' c' w' k2 (Ext.grown hw k3 (own_row hown)))
/-- One more of the document's requests. -/
theorem RI.fresh {w0 w5 : World} {O : List Nat} {X c c5 : Nat} {A A5 : Option Addr} {vs : Nat → Sl3} {S : List En} {r : Rq} {t : Int} {sw : Sl3} (h : RI w0 O X A c vs S) (hx : Ext w0 w5)
    (hown : w5.ownsRow w0.heap.size 38 3 (.slice A5 (S.length + 1) c5) (S.length + 1) (acells S vs ++ [.int .i64 r.1, .int .i64 r.2, slV sw])) (hrow : RowI w0 (slV sw) (who t)) :
    RI (w5.setCell ⟨X, 0, none⟩ (.slice A5 (S.length + 1) c5)) (blkL (.slice A5 (S.length + 1) c5) ++ (blkL (slV sw) ++ O)) X A5 c5 (fun j => if j = S.length then sw else vs j) (S ++ [(r, who t)]) := by
  have hc : Chg [X] w5 (w5.setCell ⟨X, 0, none⟩ (.slice A5 (S.length + 1) c5)) := (Chg.refl _ _).set (p := ⟨X, 0, none⟩) (.inl (by simp)) _
  have hx5 := h.x.ext hx
  have hxl := h.lt X h.ox
  have hsz := hx.size
  have hs2 := hc.size
  have ecs : acells (S ++ [(r, who t)]) (fun j => if j = S.length then sw else vs j) = acells S vs ++ [.int .i64 r.1, .int .i64 r.2, slV sw] := by
    rw [acells_snoc, acells_eq S _ vs (fun j hj => by rw [if_neg (by omega)]), if_pos rfl]
  have hlen : (S ++ [(r, who t)]).length = S.length + 1 := by simp
  have hget : ∀ q (hq : q < S.length), (S ++ [(r, who t)])[q]'(by rw [hlen]; omega) = S[q] := fun q hq => List.getElem_append_left hq
  have hlast : (S ++ [(r, who t)])[S.length]'(by rw [hlen]; omega) = (r, who t) := by simp
  have hblk : ∀ k, (Value.slice A5 (S.length + 1) c5).ownBlock = some k → k ∈ blkL (.slice A5 (S.length + 1) c5) ++ (blkL (slV sw) ++ O) := fun k hk => List.mem_append_left _ (blkL_of hk)
  rcases hown.2 with ⟨_, h0⟩ | ⟨g, cap, cur, hv, hbg, hh, hnc, hcm, hcs2, htake⟩
  · omega
  · cases hv
    have hgx : g ∉ [X] := by simp; omega
    refine ⟨by rw [hlen]; exact hx5.set 0 _, by rw [hlen]; exact hnc, hcm, .inr ⟨g, 0, cur, rfl, Blk.chg hh hc hgx, ?_, hblk g rfl⟩, fun q hq => ?_, fun q hq k hk1 => ?_, List.mem_append_right _ (List.mem_append_right _ h.ox), fun k hk1 => ?_⟩
    · have hcell : ∀ q, q < (S.length + 1) * 3 → cur[q]? = (acells (S ++ [(r, who t)]) (fun j => if j = S.length then sw else vs j))[q]? := fun q hq => by
        rw [ecs, ← htake, List.getElem?_take_of_lt hq, Array.getElem?_toList]
      refine ⟨fun q hq => ?_, fun q hq => ?_, fun q hq => ?_⟩ <;> have hq2 := hq <;> rw [hlen] at hq2 <;> have := acells_at (S ++ [(r, who t)]) (fun j => if j = S.length then sw else vs j) q hq
      · rw [Nat.zero_add, hcell _ (by omega)]; exact this.1
      · rw [Nat.zero_add, hcell _ (by omega)]; exact this.2.1
      · rw [Nat.zero_add, hcell _ (by omega)]; exact this.2.2
    · rw [hlen] at hq
      by_cases e : q = S.length
      · subst e
        rw [if_pos rfl, hlast]
        have := own_ext hrow hx
        exact own_chgB this hc (own_not hx5 this (by decide))
      · rw [if_neg e, hget q (by omega)]
        have := own_ext (h.rows q (by omega)) hx
        exact own_chgB this hc (own_not hx5 this (by decide))
    · rw [hlen] at hq
      by_cases e : q = S.length
      · subst e
        rw [if_pos rfl] at hk1
        exact List.mem_append_right _ (List.mem_append_left _ (blkL_of hk1))
      · rw [if_neg e] at hk1
        exact List.mem_append_right _ (List.mem_append_right _ (h.wait q (by omega) k hk1))
    · rcases List.mem_append.1 hk1 with h1 | h1
      · have := own_lt hown k (of_blkL h1); omega
      · rcases List.mem_append.1 h1 with h1 | h1
        · have := own_lt hrow k (of_blkL h1); omega
        · have := h.lt k h1; omega
/-- Behind the copy of the list. -/
theorem fresh_mid {w0 w w4 : World} {O : List Nat} {X b c : Nat} {A : Option Addr} {vs : Nat → Sl3} {S : List En} {k o : Int} (h : RI w0 O X A c vs S) (hb : Blk w0 b #[.int .i64 k, .int .i64 o] 30) (hx : Ext w w4) (h0 : Ext w0 w) :
    Hid (Ext w0 w4) ∧ (∀ i, w4.cell? ⟨b, i, none⟩ = (#[.int .i64 k, .int .i64 o] : Array Value)[i]?) ∧ (∀ (x y z : Value) i, (w4.alloc (.cells #[x, y, z] 38)).cell? ⟨b, i, none⟩ = (#[.int .i64 k, .int .i64 o] : Array Value)[i]?) ∧
    (∀ i, w4.cell? ⟨X, i, none⟩ = (#[.slice A S.length c] : Array Value)[i]?) ∧ (∀ (x y z : Value) i, (w4.alloc (.cells #[x, y, z] 38)).cell? ⟨X, i, none⟩ = (#[.slice A S.length c] : Array Value)[i]?) ∧ (∀ i, w4.frozen? ⟨X, i, none⟩ = false) := by
  have hy := h0.trans hx
  exact ⟨hide hy, (hb.ext hy).cell, fun x y z => (hb.ext (hy.trans (Ext.alloc _ _))).cell, (h.x.ext hy).cell, fun x y z => (h.x.ext (hy.trans (Ext.alloc _ _))).cell, (h.x.ext hy).free⟩
set_option maxHeartbeats 4000000 in
theorem rask_fresh {w : World} {O : List Nat} {X : Nat} {S : List En} {k o t : Int} (h : RT w O X S) (ok : Ok S) (ha : okA (k, o) t = true) (hw : waitsB S t = false) (hh : hasR S (k, o) = false) (hl : S.length ≠ 256) :
    Calls Try.prog 13 #[.pointer (some ⟨X, 0, none⟩), (Value.agg #[.int .i64 k, .int .i64 o]), .int .i64 t] w fun e w' => e = .returned (.tuple #[.bool true, .int .i64 0]) ∧ ∃ O', RT w' O' X (S ++ [((k, o), who t)]) ∧ Chg O w w' ∧ Fr O O' w := by
  obtain ⟨em, et⟩ := okA_of ha
  have hb := okT_of et
  have hX0 := Ext.alloc w (.cells #[.int .i64 k, .int .i64 o] 30)
  have hc := rwaits_ext t (h.ext hX0) ok
  rw [hw] at hc
  have t0 : ¬ t < -1 := by omega
  have t1 : ¬ 256 ≤ t := by omega
  have HB := hide (Blk.new w #[.int .i64 k, .int .i64 o] 30)
  have HI := hide h
  have HH := hide hh
  have OK := hide ok
  have hsl := ok.len
  have EL := hide (show S.length < 256 by omega)
  clear h ok ha hw hb et hh hl
  rcases mayR_of em with ⟨e1, e2, e3⟩ | ⟨e1, e2⟩
  · simp only at e1 e2 e3
    subst e1
    have e4 : o < 65536 := by omega
    clear em
    by_cases t2 : 0 ≤ t
    · have ew : who t = [t] := by unfold who; rw [if_neg (by omega)]
      go_enter Try.func13, Try.ntmps13
      go_wp2_with fail
      refine hc.mono ?_
      rintro e w1 ⟨rfl, hx⟩
      go_wp2_with fail
      have hown : RowI (w1.alloc (.cells #[.int .i64 t] 3)) (.slice (some ⟨w1.heap.size, 0, none⟩) 1 1) (who t) := by rw [ew]; exact own_one w1 t
      have hnw : ∀ k, (Value.slice (some ⟨w1.heap.size, 0, none⟩) 1 1).ownBlock = some k → w.heap.size ≤ k := fun k hk => by cases hk; exact Nat.le_trans hX0.size hx.size
      have hx := hx.trans (Ext.alloc w1 (.cells #[.int .i64 t] 3))
      generalize w1.alloc (.cells #[.int .i64 t] 3) = W1 at *
      obtain ⟨sw, hsw⟩ : ∃ s : Sl3, slV s = (Value.slice (some ⟨w1.heap.size, 0, none⟩) 1 1) := ⟨⟨some w1.heap.size, 1, 1⟩, rfl⟩
      have HSW := hide hsw
      have HOW := hide hown
      have HNW := hide hnw
      clear hsw hown hnw ew
      have HX := hide (hX0.trans hx)
      obtain ⟨A, c, vs, hi⟩ := HI.out.ext (hX0.trans hx)
      have HIW := hide hi
      have HBW := hide (HB.out.ext hx)
      have rX := hi.x.rule
      have x0 := Ext.refl W1
      clear hi
      go_loopw [10] (fun i wr => ∃ j : Nat, j ≤ S.length ∧ i = .int .i64 (j : Int) ∧ (∀ q (h : q < S.length), q < j → (S[q]).1 ≠ (1, o)) ∧ Ext W1 wr) (fun i _ => S.length - (intOf i).toNat)
      case atStart => exact ⟨0, by omega, rfl, fun q h h2 => by omega, x0⟩
      case round =>
        clear x0
        obtain ⟨j, hj, rfl, hno, hX⟩ := hrel
        have HNO := hide hno
        clear hno
        by_cases hlt : j < S.length
        · obtain ⟨b, off, rfl, hbO, r⟩ := HIW.out.at_ hlt
          have r0 := fun w' x => (r w' x).1
          have r1 := fun w' x => (r w' x).2.1
          have r2 := fun w' x => (r w' x).2.2
          have rb := HBW.out.rule
          have hW := hX
          have heq := fun w => eq_rreq (S[j]).1.1 (S[j]).1.2 1 o w
          by_cases hq : (S[j]).1 = (1, o)
          · exact absurd (has_mem (List.getElem_mem hlt)) (by rw [hq, HH.out]; decide)
          · have HQ := hide hq
            rw [show ((S[j]).1.1, (S[j]).1.2) = (S[j]).1 from rfl, eqQ_no hq] at heq
            generalize (S[j]).1.1 = x1 at *
            generalize (S[j]).1.2 = x2 at *
            clear r r2 hq hbO
            go_wp2_with fail
            refine wp_region_ext (by kernel_rfl) (by kernel_rfl) ?_
            repeat
              with_reducible refine wpQuiet_step (fun K hK => ?_)
              go_simp
              first
              | (refine hK _ ?_; clear hK K)
              | (apply Exists.intro
                 refine ⟨fun w1 h1 => ?_, hK _ ?_⟩
                 (have hW := Ext.trans2 hW (by repeat (first | exact Ext.refl _ | exact Ext.alloc _ _ | exact Ext.drewN _ _ | assumption | refine Ext.trans ?_ (Ext.alloc _ _) | refine Ext.trans ?_ (Ext.drew _) | refine Ext.trans ?_ (by assumption))) h1; (try have hV := Ext.trans2 hV (by repeat (first | exact Ext.refl _ | exact Ext.alloc _ _ | exact Ext.drewN _ _ | assumption | refine Ext.trans ?_ (Ext.alloc _ _) | refine Ext.trans ?_ (Ext.drew _) | refine Ext.trans ?_ (by assumption))) h1); (first | rfl | (go_simp; done) | (go_simp; rfl) | fail))
                 clear hK K)
            refine wpQuiet_nil (fun w' hw' => ?_)
            have hW := Ext.trans2 hW (by repeat (first | exact Ext.refl _ | exact Ext.alloc _ _ | exact Ext.drewN _ _ | assumption | refine Ext.trans ?_ (Ext.alloc _ _) | refine Ext.trans ?_ (Ext.drew _) | refine Ext.trans ?_ (by assumption))) hw'
            try have hV := Ext.trans2 hV (by repeat (first | exact Ext.refl _ | exact Ext.alloc _ _ | exact Ext.drewN _ _ | assumption | refine Ext.trans ?_ (Ext.alloc _ _) | refine Ext.trans ?_ (Ext.drew _) | refine Ext.trans ?_ (by assumption))) hw'
            clear hw'
            go_wp2_with fail
            go_roundw
            case rel => exact ⟨j + 1, by omega, by go_num, fun q h h2 => by
              by_cases z : q = j
              · subst z; exact HQ.out
              · exact HNO.out q h (by omega), hW⟩
            case measure => simp [intOf]; omega
        · obtain rfl : j = S.length := by omega
          have l1 : (S.length : Int) < 256 := by have := EL.out; omega
          have hd := Ext.drew wr
          have HXW := hide (hX.trans hd)
          have hI := HIW.out.ext HXW.out
          have HI2 := hide hI
          have hbx := HBW.out.ext HXW.out
          have HBX := hide hbx
          have e3 : ∀ a b c : Value, Ext wr.drew (wr.alloc (.cells #[a, b, c] 38)).drew := fun a b c => Ext.alloc wr.drew _
          have rXa := hI.x.cell
          have rBa := hbx.cell
          have rXb := fun a b c => (hI.x.ext (e3 a b c)).cell
          have rBb := fun a b c => (hbx.ext (e3 a b c)).cell
          have HE3 := hide e3
          clear hI hbx e3
          go_wp2_with fail
          clear rX
          go_region_law (first
            | (refine step_dup3 (w0 := wr.drew) (vs := vs) (S := S) (A := A) (c := c) (n := S.length) rfl _ (.tmp 98) rfl (by simp [Act.eval, Act.put]) (by simp [Act.eval, Act.put]) rfl HI2.out (by omega) (by first | exact Ext.refl _ | exact HE3.out _ _ _) ?_; intro A4 c4 w4 hown4 hx4; obtain ⟨HX4, rB4, rB4b, rX4, rX4b, fX4⟩ := fresh_mid HI2.out HBX.out hx4 (by first | exact Ext.refl _ | exact HE3.out _ _ _); (try have rN4 := (Blk.new wr.drew #[.int .i64 1, .int .i64 o, _] 38).ext hx4 |>.cell); skip)
            | (refine step_add3 (w0 := wr.drew) (xs := acells S vs) (x0 := .int .i64 1) (x1 := .int .i64 o) (x2 := (Value.slice (some ⟨w1.heap.size, 0, none⟩) 1 1)) rfl (.tmp 99) (.tmp 103) rfl rfl rfl (by first | exact hown4 | exact own_ext hown4 (Ext.alloc _ _)) (by first | exact HX4.out | exact HX4.out.trans (Ext.alloc _ _)) (by omega) (by first | exact rN4 0 | go_simp) (by first | exact rN4 1 | go_simp) (by first | exact rN4 2 | go_simp) (by simp [Value.oneCell']) ?_; intro A5 c5 w5 hown5 hx5; have HO5 := hide hown5; have HX5 := hide hx5; have rX5 := (HI2.out.x.ext hx5).cell; have fX5 := (HI2.out.x.ext hx5).free))
          all_goals
            clear hown5 hx5 hown4 rX4 rX4b rB4 rB4b rXa rXb rBa rBb
            go_wp2_with fail
            go_ret2
            have hown5 := HO5.out
            have hfr := own_row hown5
            rw [← HSW.out] at hown5
            have hown0 := own_ext HOW.out HXW.out
            have hnw := HNW.out
            rw [← HSW.out] at hown0 hnw
            have hm := HI2.out.fresh (r := (1, o)) HX5.out hown5 hown0
            have hxw := HX.out.trans HXW.out
            have hsz := hxw.size
            refine ⟨by simp, _, ⟨_, _, _, hm⟩, ((hxw.trans HX5.out).chg O).set (p := ⟨X, 0, none⟩) (.inl HI2.out.ox) _, fun q hq => ?_⟩
            rcases List.mem_append.1 hq with e | hq
            · exact .inr (by have := hfr q (of_blkL e); omega)
            · rcases List.mem_append.1 hq with e | e
              · exact .inr (hnw q (of_blkL e))
              · exact .inl e
    · have ew : who t = [] := by unfold who; rw [if_pos (by omega)]
      go_enter Try.func13, Try.ntmps13
      go_wp2_with fail
      refine hc.mono ?_
      rintro e W1 ⟨rfl, hx⟩
      go_wp2_with fail
      obtain ⟨sw, hsw⟩ : ∃ s : Sl3, slV s = (Value.slice none 0 0) := ⟨⟨none, 0, 0⟩, rfl⟩
      have HSW := hide hsw
      have HOW : Hid (RowI W1 (.slice none 0 0) (who t)) := hide (by rw [ew]; exact own_nil _ _ _ _)
      have HNW : Hid (∀ k, (Value.slice none 0 0).ownBlock = some k → w.heap.size ≤ k) := hide (fun k hk => by cases hk)
      clear hsw ew
      have HX := hide (hX0.trans hx)
      obtain ⟨A, c, vs, hi⟩ := HI.out.ext (hX0.trans hx)
      have HIW := hide hi
      have HBW := hide (HB.out.ext hx)
      have rX := hi.x.rule
      have x0 := Ext.refl W1
      clear hi
      go_loopw [10] (fun i wr => ∃ j : Nat, j ≤ S.length ∧ i = .int .i64 (j : Int) ∧ (∀ q (h : q < S.length), q < j → (S[q]).1 ≠ (1, o)) ∧ Ext W1 wr) (fun i _ => S.length - (intOf i).toNat)
      case atStart => exact ⟨0, by omega, rfl, fun q h h2 => by omega, x0⟩
      case round =>
        clear x0
        obtain ⟨j, hj, rfl, hno, hX⟩ := hrel
        have HNO := hide hno
        clear hno
        by_cases hlt : j < S.length
        · obtain ⟨b, off, rfl, hbO, r⟩ := HIW.out.at_ hlt
          have r0 := fun w' x => (r w' x).1
          have r1 := fun w' x => (r w' x).2.1
          have r2 := fun w' x => (r w' x).2.2
          have rb := HBW.out.rule
          have hW := hX
          have heq := fun w => eq_rreq (S[j]).1.1 (S[j]).1.2 1 o w
          by_cases hq : (S[j]).1 = (1, o)
          · exact absurd (has_mem (List.getElem_mem hlt)) (by rw [hq, HH.out]; decide)
          · have HQ := hide hq
            rw [show ((S[j]).1.1, (S[j]).1.2) = (S[j]).1 from rfl, eqQ_no hq] at heq
            generalize (S[j]).1.1 = x1 at *
            generalize (S[j]).1.2 = x2 at *
            clear r r2 hq hbO
            go_wp2_with fail
            refine wp_region_ext (by kernel_rfl) (by kernel_rfl) ?_
            repeat
              with_reducible refine wpQuiet_step (fun K hK => ?_)
              go_simp
              first
              | (refine hK _ ?_; clear hK K)
              | (apply Exists.intro
                 refine ⟨fun w1 h1 => ?_, hK _ ?_⟩
                 (have hW := Ext.trans2 hW (by repeat (first | exact Ext.refl _ | exact Ext.alloc _ _ | exact Ext.drewN _ _ | assumption | refine Ext.trans ?_ (Ext.alloc _ _) | refine Ext.trans ?_ (Ext.drew _) | refine Ext.trans ?_ (by assumption))) h1; (try have hV := Ext.trans2 hV (by repeat (first | exact Ext.refl _ | exact Ext.alloc _ _ | exact Ext.drewN _ _ | assumption | refine Ext.trans ?_ (Ext.alloc _ _) | refine Ext.trans ?_ (Ext.drew _) | refine Ext.trans ?_ (by assumption))) h1); (first | rfl | (go_simp; done) | (go_simp; rfl) | fail))
                 clear hK K)
            refine wpQuiet_nil (fun w' hw' => ?_)
            have hW := Ext.trans2 hW (by repeat (first | exact Ext.refl _ | exact Ext.alloc _ _ | exact Ext.drewN _ _ | assumption | refine Ext.trans ?_ (Ext.alloc _ _) | refine Ext.trans ?_ (Ext.drew _) | refine Ext.trans ?_ (by assumption))) hw'
            try have hV := Ext.trans2 hV (by repeat (first | exact Ext.refl _ | exact Ext.alloc _ _ | exact Ext.drewN _ _ | assumption | refine Ext.trans ?_ (Ext.alloc _ _) | refine Ext.trans ?_ (Ext.drew _) | refine Ext.trans ?_ (by assumption))) hw'
            clear hw'
            go_wp2_with fail
            go_roundw
            case rel => exact ⟨j + 1, by omega, by go_num, fun q h h2 => by
              by_cases z : q = j
              · subst z; exact HQ.out
              · exact HNO.out q h (by omega), hW⟩
            case measure => simp [intOf]; omega
        · obtain rfl : j = S.length := by omega
          have l1 : (S.length : Int) < 256 := by have := EL.out; omega
          have hd := Ext.drew wr
          have HXW := hide (hX.trans hd)
          have hI := HIW.out.ext HXW.out
          have HI2 := hide hI
          have hbx := HBW.out.ext HXW.out
          have HBX := hide hbx
          have e3 : ∀ a b c : Value, Ext wr.drew (wr.alloc (.cells #[a, b, c] 38)).drew := fun a b c => Ext.alloc wr.drew _
          have rXa := hI.x.cell
          have rBa := hbx.cell
          have rXb := fun a b c => (hI.x.ext (e3 a b c)).cell
          have rBb := fun a b c => (hbx.ext (e3 a b c)).cell
          have HE3 := hide e3
          clear hI hbx e3
          go_wp2_with fail
          clear rX
          go_region_law (first
            | (refine step_dup3 (w0 := wr.drew) (vs := vs) (S := S) (A := A) (c := c) (n := S.length) rfl _ (.tmp 98) rfl (by simp [Act.eval, Act.put]) (by simp [Act.eval, Act.put]) rfl HI2.out (by omega) (by first | exact Ext.refl _ | exact HE3.out _ _ _) ?_; intro A4 c4 w4 hown4 hx4; obtain ⟨HX4, rB4, rB4b, rX4, rX4b, fX4⟩ := fresh_mid HI2.out HBX.out hx4 (by first | exact Ext.refl _ | exact HE3.out _ _ _); (try have rN4 := (Blk.new wr.drew #[.int .i64 1, .int .i64 o, _] 38).ext hx4 |>.cell); skip)
            | (refine step_add3 (w0 := wr.drew) (xs := acells S vs) (x0 := .int .i64 1) (x1 := .int .i64 o) (x2 := (Value.slice none 0 0)) rfl (.tmp 99) (.tmp 103) rfl rfl rfl (by first | exact hown4 | exact own_ext hown4 (Ext.alloc _ _)) (by first | exact HX4.out | exact HX4.out.trans (Ext.alloc _ _)) (by omega) (by first | exact rN4 0 | go_simp) (by first | exact rN4 1 | go_simp) (by first | exact rN4 2 | go_simp) (by simp [Value.oneCell']) ?_; intro A5 c5 w5 hown5 hx5; have HO5 := hide hown5; have HX5 := hide hx5; have rX5 := (HI2.out.x.ext hx5).cell; have fX5 := (HI2.out.x.ext hx5).free))
          all_goals
            clear hown5 hx5 hown4 rX4 rX4b rB4 rB4b rXa rXb rBa rBb
            go_wp2_with fail
            go_ret2
            have hown5 := HO5.out
            have hfr := own_row hown5
            rw [← HSW.out] at hown5
            have hown0 := own_ext HOW.out HXW.out
            have hnw := HNW.out
            rw [← HSW.out] at hown0 hnw
            have hm := HI2.out.fresh (r := (1, o)) HX5.out hown5 hown0
            have hxw := HX.out.trans HXW.out
            have hsz := hxw.size
            refine ⟨by simp, _, ⟨_, _, _, hm⟩, ((hxw.trans HX5.out).chg O).set (p := ⟨X, 0, none⟩) (.inl HI2.out.ox) _, fun q hq => ?_⟩
            rcases List.mem_append.1 hq with e | hq
            · exact .inr (by have := hfr q (of_blkL e); omega)
            · rcases List.mem_append.1 hq with e | e
              · exact .inr (hnw q (of_blkL e))
              · exact .inl e
  · simp only at e1 e2
    subst e1 e2
    clear em
    by_cases t2 : 0 ≤ t
    · have ew : who t = [t] := by unfold who; rw [if_neg (by omega)]
      go_enter Try.func13, Try.ntmps13
      go_wp2_with fail
      refine hc.mono ?_
      rintro e w1 ⟨rfl, hx⟩
      go_wp2_with fail
      have hown : RowI (w1.alloc (.cells #[.int .i64 t] 3)) (.slice (some ⟨w1.heap.size, 0, none⟩) 1 1) (who t) := by rw [ew]; exact own_one w1 t
      have hnw : ∀ k, (Value.slice (some ⟨w1.heap.size, 0, none⟩) 1 1).ownBlock = some k → w.heap.size ≤ k := fun k hk => by cases hk; exact Nat.le_trans hX0.size hx.size
      have hx := hx.trans (Ext.alloc w1 (.cells #[.int .i64 t] 3))
      generalize w1.alloc (.cells #[.int .i64 t] 3) = W1 at *
      obtain ⟨sw, hsw⟩ : ∃ s : Sl3, slV s = (Value.slice (some ⟨w1.heap.size, 0, none⟩) 1 1) := ⟨⟨some w1.heap.size, 1, 1⟩, rfl⟩
      have HSW := hide hsw
      have HOW := hide hown
      have HNW := hide hnw
      clear hsw hown hnw ew
      have HX := hide (hX0.trans hx)
      obtain ⟨A, c, vs, hi⟩ := HI.out.ext (hX0.trans hx)
      have HIW := hide hi
      have HBW := hide (HB.out.ext hx)
      have rX := hi.x.rule
      have x0 := Ext.refl W1
      clear hi
      go_loopw [10] (fun i wr => ∃ j : Nat, j ≤ S.length ∧ i = .int .i64 (j : Int) ∧ (∀ q (h : q < S.length), q < j → (S[q]).1 ≠ (2, 0)) ∧ Ext W1 wr) (fun i _ => S.length - (intOf i).toNat)
      case atStart => exact ⟨0, by omega, rfl, fun q h h2 => by omega, x0⟩
      case round =>
        clear x0
        obtain ⟨j, hj, rfl, hno, hX⟩ := hrel
        have HNO := hide hno
        clear hno
        by_cases hlt : j < S.length
        · obtain ⟨b, off, rfl, hbO, r⟩ := HIW.out.at_ hlt
          have r0 := fun w' x => (r w' x).1
          have r1 := fun w' x => (r w' x).2.1
          have r2 := fun w' x => (r w' x).2.2
          have rb := HBW.out.rule
          have hW := hX
          have heq := fun w => eq_rreq (S[j]).1.1 (S[j]).1.2 2 0 w
          by_cases hq : (S[j]).1 = (2, 0)
          · exact absurd (has_mem (List.getElem_mem hlt)) (by rw [hq, HH.out]; decide)
          · have HQ := hide hq
            rw [show ((S[j]).1.1, (S[j]).1.2) = (S[j]).1 from rfl, eqQ_no hq] at heq
            generalize (S[j]).1.1 = x1 at *
            generalize (S[j]).1.2 = x2 at *
            clear r r2 hq hbO
            go_wp2_with fail
            refine wp_region_ext (by kernel_rfl) (by kernel_rfl) ?_
            repeat
              with_reducible refine wpQuiet_step (fun K hK => ?_)
              go_simp
              first
              | (refine hK _ ?_; clear hK K)
              | (apply Exists.intro
                 refine ⟨fun w1 h1 => ?_, hK _ ?_⟩
                 (have hW := Ext.trans2 hW (by repeat (first | exact Ext.refl _ | exact Ext.alloc _ _ | exact Ext.drewN _ _ | assumption | refine Ext.trans ?_ (Ext.alloc _ _) | refine Ext.trans ?_ (Ext.drew _) | refine Ext.trans ?_ (by assumption))) h1; (try have hV := Ext.trans2 hV (by repeat (first | exact Ext.refl _ | exact Ext.alloc _ _ | exact Ext.drewN _ _ | assumption | refine Ext.trans ?_ (Ext.alloc _ _) | refine Ext.trans ?_ (Ext.drew _) | refine Ext.trans ?_ (by assumption))) h1); (first | rfl | (go_simp; done) | (go_simp; rfl) | fail))
                 clear hK K)
            refine wpQuiet_nil (fun w' hw' => ?_)
            have hW := Ext.trans2 hW (by repeat (first | exact Ext.refl _ | exact Ext.alloc _ _ | exact Ext.drewN _ _ | assumption | refine Ext.trans ?_ (Ext.alloc _ _) | refine Ext.trans ?_ (Ext.drew _) | refine Ext.trans ?_ (by assumption))) hw'
            try have hV := Ext.trans2 hV (by repeat (first | exact Ext.refl _ | exact Ext.alloc _ _ | exact Ext.drewN _ _ | assumption | refine Ext.trans ?_ (Ext.alloc _ _) | refine Ext.trans ?_ (Ext.drew _) | refine Ext.trans ?_ (by assumption))) hw'
            clear hw'
            go_wp2_with fail
            go_roundw
            case rel => exact ⟨j + 1, by omega, by go_num, fun q h h2 => by
              by_cases z : q = j
              · subst z; exact HQ.out
              · exact HNO.out q h (by omega), hW⟩
            case measure => simp [intOf]; omega
        · obtain rfl : j = S.length := by omega
          have l1 : (S.length : Int) < 256 := by have := EL.out; omega
          have hd := Ext.drew wr
          have HXW := hide (hX.trans hd)
          have hI := HIW.out.ext HXW.out
          have HI2 := hide hI
          have hbx := HBW.out.ext HXW.out
          have HBX := hide hbx
          have e3 : ∀ a b c : Value, Ext wr.drew (wr.alloc (.cells #[a, b, c] 38)).drew := fun a b c => Ext.alloc wr.drew _
          have rXa := hI.x.cell
          have rBa := hbx.cell
          have rXb := fun a b c => (hI.x.ext (e3 a b c)).cell
          have rBb := fun a b c => (hbx.ext (e3 a b c)).cell
          have HE3 := hide e3
          clear hI hbx e3
          go_wp2_with fail
          clear rX
          go_region_law (first
            | (refine step_dup3 (w0 := wr.drew) (vs := vs) (S := S) (A := A) (c := c) (n := S.length) rfl _ (.tmp 98) rfl (by simp [Act.eval, Act.put]) (by simp [Act.eval, Act.put]) rfl HI2.out (by omega) (by first | exact Ext.refl _ | exact HE3.out _ _ _) ?_; intro A4 c4 w4 hown4 hx4; obtain ⟨HX4, rB4, rB4b, rX4, rX4b, fX4⟩ := fresh_mid HI2.out HBX.out hx4 (by first | exact Ext.refl _ | exact HE3.out _ _ _); (try have rN4 := (Blk.new wr.drew #[.int .i64 2, .int .i64 0, _] 38).ext hx4 |>.cell); skip)
            | (refine step_add3 (w0 := wr.drew) (xs := acells S vs) (x0 := .int .i64 2) (x1 := .int .i64 0) (x2 := (Value.slice (some ⟨w1.heap.size, 0, none⟩) 1 1)) rfl (.tmp 99) (.tmp 103) rfl rfl rfl (by first | exact hown4 | exact own_ext hown4 (Ext.alloc _ _)) (by first | exact HX4.out | exact HX4.out.trans (Ext.alloc _ _)) (by omega) (by first | exact rN4 0 | go_simp) (by first | exact rN4 1 | go_simp) (by first | exact rN4 2 | go_simp) (by simp [Value.oneCell']) ?_; intro A5 c5 w5 hown5 hx5; have HO5 := hide hown5; have HX5 := hide hx5; have rX5 := (HI2.out.x.ext hx5).cell; have fX5 := (HI2.out.x.ext hx5).free))
          all_goals
            clear hown5 hx5 hown4 rX4 rX4b rB4 rB4b rXa rXb rBa rBb
            go_wp2_with fail
            go_ret2
            have hown5 := HO5.out
            have hfr := own_row hown5
            rw [← HSW.out] at hown5
            have hown0 := own_ext HOW.out HXW.out
            have hnw := HNW.out
            rw [← HSW.out] at hown0 hnw
            have hm := HI2.out.fresh (r := (2, 0)) HX5.out hown5 hown0
            have hxw := HX.out.trans HXW.out
            have hsz := hxw.size
            refine ⟨by simp, _, ⟨_, _, _, hm⟩, ((hxw.trans HX5.out).chg O).set (p := ⟨X, 0, none⟩) (.inl HI2.out.ox) _, fun q hq => ?_⟩
            rcases List.mem_append.1 hq with e | hq
            · exact .inr (by have := hfr q (of_blkL e); omega)
            · rcases List.mem_append.1 hq with e | e
              · exact .inr (hnw q (of_blkL e))
              · exact .inl e
    · have ew : who t = [] := by unfold who; rw [if_pos (by omega)]
      go_enter Try.func13, Try.ntmps13
      go_wp2_with fail
      refine hc.mono ?_
      rintro e W1 ⟨rfl, hx⟩
      go_wp2_with fail
      obtain ⟨sw, hsw⟩ : ∃ s : Sl3, slV s = (Value.slice none 0 0) := ⟨⟨none, 0, 0⟩, rfl⟩
      have HSW := hide hsw
      have HOW : Hid (RowI W1 (.slice none 0 0) (who t)) := hide (by rw [ew]; exact own_nil _ _ _ _)
      have HNW : Hid (∀ k, (Value.slice none 0 0).ownBlock = some k → w.heap.size ≤ k) := hide (fun k hk => by cases hk)
      clear hsw ew
      have HX := hide (hX0.trans hx)
      obtain ⟨A, c, vs, hi⟩ := HI.out.ext (hX0.trans hx)
      have HIW := hide hi
      have HBW := hide (HB.out.ext hx)
      have rX := hi.x.rule
      have x0 := Ext.refl W1
      clear hi
      go_loopw [10] (fun i wr => ∃ j : Nat, j ≤ S.length ∧ i = .int .i64 (j : Int) ∧ (∀ q (h : q < S.length), q < j → (S[q]).1 ≠ (2, 0)) ∧ Ext W1 wr) (fun i _ => S.length - (intOf i).toNat)
      case atStart => exact ⟨0, by omega, rfl, fun q h h2 => by omega, x0⟩
      case round =>
        clear x0
        obtain ⟨j, hj, rfl, hno, hX⟩ := hrel
        have HNO := hide hno
        clear hno
        by_cases hlt : j < S.length
        · obtain ⟨b, off, rfl, hbO, r⟩ := HIW.out.at_ hlt
          have r0 := fun w' x => (r w' x).1
          have r1 := fun w' x => (r w' x).2.1
          have r2 := fun w' x => (r w' x).2.2
          have rb := HBW.out.rule
          have hW := hX
          have heq := fun w => eq_rreq (S[j]).1.1 (S[j]).1.2 2 0 w
          by_cases hq : (S[j]).1 = (2, 0)
          · exact absurd (has_mem (List.getElem_mem hlt)) (by rw [hq, HH.out]; decide)
          · have HQ := hide hq
            rw [show ((S[j]).1.1, (S[j]).1.2) = (S[j]).1 from rfl, eqQ_no hq] at heq
            generalize (S[j]).1.1 = x1 at *
            generalize (S[j]).1.2 = x2 at *
            clear r r2 hq hbO
            go_wp2_with fail
            refine wp_region_ext (by kernel_rfl) (by kernel_rfl) ?_
            repeat
              with_reducible refine wpQuiet_step (fun K hK => ?_)
              go_simp
              first
              | (refine hK _ ?_; clear hK K)
              | (apply Exists.intro
                 refine ⟨fun w1 h1 => ?_, hK _ ?_⟩
                 (have hW := Ext.trans2 hW (by repeat (first | exact Ext.refl _ | exact Ext.alloc _ _ | exact Ext.drewN _ _ | assumption | refine Ext.trans ?_ (Ext.alloc _ _) | refine Ext.trans ?_ (Ext.drew _) | refine Ext.trans ?_ (by assumption))) h1; (try have hV := Ext.trans2 hV (by repeat (first | exact Ext.refl _ | exact Ext.alloc _ _ | exact Ext.drewN _ _ | assumption | refine Ext.trans ?_ (Ext.alloc _ _) | refine Ext.trans ?_ (Ext.drew _) | refine Ext.trans ?_ (by assumption))) h1); (first | rfl | (go_simp; done) | (go_simp; rfl) | fail))
                 clear hK K)
            refine wpQuiet_nil (fun w' hw' => ?_)
            have hW := Ext.trans2 hW (by repeat (first | exact Ext.refl _ | exact Ext.alloc _ _ | exact Ext.drewN _ _ | assumption | refine Ext.trans ?_ (Ext.alloc _ _) | refine Ext.trans ?_ (Ext.drew _) | refine Ext.trans ?_ (by assumption))) hw'
            try have hV := Ext.trans2 hV (by repeat (first | exact Ext.refl _ | exact Ext.alloc _ _ | exact Ext.drewN _ _ | assumption | refine Ext.trans ?_ (Ext.alloc _ _) | refine Ext.trans ?_ (Ext.drew _) | refine Ext.trans ?_ (by assumption))) hw'
            clear hw'
            go_wp2_with fail
            go_roundw
            case rel => exact ⟨j + 1, by omega, by go_num, fun q h h2 => by
              by_cases z : q = j
              · subst z; exact HQ.out
              · exact HNO.out q h (by omega), hW⟩
            case measure => simp [intOf]; omega
        · obtain rfl : j = S.length := by omega
          have l1 : (S.length : Int) < 256 := by have := EL.out; omega
          have hd := Ext.drew wr
          have HXW := hide (hX.trans hd)
          have hI := HIW.out.ext HXW.out
          have HI2 := hide hI
          have hbx := HBW.out.ext HXW.out
          have HBX := hide hbx
          have e3 : ∀ a b c : Value, Ext wr.drew (wr.alloc (.cells #[a, b, c] 38)).drew := fun a b c => Ext.alloc wr.drew _
          have rXa := hI.x.cell
          have rBa := hbx.cell
          have rXb := fun a b c => (hI.x.ext (e3 a b c)).cell
          have rBb := fun a b c => (hbx.ext (e3 a b c)).cell
          have HE3 := hide e3
          clear hI hbx e3
          go_wp2_with fail
          clear rX
          go_region_law (first
            | (refine step_dup3 (w0 := wr.drew) (vs := vs) (S := S) (A := A) (c := c) (n := S.length) rfl _ (.tmp 98) rfl (by simp [Act.eval, Act.put]) (by simp [Act.eval, Act.put]) rfl HI2.out (by omega) (by first | exact Ext.refl _ | exact HE3.out _ _ _) ?_; intro A4 c4 w4 hown4 hx4; obtain ⟨HX4, rB4, rB4b, rX4, rX4b, fX4⟩ := fresh_mid HI2.out HBX.out hx4 (by first | exact Ext.refl _ | exact HE3.out _ _ _); (try have rN4 := (Blk.new wr.drew #[.int .i64 2, .int .i64 0, _] 38).ext hx4 |>.cell); skip)
            | (refine step_add3 (w0 := wr.drew) (xs := acells S vs) (x0 := .int .i64 2) (x1 := .int .i64 0) (x2 := (Value.slice none 0 0)) rfl (.tmp 99) (.tmp 103) rfl rfl rfl (by first | exact hown4 | exact own_ext hown4 (Ext.alloc _ _)) (by first | exact HX4.out | exact HX4.out.trans (Ext.alloc _ _)) (by omega) (by first | exact rN4 0 | go_simp) (by first | exact rN4 1 | go_simp) (by first | exact rN4 2 | go_simp) (by simp [Value.oneCell']) ?_; intro A5 c5 w5 hown5 hx5; have HO5 := hide hown5; have HX5 := hide hx5; have rX5 := (HI2.out.x.ext hx5).cell; have fX5 := (HI2.out.x.ext hx5).free))
          all_goals
            clear hown5 hx5 hown4 rX4 rX4b rB4 rB4b rXa rXb rBa rBb
            go_wp2_with fail
            go_ret2
            have hown5 := HO5.out
            have hfr := own_row hown5
            rw [← HSW.out] at hown5
            have hown0 := own_ext HOW.out HXW.out
            have hnw := HNW.out
            rw [← HSW.out] at hown0 hnw
            have hm := HI2.out.fresh (r := (2, 0)) HX5.out hown5 hown0
            have hxw := HX.out.trans HXW.out
            have hsz := hxw.size
            refine ⟨by simp, _, ⟨_, _, _, hm⟩, ((hxw.trans HX5.out).chg O).set (p := ⟨X, 0, none⟩) (.inl HI2.out.ox) _, fun q hq => ?_⟩
            rcases List.mem_append.1 hq with e | hq
            · exact .inr (by have := hfr q (of_blkL e); omega)
            · rcases List.mem_append.1 hq with e | e
              · exact .inr (hnw q (of_blkL e))
              · exact .inl e
end Go.Proofs.Ytonaibpenijomaa
