/- The library's Delete; Remove. -/
import Derived.Test.YtbkpmlcockkfnaaQ3
import Derived.Lib.SliceRun
import Derived.Deep.RegionLaw
namespace Go.Proofs.Ytbkpmlcockkfnaa
open Go.RowKit
set_option linter.unusedSimpArgs false
set_option linter.unusedVariables false
set_option maxRecDepth 100000


theorem zero_wt (w : World) : (zeroValue 32).run Try.prog w = .ok ((.agg #[.int .i64 0, .int .i64 0])) w := by kernel_rfl
theorem run_clear2 (w : World) (ty : TypeId) (b o c : Nat) (hc : ∀ j, j < 2 → (w.cell? ⟨b, o + j, none⟩).isSome = true) (hf : ∀ j, j < 2 → w.frozen? ⟨b, o + j, none⟩ = false) :
    (Builtin.clear_ #[23] ty #[.slice (some ⟨b, o, none⟩) 1 c]).run Try.prog w = .ok (.tuple #[]) (w.setCells b o [.int .i64 0, .int .i64 0]) := by
  have hst := run_storeCells_cells (P := Try.prog) b o [.int .i64 0, .int .i64 0] 0 w (by simpa using hc) (by simpa using hf) (by simp [Value.oneCell'])
  simp only [Nat.add_zero] at hst
  have hz : (Builtin.zeroCells (Value.agg #[.int .i64 0, .int .i64 0]).cells 1).toList = [.int .i64 0, .int .i64 0] := by simp [Builtin.zeroCells, Value.cells, List.range_succ]
  simp [Builtin.clear_, run_underlying Try.underlying23, zero_wt, hz, hst]
theorem del_cells (l : List Wt) (i : Nat) (hi : i < l.length) (cap : Nat) (cur : Array Value) (h1 : l.length ≤ cap) (h3 : cur.size = cap * 2) (h4 : cur.toList.take (l.length * 2) = rcells l) :
    (layC (layC cur (i * 2) (rcells (l.drop (i + 1)))) ((l.length - 1) * 2) [.int .i64 0, .int .i64 0]).toList.take ((l.length - 1) * 2) = rcells (l.eraseIdx i) := by
  have e0 : (rcells (l.drop (i + 1))).length = (l.length - (i + 1)) * 2 := by rw [rcells_length, List.length_drop]
  have e1 : (rcells (l.eraseIdx i)).length = (l.length - 1) * 2 := by rw [rcells_length, List.length_eraseIdx_of_lt hi]
  apply List.ext_getElem?
  intro k
  by_cases hk : k < (l.length - 1) * 2
  · rw [List.getElem?_take_of_lt hk, Array.getElem?_toList, layC_get _ _ _ _ (by rw [layC_size]; simp; omega), if_neg (by omega), layC_get _ _ _ _ (by rw [e0]; omega), e0, List.eraseIdx_eq_take_drop_succ, rcells_append]
    have e2 : (rcells (l.take i)).length = i * 2 := by rw [rcells_length, List.length_take]; congr 1; omega
    by_cases q : i * 2 ≤ k
    · rw [if_pos (by omega), List.getElem?_append_right (by omega), e2]
    · rw [if_neg (by omega), List.getElem?_append_left (by omega), rcells_take, List.getElem?_take_of_lt (by omega), ← h4, List.getElem?_take_of_lt (by omega), Array.getElem?_toList]
  · rw [List.getElem?_take_eq_none (by omega), List.getElem?_eq_none (by omega)]
set_option maxHeartbeats 4000000 in
set_option maxRecDepth 1000000 in
theorem del_any {w : World} {g i cap : Nat} {cur : Array Value} {l : List Wt} (hb : Blk w g cur 32) (hi : i < l.length) (h1 : l.length ≤ cap) (h2 : cap ≤ maxLen) (h3 : cur.size = cap * 2) (h4 : cur.toList.take (l.length * 2) = rcells l) (hl : l.length ≤ 70000) :
    Calls Try.prog 25 #[.slice (some ⟨g, 0, none⟩) l.length cap, .int .i64 (i : Int), .int .i64 ((i : Int) + 1)] w fun e w' => e = .returned (.slice (some ⟨g, 0, none⟩) (l.length - 1 : Nat) cap) ∧
      (∃ cur', Blk w' g cur' 32 ∧ cur'.size = cap * 2 ∧ cur'.toList.take ((l.length - 1) * 2) = rcells (l.eraseIdx i)) ∧ Chg [g] w w' := by
  obtain ⟨i0, hi0, hz0, hz1, hz2⟩ := info_parts inf_wt
  unfold maxLen at h2
  obtain ⟨news, hnews⟩ : ∃ news, news = rcells (l.drop (i + 1)) := ⟨_, rfl⟩
  have hlen : news.length = (l.length - (i + 1)) * 2 := by rw [hnews, rcells_length, List.length_drop]
  have hcell : ∀ k, k < l.length * 2 → w.cell? ⟨g, k, none⟩ = (rcells l)[k]? := by
    intro k hk
    rw [hb.cell, ← h4, List.getElem?_take_of_lt hk, Array.getElem?_toList]
  obtain ⟨A, hA, hsrc⟩ : ∃ A : Addr, (if cap = i + 1 then some (⟨g, 0, none⟩ : Addr) else some ⟨g, (i + 1) * 2, none⟩) = some A ∧ Hid (∀ t u, news[t]? = some u → w.drew.cell? (A.add t) = some u) := by
    by_cases h : cap = i + 1
    · refine ⟨⟨g, 0, none⟩, by simp [h], fun t u hu => ?_⟩
      have h0 : news.length = 0 := by rw [hlen]; omega
      rw [List.length_eq_zero_iff.1 h0] at hu
      simp at hu
    · refine ⟨⟨g, (i + 1) * 2, none⟩, by simp [h], fun t u hu => ?_⟩
      have ht : t < (l.length - (i + 1)) * 2 := by
        have := (List.getElem?_eq_some_iff.1 hu).1
        rwa [hlen] at this
      rw [hnews, rcells_drop, List.getElem?_drop] at hu
      rw [Addr.add_lit, ← hu]
      exact hcell _ (by omega)
  have s1 : Hid (news.length = (l.length - (i + 1)) * 2) := hlen
  have s2 : Hid (∀ u ∈ news, u.oneCell' = true) := by rw [hnews]; exact rcells_one _
  have s3 : Hid (∀ t, t < news.length → (w.drew.cell? ⟨g, 0 + i * 2 + t, none⟩).isSome = true ∧ w.drew.frozen? ⟨g, 0 + i * 2 + t, none⟩ = false) := by
    intro t ht
    rw [hlen] at ht
    refine ⟨?_, hb.free _⟩
    show (w.cell? _).isSome = true
    rw [hb.cell]
    simp
    omega
  obtain ⟨W1, hW1⟩ : ∃ W1, W1 = w.drew.setCells g (0 + i * 2) news := ⟨_, rfl⟩
  have hb1 : Blk W1 g (layC cur (i * 2) news) 32 := by
    rw [hW1, Nat.zero_add]
    exact Blk.lay _ _ _ _ (hb.ext (Ext.drew w))
  have hc1 : Chg [g] w W1 := by rw [hW1]; exact Chg.lay (by simp) _ _ _ _ (Chg.drew _ _)
  have em : i + (l.length - (i + 1)) = l.length - 1 := by omega
  have hcl : ∀ ty, (Builtin.clear_ #[23] ty #[.slice (some ⟨g, (i + (l.length - (i + 1))) * 2, none⟩) (l.length - (i + (l.length - (i + 1)))) (cap - (i + (l.length - (i + 1))))]).run Try.prog W1 = .ok (.tuple #[]) (W1.setCells g ((i + (l.length - (i + 1))) * 2) [.int .i64 0, .int .i64 0]) := by
    intro ty
    rw [em, show l.length - (l.length - 1) = 1 by omega]
    exact run_clear2 W1 ty g _ _ (fun j hj => by rw [hb1.cell]; simp [layC_size]; omega) (fun j hj => hb1.free _)
  have X : Hid (∃ cur', Blk (W1.setCells g ((i + (l.length - (i + 1))) * 2) [.int .i64 0, .int .i64 0]) g cur' 32 ∧ cur'.size = cap * 2 ∧ cur'.toList.take ((l.length - 1) * 2) = rcells (l.eraseIdx i)) := by
    rw [em]
    exact ⟨_, Blk.lay _ _ _ _ hb1, by rw [layC_size, layC_size, h3], by rw [hnews]; exact del_cells l i hi cap cur h1 h3 h4⟩
  have Y : Hid (Chg [g] w (W1.setCells g ((i + (l.length - (i + 1))) * 2) [.int .i64 0, .int .i64 0])) := Chg.lay (by simp) _ _ _ _ hc1
  have EM := hide em
  clear em
  have hW : Hid (W1 = w.drew.setCells g (0 + i * 2) news) := hW1
  have hne : ((i : Int) == (i : Int) + 1) = false := by simp; omega
  clear hW1 hb1 hc1 hb hnews hlen hcell h3 h4
  go_enter Try.func25, Try.ntmps25
  go_wp2_with fail
  have hic : i ≤ cap := by omega
  have g0 : 0 ≤ (i : Int) + 1 := by omega
  have g1 : (i : Int) + 1 ≤ (l.length : Int) := by omega
  have hjc : i + 1 ≤ cap := by omega
  go_region_law (refine step_append_room rfl (.tmp 22) (.tmp 25) 23 rfl 32 i0 2 Try.underlying23 hi0 hz1 g 0 i cap (by simp [Act.eval, Act.put]) A (l.length - (i + 1)) (cap - (i + 1)) news (by simp [Act.eval, Act.put]) s1.out hsrc.out s2.out (by omega) s3.out ?_; rw [← hW.out])
  go_wp2_with fail
  go_ret
  exact ⟨by rw [← EM.out]; simp, X.out, Y.out⟩
theorem two2 {w : World} {g : Nat} {t : TypeId} {a b : Value} (h : Blk w g #[a, b] t) : w.cell? ⟨g, 0, none⟩ = some a ∧ w.cell? ⟨g, 1, none⟩ = some b := ⟨h.cell 0, h.cell 1⟩
theorem overC {W v w : World} {T : List Nat} (y : Chg T v w) (x : Ext W v) : W.heap.size ≤ v.heap.size ∧ Chg T W w := ⟨x.size, (x.chg T).trans y⟩
theorem del_row {w : World} {base b off c i n : Nat} {l : List Wt} (h : w.ownsRow base 32 2 (.slice (some ⟨b, off, none⟩) n c) n (rcells l)) (hn : l.length = n) (hi : i < n) (hl : n ≤ 70000) :
    Calls Try.prog 25 #[.slice (some ⟨b, off, none⟩) n c, .int .i64 (i : Int), .int .i64 ((i : Int) + 1)] w fun e w' => ∃ A', e = .returned (.slice A' (n - 1 : Nat) c) ∧ Row 32 w' A' (n - 1) c (l.eraseIdx i) ∧ (∀ b off, A' = some ⟨b, off, none⟩ → base ≤ b) ∧ Chg [b] w w' := by
  subst hn
  obtain ⟨hl2, h | ⟨g, cap, cur, hv, hb, hh, h3, h4, h5, h6⟩⟩ := h
  · have := h.2; omega
  · simp only [Value.slice.injEq, Option.some.injEq, Addr.mk.injEq, and_true] at hv
    obtain ⟨⟨rfl, rfl⟩, _, rfl⟩ := hv
    refine (del_any (show Blk w b cur 32 from hh) hi h3 h4 h5 h6 hl).mono ?_
    rintro e w' ⟨rfl, ⟨cur', k1, k2, k3⟩, hc⟩
    have ho : w'.ownsRow base 32 2 (.slice (some ⟨b, 0, none⟩) (l.length - 1) c) (l.length - 1) (rcells (l.eraseIdx i)) :=
      ⟨by rw [rcells_length, List.length_eraseIdx_of_lt hi], .inr ⟨b, c, cur', rfl, hb, k1, by omega, h4, k2, k3⟩⟩
    obtain ⟨A', c', e, hr, hne⟩ := Row.of_own ho
    cases e
    exact ⟨_, rfl, hr, hne, hc⟩
theorem remove_no {w : World} {A : Option Addr} {n c p : Nat} {l : List Wt} {t : Int} (h : Rg w A n c p l) (hl : n ≤ 65535) (ht : hasT l t = false) :
    Calls Try.prog 20 #[(Value.agg #[.slice A n c, .int .i64 (p : Int)]), .int .i64 t] w fun e w' => e = .returned (.tuple #[(Value.agg #[.int .i64 0, .int .i64 0]), (Value.agg #[.slice A n c, .int .i64 (p : Int)]), .bool false]) ∧ Ext w w' := by
  have hX0 : Ext w (((w.alloc (Obj.cells #[.slice A n c, .int .i64 (p : Int)] 25)).alloc (Obj.cells #[.int .i64 0, .int .i64 0] 32)).alloc (Obj.cells #[.slice none 0 0, .int .i64 (0 : Int)] 25)) := ((Ext.alloc _ _).trans (Ext.alloc _ _)).trans (Ext.alloc _ _)
  have hB := ((Blk.new w #[Value.slice A n c, .int .i64 (p : Int)] 25).ext (Ext.alloc _ (Obj.cells #[.int .i64 0, .int .i64 0] 32))).ext (Ext.alloc _ (Obj.cells #[.slice none 0 0, .int .i64 (0 : Int)] 25))
  have hC := (Blk.new (w.alloc (Obj.cells #[.slice A n c, .int .i64 (p : Int)] 25)) #[Value.int .i64 0, .int .i64 0] 32).ext (Ext.alloc _ (Obj.cells #[.slice none 0 0, .int .i64 (0 : Int)] 25))
  have hD := Blk.new ((w.alloc (Obj.cells #[.slice A n c, .int .i64 (p : Int)] 25)).alloc (Obj.cells #[.int .i64 0, .int .i64 0] 32)) #[Value.slice none 0 0, .int .i64 (0 : Int)] 25
  simp only [World.size_alloc] at hC hD
  have hall := all_any (h.ext hX0) hl
  have hn := h.len
  have r := hB.cell
  go_enter Try.func20, Try.ntmps20
  go_wp2_with fail
  refine hall.mono ?_
  rintro e w1 ⟨A1, c1, rfl, hown, hx⟩
  obtain ⟨A2, c2, e2, hr, _⟩ := Row.of_own hown
  cases e2
  have hix := indexF_any (c := c1) t 0 hr.ch (by omega)
  rw [hn, show ixI l t = -1 by unfold ixI; rw [ht]; rfl] at hix
  clear hown hn hall
  go_wp2_with fail
  refine hix.mono ?_
  rintro e w2 ⟨rfl, hx2⟩
  have HB := hide ((hB.ext hx).ext hx2)
  have HC := hide ((hC.ext hx).ext hx2)
  have HD := hide ((hD.ext hx).ext hx2)
  have HX := hide ((hX0.trans hx).trans hx2)
  have r1 := HB.out.cell
  have r2 := HC.out.cell
  have r2f := HC.out.free
  have r3 := HD.out.cell
  have r3f := HD.out.free
  have d1 := HB.out.rule _ (Ext.drew _)
  have d2 := HC.out.rule _ (Ext.drew _)
  have d2f := HC.out.ruleF _ (Ext.drew _)
  have d3 := HD.out.rule _ (Ext.drew _)
  have d3f := HD.out.ruleF _ (Ext.drew _)
  clear r hB hC hD hX0 hx hx2 hix hr
  go_wp2_with fail
  go_region
  go_wp2_with fail
  refine bodyPost_ret (v := .tuple #[(Value.agg #[.int .i64 0, .int .i64 0]), (Value.agg #[.slice A n c, .int .i64 (p : Int)]), .bool false]) (by simp [results, Try.results20, go_sem, *]) rfl ?_
  exact ⟨rfl, by
    repeat (first | exact HX.out.trans (Ext.drew _) | exact HX.out | with_reducible refine Ext.set ?_ (by simp; try omega) _ | with_reducible refine Ext.trans ?_ (Ext.drew _))⟩
set_option maxHeartbeats 1000000 in
theorem remove_yes {w : World} {A : Option Addr} {n c p : Nat} {l : List Wt} {t : Int} (h : Rg w A n c p l) (ok : OkW l) (hl : n ≤ 65535) (ht : hasT l t = true) :
    Calls Try.prog 20 #[(Value.agg #[.slice A n c, .int .i64 (p : Int)]), .int .i64 t] w fun e w' => ∃ A' c', ∃ p' : Nat, e = .returned (.tuple #[(Value.agg #[.int .i64 (wtOf l t).1, .int .i64 (wtOf l t).2]), (Value.agg #[.slice A' (n - 1) c', .int .i64 (p' : Int)]), .bool true]) ∧ Rg w' A' (n - 1) c' p' (rmL l t) ∧ Ext w w' ∧ (∀ b off, A' = some ⟨b, off, none⟩ → w.heap.size ≤ b) := by
  have hX0 : Ext w (((w.alloc (Obj.cells #[.slice A n c, .int .i64 (p : Int)] 25)).alloc (Obj.cells #[.int .i64 0, .int .i64 0] 32)).alloc (Obj.cells #[.slice none 0 0, .int .i64 (0 : Int)] 25)) := ((Ext.alloc _ _).trans (Ext.alloc _ _)).trans (Ext.alloc _ _)
  have hB := ((Blk.new w #[Value.slice A n c, .int .i64 (p : Int)] 25).ext (Ext.alloc _ (Obj.cells #[.int .i64 0, .int .i64 0] 32))).ext (Ext.alloc _ (Obj.cells #[.slice none 0 0, .int .i64 (0 : Int)] 25))
  have hC := (Blk.new (w.alloc (Obj.cells #[.slice A n c, .int .i64 (p : Int)] 25)) #[Value.int .i64 0, .int .i64 0] 32).ext (Ext.alloc _ (Obj.cells #[.slice none 0 0, .int .i64 (0 : Int)] 25))
  have hD := Blk.new ((w.alloc (Obj.cells #[.slice A n c, .int .i64 (p : Int)] 25)).alloc (Obj.cells #[.int .i64 0, .int .i64 0] 32)) #[Value.slice none 0 0, .int .i64 (0 : Int)] 25
  simp only [World.size_alloc] at hC hD
  have hall := all_any (h.ext hX0) hl
  have hn := h.len
  have hk0 := ix_lt ht
  rw [hn] at hk0
  rw [rmL_at ok ht, wtOf_yes ht]
  have ei : ixI l t = (ixN l t : Int) := by unfold ixI; rw [if_pos ht]
  obtain ⟨k, hk⟩ : ∃ k, k = ixN l t := ⟨_, rfl⟩
  have hkl : k < l.length := by omega
  have hx9 : l[ixN l t]'(ix_lt ht) = l[k] := by simp only [hk]
  rw [hx9]
  clear hx9
  rw [← hk] at ei hk0 ⊢
  clear hk
  obtain ⟨x, hx9⟩ : ∃ x, x = l[k] := ⟨_, rfl⟩
  rw [← hx9]
  have HX9 := hide hx9
  clear hx9
  have r := hB.cell
  go_enter Try.func20, Try.ntmps20
  go_wp2_with fail
  refine hall.mono ?_
  rintro e w1 ⟨A1, c1, rfl, hown, hx⟩
  obtain ⟨A2, c2, e2, hr, hge9⟩ := Row.of_own hown
  cases e2
  have hix := indexF_any (c := c1) t 0 hr.ch (by omega)
  rw [hn, ei] at hix
  have hl2 : l.length ≤ 70000 := by omega
  obtain ⟨b, off, rfl, rr⟩ := hr.ch.at_ hkl
  rw [← HX9.out] at rr
  have HN := hide hn
  have hown9 := hown
  have HO := hide (own_low (base' := w.heap.size + 1 + 1 + 1) hown (by simp))
  have HRR := hide rr
  clear hown hn hall ei HX9 hkl ht hr rr ok h
  go_wp2_with fail
  refine hix.mono ?_
  rintro e w2 ⟨rfl, hx2⟩
  obtain ⟨s0, s1⟩ := HRR.out w2 hx2
  have hX3 := Ext.alloc w2 (Obj.cells #[.int .i64 x.1, .int .i64 x.2] 32)
  have HE := hide (Blk.new w2 #[Value.int .i64 x.1, .int .i64 x.2] 32)
  have HC := hide (((hC.ext hx).ext hx2).ext hX3)
  have HD := hide (((hD.ext hx).ext hx2).ext hX3)
  have HX := hide (((hX0.trans hx).trans hx2).trans hX3)
  have HO := hide (own_ext (own_ext HO.out hx2) hX3)
  have HX1 := hide ((hX0.trans hx).trans hx2)
  have sz2 := ((hD.ext hx).ext hx2).lt
  have szb := own_lt hown9 b rfl
  have szc := hx2.size
  have szd := hge9 b off rfl
  simp only [World.size_alloc] at szd
  have hbw := hide (show w.heap.size ≤ b by omega)
  have nb1 := hide (show w.heap.size + 1 ∉ [b] by simp; omega)
  have nb2 := hide (show w.heap.size + 1 + 1 ∉ [b] by simp; omega)
  have nb3 := hide (show w2.heap.size ∉ [b] by simp; omega)
  have n1 : w2.heap.size ≠ w.heap.size + 1 := by omega
  have n2 : w2.heap.size ≠ w.heap.size + 1 + 1 := by omega
  have N1 := hide n1
  have N2 := hide n2
  clear r hB hC hD hX0 hx hx2 hix hX3 n1 n2 sz2 szb szc szd hown9 hge9
  have g1 : (0 : Int) ≤ (k : Int) := by omega
  have g2 : (k : Int) < (n : Int) := by omega
  have gw : IntKind.i64.wrap ((k : Int) + 1) = (k : Int) + 1 := by rw [IntKind.wrap_i64]; omega
  go_wp2_with fail
  generalize w2.alloc (Obj.cells #[.int .i64 x.1, .int .i64 x.2] 32) = w3 at *
  have HDL := hide (fun (w4 : World) (x : Ext w3 w4) => del_row (own_ext HO.out x) HN.out hk0 (by omega))
  have hk := Ext.drew w3
  go_region_held3 (fun w' => w'.cell? ⟨w2.heap.size, 0, none⟩ = some (.int .i64 x.1) ∧ w'.cell? ⟨w2.heap.size, 1, none⟩ = some (.int .i64 x.2))
    (with_reducible first | exact two2 HE6.out | exact two2 ((HE6.out.far (p := ⟨w.heap.size + 1, 0, none⟩) N1.out _).far (p := ⟨w.heap.size + 1, 1, none⟩) N1.out _) | exact two2 ((((HE6.out.far (p := ⟨w.heap.size + 1, 0, none⟩) N1.out _).far (p := ⟨w.heap.size + 1, 1, none⟩) N1.out _).far (p := ⟨w.heap.size + 1 + 1, 0, none⟩) N2.out _).far (p := ⟨w.heap.size + 1 + 1, 1, none⟩) N2.out _) | exact two2 (HE.out.ext (by first | exact hk | exact hk.trans (Ext.drew _) | exact hk.trans (Ext.alloc _ _) | exact hk.trans ((Ext.alloc _ _).trans (Ext.drew _)) | exact hk.trans ((Ext.drew _).trans (Ext.alloc _ _)) | exact Ext.drew _ | exact Ext.refl _ | exact (Ext.alloc _ _).trans (Ext.drew _) | exact Ext.alloc _ _)))
    ((go_at_call 25; with_reducible refine (HDL.out _ (by repeat (first | exact Ext.refl _ | assumption | exact Ext.alloc _ _ | exact Ext.drew _ | refine Ext.trans ?_ (Ext.alloc _ _) | refine Ext.trans ?_ (Ext.drew _)))).mono ?_; rintro e w6 ⟨A6, rfl, hr6, hn6, hc6⟩; obtain ⟨hs6, hk⟩ := overC hc6 (W := w3) (by repeat (first | exact Ext.refl _ | assumption | exact Ext.alloc _ _ | exact Ext.drew _ | refine Ext.trans ?_ (Ext.alloc _ _) | refine Ext.trans ?_ (Ext.drew _))); have HE6 := hide (HE.out.chg hk nb3.out); have HC6 := hide (HC.out.chg hk nb1.out); have HD6 := hide (HD.out.chg hk nb2.out); have r2 := HC6.out.cell; have r2f := HC6.out.free; have r3 := HD6.out.cell; have r3f := HD6.out.free; have HK6 := hide hk; have HR6 := hide hr6; have HN6 := hide hn6; clear hk hr6 hn6 hc6))
  go_wp2_with fail
  refine bodyPost_ret (v := .tuple #[(Value.agg #[.int .i64 x.1, .int .i64 x.2]), (Value.agg #[.slice A6 (n - 1 : Nat) c1, .int .i64 (0 : Int)]), .bool true]) (by simp [results, Try.results20, go_sem, *]) rfl ?_
  have h1 : Rg w6 A6 (n - 1) c1 0 (l.eraseIdx k) := Rg.row HR6.out
  have q1 : ∀ b off, A6 = some ⟨b, off, none⟩ → b ≠ w.heap.size + 1 := fun b off e => by have := HN6.out b off e; omega
  have q2 : ∀ b off, A6 = some ⟨b, off, none⟩ → b ≠ w.heap.size + 1 + 1 := fun b off e => by have := HN6.out b off e; omega
  have hx6 : Ext w w6 := HX.out.turn HK6.out (by simpa using hbw.out)
  exact ⟨A6, c1, 0, rfl, (((h1.far q1).far q1).far q2).far q2, (((hx6.set (p := ⟨w.heap.size + 1, 0, none⟩) (by simp) _).set (p := ⟨w.heap.size + 1, 1, none⟩) (by simp) _).set (p := ⟨w.heap.size + 1 + 1, 0, none⟩) (by simp; omega) _).set (p := ⟨w.heap.size + 1 + 1, 1, none⟩) (by simp; omega) _, fun b off e => by have := HN6.out b off e; omega⟩
theorem remove_any {w : World} {A : Option Addr} {n c p : Nat} {l : List Wt} (t : Int) (h : Rg w A n c p l) (ok : OkW l) (hl : n ≤ 65535) :
    Calls Try.prog 20 #[(Value.agg #[.slice A n c, .int .i64 (p : Int)]), .int .i64 t] w fun e w' => ∃ A' n' c', ∃ p' : Nat, e = .returned (.tuple #[(Value.agg #[.int .i64 (wtOf l t).1, .int .i64 (wtOf l t).2]), (Value.agg #[.slice A' n' c', .int .i64 (p' : Int)]), .bool (hasT l t)]) ∧ Rg w' A' n' c' p' (rmL l t) ∧ Ext w w' ∧ (∀ b off, A' = some ⟨b, off, none⟩ → A' = A ∨ w.heap.size ≤ b) := by
  cases e : hasT l t with
  | false =>
    rw [rmL_no e, wtOf_no e]
    exact (remove_no h hl e).mono fun e w' ⟨h1, h2⟩ => ⟨A, n, c, p, h1, h.ext h2, h2, fun _ _ _ => .inl rfl⟩
  | true =>
    exact (remove_yes h ok hl e).mono fun e w' ⟨A', c', p', h1, h2, h3, h4⟩ => ⟨A', n - 1, c', p', h1, h2, h3, fun b off e => .inr (h4 b off e)⟩
end Go.Proofs.Ytbkpmlcockkfnaa
