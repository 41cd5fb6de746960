/- The library's Delete; Next. -/
import Derived.Test.YtonaibpenijomaaQ4
import Derived.Lib.SliceRun
import Derived.Deep.RegionLaw
namespace Go.Proofs.Ytonaibpenijomaa
open Go.RowKit Go.Maps
set_option linter.unusedSimpArgs false
set_option linter.unusedVariables false
set_option maxRecDepth 100000


theorem zero_spot (w : World) : (zeroValue 33).run Try.prog w = .ok ((.agg #[.int .i64 0, .int .i64 0])) w := by kernel_rfl
theorem run_clear2 (w : World) (ty : TypeId) (b o c : Nat) (hc : ∀ j, j < 2 → (w.cell? ⟨b, o + j, none⟩).isSome = true) (hf : ∀ j, j < 2 → w.frozen? ⟨b, o + j, none⟩ = false) :
    (Builtin.clear_ #[47] ty #[.slice (some ⟨b, o, none⟩) 1 c]).run Try.prog w = .ok (.tuple #[]) (w.setCells b o [.int .i64 0, .int .i64 0]) := by
  have hst := run_storeCells_cells (P := Try.prog) b o [.int .i64 0, .int .i64 0] 0 w (by simpa using hc) (by simpa using hf) (by simp [Value.oneCell'])
  simp only [Nat.add_zero] at hst
  have hz : (Builtin.zeroCells (Value.agg #[.int .i64 0, .int .i64 0]).cells 1).toList = [.int .i64 0, .int .i64 0] := by simp [Builtin.zeroCells, Value.cells, List.range_succ]
  simp [Builtin.clear_, run_underlying Try.underlying47, zero_spot, hz, hst]
theorem del_cells (l : List Rq) (i : Nat) (hi : i < l.length) (cap : Nat) (cur : Array Value) (h1 : l.length ≤ cap) (h3 : cur.size = cap * 2) (h4 : cur.toList.take (l.length * 2) = rcells l) :
    (layC (layC cur (i * 2) (rcells (l.drop (i + 1)))) ((l.length - 1) * 2) [.int .i64 0, .int .i64 0]).toList.take ((l.length - 1) * 2) = rcells (l.eraseIdx i) := by
  have e0 : (rcells (l.drop (i + 1))).length = (l.length - (i + 1)) * 2 := by rw [rcells_length, List.length_drop]
  have e1 : (rcells (l.eraseIdx i)).length = (l.length - 1) * 2 := by rw [rcells_length, List.length_eraseIdx_of_lt hi]
  apply List.ext_getElem?
  intro k
  by_cases hk : k < (l.length - 1) * 2
  · rw [List.getElem?_take_of_lt hk, Array.getElem?_toList, layC_get _ _ _ _ (by rw [layC_size]; simp; omega), if_neg (by omega), layC_get _ _ _ _ (by rw [e0]; omega), e0, List.eraseIdx_eq_take_drop_succ, rcells_append]
    have e2 : (rcells (l.take i)).length = i * 2 := by rw [rcells_length, List.length_take]; congr 1; omega
    by_cases q : i * 2 ≤ k
    · rw [if_pos (by omega), List.getElem?_append_right (by omega), e2]
    · rw [if_neg (by omega), List.getElem?_append_left (by omega), rcells_take, List.getElem?_take_of_lt (by omega), ← h4, List.getElem?_take_of_lt (by omega), Array.getElem?_toList]
  · rw [List.getElem?_take_eq_none (by omega), List.getElem?_eq_none (by omega)]
set_option maxHeartbeats 4000000 in
set_option maxRecDepth 1000000 in
theorem del_any {w : World} {g i cap : Nat} {cur : Array Value} {l : List Rq} (hb : Blk w g cur 33) (hi : i < l.length) (h1 : l.length ≤ cap) (h2 : cap ≤ maxLen) (h3 : cur.size = cap * 2) (h4 : cur.toList.take (l.length * 2) = rcells l) (hl : l.length ≤ 70000) :
    Calls Try.prog 20 #[.slice (some ⟨g, 0, none⟩) l.length cap, .int .i64 (i : Int), .int .i64 ((i : Int) + 1)] w fun e w' => e = .returned (.slice (some ⟨g, 0, none⟩) (l.length - 1 : Nat) cap) ∧
      (∃ cur', Blk w' g cur' 33 ∧ cur'.size = cap * 2 ∧ cur'.toList.take ((l.length - 1) * 2) = rcells (l.eraseIdx i)) ∧ Chg [g] w w' := by
  obtain ⟨i0, hi0, hz0, hz1, hz2⟩ := info_parts inf_spot
  unfold maxLen at h2
  obtain ⟨news, hnews⟩ : ∃ news, news = rcells (l.drop (i + 1)) := ⟨_, rfl⟩
  have hlen : news.length = (l.length - (i + 1)) * 2 := by rw [hnews, rcells_length, List.length_drop]
  have hcell : ∀ k, k < l.length * 2 → w.cell? ⟨g, k, none⟩ = (rcells l)[k]? := by
    intro k hk
    rw [hb.cell, ← h4, List.getElem?_take_of_lt hk, Array.getElem?_toList]
  obtain ⟨A, hA, hsrc⟩ : ∃ A : Addr, (if cap = i + 1 then some (⟨g, 0, none⟩ : Addr) else some ⟨g, (i + 1) * 2, none⟩) = some A ∧ Hid (∀ t u, news[t]? = some u → w.drew.cell? (A.add t) = some u) := by
    by_cases h : cap = i + 1
    · refine ⟨⟨g, 0, none⟩, by simp [h], fun t u hu => ?_⟩
      have h0 : news.length = 0 := by rw [hlen]; omega
      rw [List.length_eq_zero_iff.1 h0] at hu
      simp at hu
    · refine ⟨⟨g, (i + 1) * 2, none⟩, by simp [h], fun t u hu => ?_⟩
      have ht : t < (l.length - (i + 1)) * 2 := by
        have := (List.getElem?_eq_some_iff.1 hu).1
        rwa [hlen] at this
      rw [hnews, rcells_drop, List.getElem?_drop] at hu
      rw [Addr.add_lit, ← hu]
      exact hcell _ (by omega)
  have s1 : Hid (news.length = (l.length - (i + 1)) * 2) := hlen
  have s2 : Hid (∀ u ∈ news, u.oneCell' = true) := by rw [hnews]; exact rcells_one _
  have s3 : Hid (∀ t, t < news.length → (w.drew.cell? ⟨g, 0 + i * 2 + t, none⟩).isSome = true ∧ w.drew.frozen? ⟨g, 0 + i * 2 + t, none⟩ = false) := by
    intro t ht
    rw [hlen] at ht
    refine ⟨?_, hb.free _⟩
    show (w.cell? _).isSome = true
    rw [hb.cell]
    simp
    omega
  obtain ⟨W1, hW1⟩ : ∃ W1, W1 = w.drew.setCells g (0 + i * 2) news := ⟨_, rfl⟩
  have hb1 : Blk W1 g (layC cur (i * 2) news) 33 := by
    rw [hW1, Nat.zero_add]
    exact Blk.lay _ _ _ _ (hb.ext (Ext.drew w))
  have hc1 : Chg [g] w W1 := by rw [hW1]; exact Chg.lay (by simp) _ _ _ _ (Chg.drew _ _)
  have em : i + (l.length - (i + 1)) = l.length - 1 := by omega
  have hcl : ∀ ty, (Builtin.clear_ #[47] ty #[.slice (some ⟨g, (i + (l.length - (i + 1))) * 2, none⟩) (l.length - (i + (l.length - (i + 1)))) (cap - (i + (l.length - (i + 1))))]).run Try.prog W1 = .ok (.tuple #[]) (W1.setCells g ((i + (l.length - (i + 1))) * 2) [.int .i64 0, .int .i64 0]) := by
    intro ty
    rw [em, show l.length - (l.length - 1) = 1 by omega]
    exact run_clear2 W1 ty g _ _ (fun j hj => by rw [hb1.cell]; simp [layC_size]; omega) (fun j hj => hb1.free _)
  have X : Hid (∃ cur', Blk (W1.setCells g ((i + (l.length - (i + 1))) * 2) [.int .i64 0, .int .i64 0]) g cur' 33 ∧ cur'.size = cap * 2 ∧ cur'.toList.take ((l.length - 1) * 2) = rcells (l.eraseIdx i)) := by
    rw [em]
    exact ⟨_, Blk.lay _ _ _ _ hb1, by rw [layC_size, layC_size, h3], by rw [hnews]; exact del_cells l i hi cap cur h1 h3 h4⟩
  have Y : Hid (Chg [g] w (W1.setCells g ((i + (l.length - (i + 1))) * 2) [.int .i64 0, .int .i64 0])) := Chg.lay (by simp) _ _ _ _ hc1
  have EM := hide em
  clear em
  have hW : Hid (W1 = w.drew.setCells g (0 + i * 2) news) := hW1
  have hne : ((i : Int) == (i : Int) + 1) = false := by simp; omega
  clear hW1 hb1 hc1 hb hnews hlen hcell h3 h4
  go_enter Try.func20, Try.ntmps20
  go_wp2_with fail
  have hic : i ≤ cap := by omega
  have g0 : 0 ≤ (i : Int) + 1 := by omega
  have g1 : (i : Int) + 1 ≤ (l.length : Int) := by omega
  have hjc : i + 1 ≤ cap := by omega
  go_region_law (refine step_append_room rfl (.tmp 22) (.tmp 25) 47 rfl 33 i0 2 Try.underlying47 hi0 hz1 g 0 i cap (by simp [Act.eval, Act.put]) A (l.length - (i + 1)) (cap - (i + 1)) news (by simp [Act.eval, Act.put]) s1.out hsrc.out s2.out (by omega) s3.out ?_; rw [← hW.out])
  go_wp2_with fail
  go_ret
  exact ⟨by rw [← EM.out]; simp, X.out, Y.out⟩
theorem own_some {w : World} {base n size c : Nat} {e : TypeId} {A : Option Addr} {xs : List Value} (h : w.ownsRow base e size (.slice A n c) n xs) (hn : 0 < n) : ∃ g, A = some ⟨g, 0, none⟩ ∧ n ≤ c ∧ c ≤ maxLen := by
  obtain ⟨hl, h | ⟨g, cap, cur, hv, hb, hh, h3, h4, h5, h6⟩⟩ := h
  · have := h.2; omega
  · simp only [Value.slice.injEq] at hv
    obtain ⟨rfl, _, rfl⟩ := hv
    exact ⟨g, rfl, h3, h4⟩
/-- The first one is taken out. -/
theorem del_own {w : World} {v : Value} {r : Rq} {l : List Rq} (h : w.ownsRow 0 33 2 v (l.length + 1) (rcells (r :: l))) (hl : l.length ≤ 60000) :
    Calls Try.prog 20 #[v, .int .i64 0, .int .i64 1] w fun e w' => ∃ A c, e = .returned (.slice A l.length c) ∧ w'.ownsRow 0 33 2 (.slice A l.length c) l.length (rcells l) ∧ Chg (blkL v) w w' ∧ (∀ k, (Value.slice A l.length c).ownBlock = some k → v.ownBlock = some k) := by
  obtain ⟨hl2, h | ⟨g, cap, cur, rfl, hb, hh, h3, h4, h5, h6⟩⟩ := h
  · have := h.2; omega
  · have hd := del_any (l := r :: l) (i := 0) (show Blk w g cur 33 from hh) (by simp) (by simpa using h3) h4 h5 (by simpa using h6) (by simp; omega)
    refine Calls.mono (by simpa using hd) ?_
    rintro e w' ⟨rfl, ⟨cur', k1, k2, k3⟩, hc⟩
    exact ⟨_, cap, rfl, ⟨rcells_length l, .inr ⟨g, cap, cur', rfl, Nat.zero_le _, k1, by omega, h4, k2, by simpa using k3⟩⟩, hc, fun k hk => hk⟩
theorem MpT.drop {w : World} {m n : Nat} {F : Rq → Option Sl3} (h : MpT w m F (n + 1)) {r : Rq} (hr : wfR r) (hs : (F r).isSome = true) :
    ∃ w', (Builtin.delete_ #[55, 33] 0 #[.map (some m), (Value.agg #[.int .i64 r.1, .int .i64 r.2])]).run Try.prog w = .ok (.tuple #[]) w' ∧ MpT w' m (updR F r none) n ∧ w.grownBy w' (some m) := by
  obtain ⟨D, hown, rep⟩ := h
  obtain ⟨v1, k1, o1', t1⟩ := hown.drop kS Try.underlying55 (sk_of hr.1 hr.2) 0
  exact ⟨v1, k1, MpT.of o1' (rep.del hr hs), t1.grown⟩
/-- The first one is gone. -/
theorem QI.pop {w w' : World} {O : List Nat} {C m : Nat} {ov ov' : Value} {g : Rq → Sl3} {S : List En} {r : Rq} {l : List Int} (h : QI w O C m ov g ((r, l) :: S)) (hC : Blk w' C #[ov', .map (some m)] 57)
    (hrow : w'.ownsRow 0 33 2 ov' S.length (rcells (ks S))) (hm : MpT w' m (updR (fS g ((r, l) :: S)) r none) S.length) (hc : Chg (C :: m :: blkL ov) w w') (hov : ∀ k, ov'.ownBlock = some k → ov.ownBlock = some k) :
    QI w' O C m ov' g S ∧ RowI w' (slV (g r)) l := by
  have hh := h.ok.head
  have hsz := hc.size
  have hr : ∀ e, e ∈ (r, l) :: S → RowI w' (slV (g e.1)) e.2 := fun e he => own_chgB (h.rows e he) hc (fun k hk1 hk2 => by
    obtain ⟨cs, hb⟩ := own_blk (h.rows e he) k hk1
    rcases List.mem_cons.1 hk2 with e2 | hk2
    · exact absurd ((e2 ▸ hb).type h.c) (by decide)
    · rcases List.mem_cons.1 hk2 with e2 | hk2
      · exact h.map.noC _ _ (e2 ▸ hb)
      · obtain ⟨cs2, hb2⟩ := own_blk h.row k (of_blkL hk2)
        exact absurd (hb.type hb2) (by decide))
  refine ⟨⟨hC, hrow, ?_, fun e he => hr e (.tail _ he), fun e he e' he' => h.apart e (.tail _ he) e' (.tail _ he'), h.oc, h.om, fun k hk => h.orow k (hov k hk), fun e he => h.owait e (.tail _ he), fun k hk => Nat.lt_of_lt_of_le (h.lt k hk) hsz, h.ok.tail⟩, hr (r, l) (by simp)⟩
  refine hm.eqF fun q _ => ?_
  unfold fS updR
  by_cases e : q = r
  · subst e
    rw [if_pos rfl, has_none fun e he => hh e he]
    rfl
  · rw [if_neg e]
    have : hasR ((r, l) :: S) q = hasR S q := by unfold hasR ks; simp [e]
    show (if hasR ((r, l) :: S) q = true then some (g q) else none) = _
    rw [this]
theorem next_none {w : World} {p : Value} {b : Bool} (h : Any w p b []) : Calls Try.prog 9 #[p] w fun e w' => e = .returned (.tuple #[(Value.agg #[.int .i64 0, .int .i64 0]), .slice none 0 0, .bool false]) ∧ Ext w w' := by
  have HA := hide fun w' (x : Ext w w') => len_any (h.ext x)
  clear h
  go_enter Try.func9, Try.ntmps9
  go_wp2_with fail
  have hX := fun w' (h : Ext (w.alloc (Obj.cells #[.int .i64 0, .int .i64 0] 33)) w') => h.boxCell
  have hXf := fun w' (h : Ext (w.alloc (Obj.cells #[.int .i64 0, .int .i64 0] 33)) w') => h.boxFree
  have hX0 : Ext w (w.alloc (Obj.cells #[.int .i64 0, .int .i64 0] 33)) := Ext.alloc _ _
  generalize w.alloc (Obj.cells #[.int .i64 0, .int .i64 0] 33) = W0 at *
  have hW := Ext.refl W0
  go_wp2_with (go_at_call 17; (with_reducible refine (HA.out _ (hX0.trans hW)).mono ?_); rintro e w' ⟨rfl, hb⟩; have hW := Ext.trans2 hW (by repeat (first | exact Ext.refl _ | exact Ext.alloc _ _ | exact Ext.drewN _ _ | assumption | refine Ext.trans ?_ (Ext.alloc _ _) | refine Ext.trans ?_ (Ext.drew _) | refine Ext.trans ?_ (by assumption))) hb; (try have hV := Ext.trans2 hV (by repeat (first | exact Ext.refl _ | exact Ext.alloc _ _ | exact Ext.drewN _ _ | assumption | refine Ext.trans ?_ (Ext.alloc _ _) | refine Ext.trans ?_ (Ext.drew _) | refine Ext.trans ?_ (by assumption))) hb); clear hb)
  refine bodyPost_ret (v := .tuple #[(Value.agg #[.int .i64 0, .int .i64 0]), .slice none 0 0, .bool false]) (by simp [results, Try.results9, go_sem, *]) rfl ?_
  refine ⟨rfl, ?_⟩
  ((repeat (with_reducible refine Ext.set ?_ (by simp) _)); exact (hX0.trans (hW.trans (by repeat (first | exact Ext.refl _ | exact Ext.alloc _ _ | exact Ext.drewN _ _ | assumption | refine Ext.trans ?_ (Ext.alloc _ _) | refine Ext.trans ?_ (Ext.drew _) | refine Ext.trans ?_ (by assumption))))))
theorem next_some {w : World} {O : List Nat} {C : Nat} {S : List En} {r : Rq} {l : List Int} (h : QT w O C ((r, l) :: S)) :
    Calls Try.prog 9 #[.pointer (some ⟨C, 0, none⟩)] w fun e w' => ∃ s, e = .returned (.tuple #[(Value.agg #[.int .i64 r.1, .int .i64 r.2]), slV s, .bool true]) ∧ RowI w' (slV s) l ∧ (∀ k, (slV s).ownBlock = some k → k ∈ O) ∧ QT w' O C S ∧ Chg O w w' := by
  have HA := hide fun w' (x : Ext w w') => len_any (h.ext x).any
  have HQ := hide h
  have hlen := h.ok.len
  clear h
  obtain ⟨k, o⟩ := r
  simp only [List.length_cons] at hlen HA ⊢
  have n0 : ((S.length : Int) + 1 == 0) = false := by simp; omega
  go_enter Try.func9, Try.ntmps9
  go_wp2_with fail
  have HBK := hide (Blk.new w #[.int .i64 0, .int .i64 0] 33)
  have hX := fun w' (h : Ext (w.alloc (Obj.cells #[.int .i64 0, .int .i64 0] 33)) w') => h.boxCell
  have hXf := fun w' (h : Ext (w.alloc (Obj.cells #[.int .i64 0, .int .i64 0] 33)) w') => h.boxFree
  have hX0 : Ext w (w.alloc (Obj.cells #[.int .i64 0, .int .i64 0] 33)) := Ext.alloc _ _
  generalize w.alloc (Obj.cells #[.int .i64 0, .int .i64 0] 33) = W0 at *
  have hW := Ext.refl W0
  obtain ⟨m, ov, g, hq⟩ := HQ.out.ext hX0
  have hwr := mayR_wf (hq.ok.may _ (List.mem_cons_self ..))
  obtain ⟨A, c, e0⟩ := own_sl hq.row
  obtain ⟨G, rfl, hcap, hcm⟩ := own_some (e0 ▸ hq.row) (by simp)
  subst e0
  have hcell : ∀ wx, Ext W0 wx → wx.cell? ⟨G, 0, none⟩ = some (.int .i64 k) ∧ wx.cell? ⟨G, 1, none⟩ = some (.int .i64 o) := fun wx hx => by
    have hc := (own_ext hq.row hx).cells rfl
    exact ⟨hc 0 _ (by simp [ks, rcells]), hc 1 _ (by simp [ks, rcells])⟩
  have c0 := fun wx hx => (hcell wx hx).1
  have c1 := fun wx hx => (hcell wx hx).2
  have rC := hq.c.rule
  have HI := hide hq
  have HWR := hide hwr
  clear hcell hq hwr hcap hcm
  go_wp2_with (go_at_call 17; (with_reducible refine (HA.out _ (hX0.trans hW)).mono ?_); rintro e w' ⟨rfl, hb⟩; have hW := Ext.trans2 hW (by repeat (first | exact Ext.refl _ | exact Ext.alloc _ _ | exact Ext.drewN _ _ | assumption | refine Ext.trans ?_ (Ext.alloc _ _) | refine Ext.trans ?_ (Ext.drew _) | refine Ext.trans ?_ (by assumption))) hb; (try have hV := Ext.trans2 hV (by repeat (first | exact Ext.refl _ | exact Ext.alloc _ _ | exact Ext.drewN _ _ | assumption | refine Ext.trans ?_ (Ext.alloc _ _) | refine Ext.trans ?_ (Ext.drew _) | refine Ext.trans ?_ (by assumption))) hb); clear hb)
  have HBD := hide (Blk.new w' #[.int .i64 k, .int .i64 o] 33)
  have hx1 := hW.trans (Ext.alloc w' (.cells #[.int .i64 k, .int .i64 o] 33))
  have HBR := hide (HBK.out.ext hx1)
  have hdr : w.heap.size < w'.heap.size := Nat.lt_of_lt_of_le HBK.out.lt hW.size
  generalize w'.alloc (.cells #[.int .i64 k, .int .i64 o] 33) = W1 at *
  obtain ⟨D, hD⟩ : ∃ D, D = w'.heap.size := ⟨_, rfl⟩
  rw [← hD] at HBD hdr ⊢
  obtain ⟨R, hR⟩ : ∃ R, R = w.heap.size := ⟨_, rfl⟩
  rw [← hR] at HBK HBR hdr hX hXf ⊢
  have hO : ∀ q, q ∈ O → q < R := fun q hq => by rw [hR]; exact HQ.out.lt q hq
  have HO := hide hO
  have hd := Ext.drew W1
  have hq := HI.out.ext (hx1.trans hd)
  have hlook := hq.map.look1 HWR.out
  have e1 : (fS g (((k, o), l) :: S) (k, o)).getD ⟨none, 0, 0⟩ = g (k, o) := by unfold fS; rw [if_pos (has_mem (e := ((k, o), l)) (List.mem_cons_self ..))]; rfl
  rw [e1] at hlook
  have rD := (HBD.out.ext hd).cell
  have rC1 := hq.c.cell
  have HDEL := hide (del_own (r := (k, o)) (l := ks S) (by rw [ks_len]; exact hq.row) (by rw [ks_len]; omega))
  have HI1 := hide hq
  have HD1 := hide (HBD.out.ext hd)
  have HR1 := hide (HBR.out.ext hd)
  have HX1 := hide (hX0.trans (hx1.trans hd))
  have hsD := HBD.out.lt
  obtain ⟨As, cs, es⟩ := own_sl (hq.rows ((k, o), l) (List.mem_cons_self ..))
  have ES := hide es
  simp only at es
  rw [es] at hlook
  have ER := hide hR
  clear hD hR hO rC c0 c1 hX hXf hX0 hW hx1 e1 hq hd es
  go_region
  clear hlook rD rC1
  have rC1 := HI1.out.c.cell
  go_wp2_with fail
  refine HDEL.out.mono ?_
  rintro e w3 ⟨A3, c3, rfl, hr3, hc3, hf3⟩
  have hC3 := HI1.out.c.chg hc3 (fun q => by obtain ⟨cs, hb2⟩ := own_blk HI1.out.row C (of_blkL q); exact absurd (HI1.out.c.type hb2) (by decide))
  have hM3 := HI1.out.map.chg hc3 (fun q => by obtain ⟨cs, hb2⟩ := own_blk HI1.out.row m (of_blkL q); exact HI1.out.map.noC _ _ hb2)
  have hsub : ∀ q, q ∈ C :: m :: blkL (Value.slice (some ⟨G, 0, none⟩) (((k, o), l) :: S).length c) → q ∈ O := fun q hq => by
    rcases List.mem_cons.1 hq with e | hq
    · rw [e]; exact HI1.out.oc
    · rcases List.mem_cons.1 hq with e | hq
      · rw [e]; exact HI1.out.om
      · exact HI1.out.orow q (of_blkL hq)
  have hnD : D ∉ O := fun q => by have := HO.out D q; omega
  have hnR : R ∉ O := fun q => by have := HO.out R q; omega
  have hD3 := HD1.out.chg hc3 (fun q => hnD (hsub D (List.mem_cons_of_mem _ (List.mem_cons_of_mem _ q))))
  obtain ⟨hC4, hD4, hM4, hR4, hG4⟩ := new_store HI1.out hnD hr3 hc3 hC3 hD3 hM3
  rw [ks_len] at hf3 hR4 hC4 hD4 hM4 hG4 ⊢
  have HF3 := hide hf3
  have HSUB := hide hsub
  have HND := hide hnD
  have HNR := hide hnR
  have rC3 := hC3.cell
  have fC3 := hC3.free
  clear hr3 hc3 hf3 hC3 hM3 hD3 hsub hnD hnR rC1
  go_wp2_with fail
  generalize w3.setCell ⟨C, 0, none⟩ (.slice A3 S.length c3) = W4 at *
  have hd := Ext.drew W4
  obtain ⟨w5, hrun, hm5, hg5⟩ := (show MpT W4.drew m _ (S.length + 1) from hM4.ext hd).drop HWR.out (by rw [fS_isSome]; exact has_mem (e := ((k, o), l)) (List.mem_cons_self ..))
  have hc5 := Chg.of_grown hg5 (T := [m]) (by simp)
  have rC4 := (hC4.ext hd).cell
  have rD4 := (hD4.ext hd).cell
  have hC5 := hide ((hC4.ext hd).chg hc5 (by simp; exact HI1.out.cm))
  have nDm : D ∉ [m] := by simp; rintro rfl; exact HND.out HI1.out.om
  have nRm : R ∉ [m] := by simp; rintro rfl; exact HNR.out HI1.out.om
  have hD5 := (hD4.ext hd).chg hc5 nDm
  have HG5 := hide ((hG4.trans (Chg.drew _ W4)).trans (hc5.mono fun q hq => by simp at hq; simp [hq]))
  have hR5 := HR1.out.chg HG5.out (fun q => HNR.out (HSUB.out R q))
  have HROW5 := hide (own_chgB (own_ext hR4 hd) hc5 (fun q hq hq2 => by
    obtain ⟨cs, hb2⟩ := own_blk (own_ext hR4 hd) q hq
    simp at hq2
    exact (hM4.ext hd).noC _ _ (hq2 ▸ hb2)))
  have HM5 := hide hm5
  have HR5 := hide hR5
  clear hm5 hg5 hc5 hC4 hD4 hM4 hR4 hG4 hd rC3 fC3
  go_region
  have rD5 := hD5.cell
  have rR5 := hR5.cell
  have fR5 := hR5.free
  clear hD5 hR5 rC4 rD4
  go_wp2_with fail
  refine bodyPost_ret (v := .tuple #[(Value.agg #[.int .i64 k, .int .i64 o]), .slice As l.length cs, .bool true]) (by simp [results, Try.results9, go_sem, *]) rfl ?_
  obtain ⟨hp, hrow⟩ := HI1.out.pop hC5.out HROW5.out HM5.out HG5.out HF3.out
  have cs2 := ((Chg.refl [R] w5).set (p := ⟨R, 0, none⟩) (.inl (by simp)) (.int .i64 k)).set (p := ⟨R, 1, none⟩) (.inl (by simp)) (.int .i64 o)
  have hno : ∀ q, q ∈ O → q ∉ [R] := fun q hq e => by simp at e; exact HNR.out (e ▸ hq)
  have hwt := HI1.out.owait ((k, o), l) (List.mem_cons_self ..)
  refine ⟨g (k, o), by rw [ES.out], own_chgB hrow cs2 (fun q hq => hno q (hwt q hq)), hwt, ⟨m, _, g, hp.chg cs2 hno⟩, ?_⟩
  exact (((HX1.out.chg O).trans (HG5.out.mono HSUB.out)).set (p := ⟨R, 0, none⟩) (.inr (by rw [ER.out]; exact Nat.le_refl _)) _).set (p := ⟨R, 1, none⟩) (.inr (by rw [ER.out]; exact Nat.le_refl _)) _
end Go.Proofs.Ytonaibpenijomaa
