/- All, Of. -/
import Derived.Test.YtcgbbgljchfbcaaB5
namespace Go.Proofs.Ytcgbbgljchfbcaa
open Go.RowKit Go.Maps
set_option linter.unusedSimpArgs false
set_option linter.unusedVariables false

theorem any_ok {w : World} {p : Value} {g : Bool} {S : List Pr} (h : Any w p g S) : OkS S := by
  rcases h with ⟨_, rfl, _⟩ | ⟨_, C, m1, m2, _, h⟩
  · exact ok_nil
  · exact h.ok
set_option maxRecDepth 100000 in
theorem those_all {w : World} {p : Value} {g : Bool} {S : List Pr} (h : Any w p g S) : Calls Try.prog 27 #[p, .func (.func 28) #[] #[]] w fun e w' => ∃ v, e = .returned v ∧ w'.ownsRow w.heap.size 33 3 v (S.filter fA).length (pcells (S.filter fA)) ∧ Ext w w' := by
  have OK := hide (any_ok h)
  go_enter Try.func27, Try.ntmps27
  have f0 := run_f0
  go_wp2_with fail
  refine (own_any h).mono ?_
  rintro e w1 ⟨v, rfl, ho, hx⟩
  have HX1 := hide hx
  cases ho with
  | none e =>
    subst e
    have hrg := run_range_nilMap (P := Try.prog) w1 52 3 33 Try.underlying52
    have hnx : ∀ ty, (Instr.next (.pointer (some ⟨w1.heap.size, 0, none⟩)) false ty).run Try.prog (w1.alloc (.mapIter none 0 #[] 0)) = _ := fun ty => run_next_nilMap w1 ty 0 0 #[]
    have hcon := fun wr => Proofs.AnyF.slices_SortFunc_none { sortL with } none 0 (.func (.func 31) #[] #[]) wr
    change ∀ wr, Calls Try.prog 30 _ _ _ at hcon
    go_wp2_with fail
    refine wp_loop_rounds 1 ?_
    rw [rounds_succ]
    go_wp2_with (go_at_call 30; refine (hcon _).mono ?_; rintro e w' ⟨rfl, rfl⟩)
    go_ret
    exact ⟨_, rfl, own_nil _ _ _ _, HX1.out.trans (Ext.alloc _ _)⟩
  | some m1 m2 h1 h2 =>
    obtain ⟨D, hown, rep⟩ := h1
    have hml := hown.lt
    have SZ := hide rep.size
    clear hx
    go_wp2_with (first
      | (at_range; refine wpList_range_own _ rfl _ 52 rfl 3 33 kI Try.underlying52 rdP m1 S.length D rfl hown ?_; intro w0 hrg0 hg0 hs0)
      | go_in)
    go_frame
    have HX := hide (Ext.grown HX1.out hg0 (by intro k hk; cases hk))
    have HS := hide hs0
    have HLS := hide OK.out.len
    have sx := HX1.out.size
    clear hg0 hs0
    obtain ⟨r, hr⟩ : ∃ r, r = w1.heap.size := ⟨_, rfl⟩
    rw [← hr] at hrg0 ⊢
    have HR := hide hr
    clear hr
    go_loopw [5] (fun v wr => ∃ (left : Lit → Bool) (cnt : Nat) (ss : List Pr), wr.ranges Try.prog 3 rdP m1 r S.length D left cnt ∧ Coll S fA left ss ∧ ss.length + cnt ≤ S.length ∧ wr.ownsRow w0.heap.size 33 3 v ss.length (pcells ss) ∧ Chg [r] w0 wr) (fun _ wr => wr.rangeLeft m1 r)
    case atStart => exact ⟨_, _, [], hrg0, Coll.start OK.out rep, by simp [SZ.out], own_nil _ _ _ _, Chg.refl _ _⟩
    case round =>
      clear hrg0
      obtain ⟨left, cnt, ss, hrg, hC, hcs, hrow, hch⟩ := hrel
      go_wp2_with (first
        | (at_next; refine wpList_next_ip _ rfl _ rfl m1 r S.length D left cnt rfl hrg ?_ ?_)
        | go_in)
      · intro hc0 hl0
        have hfin := hC.fin hl0
        have r1 := HR.out
        have s0 := HS.out
        have hX := HX.out.turn hch (by simp; omega)
        rcases hrow.2 with ⟨rfl, hn0⟩ | ⟨g, cap, cur, rfl, hbase, hb, h1, h3, h4, h5⟩
        · obtain rfl : ss = [] := List.eq_nil_of_length_eq_zero hn0
          have hcon := Proofs.AnyF.slices_SortFunc_none { sortL with } none 0 (.func (.func 31) #[] #[]) wr
          change Calls Try.prog 30 _ _ _ at hcon
          have hz : S.filter fA = [] := List.eq_nil_iff_forall_not_mem.2 fun x hx => by simpa using (hfin x).2 hx
          have HZ := hide hz
          clear hz hrg hrow hch r1 s0
          go_wp2_with (go_at_call 30; refine hcon.mono ?_; rintro e w' ⟨rfl, rfl⟩)
          go_ret
          exact ⟨_, rfl, by rw [HZ.out]; exact own_nil _ _ _ _, hX⟩
        · have hcmp : Proofs.CmpLays Try.prog 31 #[] enP 3 cfP g 0 ss.toArray.size wr := fun mm os dk _ x y => cmpf_any x y _
          have hgl : g < wr.heap.size := (Array.getElem?_eq_some_iff.1 hb).1
          have s1 := HLS.out
          have hcon := Proofs.AnyQ.slices_SortFunc sortL 3 (by intro w; kernel_rfl) (by intro w; kernel_rfl) enP (fun _ => rfl) (fun x u hu => by simp only [enP, List.mem_cons, List.not_mem_nil, or_false] at hu; rcases hu with rfl | rfl | rfl <;> rfl) cfP swoP 31 #[] g 0 cap ss.toArray wr egC hcmp (holds_row hb h5) hgl (by simp; omega)
          change Calls Try.prog 30 _ _ _ at hcon
          rw [List.size_toArray] at hcon
          have HN := hide hC.nd
          have HF := hide hfin
          have HB0 := hide hb
          clear hrg hrow hch r1 hb hcmp hC hfin
          go_wp2_with (go_at_call 30; refine hcon.mono ?_; rintro e w' ⟨rfl, d', nn, os, hp, hs, rfl⟩)
          go_ret
          have eS : ss.toArray.size = ss.length := by simp
          rw [← eS] at hp hs
          have hd := those_sorted OK.out HN.out HF.out hp hs
          have hl : d'.size = ss.length := by have := hp.1; simpa using this
          have hl2 : (S.filter fA).length = ss.length := by rw [← hd]; simpa using hl
          refine ⟨_, rfl, ?_, hX.turn (sort_chg wr g nn d' os) (by simp; omega)⟩
          rw [hl2, ← hd]
          exact own_low (own_sorted hl hbase HB0.out h1 h3 h4) (by omega)
      · intro x p w2 cnt2 hlx hat hrg2 hlt hg2 hs2 hen
        have hch2 := hch.trans (Chg.of_grown hg2 (T := [r]) (by simp))
        have r1 := HR.out
        have s0 := HS.out
        have s1 := HLS.out
        have hh : (bySlot S x).isSome = true := by rw [← rep.has x]; exact Maps.has_true_of_atKey hat
        obtain ⟨p0, hp0⟩ := Option.isSome_iff_exists.1 hh
        have hpe : p0 = p := datP_inj ((rep.val x p0 hp0 .nil).symm.trans (hat .nil))
        subst hpe
        obtain ⟨hm, rfl⟩ := (bySlot_some OK.out).1 hp0
        have hrow2 := own_chg hrow (Chg.of_grown hg2 (T := [r]) (by simp)) (by simp; omega)
        have HL := hide hlx
        have HC := hide hC
        have HG := hide hrg
        have HR2 := hide hrg2
        have HW := hide hrow2
        have HM := hide hm
        have hsz := hch2.size
        have HC2 := hide hch2
        have HB := hide (Blk.new w2 #[.int .i64 p0.s, .int .i64 p0.o, .int .i64 p0.t] 33)
        have HXA := hide (Ext.alloc w2 (.cells #[.int .i64 p0.s, .int .i64 p0.o, .int .i64 p0.t] 33))
        have rB := HB.out.cell
        clear hs2 hg2 hat hrg hrow hch hlx hC hown r1 s0 hch2 hrg2 hrow2 hh hp0 hm
        have CL := allf_any p0 (w2.alloc (.cells #[.int .i64 p0.s, .int .i64 p0.o, .int .i64 p0.t] 33))
        cases hf : fA p0 with
        | true =>
          rw [hf] at CL
          go_wp2_with fail
          refine CL.mono ?_
          rintro e w3 ⟨rfl, hx3⟩
          have rB3 := (HB.out.ext hx3).cell
          have hx4 := HXA.out.trans hx3
          have hbw : w0.heap.size ≤ w3.heap.size := Nat.le_trans hsz hx4.size
          have HW3 := hide (own_ext HW.out hx4)
          have HX4 := hide hx4
          clear rB CL hx3 hx4
          go_wp2_with (first
            | (at_builtin; refine wpList_app2 rfl rfl Try.underlying40 inf_pair rfl (by omega) rfl HW3.out hbw rfl rfl rfl (by simp [Value.oneCell']) (by unfold maxLen; omega) (by omega) ?_; intro v' w4 hown' hg3; go_frame)
            | go_in)
          have row := own_row HW3.out
          have s0 := HS.out
          have r1 := HR.out
          have hrg3 := ((rg_ext HR2.out HX4.out).alloc (.cells #[.int .i64 p0.s, .int .i64 p0.o, .int .i64 p0.t] 33)).kept hg3 (fun e => by have := row m1 e.symm; omega) (fun e => by have := row r e.symm; omega)
          go_roundw
          case rel => exact ⟨_, cnt2, ss ++ [p0], hrg3, HC.out.took OK.out HL.out HM.out hf, by simp; omega, by rw [← pcells_snoc]; simpa using hown', ((HC2.out.trans (HX4.out.chg _)).trans (Chg.alloc _ _ _)).of_row hg3 row⟩
          case measure => rw [hrg3.left_eq, HG.out.left_eq]; exact hlt
        | false =>
          rw [hf] at CL
          go_wp2_with fail
          refine CL.mono ?_
          rintro e w3 ⟨rfl, hx3⟩
          have hx4 := HXA.out.trans hx3
          have hrg3 := rg_ext HR2.out hx4
          have HW3 := hide (own_ext HW.out hx4)
          have HX4 := hide hx4
          have HR3 := hide hrg3
          clear rB CL hx3 hx4 hrg3
          go_wp2_with fail
          go_roundw
          case rel => exact ⟨_, cnt2, ss, HR3.out, HC.out.skip OK.out HM.out hf, by omega, HW3.out, HC2.out.trans (HX4.out.chg _)⟩
          case measure => rw [HR3.out.left_eq, HG.out.left_eq]; exact hlt
set_option maxRecDepth 100000 in
theorem those_of {w : World} {p : Value} {g : Bool} {S : List Pr} {B : Nat} {z : Int} (h : Any w p g S) (hB : Blk w B #[.int .i64 z] 3) : Calls Try.prog 27 #[p, .func (.func 29) #[] #[.pointer (some ⟨B, 0, none⟩)]] w fun e w' => ∃ v, e = .returned v ∧ w'.ownsRow w.heap.size 33 3 v (S.filter (fT z)).length (pcells (S.filter (fT z))) ∧ Ext w w' := by
  have HBZ := hide hB
  have HBl := hide hB.lt
  clear hB
  have OK := hide (any_ok h)
  go_enter Try.func27, Try.ntmps27
  have f0 := run_f0
  go_wp2_with fail
  refine (own_any h).mono ?_
  rintro e w1 ⟨v, rfl, ho, hx⟩
  have HX1 := hide hx
  cases ho with
  | none e =>
    subst e
    have hrg := run_range_nilMap (P := Try.prog) w1 52 3 33 Try.underlying52
    have hnx : ∀ ty, (Instr.next (.pointer (some ⟨w1.heap.size, 0, none⟩)) false ty).run Try.prog (w1.alloc (.mapIter none 0 #[] 0)) = _ := fun ty => run_next_nilMap w1 ty 0 0 #[]
    have hcon := fun wr => Proofs.AnyF.slices_SortFunc_none { sortL with } none 0 (.func (.func 31) #[] #[]) wr
    change ∀ wr, Calls Try.prog 30 _ _ _ at hcon
    go_wp2_with fail
    refine wp_loop_rounds 1 ?_
    rw [rounds_succ]
    go_wp2_with (go_at_call 30; refine (hcon _).mono ?_; rintro e w' ⟨rfl, rfl⟩)
    go_ret
    exact ⟨_, rfl, own_nil _ _ _ _, HX1.out.trans (Ext.alloc _ _)⟩
  | some m1 m2 h1 h2 =>
    obtain ⟨D, hown, rep⟩ := h1
    have hml := hown.lt
    have SZ := hide rep.size
    clear hx
    go_wp2_with (first
      | (at_range; refine wpList_range_own _ rfl _ 52 rfl 3 33 kI Try.underlying52 rdP m1 S.length D rfl hown ?_; intro w0 hrg0 hg0 hs0)
      | go_in)
    go_frame
    have HX := hide (Ext.grown HX1.out hg0 (by intro k hk; cases hk))
    have HS := hide hs0
    have HLS := hide OK.out.len
    have sx := HX1.out.size
    clear hg0 hs0
    obtain ⟨r, hr⟩ : ∃ r, r = w1.heap.size := ⟨_, rfl⟩
    rw [← hr] at hrg0 ⊢
    have HR := hide hr
    clear hr
    go_loopw [5] (fun v wr => ∃ (left : Lit → Bool) (cnt : Nat) (ss : List Pr), wr.ranges Try.prog 3 rdP m1 r S.length D left cnt ∧ Coll S (fT z) left ss ∧ ss.length + cnt ≤ S.length ∧ wr.ownsRow w0.heap.size 33 3 v ss.length (pcells ss) ∧ Chg [r] w0 wr) (fun _ wr => wr.rangeLeft m1 r)
    case atStart => exact ⟨_, _, [], hrg0, Coll.start OK.out rep, by simp [SZ.out], own_nil _ _ _ _, Chg.refl _ _⟩
    case round =>
      clear hrg0
      obtain ⟨left, cnt, ss, hrg, hC, hcs, hrow, hch⟩ := hrel
      go_wp2_with (first
        | (at_next; refine wpList_next_ip _ rfl _ rfl m1 r S.length D left cnt rfl hrg ?_ ?_)
        | go_in)
      · intro hc0 hl0
        have hfin := hC.fin hl0
        have r1 := HR.out
        have s0 := HS.out
        have hX := HX.out.turn hch (by simp; omega)
        rcases hrow.2 with ⟨rfl, hn0⟩ | ⟨g, cap, cur, rfl, hbase, hb, h1, h3, h4, h5⟩
        · obtain rfl : ss = [] := List.eq_nil_of_length_eq_zero hn0
          have hcon := Proofs.AnyF.slices_SortFunc_none { sortL with } none 0 (.func (.func 31) #[] #[]) wr
          change Calls Try.prog 30 _ _ _ at hcon
          have hz : S.filter (fT z) = [] := List.eq_nil_iff_forall_not_mem.2 fun x hx => by simpa using (hfin x).2 hx
          have HZ := hide hz
          clear hz hrg hrow hch r1 s0
          go_wp2_with (go_at_call 30; refine hcon.mono ?_; rintro e w' ⟨rfl, rfl⟩)
          go_ret
          exact ⟨_, rfl, by rw [HZ.out]; exact own_nil _ _ _ _, hX⟩
        · have hcmp : Proofs.CmpLays Try.prog 31 #[] enP 3 cfP g 0 ss.toArray.size wr := fun mm os dk _ x y => cmpf_any x y _
          have hgl : g < wr.heap.size := (Array.getElem?_eq_some_iff.1 hb).1
          have s1 := HLS.out
          have hcon := Proofs.AnyQ.slices_SortFunc sortL 3 (by intro w; kernel_rfl) (by intro w; kernel_rfl) enP (fun _ => rfl) (fun x u hu => by simp only [enP, List.mem_cons, List.not_mem_nil, or_false] at hu; rcases hu with rfl | rfl | rfl <;> rfl) cfP swoP 31 #[] g 0 cap ss.toArray wr egC hcmp (holds_row hb h5) hgl (by simp; omega)
          change Calls Try.prog 30 _ _ _ at hcon
          rw [List.size_toArray] at hcon
          have HN := hide hC.nd
          have HF := hide hfin
          have HB0 := hide hb
          clear hrg hrow hch r1 hb hcmp hC hfin
          go_wp2_with (go_at_call 30; refine hcon.mono ?_; rintro e w' ⟨rfl, d', nn, os, hp, hs, rfl⟩)
          go_ret
          have eS : ss.toArray.size = ss.length := by simp
          rw [← eS] at hp hs
          have hd := those_sorted OK.out HN.out HF.out hp hs
          have hl : d'.size = ss.length := by have := hp.1; simpa using this
          have hl2 : (S.filter (fT z)).length = ss.length := by rw [← hd]; simpa using hl
          refine ⟨_, rfl, ?_, hX.turn (sort_chg wr g nn d' os) (by simp; omega)⟩
          rw [hl2, ← hd]
          exact own_low (own_sorted hl hbase HB0.out h1 h3 h4) (by omega)
      · intro x p w2 cnt2 hlx hat hrg2 hlt hg2 hs2 hen
        have hch2 := hch.trans (Chg.of_grown hg2 (T := [r]) (by simp))
        have r1 := HR.out
        have s0 := HS.out
        have s1 := HLS.out
        have hh : (bySlot S x).isSome = true := by rw [← rep.has x]; exact Maps.has_true_of_atKey hat
        obtain ⟨p0, hp0⟩ := Option.isSome_iff_exists.1 hh
        have hpe : p0 = p := datP_inj ((rep.val x p0 hp0 .nil).symm.trans (hat .nil))
        subst hpe
        obtain ⟨hm, rfl⟩ := (bySlot_some OK.out).1 hp0
        have hrow2 := own_chg hrow (Chg.of_grown hg2 (T := [r]) (by simp)) (by simp; omega)
        have HL := hide hlx
        have HC := hide hC
        have HG := hide hrg
        have HR2 := hide hrg2
        have HW := hide hrow2
        have HM := hide hm
        have hsz := hch2.size
        have HC2 := hide hch2
        have HB := hide (Blk.new w2 #[.int .i64 p0.s, .int .i64 p0.o, .int .i64 p0.t] 33)
        have HXA := hide (Ext.alloc w2 (.cells #[.int .i64 p0.s, .int .i64 p0.o, .int .i64 p0.t] 33))
        have rB := HB.out.cell
        clear hs2 hg2 hat hrg hrow hch hlx hC hown r1 s0 hch2 hrg2 hrow2 hh hp0 hm
        have CL := off_any p0 (((HBZ.out.ext HX.out).chg HC2.out (by have := HBl.out; have := HR.out; simp; omega)).ext HXA.out)
        cases hf : (fT z) p0 with
        | true =>
          rw [hf] at CL
          go_wp2_with fail
          refine CL.mono ?_
          rintro e w3 ⟨rfl, hx3⟩
          have rB3 := (HB.out.ext hx3).cell
          have hx4 := HXA.out.trans hx3
          have hbw : w0.heap.size ≤ w3.heap.size := Nat.le_trans hsz hx4.size
          have HW3 := hide (own_ext HW.out hx4)
          have HX4 := hide hx4
          clear rB CL hx3 hx4
          go_wp2_with (first
            | (at_builtin; refine wpList_app2 rfl rfl Try.underlying40 inf_pair rfl (by omega) rfl HW3.out hbw rfl rfl rfl (by simp [Value.oneCell']) (by unfold maxLen; omega) (by omega) ?_; intro v' w4 hown' hg3; go_frame)
            | go_in)
          have row := own_row HW3.out
          have s0 := HS.out
          have r1 := HR.out
          have hrg3 := ((rg_ext HR2.out HX4.out).alloc (.cells #[.int .i64 p0.s, .int .i64 p0.o, .int .i64 p0.t] 33)).kept hg3 (fun e => by have := row m1 e.symm; omega) (fun e => by have := row r e.symm; omega)
          go_roundw
          case rel => exact ⟨_, cnt2, ss ++ [p0], hrg3, HC.out.took OK.out HL.out HM.out hf, by simp; omega, by rw [← pcells_snoc]; simpa using hown', ((HC2.out.trans (HX4.out.chg _)).trans (Chg.alloc _ _ _)).of_row hg3 row⟩
          case measure => rw [hrg3.left_eq, HG.out.left_eq]; exact hlt
        | false =>
          rw [hf] at CL
          go_wp2_with fail
          refine CL.mono ?_
          rintro e w3 ⟨rfl, hx3⟩
          have hx4 := HXA.out.trans hx3
          have hrg3 := rg_ext HR2.out hx4
          have HW3 := hide (own_ext HW.out hx4)
          have HX4 := hide hx4
          have HR3 := hide hrg3
          clear rB CL hx3 hx4 hrg3
          go_wp2_with fail
          go_roundw
          case rel => exact ⟨_, cnt2, ss, HR3.out, HC.out.skip OK.out HM.out hf, by omega, HW3.out, HC2.out.trans (HX4.out.chg _)⟩
          case measure => rw [HR3.out.left_eq, HG.out.left_eq]; exact hlt
theorem fA_all (S : List Pr) : S.filter fA = S := by rw [List.filter_eq_self]; intro _ _; rfl
theorem fT_of (S : List Pr) (z : Int) : S.filter (fT z) = ofT S z := rfl
/-- All, Of: a row of its own. -/
theorem all_any {w : World} {p : Value} {g : Bool} {S : List Pr} (h : Any w p g S) : Calls Try.prog 18 #[p] w fun e w' => ∃ v, e = .returned v ∧ w'.ownsRow w.heap.size 33 3 v S.length (pcells S) ∧ Ext w w' := by
  have hth := those_all h
  rw [fA_all] at hth
  go_enter Try.func18, Try.ntmps18
  go_wp2_with fail
  refine hth.mono ?_
  rintro e w1 ⟨v, rfl, ho, hx⟩
  obtain ⟨A, c, rfl⟩ := own_sl ho
  have HO := hide ho
  have HX := hide hx
  clear ho hx hth
  go_wp2_with fail
  go_ret
  exact ⟨_, rfl, HO.out, HX.out⟩
theorem of_any {w : World} {p : Value} {g : Bool} {S : List Pr} (h : Any w p g S) (z : Int) : Calls Try.prog 19 #[p, .int .i64 z] w fun e w' => ∃ v, e = .returned v ∧ w'.ownsRow w.heap.size 33 3 v (ofT S z).length (pcells (ofT S z)) ∧ Ext w w' := by
  have hx0 := Ext.alloc w (.cells #[.int .i64 z] 3)
  have hth := those_of (h.ext hx0) (Blk.new w #[.int .i64 z] 3)
  rw [fT_of] at hth
  go_enter Try.func19, Try.ntmps19
  go_wp2_with fail
  refine hth.mono ?_
  rintro e w1 ⟨v, rfl, ho, hx⟩
  obtain ⟨A, c, rfl⟩ := own_sl ho
  have HO := hide (own_low ho (base' := w.heap.size) (by simp))
  have HX := hide (hx0.trans hx)
  clear ho hx hth
  go_wp2_with fail
  go_ret
  exact ⟨_, rfl, HO.out, HX.out⟩
end Go.Proofs.Ytcgbbgljchfbcaa
