/- The document's Ask: one who waits more. -/
import Derived.Test.YtonaibpenijomaaR4
import Derived.Deep.RegionLaw
namespace Go.Proofs.Ytonaibpenijomaa
open Go.RowKit Go.Maps
set_option linter.unusedSimpArgs false
set_option linter.unusedVariables false
set_option maxRecDepth 100000



set_option maxHeartbeats 4000000 in
theorem rask_more {w : World} {O : List Nat} {X : Nat} {S : List En} {k o t : Int} (h : RT w O X S) (ok : Ok S) (ha : okA (k, o) t = true) (hw : waitsB S t = false) (hh : hasR S (k, o) = true) :
    Calls Try.prog 13 #[.pointer (some ⟨X, 0, none⟩), (Value.agg #[.int .i64 k, .int .i64 o]), .int .i64 t] w fun e w' => e = .returned (.tuple #[.bool false, .int .i64 0]) ∧ ∃ O', RT w' O' X (addT S (k, o) t) ∧ Chg O w w' ∧ Fr O O' w := by
  obtain ⟨em, et⟩ := okA_of ha
  have hb := okT_of et
  have hX0 := Ext.alloc w (.cells #[.int .i64 k, .int .i64 o] 30)
  have hc := rwaits_ext t (h.ext hX0) ok
  rw [hw] at hc
  have t0 : ¬ t < -1 := by omega
  have t1 : ¬ 256 ≤ t := by omega
  have HB := hide (Blk.new w #[.int .i64 k, .int .i64 o] 30)
  have HI := hide h
  have HH := hide hh
  have OK := hide ok
  have hsl := ok.len
  clear h ok ha hw hb et hh
  rcases mayR_of em with ⟨e1, e2, e3⟩ | ⟨e1, e2⟩
  · simp only at e1 e2 e3
    subst e1
    have e4 : o < 65536 := by omega
    clear em
    by_cases t2 : 0 ≤ t
    · have ew : who t = [t] := by unfold who; rw [if_neg (by omega)]
      go_enter Try.func13, Try.ntmps13
      go_wp2_with fail
      refine hc.mono ?_
      rintro e w1 ⟨rfl, hx⟩
      go_wp2_with fail
      have hown : RowI (w1.alloc (.cells #[.int .i64 t] 3)) (.slice (some ⟨w1.heap.size, 0, none⟩) 1 1) (who t) := by rw [ew]; exact own_one w1 t
      have hnw : ∀ k, (Value.slice (some ⟨w1.heap.size, 0, none⟩) 1 1).ownBlock = some k → w.heap.size ≤ k := fun k hk => by cases hk; exact Nat.le_trans hX0.size hx.size
      have hx := hx.trans (Ext.alloc w1 (.cells #[.int .i64 t] 3))
      generalize w1.alloc (.cells #[.int .i64 t] 3) = W1 at *
      obtain ⟨sw, hsw⟩ : ∃ s : Sl3, slV s = (Value.slice (some ⟨w1.heap.size, 0, none⟩) 1 1) := ⟨⟨some w1.heap.size, 1, 1⟩, rfl⟩
      have HSW := hide hsw
      have HOW := hide hown
      have HNW := hide hnw
      clear hsw hown hnw ew
      have HX := hide (hX0.trans hx)
      obtain ⟨A, c, vs, hi⟩ := HI.out.ext (hX0.trans hx)
      have HIW := hide hi
      have HBW := hide (HB.out.ext hx)
      have rX := hi.x.rule
      have x0 := Ext.refl W1
      clear hi
      go_loopw [10] (fun i wr => ∃ j : Nat, j ≤ S.length ∧ i = .int .i64 (j : Int) ∧ (∀ q (h : q < S.length), q < j → (S[q]).1 ≠ (1, o)) ∧ Ext W1 wr) (fun i _ => S.length - (intOf i).toNat)
      case atStart => exact ⟨0, by omega, rfl, fun q h h2 => by omega, x0⟩
      case round =>
        clear x0
        obtain ⟨j, hj, rfl, hno, hX⟩ := hrel
        have HNO := hide hno
        clear hno
        by_cases hlt : j < S.length
        · obtain ⟨b, off, rfl, hbO, r⟩ := HIW.out.at_ hlt
          have r0 := fun w' x => (r w' x).1
          have r1 := fun w' x => (r w' x).2.1
          have r2 := fun w' x => (r w' x).2.2
          have rb := HBW.out.rule
          have hW := hX
          have heq := fun w => eq_rreq (S[j]).1.1 (S[j]).1.2 1 o w
          by_cases hq : (S[j]).1 = (1, o)
          · have HJ := hide hq
            simp only [hq, eqQ_same] at r0 r1 heq
            have HR2 := hide r2
            have HRX := hide rX
            have HBO := hide hbO
            clear r r2 hq hbO
            go_wp2_with fail
            refine wp_region_ext (by kernel_rfl) (by kernel_rfl) ?_
            repeat
              with_reducible refine wpQuiet_step (fun K hK => ?_)
              go_simp
              first
              | (refine hK _ ?_; clear hK K)
              | (apply Exists.intro
                 refine ⟨fun w1 h1 => ?_, hK _ ?_⟩
                 (have hW := Ext.trans2 hW (by repeat (first | exact Ext.refl _ | exact Ext.alloc _ _ | exact Ext.drewN _ _ | assumption | refine Ext.trans ?_ (Ext.alloc _ _) | refine Ext.trans ?_ (Ext.drew _) | refine Ext.trans ?_ (by assumption))) h1; (try have hV := Ext.trans2 hV (by repeat (first | exact Ext.refl _ | exact Ext.alloc _ _ | exact Ext.drewN _ _ | assumption | refine Ext.trans ?_ (Ext.alloc _ _) | refine Ext.trans ?_ (Ext.drew _) | refine Ext.trans ?_ (by assumption))) h1); (first | rfl | (go_simp; done) | (go_simp; rfl) | fail))
                 clear hK K)
            refine wpQuiet_nil (fun w' hw' => ?_)
            have hW := Ext.trans2 hW (by repeat (first | exact Ext.refl _ | exact Ext.alloc _ _ | exact Ext.drewN _ _ | assumption | refine Ext.trans ?_ (Ext.alloc _ _) | refine Ext.trans ?_ (Ext.drew _) | refine Ext.trans ?_ (by assumption))) hw'
            try have hV := Ext.trans2 hV (by repeat (first | exact Ext.refl _ | exact Ext.alloc _ _ | exact Ext.drewN _ _ | assumption | refine Ext.trans ?_ (Ext.alloc _ _) | refine Ext.trans ?_ (Ext.drew _) | refine Ext.trans ?_ (by assumption))) hw'
            clear hw'
            clear heq r0 r1 rb rX
            have HXW := hide (hW.trans (Ext.drew w'))
            have hI := HIW.out.ext HXW.out
            have HI2 := hide hI
            have hold := hI.rows j hlt
            obtain ⟨B, cb, es⟩ := own_sl hold
            have hlw := OK.out.wlen (List.getElem_mem hlt)
            have hwl := who_len t
            obtain ⟨s1, w4, hr1, ho1, hx1⟩ := dup_run 34 hold (by omega)
            obtain ⟨s2, w5, hr2, ho2, hg2⟩ := cat_run 34 ho1 hx1.size (own_ext HOW.out (HXW.out.trans hx1)) (by omega)
            have hx2 := Ext.grown hx1 hg2 (own_row ho1)
            obtain ⟨A1, c1, es1⟩ := own_sl ho1
            obtain ⟨A2, c2, es2⟩ := own_sl ho2
            obtain ⟨n2, hn2⟩ : ∃ n, n = ((S[j]).2 ++ who t).length := ⟨_, rfl⟩
            obtain ⟨n1, hn1⟩ : ∃ n, n = (S[j]).2.length := ⟨_, rfl⟩
            have HO2 := hide ho2
            rw [← hn1] at es es1
            rw [← hn2] at es2
            have ES2 := hide es2
            rw [es, es1] at hr1
            rw [es1, es2] at hr2
            have H1 := hide hr1
            have H2 := hide hr2
            have HX2 := hide hx2
            obtain ⟨bcs, hbk⟩ := hI.blkF
            have qa2 := HR2.out _ HXW.out
            have q42 := HR2.out _ (HXW.out.trans hx1)
            have q52 := HR2.out _ (HXW.out.trans hx2)
            rw [es] at qa2 q42 q52
            have f5 := (hbk.ext hx2).free
            have rXa := (hI.x).cell
            have rX4 := (hI.x.ext hx1).cell
            have rX5 := (hI.x.ext hx2).cell
            have hnc := hI.nc
            clear hI hold es hlw hwl hr1 ho1 hr2 ho2 hg2 hx1 hx2 es1 es2 hn1 hn2 hbk
            go_wp2_with fail
            go_region_law (first | refine step_app rfl _ (.tmp 82) 34 rfl (by simp [Act.eval, Act.put]) (by simp [Act.eval, Act.put]) H1.out ?_ | refine step_app rfl (.tmp 83) (.tmp 84) 34 rfl (by simp [Act.eval, Act.put]) (by simp [Act.eval, Act.put]) H2.out ?_)
            all_goals
              go_wp2_with fail
              go_ret2
              have hrow5 := HO2.out
              have hfr := own_row hrow5
              have hm := HI2.out.more (t := t) HX2.out hlt HJ.out OK.out (own_low hrow5 (Nat.zero_le _)) hfr
              rw [ES2.out] at hm hfr
              have hxw := HX.out.trans HXW.out
              have hsz := hxw.size
              refine ⟨by simp, _, ⟨_, _, _, hm⟩, ((hxw.trans HX2.out).chg O).set (p := ⟨b, off + j * 3 + 2, none⟩) (.inl HBO.out) _, fun q hq => ?_⟩
              rcases List.mem_append.1 hq with e | e
              · exact .inr (by have := hfr q (of_blkL e); omega)
              · exact .inl e
          · have HQ := hide hq
            rw [show ((S[j]).1.1, (S[j]).1.2) = (S[j]).1 from rfl, eqQ_no hq] at heq
            generalize (S[j]).1.1 = x1 at *
            generalize (S[j]).1.2 = x2 at *
            clear r r2 hq hbO
            go_wp2_with fail
            refine wp_region_ext (by kernel_rfl) (by kernel_rfl) ?_
            repeat
              with_reducible refine wpQuiet_step (fun K hK => ?_)
              go_simp
              first
              | (refine hK _ ?_; clear hK K)
              | (apply Exists.intro
                 refine ⟨fun w1 h1 => ?_, hK _ ?_⟩
                 (have hW := Ext.trans2 hW (by repeat (first | exact Ext.refl _ | exact Ext.alloc _ _ | exact Ext.drewN _ _ | assumption | refine Ext.trans ?_ (Ext.alloc _ _) | refine Ext.trans ?_ (Ext.drew _) | refine Ext.trans ?_ (by assumption))) h1; (try have hV := Ext.trans2 hV (by repeat (first | exact Ext.refl _ | exact Ext.alloc _ _ | exact Ext.drewN _ _ | assumption | refine Ext.trans ?_ (Ext.alloc _ _) | refine Ext.trans ?_ (Ext.drew _) | refine Ext.trans ?_ (by assumption))) h1); (first | rfl | (go_simp; done) | (go_simp; rfl) | fail))
                 clear hK K)
            refine wpQuiet_nil (fun w' hw' => ?_)
            have hW := Ext.trans2 hW (by repeat (first | exact Ext.refl _ | exact Ext.alloc _ _ | exact Ext.drewN _ _ | assumption | refine Ext.trans ?_ (Ext.alloc _ _) | refine Ext.trans ?_ (Ext.drew _) | refine Ext.trans ?_ (by assumption))) hw'
            try have hV := Ext.trans2 hV (by repeat (first | exact Ext.refl _ | exact Ext.alloc _ _ | exact Ext.drewN _ _ | assumption | refine Ext.trans ?_ (Ext.alloc _ _) | refine Ext.trans ?_ (Ext.drew _) | refine Ext.trans ?_ (by assumption))) hw'
            clear hw'
            go_wp2_with fail
            go_roundw
            case rel => exact ⟨j + 1, by omega, by go_num, fun q h h2 => by
              by_cases z : q = j
              · subst z; exact HQ.out
              · exact HNO.out q h (by omega), hW⟩
            case measure => simp [intOf]; omega
        · obtain rfl : j = S.length := by omega
          exact absurd HH.out (by rw [has_none fun e he => ?_]; decide; obtain ⟨q, hq, rfl⟩ := List.getElem_of_mem he; exact HNO.out q hq hq)
    · have ew : who t = [] := by unfold who; rw [if_pos (by omega)]
      go_enter Try.func13, Try.ntmps13
      go_wp2_with fail
      refine hc.mono ?_
      rintro e W1 ⟨rfl, hx⟩
      go_wp2_with fail
      obtain ⟨sw, hsw⟩ : ∃ s : Sl3, slV s = (Value.slice none 0 0) := ⟨⟨none, 0, 0⟩, rfl⟩
      have HSW := hide hsw
      have HOW : Hid (RowI W1 (.slice none 0 0) (who t)) := hide (by rw [ew]; exact own_nil _ _ _ _)
      have HNW : Hid (∀ k, (Value.slice none 0 0).ownBlock = some k → w.heap.size ≤ k) := hide (fun k hk => by cases hk)
      clear hsw ew
      have HX := hide (hX0.trans hx)
      obtain ⟨A, c, vs, hi⟩ := HI.out.ext (hX0.trans hx)
      have HIW := hide hi
      have HBW := hide (HB.out.ext hx)
      have rX := hi.x.rule
      have x0 := Ext.refl W1
      clear hi
      go_loopw [10] (fun i wr => ∃ j : Nat, j ≤ S.length ∧ i = .int .i64 (j : Int) ∧ (∀ q (h : q < S.length), q < j → (S[q]).1 ≠ (1, o)) ∧ Ext W1 wr) (fun i _ => S.length - (intOf i).toNat)
      case atStart => exact ⟨0, by omega, rfl, fun q h h2 => by omega, x0⟩
      case round =>
        clear x0
        obtain ⟨j, hj, rfl, hno, hX⟩ := hrel
        have HNO := hide hno
        clear hno
        by_cases hlt : j < S.length
        · obtain ⟨b, off, rfl, hbO, r⟩ := HIW.out.at_ hlt
          have r0 := fun w' x => (r w' x).1
          have r1 := fun w' x => (r w' x).2.1
          have r2 := fun w' x => (r w' x).2.2
          have rb := HBW.out.rule
          have hW := hX
          have heq := fun w => eq_rreq (S[j]).1.1 (S[j]).1.2 1 o w
          by_cases hq : (S[j]).1 = (1, o)
          · have HJ := hide hq
            simp only [hq, eqQ_same] at r0 r1 heq
            have HR2 := hide r2
            have HRX := hide rX
            have HBO := hide hbO
            clear r r2 hq hbO
            go_wp2_with fail
            refine wp_region_ext (by kernel_rfl) (by kernel_rfl) ?_
            repeat
              with_reducible refine wpQuiet_step (fun K hK => ?_)
              go_simp
              first
              | (refine hK _ ?_; clear hK K)
              | (apply Exists.intro
                 refine ⟨fun w1 h1 => ?_, hK _ ?_⟩
                 (have hW := Ext.trans2 hW (by repeat (first | exact Ext.refl _ | exact Ext.alloc _ _ | exact Ext.drewN _ _ | assumption | refine Ext.trans ?_ (Ext.alloc _ _) | refine Ext.trans ?_ (Ext.drew _) | refine Ext.trans ?_ (by assumption))) h1; (try have hV := Ext.trans2 hV (by repeat (first | exact Ext.refl _ | exact Ext.alloc _ _ | exact Ext.drewN _ _ | assumption | refine Ext.trans ?_ (Ext.alloc _ _) | refine Ext.trans ?_ (Ext.drew _) | refine Ext.trans ?_ (by assumption))) h1); (first | rfl | (go_simp; done) | (go_simp; rfl) | fail))
                 clear hK K)
            refine wpQuiet_nil (fun w' hw' => ?_)
            have hW := Ext.trans2 hW (by repeat (first | exact Ext.refl _ | exact Ext.alloc _ _ | exact Ext.drewN _ _ | assumption | refine Ext.trans ?_ (Ext.alloc _ _) | refine Ext.trans ?_ (Ext.drew _) | refine Ext.trans ?_ (by assumption))) hw'
            try have hV := Ext.trans2 hV (by repeat (first | exact Ext.refl _ | exact Ext.alloc _ _ | exact Ext.drewN _ _ | assumption | refine Ext.trans ?_ (Ext.alloc _ _) | refine Ext.trans ?_ (Ext.drew _) | refine Ext.trans ?_ (by assumption))) hw'
            clear hw'
            clear heq r0 r1 rb rX
            have HXW := hide (hW.trans (Ext.drew w'))
            have hI := HIW.out.ext HXW.out
            have HI2 := hide hI
            have hold := hI.rows j hlt
            obtain ⟨B, cb, es⟩ := own_sl hold
            have hlw := OK.out.wlen (List.getElem_mem hlt)
            have hwl := who_len t
            obtain ⟨s1, w4, hr1, ho1, hx1⟩ := dup_run 34 hold (by omega)
            obtain ⟨s2, w5, hr2, ho2, hg2⟩ := cat_run 34 ho1 hx1.size (own_ext HOW.out (HXW.out.trans hx1)) (by omega)
            have hx2 := Ext.grown hx1 hg2 (own_row ho1)
            obtain ⟨A1, c1, es1⟩ := own_sl ho1
            obtain ⟨A2, c2, es2⟩ := own_sl ho2
            obtain ⟨n2, hn2⟩ : ∃ n, n = ((S[j]).2 ++ who t).length := ⟨_, rfl⟩
            obtain ⟨n1, hn1⟩ : ∃ n, n = (S[j]).2.length := ⟨_, rfl⟩
            have HO2 := hide ho2
            rw [← hn1] at es es1
            rw [← hn2] at es2
            have ES2 := hide es2
            rw [es, es1] at hr1
            rw [es1, es2] at hr2
            have H1 := hide hr1
            have H2 := hide hr2
            have HX2 := hide hx2
            obtain ⟨bcs, hbk⟩ := hI.blkF
            have qa2 := HR2.out _ HXW.out
            have q42 := HR2.out _ (HXW.out.trans hx1)
            have q52 := HR2.out _ (HXW.out.trans hx2)
            rw [es] at qa2 q42 q52
            have f5 := (hbk.ext hx2).free
            have rXa := (hI.x).cell
            have rX4 := (hI.x.ext hx1).cell
            have rX5 := (hI.x.ext hx2).cell
            have hnc := hI.nc
            clear hI hold es hlw hwl hr1 ho1 hr2 ho2 hg2 hx1 hx2 es1 es2 hn1 hn2 hbk
            go_wp2_with fail
            go_region_law (first | refine step_app rfl _ (.tmp 82) 34 rfl (by simp [Act.eval, Act.put]) (by simp [Act.eval, Act.put]) H1.out ?_ | refine step_app rfl (.tmp 83) (.tmp 84) 34 rfl (by simp [Act.eval, Act.put]) (by simp [Act.eval, Act.put]) H2.out ?_)
            all_goals
              go_wp2_with fail
              go_ret2
              have hrow5 := HO2.out
              have hfr := own_row hrow5
              have hm := HI2.out.more (t := t) HX2.out hlt HJ.out OK.out (own_low hrow5 (Nat.zero_le _)) hfr
              rw [ES2.out] at hm hfr
              have hxw := HX.out.trans HXW.out
              have hsz := hxw.size
              refine ⟨by simp, _, ⟨_, _, _, hm⟩, ((hxw.trans HX2.out).chg O).set (p := ⟨b, off + j * 3 + 2, none⟩) (.inl HBO.out) _, fun q hq => ?_⟩
              rcases List.mem_append.1 hq with e | e
              · exact .inr (by have := hfr q (of_blkL e); omega)
              · exact .inl e
          · have HQ := hide hq
            rw [show ((S[j]).1.1, (S[j]).1.2) = (S[j]).1 from rfl, eqQ_no hq] at heq
            generalize (S[j]).1.1 = x1 at *
            generalize (S[j]).1.2 = x2 at *
            clear r r2 hq hbO
            go_wp2_with fail
            refine wp_region_ext (by kernel_rfl) (by kernel_rfl) ?_
            repeat
              with_reducible refine wpQuiet_step (fun K hK => ?_)
              go_simp
              first
              | (refine hK _ ?_; clear hK K)
              | (apply Exists.intro
                 refine ⟨fun w1 h1 => ?_, hK _ ?_⟩
                 (have hW := Ext.trans2 hW (by repeat (first | exact Ext.refl _ | exact Ext.alloc _ _ | exact Ext.drewN _ _ | assumption | refine Ext.trans ?_ (Ext.alloc _ _) | refine Ext.trans ?_ (Ext.drew _) | refine Ext.trans ?_ (by assumption))) h1; (try have hV := Ext.trans2 hV (by repeat (first | exact Ext.refl _ | exact Ext.alloc _ _ | exact Ext.drewN _ _ | assumption | refine Ext.trans ?_ (Ext.alloc _ _) | refine Ext.trans ?_ (Ext.drew _) | refine Ext.trans ?_ (by assumption))) h1); (first | rfl | (go_simp; done) | (go_simp; rfl) | fail))
                 clear hK K)
            refine wpQuiet_nil (fun w' hw' => ?_)
            have hW := Ext.trans2 hW (by repeat (first | exact Ext.refl _ | exact Ext.alloc _ _ | exact Ext.drewN _ _ | assumption | refine Ext.trans ?_ (Ext.alloc _ _) | refine Ext.trans ?_ (Ext.drew _) | refine Ext.trans ?_ (by assumption))) hw'
            try have hV := Ext.trans2 hV (by repeat (first | exact Ext.refl _ | exact Ext.alloc _ _ | exact Ext.drewN _ _ | assumption | refine Ext.trans ?_ (Ext.alloc _ _) | refine Ext.trans ?_ (Ext.drew _) | refine Ext.trans ?_ (by assumption))) hw'
            clear hw'
            go_wp2_with fail
            go_roundw
            case rel => exact ⟨j + 1, by omega, by go_num, fun q h h2 => by
              by_cases z : q = j
              · subst z; exact HQ.out
              · exact HNO.out q h (by omega), hW⟩
            case measure => simp [intOf]; omega
        · obtain rfl : j = S.length := by omega
          exact absurd HH.out (by rw [has_none fun e he => ?_]; decide; obtain ⟨q, hq, rfl⟩ := List.getElem_of_mem he; exact HNO.out q hq hq)
  · simp only at e1 e2
    subst e1 e2
    clear em
    by_cases t2 : 0 ≤ t
    · have ew : who t = [t] := by unfold who; rw [if_neg (by omega)]
      go_enter Try.func13, Try.ntmps13
      go_wp2_with fail
      refine hc.mono ?_
      rintro e w1 ⟨rfl, hx⟩
      go_wp2_with fail
      have hown : RowI (w1.alloc (.cells #[.int .i64 t] 3)) (.slice (some ⟨w1.heap.size, 0, none⟩) 1 1) (who t) := by rw [ew]; exact own_one w1 t
      have hnw : ∀ k, (Value.slice (some ⟨w1.heap.size, 0, none⟩) 1 1).ownBlock = some k → w.heap.size ≤ k := fun k hk => by cases hk; exact Nat.le_trans hX0.size hx.size
      have hx := hx.trans (Ext.alloc w1 (.cells #[.int .i64 t] 3))
      generalize w1.alloc (.cells #[.int .i64 t] 3) = W1 at *
      obtain ⟨sw, hsw⟩ : ∃ s : Sl3, slV s = (Value.slice (some ⟨w1.heap.size, 0, none⟩) 1 1) := ⟨⟨some w1.heap.size, 1, 1⟩, rfl⟩
      have HSW := hide hsw
      have HOW := hide hown
      have HNW := hide hnw
      clear hsw hown hnw ew
      have HX := hide (hX0.trans hx)
      obtain ⟨A, c, vs, hi⟩ := HI.out.ext (hX0.trans hx)
      have HIW := hide hi
      have HBW := hide (HB.out.ext hx)
      have rX := hi.x.rule
      have x0 := Ext.refl W1
      clear hi
      go_loopw [10] (fun i wr => ∃ j : Nat, j ≤ S.length ∧ i = .int .i64 (j : Int) ∧ (∀ q (h : q < S.length), q < j → (S[q]).1 ≠ (2, 0)) ∧ Ext W1 wr) (fun i _ => S.length - (intOf i).toNat)
      case atStart => exact ⟨0, by omega, rfl, fun q h h2 => by omega, x0⟩
      case round =>
        clear x0
        obtain ⟨j, hj, rfl, hno, hX⟩ := hrel
        have HNO := hide hno
        clear hno
        by_cases hlt : j < S.length
        · obtain ⟨b, off, rfl, hbO, r⟩ := HIW.out.at_ hlt
          have r0 := fun w' x => (r w' x).1
          have r1 := fun w' x => (r w' x).2.1
          have r2 := fun w' x => (r w' x).2.2
          have rb := HBW.out.rule
          have hW := hX
          have heq := fun w => eq_rreq (S[j]).1.1 (S[j]).1.2 2 0 w
          by_cases hq : (S[j]).1 = (2, 0)
          · have HJ := hide hq
            simp only [hq, eqQ_same] at r0 r1 heq
            have HR2 := hide r2
            have HRX := hide rX
            have HBO := hide hbO
            clear r r2 hq hbO
            go_wp2_with fail
            refine wp_region_ext (by kernel_rfl) (by kernel_rfl) ?_
            repeat
              with_reducible refine wpQuiet_step (fun K hK => ?_)
              go_simp
              first
              | (refine hK _ ?_; clear hK K)
              | (apply Exists.intro
                 refine ⟨fun w1 h1 => ?_, hK _ ?_⟩
                 (have hW := Ext.trans2 hW (by repeat (first | exact Ext.refl _ | exact Ext.alloc _ _ | exact Ext.drewN _ _ | assumption | refine Ext.trans ?_ (Ext.alloc _ _) | refine Ext.trans ?_ (Ext.drew _) | refine Ext.trans ?_ (by assumption))) h1; (try have hV := Ext.trans2 hV (by repeat (first | exact Ext.refl _ | exact Ext.alloc _ _ | exact Ext.drewN _ _ | assumption | refine Ext.trans ?_ (Ext.alloc _ _) | refine Ext.trans ?_ (Ext.drew _) | refine Ext.trans ?_ (by assumption))) h1); (first | rfl | (go_simp; done) | (go_simp; rfl) | fail))
                 clear hK K)
            refine wpQuiet_nil (fun w' hw' => ?_)
            have hW := Ext.trans2 hW (by repeat (first | exact Ext.refl _ | exact Ext.alloc _ _ | exact Ext.drewN _ _ | assumption | refine Ext.trans ?_ (Ext.alloc _ _) | refine Ext.trans ?_ (Ext.drew _) | refine Ext.trans ?_ (by assumption))) hw'
            try have hV := Ext.trans2 hV (by repeat (first | exact Ext.refl _ | exact Ext.alloc _ _ | exact Ext.drewN _ _ | assumption | refine Ext.trans ?_ (Ext.alloc _ _) | refine Ext.trans ?_ (Ext.drew _) | refine Ext.trans ?_ (by assumption))) hw'
            clear hw'
            clear heq r0 r1 rb rX
            have HXW := hide (hW.trans (Ext.drew w'))
            have hI := HIW.out.ext HXW.out
            have HI2 := hide hI
            have hold := hI.rows j hlt
            obtain ⟨B, cb, es⟩ := own_sl hold
            have hlw := OK.out.wlen (List.getElem_mem hlt)
            have hwl := who_len t
            obtain ⟨s1, w4, hr1, ho1, hx1⟩ := dup_run 34 hold (by omega)
            obtain ⟨s2, w5, hr2, ho2, hg2⟩ := cat_run 34 ho1 hx1.size (own_ext HOW.out (HXW.out.trans hx1)) (by omega)
            have hx2 := Ext.grown hx1 hg2 (own_row ho1)
            obtain ⟨A1, c1, es1⟩ := own_sl ho1
            obtain ⟨A2, c2, es2⟩ := own_sl ho2
            obtain ⟨n2, hn2⟩ : ∃ n, n = ((S[j]).2 ++ who t).length := ⟨_, rfl⟩
            obtain ⟨n1, hn1⟩ : ∃ n, n = (S[j]).2.length := ⟨_, rfl⟩
            have HO2 := hide ho2
            rw [← hn1] at es es1
            rw [← hn2] at es2
            have ES2 := hide es2
            rw [es, es1] at hr1
            rw [es1, es2] at hr2
            have H1 := hide hr1
            have H2 := hide hr2
            have HX2 := hide hx2
            obtain ⟨bcs, hbk⟩ := hI.blkF
            have qa2 := HR2.out _ HXW.out
            have q42 := HR2.out _ (HXW.out.trans hx1)
            have q52 := HR2.out _ (HXW.out.trans hx2)
            rw [es] at qa2 q42 q52
            have f5 := (hbk.ext hx2).free
            have rXa := (hI.x).cell
            have rX4 := (hI.x.ext hx1).cell
            have rX5 := (hI.x.ext hx2).cell
            have hnc := hI.nc
            clear hI hold es hlw hwl hr1 ho1 hr2 ho2 hg2 hx1 hx2 es1 es2 hn1 hn2 hbk
            go_wp2_with fail
            go_region_law (first | refine step_app rfl _ (.tmp 82) 34 rfl (by simp [Act.eval, Act.put]) (by simp [Act.eval, Act.put]) H1.out ?_ | refine step_app rfl (.tmp 83) (.tmp 84) 34 rfl (by simp [Act.eval, Act.put]) (by simp [Act.eval, Act.put]) H2.out ?_)
            all_goals
              go_wp2_with fail
              go_ret2
              have hrow5 := HO2.out
              have hfr := own_row hrow5
              have hm := HI2.out.more (t := t) HX2.out hlt HJ.out OK.out (own_low hrow5 (Nat.zero_le _)) hfr
              rw [ES2.out] at hm hfr
              have hxw := HX.out.trans HXW.out
              have hsz := hxw.size
              refine ⟨by simp, _, ⟨_, _, _, hm⟩, ((hxw.trans HX2.out).chg O).set (p := ⟨b, off + j * 3 + 2, none⟩) (.inl HBO.out) _, fun q hq => ?_⟩
              rcases List.mem_append.1 hq with e | e
              · exact .inr (by have := hfr q (of_blkL e); omega)
              · exact .inl e
          · have HQ := hide hq
            rw [show ((S[j]).1.1, (S[j]).1.2) = (S[j]).1 from rfl, eqQ_no hq] at heq
            generalize (S[j]).1.1 = x1 at *
            generalize (S[j]).1.2 = x2 at *
            clear r r2 hq hbO
            go_wp2_with fail
            refine wp_region_ext (by kernel_rfl) (by kernel_rfl) ?_
            repeat
              with_reducible refine wpQuiet_step (fun K hK => ?_)
              go_simp
              first
              | (refine hK _ ?_; clear hK K)
              | (apply Exists.intro
                 refine ⟨fun w1 h1 => ?_, hK _ ?_⟩
                 (have hW := Ext.trans2 hW (by repeat (first | exact Ext.refl _ | exact Ext.alloc _ _ | exact Ext.drewN _ _ | assumption | refine Ext.trans ?_ (Ext.alloc _ _) | refine Ext.trans ?_ (Ext.drew _) | refine Ext.trans ?_ (by assumption))) h1; (try have hV := Ext.trans2 hV (by repeat (first | exact Ext.refl _ | exact Ext.alloc _ _ | exact Ext.drewN _ _ | assumption | refine Ext.trans ?_ (Ext.alloc _ _) | refine Ext.trans ?_ (Ext.drew _) | refine Ext.trans ?_ (by assumption))) h1); (first | rfl | (go_simp; done) | (go_simp; rfl) | fail))
                 clear hK K)
            refine wpQuiet_nil (fun w' hw' => ?_)
            have hW := Ext.trans2 hW (by repeat (first | exact Ext.refl _ | exact Ext.alloc _ _ | exact Ext.drewN _ _ | assumption | refine Ext.trans ?_ (Ext.alloc _ _) | refine Ext.trans ?_ (Ext.drew _) | refine Ext.trans ?_ (by assumption))) hw'
            try have hV := Ext.trans2 hV (by repeat (first | exact Ext.refl _ | exact Ext.alloc _ _ | exact Ext.drewN _ _ | assumption | refine Ext.trans ?_ (Ext.alloc _ _) | refine Ext.trans ?_ (Ext.drew _) | refine Ext.trans ?_ (by assumption))) hw'
            clear hw'
            go_wp2_with fail
            go_roundw
            case rel => exact ⟨j + 1, by omega, by go_num, fun q h h2 => by
              by_cases z : q = j
              · subst z; exact HQ.out
              · exact HNO.out q h (by omega), hW⟩
            case measure => simp [intOf]; omega
        · obtain rfl : j = S.length := by omega
          exact absurd HH.out (by rw [has_none fun e he => ?_]; decide; obtain ⟨q, hq, rfl⟩ := List.getElem_of_mem he; exact HNO.out q hq hq)
    · have ew : who t = [] := by unfold who; rw [if_pos (by omega)]
      go_enter Try.func13, Try.ntmps13
      go_wp2_with fail
      refine hc.mono ?_
      rintro e W1 ⟨rfl, hx⟩
      go_wp2_with fail
      obtain ⟨sw, hsw⟩ : ∃ s : Sl3, slV s = (Value.slice none 0 0) := ⟨⟨none, 0, 0⟩, rfl⟩
      have HSW := hide hsw
      have HOW : Hid (RowI W1 (.slice none 0 0) (who t)) := hide (by rw [ew]; exact own_nil _ _ _ _)
      have HNW : Hid (∀ k, (Value.slice none 0 0).ownBlock = some k → w.heap.size ≤ k) := hide (fun k hk => by cases hk)
      clear hsw ew
      have HX := hide (hX0.trans hx)
      obtain ⟨A, c, vs, hi⟩ := HI.out.ext (hX0.trans hx)
      have HIW := hide hi
      have HBW := hide (HB.out.ext hx)
      have rX := hi.x.rule
      have x0 := Ext.refl W1
      clear hi
      go_loopw [10] (fun i wr => ∃ j : Nat, j ≤ S.length ∧ i = .int .i64 (j : Int) ∧ (∀ q (h : q < S.length), q < j → (S[q]).1 ≠ (2, 0)) ∧ Ext W1 wr) (fun i _ => S.length - (intOf i).toNat)
      case atStart => exact ⟨0, by omega, rfl, fun q h h2 => by omega, x0⟩
      case round =>
        clear x0
        obtain ⟨j, hj, rfl, hno, hX⟩ := hrel
        have HNO := hide hno
        clear hno
        by_cases hlt : j < S.length
        · obtain ⟨b, off, rfl, hbO, r⟩ := HIW.out.at_ hlt
          have r0 := fun w' x => (r w' x).1
          have r1 := fun w' x => (r w' x).2.1
          have r2 := fun w' x => (r w' x).2.2
          have rb := HBW.out.rule
          have hW := hX
          have heq := fun w => eq_rreq (S[j]).1.1 (S[j]).1.2 2 0 w
          by_cases hq : (S[j]).1 = (2, 0)
          · have HJ := hide hq
            simp only [hq, eqQ_same] at r0 r1 heq
            have HR2 := hide r2
            have HRX := hide rX
            have HBO := hide hbO
            clear r r2 hq hbO
            go_wp2_with fail
            refine wp_region_ext (by kernel_rfl) (by kernel_rfl) ?_
            repeat
              with_reducible refine wpQuiet_step (fun K hK => ?_)
              go_simp
              first
              | (refine hK _ ?_; clear hK K)
              | (apply Exists.intro
                 refine ⟨fun w1 h1 => ?_, hK _ ?_⟩
                 (have hW := Ext.trans2 hW (by repeat (first | exact Ext.refl _ | exact Ext.alloc _ _ | exact Ext.drewN _ _ | assumption | refine Ext.trans ?_ (Ext.alloc _ _) | refine Ext.trans ?_ (Ext.drew _) | refine Ext.trans ?_ (by assumption))) h1; (try have hV := Ext.trans2 hV (by repeat (first | exact Ext.refl _ | exact Ext.alloc _ _ | exact Ext.drewN _ _ | assumption | refine Ext.trans ?_ (Ext.alloc _ _) | refine Ext.trans ?_ (Ext.drew _) | refine Ext.trans ?_ (by assumption))) h1); (first | rfl | (go_simp; done) | (go_simp; rfl) | fail))
                 clear hK K)
            refine wpQuiet_nil (fun w' hw' => ?_)
            have hW := Ext.trans2 hW (by repeat (first | exact Ext.refl _ | exact Ext.alloc _ _ | exact Ext.drewN _ _ | assumption | refine Ext.trans ?_ (Ext.alloc _ _) | refine Ext.trans ?_ (Ext.drew _) | refine Ext.trans ?_ (by assumption))) hw'
            try have hV := Ext.trans2 hV (by repeat (first | exact Ext.refl _ | exact Ext.alloc _ _ | exact Ext.drewN _ _ | assumption | refine Ext.trans ?_ (Ext.alloc _ _) | refine Ext.trans ?_ (Ext.drew _) | refine Ext.trans ?_ (by assumption))) hw'
            clear hw'
            clear heq r0 r1 rb rX
            have HXW := hide (hW.trans (Ext.drew w'))
            have hI := HIW.out.ext HXW.out
            have HI2 := hide hI
            have hold := hI.rows j hlt
            obtain ⟨B, cb, es⟩ := own_sl hold
            have hlw := OK.out.wlen (List.getElem_mem hlt)
            have hwl := who_len t
            obtain ⟨s1, w4, hr1, ho1, hx1⟩ := dup_run 34 hold (by omega)
            obtain ⟨s2, w5, hr2, ho2, hg2⟩ := cat_run 34 ho1 hx1.size (own_ext HOW.out (HXW.out.trans hx1)) (by omega)
            have hx2 := Ext.grown hx1 hg2 (own_row ho1)
            obtain ⟨A1, c1, es1⟩ := own_sl ho1
            obtain ⟨A2, c2, es2⟩ := own_sl ho2
            obtain ⟨n2, hn2⟩ : ∃ n, n = ((S[j]).2 ++ who t).length := ⟨_, rfl⟩
            obtain ⟨n1, hn1⟩ : ∃ n, n = (S[j]).2.length := ⟨_, rfl⟩
            have HO2 := hide ho2
            rw [← hn1] at es es1
            rw [← hn2] at es2
            have ES2 := hide es2
            rw [es, es1] at hr1
            rw [es1, es2] at hr2
            have H1 := hide hr1
            have H2 := hide hr2
            have HX2 := hide hx2
            obtain ⟨bcs, hbk⟩ := hI.blkF
            have qa2 := HR2.out _ HXW.out
            have q42 := HR2.out _ (HXW.out.trans hx1)
            have q52 := HR2.out _ (HXW.out.trans hx2)
            rw [es] at qa2 q42 q52
            have f5 := (hbk.ext hx2).free
            have rXa := (hI.x).cell
            have rX4 := (hI.x.ext hx1).cell
            have rX5 := (hI.x.ext hx2).cell
            have hnc := hI.nc
            clear hI hold es hlw hwl hr1 ho1 hr2 ho2 hg2 hx1 hx2 es1 es2 hn1 hn2 hbk
            go_wp2_with fail
            go_region_law (first | refine step_app rfl _ (.tmp 82) 34 rfl (by simp [Act.eval, Act.put]) (by simp [Act.eval, Act.put]) H1.out ?_ | refine step_app rfl (.tmp 83) (.tmp 84) 34 rfl (by simp [Act.eval, Act.put]) (by simp [Act.eval, Act.put]) H2.out ?_)
            all_goals
              go_wp2_with fail
              go_ret2
              have hrow5 := HO2.out
              have hfr := own_row hrow5
              have hm := HI2.out.more (t := t) HX2.out hlt HJ.out OK.out (own_low hrow5 (Nat.zero_le _)) hfr
              rw [ES2.out] at hm hfr
              have hxw := HX.out.trans HXW.out
              have hsz := hxw.size
              refine ⟨by simp, _, ⟨_, _, _, hm⟩, ((hxw.trans HX2.out).chg O).set (p := ⟨b, off + j * 3 + 2, none⟩) (.inl HBO.out) _, fun q hq => ?_⟩
              rcases List.mem_append.1 hq with e | e
              · exact .inr (by have := hfr q (of_blkL e); omega)
              · exact .inl e
          · have HQ := hide hq
            rw [show ((S[j]).1.1, (S[j]).1.2) = (S[j]).1 from rfl, eqQ_no hq] at heq
            generalize (S[j]).1.1 = x1 at *
            generalize (S[j]).1.2 = x2 at *
            clear r r2 hq hbO
            go_wp2_with fail
            refine wp_region_ext (by kernel_rfl) (by kernel_rfl) ?_
            repeat
              with_reducible refine wpQuiet_step (fun K hK => ?_)
              go_simp
              first
              | (refine hK _ ?_; clear hK K)
              | (apply Exists.intro
                 refine ⟨fun w1 h1 => ?_, hK _ ?_⟩
                 (have hW := Ext.trans2 hW (by repeat (first | exact Ext.refl _ | exact Ext.alloc _ _ | exact Ext.drewN _ _ | assumption | refine Ext.trans ?_ (Ext.alloc _ _) | refine Ext.trans ?_ (Ext.drew _) | refine Ext.trans ?_ (by assumption))) h1; (try have hV := Ext.trans2 hV (by repeat (first | exact Ext.refl _ | exact Ext.alloc _ _ | exact Ext.drewN _ _ | assumption | refine Ext.trans ?_ (Ext.alloc _ _) | refine Ext.trans ?_ (Ext.drew _) | refine Ext.trans ?_ (by assumption))) h1); (first | rfl | (go_simp; done) | (go_simp; rfl) | fail))
                 clear hK K)
            refine wpQuiet_nil (fun w' hw' => ?_)
            have hW := Ext.trans2 hW (by repeat (first | exact Ext.refl _ | exact Ext.alloc _ _ | exact Ext.drewN _ _ | assumption | refine Ext.trans ?_ (Ext.alloc _ _) | refine Ext.trans ?_ (Ext.drew _) | refine Ext.trans ?_ (by assumption))) hw'
            try have hV := Ext.trans2 hV (by repeat (first | exact Ext.refl _ | exact Ext.alloc _ _ | exact Ext.drewN _ _ | assumption | refine Ext.trans ?_ (Ext.alloc _ _) | refine Ext.trans ?_ (Ext.drew _) | refine Ext.trans ?_ (by assumption))) hw'
            clear hw'
            go_wp2_with fail
            go_roundw
            case rel => exact ⟨j + 1, by omega, by go_num, fun q h h2 => by
              by_cases z : q = j
              · subst z; exact HQ.out
              · exact HNO.out q h (by omega), hW⟩
            case measure => simp [intOf]; omega
        · obtain rfl : j = S.length := by omega
          exact absurd HH.out (by rw [has_none fun e he => ?_]; decide; obtain ⟨q, hq, rfl⟩ := List.getElem_of_mem he; exact HNO.out q hq hq)
end Go.Proofs.Ytonaibpenijomaa
