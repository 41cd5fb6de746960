/- The reference's Push and Pop. -/
import Derived.Test.YtppjpicfiflkcaaR1
namespace Go.Proofs.Ytppjpicfiflkcaa
open Go.RowKit
set_option linter.unusedSimpArgs false
set_option linter.unusedVariables false

set_option maxRecDepth 100000 in
theorem rpush_any {w : World} {R h base : Nat} {N a : Int} {l : List Rec} (s : Int) (hr : St 29 41 w R h N l) (hbR : base ≤ R) (hbh : base ≤ h) (h0 : 0 < N) (hl : (l.length : Int) ≤ N) (hN : N ≤ 512) :
    Calls Try.prog 16 #[(.pointer (some ⟨R, 0, none⟩)), .int .i64 a, .int .u64 s] w fun e w' => e = .returned (.tuple #[.int .i64 (pushA N l a), .int .i64 (pushE N l a)]) ∧ ∃ h', St 29 41 w' R h' N (pushL N l a s) ∧ base ≤ h' ∧ Chg [R, h] w w' := by
  have hr9 := hr
  obtain ⟨v, hb, hrow⟩ := hr9
  by_cases h1 : okO a = true
  · obtain ⟨k0, k1⟩ := of_decide_eq_true h1
    have b0 : ¬ a < 0 := by omega
    have b1 : ¬ 65536 ≤ a := by omega
    obtain ⟨A, c, rfl, hs⟩ := hrow.len
    have r := hb.rule
    have hW := Ext.refl w
    by_cases h2 : (l.length : Int) = N
    · have E : pushE N l a = 5 := by unfold pushE; rw [if_pos h0, if_pos h1, if_pos h2]
      have e1 : pushA N l a = 0 := by unfold pushA; rw [E]; rfl
      have e2 : pushL N l a s = l := by unfold pushL; rw [E]; rfl
      rw [E, e1, e2]
      have H2 : decide (N ≤ (l.length : Int)) = true := by simp; omega
      have HR := hide hr
      have H3 : N ≤ (l.length : Int) := by omega
      clear hs hb h2 hrow h1 E e1 e2
      go_enter Try.func16, Try.ntmps16
      go_wp2_with fail
      refine wp_region_ext (by kernel_rfl) (by kernel_rfl) ?_
      repeat
        with_reducible refine wpQuiet_step (fun K hK => ?_)
        go_simp
        first
        | (refine hK _ ?_; clear hK K)
        | (apply Exists.intro
           refine ⟨fun w1 h1 => ?_, hK _ ?_⟩
           (have hW := Ext.trans2 hW (by repeat (first | exact Ext.refl _ | exact Ext.alloc _ _ | exact Ext.drewN _ _ | assumption | refine Ext.trans ?_ (Ext.alloc _ _) | refine Ext.trans ?_ (Ext.drew _) | refine Ext.trans ?_ (by assumption))) h1; (try have hV := Ext.trans2 hV (by repeat (first | exact Ext.refl _ | exact Ext.alloc _ _ | exact Ext.drewN _ _ | assumption | refine Ext.trans ?_ (Ext.alloc _ _) | refine Ext.trans ?_ (Ext.drew _) | refine Ext.trans ?_ (by assumption))) h1); (first | rfl | (go_simp; done) | (go_simp; rfl) | fail))
           clear hK K)
      refine wpQuiet_nil (fun w' hw' => ?_)
      have hW := Ext.trans2 hW (by repeat (first | exact Ext.refl _ | exact Ext.alloc _ _ | exact Ext.drewN _ _ | assumption | refine Ext.trans ?_ (Ext.alloc _ _) | refine Ext.trans ?_ (Ext.drew _) | refine Ext.trans ?_ (by assumption))) hw'
      try have hV := Ext.trans2 hV (by repeat (first | exact Ext.refl _ | exact Ext.alloc _ _ | exact Ext.drewN _ _ | assumption | refine Ext.trans ?_ (Ext.alloc _ _) | refine Ext.trans ?_ (Ext.drew _) | refine Ext.trans ?_ (by assumption))) hw'
      clear hw'
      go_wp2_with fail
      go_ret2
      exact ⟨by simp, h, HR.out.ext hW, hbh, hW.chg _⟩
    · have E : pushE N l a = 0 := by unfold pushE; rw [if_pos h0, if_pos h1, if_neg h2]
      have e1 : pushA N l a = l.length := by unfold pushA; rw [E]; rfl
      have e2 : pushL N l a s = l ++ [(a, s)] := by unfold pushL; rw [E]; rfl
      rw [E, e1, e2]
      have H2 : decide (N ≤ (l.length : Int)) = false := by simp; omega
      have H3 : ¬ N ≤ (l.length : Int) := by omega
      have HR := hide hr
      have HB := hide hb
      have HO := hide hrow.own
      have HL := hide (rcells_one l)
      have lR := hr.ltM
      clear hs hb h2 hrow h1 E e1 e2 hr
      go_enter Try.func16, Try.ntmps16
      go_wp2_with fail
      refine wp_region_ext (by kernel_rfl) (by kernel_rfl) ?_
      repeat
        with_reducible refine wpQuiet_step (fun K hK => ?_)
        go_simp
        first
        | (refine hK _ ?_; clear hK K)
        | (apply Exists.intro
           refine ⟨fun w1 h1 => ?_, hK _ ?_⟩
           (have hW := Ext.trans2 hW (by repeat (first | exact Ext.refl _ | exact Ext.alloc _ _ | exact Ext.drewN _ _ | assumption | refine Ext.trans ?_ (Ext.alloc _ _) | refine Ext.trans ?_ (Ext.drew _) | refine Ext.trans ?_ (by assumption))) h1; (try have hV := Ext.trans2 hV (by repeat (first | exact Ext.refl _ | exact Ext.alloc _ _ | exact Ext.drewN _ _ | assumption | refine Ext.trans ?_ (Ext.alloc _ _) | refine Ext.trans ?_ (Ext.drew _) | refine Ext.trans ?_ (by assumption))) h1); (first | rfl | (go_simp; done) | (go_simp; rfl) | fail))
           clear hK K)
      refine wpQuiet_nil (fun w' hw' => ?_)
      have hW := Ext.trans2 hW (by repeat (first | exact Ext.refl _ | exact Ext.alloc _ _ | exact Ext.drewN _ _ | assumption | refine Ext.trans ?_ (Ext.alloc _ _) | refine Ext.trans ?_ (Ext.drew _) | refine Ext.trans ?_ (by assumption))) hw'
      try have hV := Ext.trans2 hV (by repeat (first | exact Ext.refl _ | exact Ext.alloc _ _ | exact Ext.drewN _ _ | assumption | refine Ext.trans ?_ (Ext.alloc _ _) | refine Ext.trans ?_ (Ext.drew _) | refine Ext.trans ?_ (by assumption))) hw'
      clear hw'
      have HB2 := hide (HB.out.ext hW)
      have HO2 := hide (own_ext HO.out hW)
      have r0 := HB2.out.cell
      have HW := hide hW
      have HX := hide (Ext.refl w')
      clear hW r
      go_wp2_with (first
        | (at_builtin; refine wpList_clone (W0 := w') rfl _ _ _ rfl Try.underlying27 inf_rrec rfl (by omega) rfl rfl HO2.out HX.out HL.out (by unfold maxLen; omega) (by omega) ?_; intro v1 w1 hown1 hX1; obtain ⟨A1, c1, rfl⟩ := own_sl hown1; have HO1 := hide hown1; have HX1 := hide hX1; clear hown1 hX1; go_frame)
        | (at_builtin; refine wpList_app1 (W0 := w') rfl rfl Try.underlying27 inf_rrec rfl (by omega) rfl HO1.out HX1.out rfl rfl rfl (by simp [Value.oneCell']) (by unfold maxLen; omega) (by omega) ?_; intro v2 w2 hown2 hX2; obtain ⟨A2, c2, rfl⟩ := own_sl hown2; have HO3 := hide hown2; have HX3 := hide hX2; have HB3 := hide (HB2.out.ext hX2); have q1 := HB3.out.cell; have q2 := HB3.out.free; clear hown2 hX2; go_frame)
        | go_in)
      go_ret2
      have hb := HB3.out.set 1 (.slice A2 (l.length + 1) c2)
      rw [show (#[Value.int .i64 N, .slice A l.length c].setIfInBounds 1 (.slice A2 (l.length + 1) c2)) = #[.int .i64 N, .slice A2 (l.length + 1) c2] by simp] at hb
      have hs := (Chg.refl [R] w2).set (p := ⟨R, 1, none⟩) (.inl (by simp)) (.slice A2 (l.length + 1) c2)
      have hown3 := HO3.out
      have e1 : l.length + 1 = (l ++ [(a, s)]).length := by simp
      have e3 := HW.out.size
      rw [show ([Value.int .i64 a, .int .u64 s] : List Value) = rcells [(a, s)] by simp [rcells], ← rcells_append, e1] at hown3
      obtain ⟨h', hrow, hbh'⟩ := row_own (own_low hown3 (show base ≤ w'.heap.size by omega)) HB3.out (by decide) hbR
      have hne : h' ∉ [R] := by
        rcases hrow with ⟨q, q2, _⟩ | ⟨_, _, _, q, _⟩
        · exact absurd q2 (by simp)
        · simpa using q
      rw [← e1] at hrow
      exact ⟨by simp, h', ⟨_, hb, hrow.chg hs hne⟩, hbh', ((HW.out.trans HX3.out).chg [R, h]).set (p := ⟨R, 1, none⟩) (.inl (by simp)) _⟩
  · have E : pushE N l a = 1 := by unfold pushE; rw [if_pos h0, if_neg h1]
    have e1 : pushA N l a = 0 := by unfold pushA; rw [E]; rfl
    have e2 : pushL N l a s = l := by unfold pushL; rw [E]; rfl
    rw [E, e1, e2]
    have h1 : ¬ (0 ≤ a ∧ a ≤ 65535) := fun q => h1 (decide_eq_true q)
    by_cases hz : a < 0
    · go_enter Try.func16, Try.ntmps16
      go_wp2_with fail
      go_ret2
      exact ⟨by simp, h, hr, hbh, Chg.refl _ _⟩
    · have hz2 : 65536 ≤ a := by omega
      go_enter Try.func16, Try.ntmps16
      go_wp2_with fail
      go_ret2
      exact ⟨by simp, h, hr, hbh, Chg.refl _ _⟩
theorem Row.chgN {w w' : World} {E : TypeId} {M g : Nat} {v : Value} {l : List Rec} {Tn : List Nat} (h : Row w E M g v l) (x : Chg Tn w w') (hg : g ≠ M → g ∉ Tn) : Row w' E M g v l := by
  rcases h with ⟨rfl, rfl, h⟩ | ⟨cap, cur, rfl, hn, hb, h1, h2, h3, h4⟩
  · exact .inl ⟨rfl, rfl, h⟩
  · exact .inr ⟨cap, cur, rfl, hn, hb.chg x (hg hn), h1, h2, h3, h4⟩
theorem row_own2 {w : World} {E T : TypeId} {M base : Nat} {c : Array Value} {v : Value} {l : List Rec} (h : w.ownsRow base E 2 v l.length (rcells l)) (hM : Blk w M c T) (hne : E ≠ T) : ∃ g, Row w E M g v l ∧ (g = M ∨ base ≤ g) := by
  rcases h.2 with ⟨rfl, h0⟩ | ⟨g, cap, cur, rfl, hb, hh, h3, h4, h5, h6⟩
  · exact ⟨M, .inl ⟨rfl, List.eq_nil_of_length_eq_zero h0, rfl⟩, .inl rfl⟩
  · exact ⟨g, .inr ⟨cap, cur, rfl, by rintro rfl; exact hne (Blk.type (show Blk w g cur E from hh) hM), hh, h3, h4, h5, h6⟩, .inr hb⟩
theorem own_atN {w : World} {base : Nat} {v : Value} {l : List Nat} (h : w.ownsRow base 3 1 v l.length (l.map enI)) {j : Nat} (hj : j < l.length) :
    ∃ g c, v = .slice (some ⟨g, 0, none⟩) l.length c ∧ base ≤ g ∧ w.cell? ⟨g, j, none⟩ = some (.int .i64 ((l[j] : Nat) : Int)) := by
  rcases h.2 with ⟨_, h0⟩ | ⟨g, cap, cur, rfl, hb, hh, h3, h4, h5, h6⟩
  · omega
  · refine ⟨g, cap, rfl, hb, ?_⟩
    have h1 : (cur.toList.take (l.length * 1))[j]? = (l.map enI)[j]? := by rw [h6]
    rw [List.getElem?_take_of_lt (by omega), List.getElem?_map, List.getElem?_eq_getElem hj] at h1
    rw [cell_of_row w g j cur 3 (0, 0) hh, ← Array.getElem?_toList, h1]
    rfl
set_option maxHeartbeats 2000000 in
set_option maxRecDepth 100000 in
theorem rpop_any {w : World} {R h base : Nat} {N a : Int} {l : List Rec} (hr : St 29 41 w R h N l) (hbR : base ≤ R) (hbh : base ≤ h) (h0 : 0 < N) (hl : l.length ≤ 1000) :
    Calls Try.prog 12 #[(.pointer (some ⟨R, 0, none⟩)), .int .i64 a] w fun e w' => e = .returned (.tuple #[.agg #[.int .i64 (getR N l (topI l a)).1, .int .u64 (getR N l (topI l a)).2], .int .i64 (erA N l (topI l a))]) ∧ ∃ h', St 29 41 w' R h' N (popL N l a) ∧ base ≤ h' ∧ Chg [R, h] w w' := by
  have hX := Ext.alloc w (.cells #[.int .i64 0, .int .u64 0] 41)
  have hof := rof_any a (hr.ext hX) hl
  rcases List.eq_nil_or_concat (ofL l a l.length) with e | ⟨q, k, e⟩
  · have ht : topI l a = -1 := by unfold topI; rw [e]; rfl
    have E1 : getR N l (topI l a) = (0, 0) := getR_out (by rw [ht]; omega)
    have E2 : erA N l (topI l a) = 6 := by unfold erA; rw [if_pos h0, if_neg (by rw [ht]; omega)]
    have E3 : popL N l a = l := by unfold popL; rw [if_neg (by rw [ht]; omega)]
    rw [E1, E2, E3]
    rw [e] at hof
    clear E1 E2 E3 ht e
    have HR := hide hr
    clear hr
    go_enter Try.func12, Try.ntmps12
    go_wp2_with fail
    refine hof.mono ?_
    rintro e w1 ⟨v, rfl, hown, hx⟩
    obtain ⟨A, c, rfl⟩ := own_sl hown
    have hp1 := hx.boxCell
    have hp2 := hx.boxFree
    have HX := hide (hX.trans hx)
    clear hown hof hX hx
    go_wp2_with fail
    refine bodyPost_ret (v := .tuple #[.agg #[.int .i64 0, .int .u64 0], .int .i64 6]) (by simp [results, Try.results12, go_sem, *]) rfl ⟨rfl, ?_⟩
    have hy : Ext w ((w1.setCell ⟨w.heap.size, 0, none⟩ (.int .i64 0)).setCell ⟨w.heap.size, 1, none⟩ (.int .u64 0)) := by
      (repeat (with_reducible refine Ext.set ?_ (by simp) _))
      exact HX.out
    exact ⟨h, HR.out.ext hy, hbh, hy.chg _⟩
  · rw [List.concat_eq_append] at e
    have ht : topI l a = k := by unfold topI; rw [e, List.getLast?_concat]
    have hk : k < l.length := by have := topI_lt l a; omega
    rw [ht, getR_in h0 hk, erA_in h0 hk, show popL N l a = l.eraseIdx k by unfold popL; rw [ht, if_pos ⟨h0, by omega⟩, Int.toNat_natCast]]
    rw [e] at hof
    obtain ⟨v, hb, hrow⟩ := hr
    rcases hrow with ⟨rfl, rfl, rfl⟩ | ⟨cap, cur, rfl, hn, hb2, h1, h2, h3, h4⟩
    · simp at hk
    · have HB := hide hb
      have HB2 := hide hb2
      have lR := hb.lt
      have lh := hb2.lt
      have eq0 : (q ++ [k]).length = q.length + 1 := by simp
      have hql : q.length + 1 ≤ 1000 := by have := ofL_len l a l.length; rw [e, eq0] at this; omega
      clear hb hb2 e ht
      go_enter Try.func12, Try.ntmps12
      go_wp2_with fail
      refine hof.mono ?_
      rintro e w1 ⟨v, rfl, hown, hx⟩
      obtain ⟨A, c, rfl⟩ := own_sl hown
      obtain ⟨g2, c2, hv, hg, hcell⟩ := own_atN hown (j := q.length) (by omega)
      simp only [Value.slice.injEq, true_and] at hv
      obtain ⟨rfl, rfl⟩ := hv
      rw [show (q ++ [k])[q.length]'(by simp) = k by simp] at hcell
      rw [eq0]
      have hXX := hX.trans hx
      have sz := hXX.size
      have sz2 := hx.size
      simp only [World.size_alloc] at sz2
      have bR := HB.out.ext hXX
      have bh := HB2.out.ext hXX
      have r1 := bR.cell
      have c0 : w1.cell? ⟨h, k * 2, none⟩ = some (.int .i64 (l[k]).1) := by
        rw [bh.cell, ← Array.getElem?_toList, ← (rcells_at l k hk).1, ← h4, List.getElem?_take, if_pos (by omega)]
      have c1 : w1.cell? ⟨h, k * 2 + 1, none⟩ = some (.int .u64 (l[k]).2) := by
        rw [bh.cell, ← Array.getElem?_toList, ← (rcells_at l k hk).2, ← h4, List.getElem?_take, if_pos (by omega)]
      have hY := Ext.alloc w1 (.cells #[.int .i64 (l[k]).1, .int .u64 (l[k]).2] 41)
      have bR3 := bR.ext hY
      have bh3 := bh.ext hY
      have bX3 := Blk.new w1 #[.int .i64 (l[k]).1, .int .u64 (l[k]).2] 41
      have bP3 := (Blk.new w #[.int .i64 0, .int .u64 0] 41).ext (hx.trans hY)
      have HX := hide (hXX.trans hY)
      have HB4 := hide bR
      clear hown hof hX hx hXX hY bR eq0
      go_wp2_with fail
      generalize w1.alloc (.cells #[.int .i64 (l[k]).1, .int .u64 (l[k]).2] 41) = W3 at *
      have HR3 := hide bR3
      have HX3 := hide bX3
      have HP3 := hide bP3
      have hcl : ∀ w', Ext W3 w' → ∀ j, j < l.length * 2 → w'.cell? ⟨h, j, none⟩ = (rcells l)[j]? := by
        intro w' hw' j hj
        rw [(bh3.ext hw').cell, ← h4, List.getElem?_take_of_lt hj, Array.getElem?_toList]
      have S1 := hide (show ∀ w', Ext W3 w' → ∀ j u, (rcells (l.take k))[j]? = some u → w'.cell? ((⟨h, 0, none⟩ : Addr).add j) = some u from by
        intro w' hw' j u hu
        have hj : j < k * 2 := by
          have := (List.getElem?_eq_some_iff.1 hu).1
          rw [rcells_length, List.length_take] at this
          omega
        rw [rcells_take, List.getElem?_take_of_lt hj] at hu
        rw [Addr.add_lit, Nat.zero_add, hcl w' hw' j (by omega)]
        exact hu)
      obtain ⟨A2, hA, S2⟩ : ∃ A2 : Addr, (if cap = k + 1 then some (⟨h, 0, none⟩ : Addr) else some ⟨h, (k + 1) * 2, none⟩) = some A2 ∧ Hid (∀ w', Ext W3 w' → ∀ j u, (rcells (l.drop (k + 1)))[j]? = some u → w'.cell? (A2.add j) = some u) := by
        have hlen : (rcells (l.drop (k + 1))).length = (l.length - (k + 1)) * 2 := by rw [rcells_length, List.length_drop]
        by_cases hcap : cap = k + 1
        · refine ⟨⟨h, 0, none⟩, by simp [hcap], fun w' hw' j u hu => ?_⟩
          have h0 : (rcells (l.drop (k + 1))).length = 0 := by rw [hlen]; omega
          rw [List.length_eq_zero_iff.1 h0] at hu
          simp at hu
        · refine ⟨⟨h, (k + 1) * 2, none⟩, by simp [hcap], fun w' hw' j u hu => ?_⟩
          have ht : j < (l.length - (k + 1)) * 2 := by
            have := (List.getElem?_eq_some_iff.1 hu).1
            rwa [hlen] at this
          rw [rcells_drop, List.getElem?_drop] at hu
          rw [Addr.add_lit, ← hu]
          exact hcl w' hw' _ (by omega)
      have l1 : (rcells (l.take k)).length = k * 2 := by rw [rcells_length, List.length_take]; congr 1; omega
      have l2 : (rcells (l.drop (k + 1))).length = (l.length - (k + 1)) * 2 := by rw [rcells_length, List.length_drop]
      have L1 := hide l1
      have L2 := hide l2
      have hic : k ≤ cap := by omega
      have hjc : k + 1 ≤ cap := by omega
      have g0 : 0 ≤ (k : Int) + 1 := by omega
      have g1 : (k : Int) + 1 ≤ (l.length : Int) := by omega
      have gw : IntKind.i64.wrap ((k : Int) + 1) = (k : Int) + 1 := by rw [IntKind.wrap_i64]; omega
      unfold maxLen at h2
      have z0 : ∀ i, W3.drew.cell? ⟨R, i, none⟩ = #[Value.int .i64 N, .slice (some ⟨h, 0, none⟩) l.length cap][i]? := (bR3.ext (Ext.drew _)).cell
      clear hcl l1 l2 bR3 bX3 bP3 bh3 h3 h4 r1 c0 c1 hcell bh
      go_region_law
        (first
          | (refine step_own (W0 := W3) rfl _ (.tmp 35) 27 rfl Try.underlying27 inf_rrec rfl (by omega) (v := .slice none 0 0) (n := 0) (xs := []) (by simp [Act.eval, Act.put]) (own_nil _ _ _ _) (Ext.drew _) (ad := ⟨h, 0, none⟩) (m := k) (c := cap) (news := rcells (l.take k)) (by simp [Act.eval, Act.put]) L1.out (S1.out _ (Ext.drew _)) (rcells_one _) (by unfold maxLen; omega) (by omega) ?_; intro A4 c4 w4 hown4 hX4; rw [Nat.zero_add, List.nil_append] at hown4; rw [Nat.zero_add]; have q0 := (HR3.out.ext hX4).cell)
          | (refine step_own (W0 := W3) rfl (.tmp 36) (.tmp 43) 27 rfl Try.underlying27 inf_rrec rfl (by omega) (v := .slice A4 k c4) (n := k) (xs := rcells (l.take k)) (by simp [Act.eval, Act.put]) hown4 hX4 (ad := A2) (m := l.length - (k + 1)) (c := cap - (k + 1)) (news := rcells (l.drop (k + 1))) (by simp [Act.eval, Act.put]) L2.out (S2.out _ hX4) (rcells_one _) (by unfold maxLen; omega) (by omega) ?_; intro A5 c5 w5 hown5 hX5; have q1 := (HR3.out.ext hX5).cell; have q2 := (HR3.out.ext hX5).free))
      all_goals
        have rX := (HX3.out.ext hX5).cell
        have rP := (HP3.out.ext hX5).cell
        have fP := (HP3.out.ext hX5).free
        have HO5 := hide hown5
        have HX5 := hide hX5
        have HO4 := hide hown4
        have HX4 := hide hX4
        clear hown4 hX4 hown5 hX5 hA z0 q0
        go_wp2_with fail
        refine bodyPost_ret (v := .tuple #[.agg #[.int .i64 (l[k]).1, .int .u64 (l[k]).2], .int .i64 0]) (by simp [results, Try.results12, go_sem, *]) rfl ⟨rfl, ?_⟩
        have ek : k + (l.length - (k + 1)) = (l.eraseIdx k).length := by rw [List.length_eraseIdx_of_lt hk]; omega
        have hown3 := HO5.out
        rw [← rcells_append, ← List.eraseIdx_eq_take_drop_succ, ek] at hown3
        have e3 := HX.out.size
        obtain ⟨h', hrow, hbh'⟩ := row_own2 hown3 (HR3.out.ext HX5.out) (by decide)
        have e5 := HX5.out.size
        have hb := (HR3.out.ext HX5.out).set 1 (.slice A5 (k + (l.length - (k + 1))) c5)
        rw [show (#[Value.int .i64 N, .slice (some ⟨h, 0, none⟩) l.length cap].setIfInBounds 1 (.slice A5 (k + (l.length - (k + 1))) c5)) = #[.int .i64 N, .slice A5 (k + (l.length - (k + 1))) c5] by simp] at hb
        have lR1 : R ≠ w.heap.size := by omega
        have lP := HP3.out.lt
        have hs := (((Chg.refl [R, w.heap.size] w5).set (p := ⟨R, 1, none⟩) (.inl (by simp)) (.slice A5 (k + (l.length - (k + 1))) c5)).set (p := ⟨w.heap.size, 0, none⟩) (.inl (by simp)) (.int .i64 (l[k]).1)).set (p := ⟨w.heap.size, 1, none⟩) (.inl (by simp)) (.int .u64 (l[k]).2)
        refine ⟨h', ⟨_, (hb.far (p := ⟨w.heap.size, 0, none⟩) lR1 _).far (p := ⟨w.heap.size, 1, none⟩) lR1 _, ?_⟩, by omega, ?_⟩
        · rw [ek]
          rw [ek] at hs
          exact hrow.chgN hs (fun q => by simp; omega)
        · exact ((((HX.out.trans HX5.out).chg [R, h]).set (p := ⟨R, 1, none⟩) (.inl (by simp)) _).set (p := ⟨w.heap.size, 0, none⟩) (.inr (by simp)) _).set (p := ⟨w.heap.size, 1, none⟩) (.inr (by simp)) _
end Go.Proofs.Ytppjpicfiflkcaa
