/- The document's Ask: of what waits, of a full queue, of what is there, of what is new. -/
import Derived.Test.YtonaibpenijomaaR3
namespace Go.Proofs.Ytonaibpenijomaa
open Go.RowKit Go.Maps
set_option linter.unusedSimpArgs false
set_option linter.unusedVariables false
set_option maxRecDepth 100000


theorem rask_there {w : World} {O : List Nat} {X : Nat} {S : List En} {k o t : Int} (h : RT w O X S) (ok : Ok S) (ha : okA (k, o) t = true) (hw : waitsB S t = true) : Calls Try.prog 13 #[.pointer (some ⟨X, 0, none⟩), (Value.agg #[.int .i64 k, .int .i64 o]), .int .i64 t] w fun e w' => e = .returned (.tuple #[.bool false, .int .i64 7]) ∧ Ext w w' := by
  obtain ⟨em, et⟩ := okA_of ha
  have hb := okT_of et
  have hX0 := Ext.alloc w (.cells #[.int .i64 k, .int .i64 o] 30)
  have hc := rwaits_ext t (h.ext hX0) ok
  rw [hw] at hc
  have t0 : ¬ t < -1 := by omega
  have t1 : ¬ 256 ≤ t := by omega
  clear h ok ha hw hb et
  rcases mayR_of em with ⟨e1, e2, e3⟩ | ⟨e1, e2⟩
  · simp only at e1 e2 e3
    subst e1
    have e4 : o < 65536 := by omega
    clear em
    go_enter Try.func13, Try.ntmps13
    go_wp2_with fail
    refine hc.mono ?_
    rintro e w1 ⟨rfl, hx⟩
    go_wp2_with fail
    go_ret2
    exact ⟨rfl, hX0.trans hx⟩
  · simp only at e1 e2
    subst e1 e2
    clear em
    go_enter Try.func13, Try.ntmps13
    go_wp2_with fail
    refine hc.mono ?_
    rintro e w1 ⟨rfl, hx⟩
    go_wp2_with fail
    go_ret2
    exact ⟨rfl, hX0.trans hx⟩
theorem enJ_one (l : List Int) : ∀ u ∈ l.map enJ, u.oneCell' = true := by
  intro u hu
  obtain ⟨x, _, rfl⟩ := List.mem_map.1 hu
  rfl
theorem RI.blkF {w : World} {O : List Nat} {X b off c : Nat} {vs : Nat → Sl3} {S : List En} (h : RI w O X (some ⟨b, off, none⟩) c vs S) : ∃ cs, Blk w b cs 38 := by
  rcases h.row with ⟨h1, _⟩ | ⟨b2, off2, cs, h1, h2, h3, h4⟩
  · cases h1
  · cases h1; exact ⟨cs, h2⟩
/-- 'append(nil, v..)'. -/
theorem dup_run {w : World} {v : Value} {l : List Int} (ty : TypeId) (h : RowI w v l) (hl : l.length ≤ 70000) :
    ∃ s w', (Builtin.append_ #[34, 34] ty #[.slice none 0 0, v]).run Try.prog w = .ok (slV s) w' ∧ w'.ownsRow w.heap.size 3 1 (slV s) l.length (l.map enJ) ∧ Ext w w' := by
  obtain ⟨i, hi, hz, hsize, hb⟩ := info_parts inf_int
  rcases h.2 with ⟨rfl, h0⟩ | ⟨g, cap, cur, rfl, hbg, hh, hnc, hcm, hcs2, htake⟩
  · have e0 : l = [] := List.eq_nil_of_length_eq_zero h0
    subst e0
    exact ⟨⟨none, 0, 0⟩, w, run_append_owned_none w w.heap.size 34 ty 3 i 1 Try.underlying34 hi (.slice none 0 0) 0 [] (own_nil _ _ _ _), own_nil _ _ _ _, Ext.refl w⟩
  · obtain ⟨v', w', h1, h2, h3, _⟩ := run_append_own (P := Try.prog) w w.heap.size 34 ty 3 i (.int .i64 0) 1 8 Try.underlying34 hi hz hsize hb rfl (by omega) (.slice none 0 0) 0 [] (own_nil _ _ _ _) ⟨g, 0, none⟩ l.length cap (l.map enJ) (by simp) (h.cells rfl) (enJ_one l) (by unfold maxLen; omega) (by omega) (Nat.le_refl _)
    rw [Nat.zero_add, List.nil_append] at h2
    obtain ⟨s, rfl⟩ := own_slV h2
    exact ⟨s, w', h1, h2, Ext.grown (Ext.refl w) h3 (by intro k hk; cases hk)⟩
/-- 'append(v, x..)', x a row or nil. -/
theorem cat_run {w : World} {v v2 : Value} {base : Nat} {l l2 : List Int} (ty : TypeId) (h : w.ownsRow base 3 1 v l.length (l.map enJ)) (hbase : base ≤ w.heap.size) (h2 : RowI w v2 l2) (hl : l.length + l2.length ≤ 70000) :
    ∃ s w', (Builtin.append_ #[34, 34] ty #[v, v2]).run Try.prog w = .ok (slV s) w' ∧ w'.ownsRow base 3 1 (slV s) (l ++ l2).length ((l ++ l2).map enJ) ∧ w.grownBy w' v.ownBlock := by
  obtain ⟨i, hi, hz, hsize, hb⟩ := info_parts inf_int
  rw [List.length_append, List.map_append]
  rcases h2.2 with ⟨rfl, h0⟩ | ⟨g, cap, cur, rfl, hbg, hh, hnc, hcm, hcs2, htake⟩
  · have e0 : l2 = [] := List.eq_nil_of_length_eq_zero h0
    subst e0
    obtain ⟨s, rfl⟩ := own_slV h
    exact ⟨s, w, run_append_owned_none w base 34 ty 3 i 1 Try.underlying34 hi (slV s) l.length (l.map enJ) h, by simpa using h, World.grownBy.refl w _⟩
  · obtain ⟨v', w', h1, h3, h4, _⟩ := app_run (P := Try.prog) (m := l2.length) (c := cap) ty Try.underlying34 inf_int rfl (by omega) h hbase (news := l2.map enJ) (by simp) (h2.cells rfl) (enJ_one l2) (by unfold maxLen; omega) (by omega)
    obtain ⟨s, rfl⟩ := own_slV h3
    exact ⟨s, w', h1, h3, h4⟩
/-- One who waits more. -/
theorem RI.more {w w5 : World} {O : List Nat} {X b off c j : Nat} {vs : Nat → Sl3} {S : List En} {r : Rq} {t : Int} {s : Sl3} (h : RI w O X (some ⟨b, off, none⟩) c vs S) (hx : Ext w w5) (hj : j < S.length) (hk : (S[j]).1 = r) (ok : Ok S)
    (hrow : RowI w5 (slV s) ((S[j]).2 ++ who t)) (hf : ∀ k, (slV s).ownBlock = some k → w.heap.size ≤ k) :
    RI (w5.setCell ⟨b, off + j * 3 + 2, none⟩ (slV s)) (blkL (slV s) ++ O) X (some ⟨b, off, none⟩) c (fun q => if q = j then s else vs q) (addT S r t) := by
  rcases h.row with ⟨h1, _⟩ | ⟨b2, off2, cs, h1, h2, h3, h4⟩
  · cases h1
  · cases h1
    have hc : Chg [b] w5 (w5.setCell ⟨b, off + j * 3 + 2, none⟩ (slV s)) := (Chg.refl _ _).set (p := ⟨b, off + j * 3 + 2, none⟩) (.inl (by simp)) _
    have hb5 := h2.ext hx
    have hkey : ∀ q (hq : q < S.length), (S[q]).1 = r → q = j := fun q hq e => by
      have h1 := ok.nd
      rw [List.nodup_iff_pairwise_ne] at h1
      have h2 := List.pairwise_iff_getElem.1 h1
      rcases Nat.lt_trichotomy q j with z | z | z
      · exact absurd (by rw [ks_at, ks_at, e, hk]) (h2 q j (by rwa [ks_len]) (by rwa [ks_len]) z)
      · exact z
      · exact absurd (by rw [ks_at, ks_at, e, hk]) (h2 j q (by rwa [ks_len]) (by rwa [ks_len]) z)
    have hadd : ∀ q (hq : q < S.length), (addT S r t)[q]'(by rw [add_len]; exact hq) = addE r t S[q] := fun q hq => by simp [addT]
    have hsz := hx.size
    refine ⟨?_, by rw [add_len]; exact h.nc, h.cm, .inr ⟨b, off, cs.setIfInBounds (off + j * 3 + 2) (slV s), rfl, hb5.set _ _, ?_, List.mem_append_right _ h4⟩, fun q hq => ?_, fun q hq k hk1 => ?_, List.mem_append_right _ h.ox, fun k hk1 => ?_⟩
    · rw [add_len]
      exact (h.x.ext hx).chg hc (by simp; rintro rfl; exact absurd (h.x.type h2) (by decide))
    · have hcell : ∀ q i, i < 3 → (q ≠ j ∨ i ≠ 2) → (cs.setIfInBounds (off + j * 3 + 2) (slV s))[off + q * 3 + i]? = cs[off + q * 3 + i]? := fun q i hi hne => by
        rw [Array.getElem?_setIfInBounds, if_neg (by omega)]
      refine ⟨fun q hq => ?_, fun q hq => ?_, fun q hq => ?_⟩ <;> rw [add_len] at hq
      · rw [hadd q hq, addE_fst, ← h3.k q hq]
        exact hcell q 0 (by omega) (.inr (by omega))
      · rw [hadd q hq, addE_fst, ← h3.o q hq]
        exact hcell q 1 (by omega) (.inr (by omega))
      · by_cases e : q = j
        · subst e
          rw [if_pos rfl]
          have := h3.v q hq
          have hlt : off + q * 3 + 2 < cs.size := (Array.getElem?_eq_some_iff.1 this).1
          rw [Array.getElem?_setIfInBounds, if_pos rfl, if_pos hlt]
        · rw [if_neg e, hcell q 2 (by omega) (.inl e)]
          exact h3.v q hq
    · rw [add_len] at hq
      rw [hadd q hq]
      by_cases e : q = j
      · subst e
        rw [if_pos rfl]
        unfold addE
        rw [if_pos hk]
        exact own_chgB hrow hc (fun k hk1 hm => by
          simp at hm
          have := hf k hk1
          have := h2.lt
          omega)
      · rw [if_neg e]
        have hne : (S[q]).1 ≠ r := fun z => e (hkey q hq z)
        unfold addE
        rw [if_neg hne]
        have := own_ext (h.rows q hq) hx
        exact own_chgB this hc (own_not hb5 this (by decide))
    · rw [add_len] at hq
      by_cases e : q = j
      · subst e
        rw [if_pos rfl] at hk1
        exact List.mem_append_left _ (blkL_of hk1)
      · rw [if_neg e] at hk1
        exact List.mem_append_right _ (h.wait q hq k hk1)
    · have hs2 := hc.size
      rcases List.mem_append.1 hk1 with h1 | h1
      · have := own_lt hrow k (of_blkL h1); omega
      · have := h.lt k h1; omega
theorem own_one (w : World) (t : Int) : (w.alloc (.cells #[.int .i64 t] 3)).ownsRow 0 3 1 (.slice (some ⟨w.heap.size, 0, none⟩) 1 1) 1 [.int .i64 t] :=
  ⟨rfl, .inr ⟨w.heap.size, 1, #[.int .i64 t], rfl, Nat.zero_le _, heap_alloc_new w _, Nat.le_refl _, by unfold maxLen; omega, rfl, rfl⟩⟩

theorem rask_full {w : World} {O : List Nat} {X : Nat} {S : List En} {k o t : Int} (h : RT w O X S) (ok : Ok S) (ha : okA (k, o) t = true) (hw : waitsB S t = false) (hh : hasR S (k, o) = false) (hl : S.length = 256) : Calls Try.prog 13 #[.pointer (some ⟨X, 0, none⟩), (Value.agg #[.int .i64 k, .int .i64 o]), .int .i64 t] w fun e w' => e = .returned (.tuple #[.bool false, .int .i64 8]) ∧ Ext w w' := by
  obtain ⟨em, et⟩ := okA_of ha
  have hb := okT_of et
  have hX0 := Ext.alloc w (.cells #[.int .i64 k, .int .i64 o] 30)
  have hc := rwaits_ext t (h.ext hX0) ok
  rw [hw] at hc
  have t0 : ¬ t < -1 := by omega
  have t1 : ¬ 256 ≤ t := by omega
  have HB := hide (Blk.new w #[.int .i64 k, .int .i64 o] 30)
  have HI := hide h
  have HH := hide hh
  have HL := hide hl
  have hsl := ok.len
  clear h ok ha hw hb et hh hl
  rcases mayR_of em with ⟨e1, e2, e3⟩ | ⟨e1, e2⟩
  · simp only at e1 e2 e3
    subst e1
    have e4 : o < 65536 := by omega
    clear em
    by_cases t2 : 0 ≤ t
    · have ew : who t = [t] := by unfold who; rw [if_neg (by omega)]
      go_enter Try.func13, Try.ntmps13
      go_wp2_with fail
      refine hc.mono ?_
      rintro e w1 ⟨rfl, hx⟩
      go_wp2_with fail
      have hown : RowI (w1.alloc (.cells #[.int .i64 t] 3)) (.slice (some ⟨w1.heap.size, 0, none⟩) 1 1) (who t) := by rw [ew]; exact own_one w1 t
      have hnw : ∀ k, (Value.slice (some ⟨w1.heap.size, 0, none⟩) 1 1).ownBlock = some k → w.heap.size ≤ k := fun k hk => by cases hk; exact Nat.le_trans hX0.size hx.size
      have hx := hx.trans (Ext.alloc w1 (.cells #[.int .i64 t] 3))
      generalize w1.alloc (.cells #[.int .i64 t] 3) = W1 at *
      obtain ⟨sw, hsw⟩ : ∃ s : Sl3, slV s = (Value.slice (some ⟨w1.heap.size, 0, none⟩) 1 1) := ⟨⟨some w1.heap.size, 1, 1⟩, rfl⟩
      have HSW := hide hsw
      have HOW := hide hown
      have HNW := hide hnw
      clear hsw hown hnw ew
      have HX := hide (hX0.trans hx)
      obtain ⟨A, c, vs, hi⟩ := HI.out.ext (hX0.trans hx)
      have HIW := hide hi
      have HBW := hide (HB.out.ext hx)
      have rX := hi.x.rule
      have x0 := Ext.refl W1
      clear hi
      go_loopw [10] (fun i wr => ∃ j : Nat, j ≤ S.length ∧ i = .int .i64 (j : Int) ∧ (∀ q (h : q < S.length), q < j → (S[q]).1 ≠ (1, o)) ∧ Ext W1 wr) (fun i _ => S.length - (intOf i).toNat)
      case atStart => exact ⟨0, by omega, rfl, fun q h h2 => by omega, x0⟩
      case round =>
        clear x0
        obtain ⟨j, hj, rfl, hno, hX⟩ := hrel
        have HNO := hide hno
        clear hno
        by_cases hlt : j < S.length
        · obtain ⟨b, off, rfl, hbO, r⟩ := HIW.out.at_ hlt
          have r0 := fun w' x => (r w' x).1
          have r1 := fun w' x => (r w' x).2.1
          have r2 := fun w' x => (r w' x).2.2
          have rb := HBW.out.rule
          have hW := hX
          have heq := fun w => eq_rreq (S[j]).1.1 (S[j]).1.2 1 o w
          by_cases hq : (S[j]).1 = (1, o)
          · exact absurd (has_mem (List.getElem_mem hlt)) (by rw [hq, HH.out]; decide)
          · have HQ := hide hq
            rw [show ((S[j]).1.1, (S[j]).1.2) = (S[j]).1 from rfl, eqQ_no hq] at heq
            generalize (S[j]).1.1 = x1 at *
            generalize (S[j]).1.2 = x2 at *
            clear r r2 hq hbO
            go_wp2_with fail
            refine wp_region_ext (by kernel_rfl) (by kernel_rfl) ?_
            repeat
              with_reducible refine wpQuiet_step (fun K hK => ?_)
              go_simp
              first
              | (refine hK _ ?_; clear hK K)
              | (apply Exists.intro
                 refine ⟨fun w1 h1 => ?_, hK _ ?_⟩
                 (have hW := Ext.trans2 hW (by repeat (first | exact Ext.refl _ | exact Ext.alloc _ _ | exact Ext.drewN _ _ | assumption | refine Ext.trans ?_ (Ext.alloc _ _) | refine Ext.trans ?_ (Ext.drew _) | refine Ext.trans ?_ (by assumption))) h1; (try have hV := Ext.trans2 hV (by repeat (first | exact Ext.refl _ | exact Ext.alloc _ _ | exact Ext.drewN _ _ | assumption | refine Ext.trans ?_ (Ext.alloc _ _) | refine Ext.trans ?_ (Ext.drew _) | refine Ext.trans ?_ (by assumption))) h1); (first | rfl | (go_simp; done) | (go_simp; rfl) | fail))
                 clear hK K)
            refine wpQuiet_nil (fun w' hw' => ?_)
            have hW := Ext.trans2 hW (by repeat (first | exact Ext.refl _ | exact Ext.alloc _ _ | exact Ext.drewN _ _ | assumption | refine Ext.trans ?_ (Ext.alloc _ _) | refine Ext.trans ?_ (Ext.drew _) | refine Ext.trans ?_ (by assumption))) hw'
            try have hV := Ext.trans2 hV (by repeat (first | exact Ext.refl _ | exact Ext.alloc _ _ | exact Ext.drewN _ _ | assumption | refine Ext.trans ?_ (Ext.alloc _ _) | refine Ext.trans ?_ (Ext.drew _) | refine Ext.trans ?_ (by assumption))) hw'
            clear hw'
            go_wp2_with fail
            go_roundw
            case rel => exact ⟨j + 1, by omega, by go_num, fun q h h2 => by
              by_cases z : q = j
              · subst z; exact HQ.out
              · exact HNO.out q h (by omega), hW⟩
            case measure => simp [intOf]; omega
        · obtain rfl : j = S.length := by omega
          have l1 : (256 : Int) ≤ (S.length : Int) := by have := HL.out; omega
          go_wp2_with fail
          go_ret2
          exact ⟨by simp, HX.out.trans hX⟩
    · have ew : who t = [] := by unfold who; rw [if_pos (by omega)]
      go_enter Try.func13, Try.ntmps13
      go_wp2_with fail
      refine hc.mono ?_
      rintro e W1 ⟨rfl, hx⟩
      go_wp2_with fail
      obtain ⟨sw, hsw⟩ : ∃ s : Sl3, slV s = (Value.slice none 0 0) := ⟨⟨none, 0, 0⟩, rfl⟩
      have HSW := hide hsw
      have HOW : Hid (RowI W1 (.slice none 0 0) (who t)) := hide (by rw [ew]; exact own_nil _ _ _ _)
      have HNW : Hid (∀ k, (Value.slice none 0 0).ownBlock = some k → w.heap.size ≤ k) := hide (fun k hk => by cases hk)
      clear hsw ew
      have HX := hide (hX0.trans hx)
      obtain ⟨A, c, vs, hi⟩ := HI.out.ext (hX0.trans hx)
      have HIW := hide hi
      have HBW := hide (HB.out.ext hx)
      have rX := hi.x.rule
      have x0 := Ext.refl W1
      clear hi
      go_loopw [10] (fun i wr => ∃ j : Nat, j ≤ S.length ∧ i = .int .i64 (j : Int) ∧ (∀ q (h : q < S.length), q < j → (S[q]).1 ≠ (1, o)) ∧ Ext W1 wr) (fun i _ => S.length - (intOf i).toNat)
      case atStart => exact ⟨0, by omega, rfl, fun q h h2 => by omega, x0⟩
      case round =>
        clear x0
        obtain ⟨j, hj, rfl, hno, hX⟩ := hrel
        have HNO := hide hno
        clear hno
        by_cases hlt : j < S.length
        · obtain ⟨b, off, rfl, hbO, r⟩ := HIW.out.at_ hlt
          have r0 := fun w' x => (r w' x).1
          have r1 := fun w' x => (r w' x).2.1
          have r2 := fun w' x => (r w' x).2.2
          have rb := HBW.out.rule
          have hW := hX
          have heq := fun w => eq_rreq (S[j]).1.1 (S[j]).1.2 1 o w
          by_cases hq : (S[j]).1 = (1, o)
          · exact absurd (has_mem (List.getElem_mem hlt)) (by rw [hq, HH.out]; decide)
          · have HQ := hide hq
            rw [show ((S[j]).1.1, (S[j]).1.2) = (S[j]).1 from rfl, eqQ_no hq] at heq
            generalize (S[j]).1.1 = x1 at *
            generalize (S[j]).1.2 = x2 at *
            clear r r2 hq hbO
            go_wp2_with fail
            refine wp_region_ext (by kernel_rfl) (by kernel_rfl) ?_
            repeat
              with_reducible refine wpQuiet_step (fun K hK => ?_)
              go_simp
              first
              | (refine hK _ ?_; clear hK K)
              | (apply Exists.intro
                 refine ⟨fun w1 h1 => ?_, hK _ ?_⟩
                 (have hW := Ext.trans2 hW (by repeat (first | exact Ext.refl _ | exact Ext.alloc _ _ | exact Ext.drewN _ _ | assumption | refine Ext.trans ?_ (Ext.alloc _ _) | refine Ext.trans ?_ (Ext.drew _) | refine Ext.trans ?_ (by assumption))) h1; (try have hV := Ext.trans2 hV (by repeat (first | exact Ext.refl _ | exact Ext.alloc _ _ | exact Ext.drewN _ _ | assumption | refine Ext.trans ?_ (Ext.alloc _ _) | refine Ext.trans ?_ (Ext.drew _) | refine Ext.trans ?_ (by assumption))) h1); (first | rfl | (go_simp; done) | (go_simp; rfl) | fail))
                 clear hK K)
            refine wpQuiet_nil (fun w' hw' => ?_)
            have hW := Ext.trans2 hW (by repeat (first | exact Ext.refl _ | exact Ext.alloc _ _ | exact Ext.drewN _ _ | assumption | refine Ext.trans ?_ (Ext.alloc _ _) | refine Ext.trans ?_ (Ext.drew _) | refine Ext.trans ?_ (by assumption))) hw'
            try have hV := Ext.trans2 hV (by repeat (first | exact Ext.refl _ | exact Ext.alloc _ _ | exact Ext.drewN _ _ | assumption | refine Ext.trans ?_ (Ext.alloc _ _) | refine Ext.trans ?_ (Ext.drew _) | refine Ext.trans ?_ (by assumption))) hw'
            clear hw'
            go_wp2_with fail
            go_roundw
            case rel => exact ⟨j + 1, by omega, by go_num, fun q h h2 => by
              by_cases z : q = j
              · subst z; exact HQ.out
              · exact HNO.out q h (by omega), hW⟩
            case measure => simp [intOf]; omega
        · obtain rfl : j = S.length := by omega
          have l1 : (256 : Int) ≤ (S.length : Int) := by have := HL.out; omega
          go_wp2_with fail
          go_ret2
          exact ⟨by simp, HX.out.trans hX⟩
  · simp only at e1 e2
    subst e1 e2
    clear em
    by_cases t2 : 0 ≤ t
    · have ew : who t = [t] := by unfold who; rw [if_neg (by omega)]
      go_enter Try.func13, Try.ntmps13
      go_wp2_with fail
      refine hc.mono ?_
      rintro e w1 ⟨rfl, hx⟩
      go_wp2_with fail
      have hown : RowI (w1.alloc (.cells #[.int .i64 t] 3)) (.slice (some ⟨w1.heap.size, 0, none⟩) 1 1) (who t) := by rw [ew]; exact own_one w1 t
      have hnw : ∀ k, (Value.slice (some ⟨w1.heap.size, 0, none⟩) 1 1).ownBlock = some k → w.heap.size ≤ k := fun k hk => by cases hk; exact Nat.le_trans hX0.size hx.size
      have hx := hx.trans (Ext.alloc w1 (.cells #[.int .i64 t] 3))
      generalize w1.alloc (.cells #[.int .i64 t] 3) = W1 at *
      obtain ⟨sw, hsw⟩ : ∃ s : Sl3, slV s = (Value.slice (some ⟨w1.heap.size, 0, none⟩) 1 1) := ⟨⟨some w1.heap.size, 1, 1⟩, rfl⟩
      have HSW := hide hsw
      have HOW := hide hown
      have HNW := hide hnw
      clear hsw hown hnw ew
      have HX := hide (hX0.trans hx)
      obtain ⟨A, c, vs, hi⟩ := HI.out.ext (hX0.trans hx)
      have HIW := hide hi
      have HBW := hide (HB.out.ext hx)
      have rX := hi.x.rule
      have x0 := Ext.refl W1
      clear hi
      go_loopw [10] (fun i wr => ∃ j : Nat, j ≤ S.length ∧ i = .int .i64 (j : Int) ∧ (∀ q (h : q < S.length), q < j → (S[q]).1 ≠ (2, 0)) ∧ Ext W1 wr) (fun i _ => S.length - (intOf i).toNat)
      case atStart => exact ⟨0, by omega, rfl, fun q h h2 => by omega, x0⟩
      case round =>
        clear x0
        obtain ⟨j, hj, rfl, hno, hX⟩ := hrel
        have HNO := hide hno
        clear hno
        by_cases hlt : j < S.length
        · obtain ⟨b, off, rfl, hbO, r⟩ := HIW.out.at_ hlt
          have r0 := fun w' x => (r w' x).1
          have r1 := fun w' x => (r w' x).2.1
          have r2 := fun w' x => (r w' x).2.2
          have rb := HBW.out.rule
          have hW := hX
          have heq := fun w => eq_rreq (S[j]).1.1 (S[j]).1.2 2 0 w
          by_cases hq : (S[j]).1 = (2, 0)
          · exact absurd (has_mem (List.getElem_mem hlt)) (by rw [hq, HH.out]; decide)
          · have HQ := hide hq
            rw [show ((S[j]).1.1, (S[j]).1.2) = (S[j]).1 from rfl, eqQ_no hq] at heq
            generalize (S[j]).1.1 = x1 at *
            generalize (S[j]).1.2 = x2 at *
            clear r r2 hq hbO
            go_wp2_with fail
            refine wp_region_ext (by kernel_rfl) (by kernel_rfl) ?_
            repeat
              with_reducible refine wpQuiet_step (fun K hK => ?_)
              go_simp
              first
              | (refine hK _ ?_; clear hK K)
              | (apply Exists.intro
                 refine ⟨fun w1 h1 => ?_, hK _ ?_⟩
                 (have hW := Ext.trans2 hW (by repeat (first | exact Ext.refl _ | exact Ext.alloc _ _ | exact Ext.drewN _ _ | assumption | refine Ext.trans ?_ (Ext.alloc _ _) | refine Ext.trans ?_ (Ext.drew _) | refine Ext.trans ?_ (by assumption))) h1; (try have hV := Ext.trans2 hV (by repeat (first | exact Ext.refl _ | exact Ext.alloc _ _ | exact Ext.drewN _ _ | assumption | refine Ext.trans ?_ (Ext.alloc _ _) | refine Ext.trans ?_ (Ext.drew _) | refine Ext.trans ?_ (by assumption))) h1); (first | rfl | (go_simp; done) | (go_simp; rfl) | fail))
                 clear hK K)
            refine wpQuiet_nil (fun w' hw' => ?_)
            have hW := Ext.trans2 hW (by repeat (first | exact Ext.refl _ | exact Ext.alloc _ _ | exact Ext.drewN _ _ | assumption | refine Ext.trans ?_ (Ext.alloc _ _) | refine Ext.trans ?_ (Ext.drew _) | refine Ext.trans ?_ (by assumption))) hw'
            try have hV := Ext.trans2 hV (by repeat (first | exact Ext.refl _ | exact Ext.alloc _ _ | exact Ext.drewN _ _ | assumption | refine Ext.trans ?_ (Ext.alloc _ _) | refine Ext.trans ?_ (Ext.drew _) | refine Ext.trans ?_ (by assumption))) hw'
            clear hw'
            go_wp2_with fail
            go_roundw
            case rel => exact ⟨j + 1, by omega, by go_num, fun q h h2 => by
              by_cases z : q = j
              · subst z; exact HQ.out
              · exact HNO.out q h (by omega), hW⟩
            case measure => simp [intOf]; omega
        · obtain rfl : j = S.length := by omega
          have l1 : (256 : Int) ≤ (S.length : Int) := by have := HL.out; omega
          go_wp2_with fail
          go_ret2
          exact ⟨by simp, HX.out.trans hX⟩
    · have ew : who t = [] := by unfold who; rw [if_pos (by omega)]
      go_enter Try.func13, Try.ntmps13
      go_wp2_with fail
      refine hc.mono ?_
      rintro e W1 ⟨rfl, hx⟩
      go_wp2_with fail
      obtain ⟨sw, hsw⟩ : ∃ s : Sl3, slV s = (Value.slice none 0 0) := ⟨⟨none, 0, 0⟩, rfl⟩
      have HSW := hide hsw
      have HOW : Hid (RowI W1 (.slice none 0 0) (who t)) := hide (by rw [ew]; exact own_nil _ _ _ _)
      have HNW : Hid (∀ k, (Value.slice none 0 0).ownBlock = some k → w.heap.size ≤ k) := hide (fun k hk => by cases hk)
      clear hsw ew
      have HX := hide (hX0.trans hx)
      obtain ⟨A, c, vs, hi⟩ := HI.out.ext (hX0.trans hx)
      have HIW := hide hi
      have HBW := hide (HB.out.ext hx)
      have rX := hi.x.rule
      have x0 := Ext.refl W1
      clear hi
      go_loopw [10] (fun i wr => ∃ j : Nat, j ≤ S.length ∧ i = .int .i64 (j : Int) ∧ (∀ q (h : q < S.length), q < j → (S[q]).1 ≠ (2, 0)) ∧ Ext W1 wr) (fun i _ => S.length - (intOf i).toNat)
      case atStart => exact ⟨0, by omega, rfl, fun q h h2 => by omega, x0⟩
      case round =>
        clear x0
        obtain ⟨j, hj, rfl, hno, hX⟩ := hrel
        have HNO := hide hno
        clear hno
        by_cases hlt : j < S.length
        · obtain ⟨b, off, rfl, hbO, r⟩ := HIW.out.at_ hlt
          have r0 := fun w' x => (r w' x).1
          have r1 := fun w' x => (r w' x).2.1
          have r2 := fun w' x => (r w' x).2.2
          have rb := HBW.out.rule
          have hW := hX
          have heq := fun w => eq_rreq (S[j]).1.1 (S[j]).1.2 2 0 w
          by_cases hq : (S[j]).1 = (2, 0)
          · exact absurd (has_mem (List.getElem_mem hlt)) (by rw [hq, HH.out]; decide)
          · have HQ := hide hq
            rw [show ((S[j]).1.1, (S[j]).1.2) = (S[j]).1 from rfl, eqQ_no hq] at heq
            generalize (S[j]).1.1 = x1 at *
            generalize (S[j]).1.2 = x2 at *
            clear r r2 hq hbO
            go_wp2_with fail
            refine wp_region_ext (by kernel_rfl) (by kernel_rfl) ?_
            repeat
              with_reducible refine wpQuiet_step (fun K hK => ?_)
              go_simp
              first
              | (refine hK _ ?_; clear hK K)
              | (apply Exists.intro
                 refine ⟨fun w1 h1 => ?_, hK _ ?_⟩
                 (have hW := Ext.trans2 hW (by repeat (first | exact Ext.refl _ | exact Ext.alloc _ _ | exact Ext.drewN _ _ | assumption | refine Ext.trans ?_ (Ext.alloc _ _) | refine Ext.trans ?_ (Ext.drew _) | refine Ext.trans ?_ (by assumption))) h1; (try have hV := Ext.trans2 hV (by repeat (first | exact Ext.refl _ | exact Ext.alloc _ _ | exact Ext.drewN _ _ | assumption | refine Ext.trans ?_ (Ext.alloc _ _) | refine Ext.trans ?_ (Ext.drew _) | refine Ext.trans ?_ (by assumption))) h1); (first | rfl | (go_simp; done) | (go_simp; rfl) | fail))
                 clear hK K)
            refine wpQuiet_nil (fun w' hw' => ?_)
            have hW := Ext.trans2 hW (by repeat (first | exact Ext.refl _ | exact Ext.alloc _ _ | exact Ext.drewN _ _ | assumption | refine Ext.trans ?_ (Ext.alloc _ _) | refine Ext.trans ?_ (Ext.drew _) | refine Ext.trans ?_ (by assumption))) hw'
            try have hV := Ext.trans2 hV (by repeat (first | exact Ext.refl _ | exact Ext.alloc _ _ | exact Ext.drewN _ _ | assumption | refine Ext.trans ?_ (Ext.alloc _ _) | refine Ext.trans ?_ (Ext.drew _) | refine Ext.trans ?_ (by assumption))) hw'
            clear hw'
            go_wp2_with fail
            go_roundw
            case rel => exact ⟨j + 1, by omega, by go_num, fun q h h2 => by
              by_cases z : q = j
              · subst z; exact HQ.out
              · exact HNO.out q h (by omega), hW⟩
            case measure => simp [intOf]; omega
        · obtain rfl : j = S.length := by omega
          have l1 : (256 : Int) ≤ (S.length : Int) := by have := HL.out; omega
          go_wp2_with fail
          go_ret2
          exact ⟨by simp, HX.out.trans hX⟩
end Go.Proofs.Ytonaibpenijomaa
