/- WfgGraphs, walked. -/
import Derived.Test.YtaglpodilepioaaDoorS2
import Derived.Test.YtaglpodilepioaaDoorN1
import Derived.Test.YtaglpodilepioaaDoorR4
namespace Go.Proofs.YtaglpodilepioaaDoor
open Go.RowKit
set_option linter.unusedSimpArgs false
set_option linter.unusedVariables false
set_option maxRecDepth 100000
set_option maxHeartbeats 16000000


theorem hasI_all {L : EL} (hL : LOk L) (i j : Int) : hasI L i j = (isN i && isN j && eg L i.toNat j.toNat) := by
  by_cases hi : isN i = true
  · by_cases hj : isN j = true
    · obtain ⟨p, rfl, hp⟩ := isN_ex hi
      obtain ⟨q, rfl, hq⟩ := isN_ex hj
      rw [hi, hj, hasI_nat]; simp
    · have h : hasI L i j = false := by
        unfold hasI
        rw [List.any_eq_false]
        intro p hp
        have := hL.2 p hp
        simp only [Bool.and_eq_true, decide_eq_true_eq, not_and]
        rintro rfl rfl
        exact hj (isN_nat this.2)
      rw [h]; simp [hj]
  · have h : hasI L i j = false := by
      unfold hasI
      rw [List.any_eq_false]
      intro p hp
      have := hL.2 p hp
      simp only [Bool.and_eq_true, decide_eq_true_eq, not_and]
      rintro rfl
      exact absurd (isN_nat this.1) hi
    rw [h]; simp [hi]
theorem next_all {L : EL} (hL : LOk L) (i : Int) : setL (nxI L i) = ofN (eg L) i := by
  unfold ofN
  split
  · rename_i hi
    obtain ⟨p, rfl, hp⟩ := isN_ex hi
    rw [nxI_nat, Int.toNat_natCast]
  · rename_i hi
    unfold setL
    rw [List.filter_eq_nil_iff]
    intro k _
    unfold nxI
    rw [hasI_all hL]
    simp [hi]
theorem reach_all (L : EL) (i : Int) : setL (fR L i) = ofN (wayS (eg L)) i := by
  unfold ofN fR
  split
  · rfl
  · unfold setL
    rw [List.filter_eq_nil_iff]
    intro k _
    simp [non]
theorem lgraphs_any {A : Option Addr} {es : IE} {n c : Nat} (i j : Int) (w : World) (hT : Tb w) (h : Eds w A es) (hn : es.length = n) :
    Calls Tryd.prog 3 #[.slice A n c, .int .i64 i, .int .i64 j] w fun e w' => e = .returned (.bool true) ∧ Ext w w' := by
  have HT := hide hT
  clear hT
  by_cases hbig : 100 < n
  · have hb2 : (100 : Int) < (n : Int) := by omega
    clear h hn
    go_enter Tryd.func3, Tryd.ntmps3
    go_wp2_with (go_at_call 6; (with_reducible refine (alive_any _ HT.out).mono ?_); rintro e1 w1 ⟨rfl, hx1⟩; go_frame)
    go_ret
    exact ⟨rfl, hx1⟩
  · have hb2 : ¬ (100 : Int) < (n : Int) := by omega
    have HE := hide h
    have HN := hide hn
    clear h hn
    obtain ⟨zz, hz1, hz2, hz3, hz5, hz4⟩ : ∃ zz : Array Value, (∀ w, (zeroValue 27).run Tryd.prog w = .ok (.agg zz) w) ∧ ¬ zz = #[] ∧ ¬ zz.size < 2 ∧ zz.size = 64 ∧ zz = zrw := ⟨_, fun w => by kernel_rfl, by decide +kernel, by decide +kernel, by decide +kernel, rfl⟩
    rw [← gc_zero, ← eg_nil] at hz4
    have HZ := hide hz5
    have HZ4 := hide hz4
    clear hz4 hz5
    go_enter Tryd.func3, Tryd.ntmps3
    go_upto_region 5 with fail
    have HG := hide ((Blk.new w zz 27).ext (Ext.alloc _ (.cells #[.slice none 0 0] 29)))
    have hR := Blk.new (w.alloc (.cells zz 27)) #[.slice none 0 0] 29
    rw [World.size_alloc] at hR
    have HR := hide (show RG ((w.alloc (.cells zz 27)).alloc (.cells #[.slice none 0 0] 29)) (w.heap.size + 1) 0 [] from ⟨_, hR, own_nil _ _ _ _⟩)
    have HX := hide ((Ext.alloc w (.cells zz 27)).trans (Ext.alloc _ (.cells #[.slice none 0 0] 29)))
    clear hR
    obtain ⟨g, hg⟩ : ∃ g, w.heap.size = g := ⟨_, rfl⟩
    have hgw : w.heap.size ≤ g := by omega
    rw [hg] at HG HR
    rw [hg]
    generalize (w.alloc (.cells zz 27)).alloc (.cells #[.slice none 0 0] 29) = W0 at *
    clear hg
    go_wp2_with fail
    go_loopw [19] (fun y wr => ∃ k : Nat, k ≤ n ∧ y = .int .i64 (k : Int) ∧ Blk wr g (gc (eg (adds (es.take k)))) 27 ∧ RG wr (g + 1) 0 (adds (es.take k)) ∧ Ext w wr) (fun y _ => n - (intOf y).toNat)
    case atStart => exact ⟨0, by omega, rfl, by rw [List.take_zero, show adds [] = [] from rfl, ← HZ4.out]; exact HG.out, by rw [List.take_zero]; exact HR.out, HX.out⟩
    case round =>
      clear HR HG HX
      obtain ⟨k, hk, rfl, hG, hR, hX⟩ := hrel
      have HR := hide hR
      have HG := hide hG
      have HX := hide hX
      clear hR hG hX
      by_cases hlt : k < n
      · obtain ⟨p, hp⟩ : ∃ p, es[k]? = some p := ⟨_, List.getElem?_eq_getElem (by rw [HN.out]; exact hlt)⟩
        obtain ⟨b, off, rfl, hcc⟩ := HE.out k p hp
        obtain ⟨d1, d2⟩ := hcc _ HX.out
        have HS := hide (adds_step hp)
        have hLl : (adds (es.take k)).length < 1000 := by
          have := (adds_is (es.take k)).2
          have : (es.take k).length ≤ k := by rw [List.length_take]; omega
          omega
        clear hp hcc
        generalize adds (es.take k) = L at *
        obtain ⟨L', hL'⟩ : ∃ L', addL L p.1 p.2 = L' := ⟨_, rfl⟩
        rw [hL'] at HS
        have HADD := fun w => add_any (eg L) p.1 p.2 w
        rw [eg_adds, hL'] at HADD
        have HRA := fun w (h : RG w (g + 1) 0 L) => radd_any p.1 p.2 w h hLl
        rw [hL'] at HRA
        have hX2 := Ext.alloc wr (.cells #[.int .i64 p.1, .int .i64 p.2] 31)
        have HG2 := hide (HG.out.ext hX2)
        have HR2 := hide (HR.out.ext hX2)
        have HE2 := hide (Blk.new wr #[.int .i64 p.1, .int .i64 p.2] 31)
        have HX2 := hide (HX.out.trans hX2)
        have hgr : g + 1 < wr.heap.size := HR.out.lt
        clear hX2
        have hcase : ((isN p.1 && isN p.2) = true) ∨ ((isN p.1 && isN p.2) = false ∧ L' = L) := by
          cases hq : (isN p.1 && isN p.2)
          · right; exact ⟨rfl, by rw [← hL']; unfold addL; rw [hq]; simp⟩
          · left; rfl
        rcases hcase with hq | ⟨hq, hLL⟩
        · simp only [hq, if_true] at HADD HRA
          have HRA := hide HRA
          have HADD := hide HADD
          clear hL'
          go_wp2_with (first | (with_reducible refine get_g rfl _ rfl g (eg L) rfl HG2.out ?_; go_frame) | (go_at_call 7; (with_reducible refine (HADD.out _).mono ?_); rintro e1 w1 ⟨rfl, hx1⟩; go_frame) | (refine put_g rfl _ _ rfl w1.heap.size (eg L') rfl rfl zz (Blk.new w1 zz 27) HZ.out ?_; intro w2 hb2 hc2 hs2; have HE3 := hide ((HE2.out.ext (hx1.trans (Ext.alloc w1 (.cells zz 27)))).chg hc2 (by have := hx1.size; simp at this ⊢; omega)); have y0 := HE3.out.cell 0; have y1 := HE3.out.cell 1; go_frame))
          have hw1 : g + 1 < w1.heap.size := by have := hx1.size; simp at this; omega
          have hxa := hx1.trans (Ext.alloc w1 (.cells zz 27))
          have hRG2 := (HR2.out.ext hxa).chgO hc2 (by simp; omega) (fun k hk => by rw [List.mem_singleton.1 hk]; exact ⟨_, _, Blk.new w1 zz 27, by decide⟩)
          have hG2 := (HG2.out.ext hxa).chg hc2 (by simp; omega)
          have hX2 := (HX2.out.trans hxa).turn hc2 (by simp; omega)
          refine (HRA.out w2 hRG2).mono ?_
          rintro e3 w3 ⟨rfl, hr3, hc3⟩
          have HG3 := hide (hG2.chg hc3 (by simp))
          have HX3 := hide (hb2.chg hc3 (by simp; omega))
          have HXX3 := hide (hX2.turn hc3 (by simp; omega))
          have HR3 := hide hr3
          clear hr3 hc3 hG2 hX2 hRG2 hb2 hc2 hs2 y0 y1
          go_wp2_with (first | (refine get_g rfl _ rfl w1.heap.size (eg L') rfl HX3.out ?_; go_frame) | (refine put_g rfl _ _ rfl g (eg L') rfl rfl _ HG3.out gc_size ?_; intro w4 hb4 hc4 hs4; go_frame))
          have HR4 := hide (HR3.out.chgO hc4 (by simp) (fun k hk => by rw [List.mem_singleton.1 hk]; exact ⟨_, _, HG3.out, by decide⟩))
          have HX4 := hide (HXX3.out.turn hc4 (by simp; omega))
          go_roundw
          case rel => exact ⟨k + 1, by omega, by go_num, by rw [HS.out]; exact hb4, by rw [HS.out]; exact HR4.out, HX4.out⟩
          case measure => simp [intOf]; omega
        · rw [hLL] at HADD HRA HS
          simp only [hq, if_neg (show ¬ (false = true) by decide)] at HADD HRA
          have HRA := hide HRA
          have HADD := hide HADD
          clear hL'
          have HNE := neq_g (eg L)
          go_wp2_with (first | (with_reducible refine get_g rfl _ rfl g (eg L) rfl HG2.out ?_; go_frame) | (go_at_call 7; (with_reducible refine (HADD.out _).mono ?_); rintro e1 w1 ⟨rfl, hx1⟩; go_frame) | (refine put_g rfl _ _ rfl w1.heap.size (eg L) rfl rfl zz (Blk.new w1 zz 27) HZ.out ?_; intro w2 hb2 hc2 hs2; have HE3 := hide ((HE2.out.ext (hx1.trans (Ext.alloc w1 (.cells zz 27)))).chg hc2 (by have := hx1.size; simp at this ⊢; omega)); have y0 := HE3.out.cell 0; have y1 := HE3.out.cell 1; go_frame))
          have hw1 : g + 1 < w1.heap.size := by have := hx1.size; simp at this; omega
          have hxa := hx1.trans (Ext.alloc w1 (.cells zz 27))
          have hRG2 := (HR2.out.ext hxa).chgO hc2 (by simp; omega) (fun k hk => by rw [List.mem_singleton.1 hk]; exact ⟨_, _, Blk.new w1 zz 27, by decide⟩)
          have hG2 := (HG2.out.ext hxa).chg hc2 (by simp; omega)
          have hX2 := (HX2.out.trans hxa).turn hc2 (by simp; omega)
          refine (HRA.out w2 hRG2).mono ?_
          rintro e3 w3 ⟨rfl, hr3, hc3⟩
          have HG3 := hide (hG2.chg hc3 (by simp))
          have HX3 := hide (hb2.chg hc3 (by simp; omega))
          have HXX3 := hide (hX2.turn hc3 (by simp; omega))
          have HR3 := hide hr3
          clear hr3 hc3 hG2 hX2 hRG2 hb2 hc2 hs2 y0 y1
          go_wp2_with (first | (refine get_gg (by rfl) _ rfl w1.heap.size rfl HX3.out ?_; go_frame) | (refine get_gg (by rfl) _ rfl g rfl HG3.out ?_; go_frame) | (refine put_g rfl _ _ rfl g (eg L) rfl rfl _ HG3.out gc_size ?_; intro w4 hb4 hc4 hs4; go_frame))
          have HR4 := hide (HR3.out.chgO hc4 (by simp) (fun k hk => by rw [List.mem_singleton.1 hk]; exact ⟨_, _, HG3.out, by decide⟩))
          have HX4 := hide (HXX3.out.turn hc4 (by simp; omega))
          go_roundw
          case rel => exact ⟨k + 1, by omega, by go_num, by rw [HS.out]; exact hb4, by rw [HS.out]; exact HR4.out, HX4.out⟩
          case measure => simp [intOf]; omega
      · obtain rfl : k = n := by omega
        have hok := (adds_is es).1
        have hL2 := (adds_is es).2
        have hlen := lenG_adds es
        have hLl : (adds es).length < 1000 := by have := HN.out; omega
        rw [show es.take k = es by rw [← HN.out]; exact List.take_length] at HG HR
        generalize adds es = L at *
        obtain ⟨A5, c5, hb5, _, _⟩ := HR.out.open
        have d5 : ∀ wx, Ext wr wx → wx.cell? ⟨g + 1, 0, none⟩ = some (.slice A5 L.length c5) := fun wx hx => (hb5.ext hx).cell 0
        obtain ⟨B, hB⟩ : ∃ B, hasI L i j = B := ⟨_, rfl⟩
        have HHAS := fun w => has_any (eg L) i j w
        rw [← hasI_all hok, hB] at HHAS
        have HRH := fun w (h : RG w (g + 1) 0 L) => rhas_any i j w h hLl
        rw [hB] at HRH
        have HRN := fun w (h : RG w (g + 1) 0 L) => rnext_any i w h hLl
        rw [next_all hok] at HRN
        have HRR := fun w (h : RG w (g + 1) 0 L) => rreach_any i w h hok hLl
        rw [reach_all] at HRR
        have HLN := fun w => len_any (eg L) w
        rw [hlen] at HLN
        have HHAS := hide HHAS
        have HRH := hide HRH
        have HRN := hide HRN
        have HRR := hide HRR
        have HLN := hide HLN
        have hN1 : (ofN (eg L) i).length < 1000 := by unfold ofN; split <;> (try have := setL_len (eg L i.toNat)) <;> simp <;> omega
        have hN2 : (ofN (wayS (eg L)) i).length < 1000 := by unfold ofN; split <;> (try have := setL_len (wayS (eg L) i.toNat)) <;> simp <;> omega
        have HNX := hide (fun w hT => next_any (eg L) i w hT)
        have HRE := hide (fun w hT => reach_any (eg L) i w hT)
        generalize ofN (eg L) i = N1 at *
        generalize ofN (wayS (eg L)) i = N2 at *
        generalize L.length = nL at *
        clear hok hL2 hlen hLl hB hb5
        go_wp2_with fail
        have hk := Ext.drew wr
        refine wp_region_held_drew (S := fun w2 => Ext wr w2) (by kernel_rfl) hk (fun hHeld => ?_)
        refine wpAnyH_take (i := 0) (at_drop rfl) (by kernel_rfl) (by kernel_rfl) (by kernel_rfl) (fun _ _ _ h => h) (yieldsIf_load_mid (by rfl) 27 _ rfl g 0 rfl (gc (eg L)).toList _ (fun w h => r64_rng (HG.out.ext h)) Tryd.underlying27 rfl (inf_gc (eg L))) (by assumption) ?_
        rw [Array.toArray_toList]
        (try simp only [Act.put, List.setIfInBounds_toArray, List.set_cons_zero, List.set_cons_succ])
        (refine held_take (i := 1) (v := ?_) rfl (by kernel_rfl) (by kernel_rfl) (by kernel_rfl) (fun _ _ _ h => h) (by rfl) ?_ (by assumption) ?_; rotate_left; (intro w hSw; (try dsimp only at hSw); (first | (go_simp; done) | (go_simp; with_reducible rfl))); (try simp only [Act.put, List.setIfInBounds_toArray, List.set_cons_zero, List.set_cons_succ]))
        (refine held_take (i := 2) (v := ?_) rfl (by kernel_rfl) (by kernel_rfl) (by kernel_rfl) (fun _ _ _ h => h) (by rfl) ?_ (by assumption) ?_; rotate_left; (intro w hSw; (try dsimp only at hSw); (first | (go_simp; done) | (go_simp; with_reducible rfl))); (try simp only [Act.put, List.setIfInBounds_toArray, List.set_cons_zero, List.set_cons_succ]))
        (refine held_take (i := 4) (v := ?_) rfl (by kernel_rfl) (by kernel_rfl) (by kernel_rfl) (fun _ _ _ h => h) (by rfl) ?_ (by assumption) ?_; rotate_left; (intro w hSw; (try dsimp only at hSw); (first | (go_simp; done) | (go_simp; with_reducible rfl))); (try simp only [Act.put, List.setIfInBounds_toArray, List.set_cons_zero, List.set_cons_succ]))
        (refine held_take (i := 5) (v := ?_) rfl (by kernel_rfl) (by kernel_rfl) (by kernel_rfl) (fun _ _ _ h => h) (by rfl) ?_ (by assumption) ?_; rotate_left; (intro w hSw; (try dsimp only at hSw); (first | (go_simp; done) | (go_simp; with_reducible rfl))); (try simp only [Act.put, List.setIfInBounds_toArray, List.set_cons_zero, List.set_cons_succ]))
        refine wpAnyH_ready (rs := [3]) (by kernel_rfl) (by simp) (held_cons rfl (fun K hK => ?_) AllReadyH.nil)
        rw [if_pos (by rfl)]
        go_simp
        go_at_call 9
        refine (HHAS.out _).mono ?_
        rintro e1 w1 ⟨rfl, hy⟩
        have hk := hk.trans hy
        refine hK.out _ _ hk (fun hHeld => ?_)
        (try simp only [Act.put, List.setIfInBounds_toArray, List.set_cons_zero, List.set_cons_succ])
        refine wpAnyH_ready (rs := [6]) (by kernel_rfl) (by simp) (held_cons rfl (fun K hK => ?_) AllReadyH.nil)
        rw [if_pos (by rfl)]
        go_simp
        go_at_call 10
        refine (HRH.out _ (HR.out.ext hk)).mono ?_
        rintro e2 w2 ⟨rfl, rfl⟩; have hy := Ext.refl w1
        have hk := hk.trans hy
        refine hK.out _ _ hk (fun hHeld => ?_)
        (try simp only [Act.put, List.setIfInBounds_toArray, List.set_cons_zero, List.set_cons_succ])
        (refine held_take (i := 7) (v := ?_) rfl (by kernel_rfl) (by kernel_rfl) (by kernel_rfl) (fun _ _ _ h => h) (by rfl) ?_ (by assumption) ?_; rotate_left; (intro w hSw; (try dsimp only at hSw); (first | (go_simp; done) | (go_simp; with_reducible rfl))); (try simp only [Act.put, List.setIfInBounds_toArray, List.set_cons_zero, List.set_cons_succ]))
        (refine held_take (i := 8) (v := ?_) rfl (by kernel_rfl) (by kernel_rfl) (by kernel_rfl) (fun _ _ _ h => h) (by rfl) ?_ (by assumption) ?_; rotate_left; (intro w hSw; (try dsimp only at hSw); (first | (go_simp; done) | (go_simp; with_reducible rfl))); (try simp only [Act.put, List.setIfInBounds_toArray, List.set_cons_zero, List.set_cons_succ]))
        refine wpAnyH_take (i := 9) (at_drop rfl) (by kernel_rfl) (by kernel_rfl) (by kernel_rfl) (fun _ _ _ h => h) (yieldsIf_load_mid (by rfl) 27 _ rfl g 0 rfl (gc (eg L)).toList _ (fun w h => r64_rng (HG.out.ext h)) Tryd.underlying27 rfl (inf_gc (eg L))) (by assumption) ?_
        rw [Array.toArray_toList]
        (try simp only [Act.put, List.setIfInBounds_toArray, List.set_cons_zero, List.set_cons_succ])
        (refine held_take (i := 10) (v := ?_) rfl (by kernel_rfl) (by kernel_rfl) (by kernel_rfl) (fun _ _ _ h => h) (by rfl) ?_ (by assumption) ?_; rotate_left; (intro w hSw; (try dsimp only at hSw); (first | (go_simp; done) | (go_simp; with_reducible rfl))); (try simp only [Act.put, List.setIfInBounds_toArray, List.set_cons_zero, List.set_cons_succ]))
        (refine held_take (i := 12) (v := ?_) rfl (by kernel_rfl) (by kernel_rfl) (by kernel_rfl) (fun _ _ _ h => h) (by rfl) ?_ (by assumption) ?_; rotate_left; (intro w hSw; (try dsimp only at hSw); (first | (go_simp; done) | (go_simp; with_reducible rfl))); (try simp only [Act.put, List.setIfInBounds_toArray, List.set_cons_zero, List.set_cons_succ]))
        refine wpAnyH_ready (rs := [11]) (by kernel_rfl) (by simp) (held_cons rfl (fun K hK => ?_) AllReadyH.nil)
        rw [if_pos (by rfl)]
        go_simp
        go_at_call 12
        refine (HNX.out _ (HT.out.ext (HX.out.trans hk))).mono ?_
        rintro e3 w3 ⟨v3, rfl, hr3, hy⟩
        have hk := hk.trans hy
        refine hK.out _ _ hk (fun hHeld => ?_)
        (try simp only [Act.put, List.setIfInBounds_toArray, List.set_cons_zero, List.set_cons_succ])
        refine wpAnyH_ready (rs := [13]) (by kernel_rfl) (by simp) (held_cons rfl (fun K hK => ?_) AllReadyH.nil)
        rw [if_pos (by rfl)]
        go_simp
        go_at_call 13
        refine (HRN.out _ (HR.out.ext hk)).mono ?_
        rintro e4 w4 ⟨v4, rfl, hr4, hy⟩
        have hk := hk.trans hy
        refine hK.out _ _ hk (fun hHeld => ?_)
        (try simp only [Act.put, List.setIfInBounds_toArray, List.set_cons_zero, List.set_cons_succ])
        refine wpAnyH_ready (rs := [14]) (by kernel_rfl) (by simp) (held_cons rfl (fun K hK => ?_) AllReadyH.nil)
        rw [if_pos (by rfl)]
        go_simp
        go_at_call 11
        refine (same_any w4 (own_ext hr3 hy) hr4 hN1).mono ?_
        rintro e5 w5 ⟨rfl, hy⟩
        have hk := hk.trans hy
        refine hK.out _ _ hk (fun hHeld => ?_)
        (try simp only [Act.put, List.setIfInBounds_toArray, List.set_cons_zero, List.set_cons_succ])
        clear hr3 hr4
        (refine held_take (i := 15) (v := ?_) rfl (by kernel_rfl) (by kernel_rfl) (by kernel_rfl) (fun _ _ _ h => h) (by rfl) ?_ (by assumption) ?_; rotate_left; (intro w hSw; (try dsimp only at hSw); (first | (go_simp; done) | (go_simp; with_reducible rfl))); (try simp only [Act.put, List.setIfInBounds_toArray, List.set_cons_zero, List.set_cons_succ]))
        (refine held_take (i := 16) (v := ?_) rfl (by kernel_rfl) (by kernel_rfl) (by kernel_rfl) (fun _ _ _ h => h) (by rfl) ?_ (by assumption) ?_; rotate_left; (intro w hSw; (try dsimp only at hSw); (first | (go_simp; done) | (go_simp; with_reducible rfl))); (try simp only [Act.put, List.setIfInBounds_toArray, List.set_cons_zero, List.set_cons_succ]))
        refine wpAnyH_take (i := 17) (at_drop rfl) (by kernel_rfl) (by kernel_rfl) (by kernel_rfl) (fun _ _ _ h => h) (yieldsIf_load_mid (by rfl) 27 _ rfl g 0 rfl (gc (eg L)).toList _ (fun w h => r64_rng (HG.out.ext h)) Tryd.underlying27 rfl (inf_gc (eg L))) (by assumption) ?_
        rw [Array.toArray_toList]
        (try simp only [Act.put, List.setIfInBounds_toArray, List.set_cons_zero, List.set_cons_succ])
        (refine held_take (i := 18) (v := ?_) rfl (by kernel_rfl) (by kernel_rfl) (by kernel_rfl) (fun _ _ _ h => h) (by rfl) ?_ (by assumption) ?_; rotate_left; (intro w hSw; (try dsimp only at hSw); (first | (go_simp; done) | (go_simp; with_reducible rfl))); (try simp only [Act.put, List.setIfInBounds_toArray, List.set_cons_zero, List.set_cons_succ]))
        (refine held_take (i := 20) (v := ?_) rfl (by kernel_rfl) (by kernel_rfl) (by kernel_rfl) (fun _ _ _ h => h) (by rfl) ?_ (by assumption) ?_; rotate_left; (intro w hSw; (try dsimp only at hSw); (first | (go_simp; done) | (go_simp; with_reducible rfl))); (try simp only [Act.put, List.setIfInBounds_toArray, List.set_cons_zero, List.set_cons_succ]))
        refine wpAnyH_ready (rs := [19]) (by kernel_rfl) (by simp) (held_cons rfl (fun K hK => ?_) AllReadyH.nil)
        rw [if_pos (by rfl)]
        go_simp
        go_at_call 14
        refine (HRE.out _ (HT.out.ext (HX.out.trans hk))).mono ?_
        rintro e6 w6 ⟨v6, rfl, hr6, hy⟩
        have hk := hk.trans hy
        refine hK.out _ _ hk (fun hHeld => ?_)
        (try simp only [Act.put, List.setIfInBounds_toArray, List.set_cons_zero, List.set_cons_succ])
        refine wpAnyH_ready (rs := [21]) (by kernel_rfl) (by simp) (held_cons rfl (fun K hK => ?_) AllReadyH.nil)
        rw [if_pos (by rfl)]
        go_simp
        go_at_call 15
        refine (HRR.out _ (HR.out.ext hk)).mono ?_
        rintro e7 w7 ⟨v7, rfl, hr7, hy⟩
        have hk := hk.trans hy
        refine hK.out _ _ hk (fun hHeld => ?_)
        (try simp only [Act.put, List.setIfInBounds_toArray, List.set_cons_zero, List.set_cons_succ])
        refine wpAnyH_ready (rs := [22]) (by kernel_rfl) (by simp) (held_cons rfl (fun K hK => ?_) AllReadyH.nil)
        rw [if_pos (by rfl)]
        go_simp
        go_at_call 11
        refine (same_any w7 (own_ext hr6 hy) hr7 hN2).mono ?_
        rintro e8 w8 ⟨rfl, hy⟩
        have hk := hk.trans hy
        refine hK.out _ _ hk (fun hHeld => ?_)
        (try simp only [Act.put, List.setIfInBounds_toArray, List.set_cons_zero, List.set_cons_succ])
        clear hr6 hr7
        (refine held_take (i := 23) (v := ?_) rfl (by kernel_rfl) (by kernel_rfl) (by kernel_rfl) (fun _ _ _ h => h) (by rfl) ?_ (by assumption) ?_; rotate_left; (intro w hSw; (try dsimp only at hSw); (first | (go_simp; done) | (go_simp; with_reducible rfl))); (try simp only [Act.put, List.setIfInBounds_toArray, List.set_cons_zero, List.set_cons_succ]))
        (refine held_take (i := 24) (v := ?_) rfl (by kernel_rfl) (by kernel_rfl) (by kernel_rfl) (fun _ _ _ h => h) (by rfl) ?_ (by assumption) ?_; rotate_left; (intro w hSw; (try dsimp only at hSw); (first | (go_simp; done) | (go_simp; with_reducible rfl))); (try simp only [Act.put, List.setIfInBounds_toArray, List.set_cons_zero, List.set_cons_succ]))
        refine wpAnyH_take (i := 25) (at_drop rfl) (by kernel_rfl) (by kernel_rfl) (by kernel_rfl) (fun _ _ _ h => h) (yieldsIf_load_mid (by rfl) 27 _ rfl g 0 rfl (gc (eg L)).toList _ (fun w h => r64_rng (HG.out.ext h)) Tryd.underlying27 rfl (inf_gc (eg L))) (by assumption) ?_
        rw [Array.toArray_toList]
        (try simp only [Act.put, List.setIfInBounds_toArray, List.set_cons_zero, List.set_cons_succ])
        (refine held_take (i := 27) (v := ?_) rfl (by kernel_rfl) (by kernel_rfl) (by kernel_rfl) (fun _ _ _ h => h) (by rfl) ?_ (by assumption) ?_; rotate_left; (intro w hSw; (try dsimp only at hSw); (first | (go_simp; done) | (go_simp; with_reducible rfl))); (try simp only [Act.put, List.setIfInBounds_toArray, List.set_cons_zero, List.set_cons_succ]))
        (refine held_take (i := 28) (v := ?_) rfl (by kernel_rfl) (by kernel_rfl) (by kernel_rfl) (fun _ _ _ h => h) (by rfl) ?_ (by assumption) ?_; rotate_left; (intro w hSw; (try dsimp only at hSw); (first | (go_simp; done) | (go_simp; with_reducible rfl))); (try simp only [Act.put, List.setIfInBounds_toArray, List.set_cons_zero, List.set_cons_succ]))
        (refine held_take (i := 29) (v := ?_) rfl (by kernel_rfl) (by kernel_rfl) (by kernel_rfl) (fun _ _ _ h => h) (by rfl) ?_ (by assumption) ?_; rotate_left; (intro w hSw; (try dsimp only at hSw); (first | (go_simp; done) | (go_simp; with_reducible rfl))); (try simp only [Act.put, List.setIfInBounds_toArray, List.set_cons_zero, List.set_cons_succ]))
        refine wpAnyH_ready (rs := [26]) (by kernel_rfl) (by simp) (held_cons rfl (fun K hK => ?_) AllReadyH.nil)
        rw [if_pos (by rfl)]
        go_simp
        go_at_call 16
        refine (HLN.out _).mono ?_
        rintro e9 w9 ⟨rfl, hy⟩
        have hk := hk.trans hy
        refine hK.out _ _ hk (fun hHeld => ?_)
        (try simp only [Act.put, List.setIfInBounds_toArray, List.set_cons_zero, List.set_cons_succ])
        (refine held_take (i := 30) (v := ?_) rfl (by kernel_rfl) (by kernel_rfl) (by kernel_rfl) (fun _ _ _ h => h) (by rfl) ?_ (by assumption) ?_; rotate_left; (intro w hSw; (try dsimp only at hSw); (first | (go_simp; done) | (go_simp; with_reducible rfl))); (try simp only [Act.put, List.setIfInBounds_toArray, List.set_cons_zero, List.set_cons_succ]))
        (refine held_take (i := 31) (v := ?_) rfl (by kernel_rfl) (by kernel_rfl) (by kernel_rfl) (fun _ _ _ h => h) (by rfl) ?_ (by assumption) ?_; rotate_left; (intro w hSw; (try dsimp only at hSw); (first | (go_simp; done) | (go_simp; with_reducible rfl))); (try simp only [Act.put, List.setIfInBounds_toArray, List.set_cons_zero, List.set_cons_succ]))
        (refine held_take (i := 32) (v := ?_) rfl (by kernel_rfl) (by kernel_rfl) (by kernel_rfl) (fun _ _ _ h => h) (by rfl) ?_ (by assumption) ?_; rotate_left; (intro w hSw; (try dsimp only at hSw); (first | (go_simp; done) | (go_simp; with_reducible rfl))); (try simp only [Act.put, List.setIfInBounds_toArray, List.set_cons_zero, List.set_cons_succ]))
        refine wpAnyH_ready (rs := [33]) (by kernel_rfl) (by simp) (held_cons rfl (fun K hK => ?_) AllReadyH.nil)
        rw [if_pos (by rfl)]
        go_simp
        go_at_call 6
        refine (alive_any _ (HT.out.ext (HX.out.trans hk))).mono ?_
        rintro e10 w10 ⟨rfl, hy⟩
        have hk := hk.trans hy
        refine hK.out _ _ hk (fun hHeld => ?_)
        (try simp only [Act.put, List.setIfInBounds_toArray, List.set_cons_zero, List.set_cons_succ])
        (refine held_take (i := 34) (v := ?_) rfl (by kernel_rfl) (by kernel_rfl) (by kernel_rfl) (fun _ _ _ h => h) (by rfl) ?_ (by assumption) ?_; rotate_left; (intro w hSw; (try dsimp only at hSw); (first | (go_simp; done) | (go_simp; with_reducible rfl))); (try simp only [Act.put, List.setIfInBounds_toArray, List.set_cons_zero, List.set_cons_succ]))
        (refine held_take (i := 35) (v := ?_) rfl (by kernel_rfl) (by kernel_rfl) (by kernel_rfl) (fun _ _ _ h => h) (by rfl) ?_ (by assumption) ?_; rotate_left; (intro w hSw; (try dsimp only at hSw); (first | (go_simp; done) | (go_simp; with_reducible rfl))); (try simp only [Act.put, List.setIfInBounds_toArray, List.set_cons_zero, List.set_cons_succ]))
        refine wpAnyH_done (by kernel_rfl) ?_ _
        go_wp2_with fail
        go_ret
        exact ⟨rfl, HX.out.trans hk⟩
end Go.Proofs.YtaglpodilepioaaDoor
