/- Drain: its beginning. -/
import Derived.Test.YtnmegokppbdhdaaE1
import Derived.Test.YtnmegokppbdhdaaTail
import Derived.Deep.RegionHeld3
import Derived.BigRegion
import Derived.Deep.DeepCutAuto
import Derived.Deep.CutBlock
import Derived.Deep.CutRange
namespace Go.Proofs.Ytnmegokppbdhdaa
open Go.RowKit Go.Shelf
set_option linter.unusedSimpArgs false
set_option linter.unusedVariables false
set_option maxRecDepth 100000

attribute [local go_sem] Oper.semAt_some
theorem Row.put {w : World} {A : Option Addr} {n c D : Nat} {l : List Int} {o : Obj} (h : Row w A n c l) (o' : Obj) (ho : w.heap[D]? = some o) (hc : o.isCells = false) : Row (w.putObj D o') A n c l := by
  obtain ⟨h1, h2, h3, h | ⟨b, off, cs, h4, h5, h6⟩⟩ := h
  · exact ⟨h1, h2, h3, .inl h⟩
  · refine ⟨h1, h2, h3, .inr ⟨b, off, cs, h4, (World.putObj_heap_other ?_).trans h5, h6⟩⟩
    rintro rfl
    unfold Blk at h5
    rw [h5] at ho
    cases ho
    cases hc
theorem len_ext (A : Option Addr) (n c : Nat) (w : World) : Calls Try.prog 19 #[(Value.agg #[.slice A n c])] w fun e w' => e = .returned (.int .i64 (n : Int)) ∧ Ext w w' :=
  (len_any A n c w).mono fun e w' ⟨h1, h2⟩ => ⟨h1, by rw [h2]; exact Ext.alloc _ _⟩
set_option maxHeartbeats 4000000 in
theorem drain_any {w : World} {A C : Option Addr} {c c2 : Nat} {l ch : List Int} (h : Row w A l.length c l) (ok : OkQ l) (hc : Ch w C ch) (hl2 : ch.length ≤ 1000) (hwf : ∀ j (h : j < ch.length), (ky ch[j]).wf = true) :
    Calls Try.prog 12 #[(Value.agg #[.slice A l.length c]), .slice C ch.length c2] w fun e w' => ∃ A' c', e = .returned (.tuple #[(Value.agg #[.slice A' (drL l ch).length c']), .int .i64 (drN l ch : Int)]) ∧ Row w' A' (drL l ch).length c' (drL l ch) ∧ Ext w w' := by
  have hl := ok.len
  have hcm := h.2.1
  have hcm2 := h.2.2.1
  have hX0 : Ext w ((w.alloc (Obj.cells #[.slice A l.length c] 27)).alloc (Obj.cells #[.slice none 0 0] 27)) := (Ext.alloc _ _).trans (Ext.alloc _ _)
  have hB := (Blk.new w #[.slice A l.length c] 27).ext (Ext.alloc _ (Obj.cells #[.slice none 0 0] 27))
  have hD := Blk.new (w.alloc (Obj.cells #[.slice A l.length c] 27)) #[.slice none 0 0] 27
  rw [World.size_alloc] at hD
  have sw : w.heap.size + 2 ≤ ((w.alloc (Obj.cells #[.slice A l.length c] 27)).alloc (Obj.cells #[.slice none 0 0] 27)).heap.size := by simp
  refine callsIn_wide.1 (callsIn_of_wp_marks (n := 3) Try.func12 rfl trivial ?_)
  simp only [Try.ntmps12, List.size_toArray, List.length_cons, List.length_nil, Nat.reduceAdd, Nat.reduceSub, Array.replicate_succ, Array.replicate_zero, List.push_toArray, List.append_toArray, List.nil_append, List.cons_append]
  refine wpIn_wide.2 ?_
  go_upto_region 1 with fail
  generalize (w.alloc (Obj.cells #[.slice A l.length c] 27)).alloc (Obj.cells #[.slice none 0 0] 27) = w1 at *
  have HB := hide (fun w' (x : Ext w1 w') => (hB.ext x).cell 0)
  have HD := hide (fun w' (x : Ext w1 w') => hD.ext x)
  have HC := hide (fun w' (x : Ext w1 w') => h.ch.ext (hX0.trans x))
  have HX := hide hX0
  have HR := hide h
  have HCH := hide hc
  clear hB hD h hc hX0
  go_cut [6, 7] from 12 to 18 (fun v6 v7 wc => ∃ B6 B7 m, v6 = .pointer (some ⟨B6, 0, none⟩) ∧ v7 = .pointer (some ⟨B7, 0, none⟩) ∧ Ext w1 wc ∧ w1.heap.size ≤ B6 ∧ w1.heap.size ≤ B7 ∧ w1.heap.size ≤ m ∧ B6 < wc.heap.size ∧ B7 < wc.heap.size ∧ B6 ≠ B7 ∧ wc.cell? ⟨B6, 0, none⟩ = some (.slice A l.length l.length) ∧ wc.frozen? ⟨B6, 0, none⟩ = false ∧ wc.cell? ⟨B7, 0, none⟩ = some (.map (some m)) ∧ wc.frozen? ⟨B7, 0, none⟩ = false ∧ MS wc m l.length (hasQ l))
  case first =>
    have hk := Ext.drew w1
    have z3 : w1.heap.size < w1.heap.size + 1 + 1 + 1 := by omega
    have z4 : w1.heap.size < w1.heap.size + 1 + 1 + 1 + 1 := by omega
    go_region_held3 (fun w' => w'.cell? ⟨w.heap.size, 0, none⟩ = some (.slice A l.length c)) (((repeat (rw [World.cell?_setCell_far _ _ _ _ (by simp; omega)])); exact HB.out _ (by repeat (first | exact Ext.refl _ | assumption | exact Ext.alloc _ _ | exact Ext.drew _ | refine Ext.trans ?_ (Ext.alloc _ _) | refine Ext.trans ?_ (Ext.drew _)))))
      (first
        | (go_at_call 19; refine (len_any _ _ _ _).mono ?_; rintro e w6 ⟨rfl, rfl⟩; have hk := (show Ext w1 _ from (by repeat (first | exact Ext.refl _ | assumption | exact Ext.alloc _ _ | exact Ext.drew _ | refine Ext.trans ?_ (Ext.alloc _ _) | refine Ext.trans ?_ (Ext.drew _)))).trans (Ext.alloc _ (Obj.cells #[.slice A l.length c] 27)))
        | (go_at_call 23; refine (cut_any _ _ _ _ _ hcm hcm2).mono ?_; rintro e w6 ⟨rfl, rfl⟩; have hk := (show Ext w1 _ from (by repeat (first | exact Ext.refl _ | assumption | exact Ext.alloc _ _ | exact Ext.drew _ | refine Ext.trans ?_ (Ext.alloc _ _) | refine Ext.trans ?_ (Ext.drew _)))).trans (Ext.alloc _ (Obj.cells #[.slice A l.length c] 27)))
        | (go_at_call 24; refine (setOf_any (HC.out _ (by repeat (first | exact Ext.refl _ | assumption | exact Ext.alloc _ _ | exact Ext.drew _ | refine Ext.trans ?_ (Ext.alloc _ _) | refine Ext.trans ?_ (Ext.drew _)))) ok (by omega)).mono ?_; rintro e w6 ⟨m, rfl, hm0, hm, hx⟩; have q1 := fun w' (x : Ext w6 w') b o (hb : b < _) => (hx.trans x).facts.1 b o hb; have q2 := fun w' (x : Ext w6 w') b o (hb : b < _) => (hx.trans x).facts.2.1 b o hb; have q3 := hx.size; simp at q3; (try have n0 : ¬ w1.heap.size = w6.heap.size := by omega); (try have n1 : ¬ w1.heap.size + 1 = w6.heap.size := by omega); (try have n2 : ¬ w1.heap.size + 1 + 1 = w6.heap.size := by omega); (try have n3 : ¬ w1.heap.size + 1 + 1 + 1 = w6.heap.size := by omega); have eer := Ext.refl w6; have ee0 := Ext.drew w6; have ee1 := fun o => (Ext.alloc w6 o).trans (Ext.drew _); have ee2 := fun o o2 => ((Ext.alloc w6 o).trans (Ext.alloc (w6.alloc o) o2)).trans (Ext.drew _); have ee3 := fun o => Ext.alloc w6 o; have ee4 := fun o o2 => (Ext.alloc w6 o).trans (Ext.alloc (w6.alloc o) o2); have hk := (show Ext w1 _ from (by repeat (first | exact Ext.refl _ | assumption | exact Ext.alloc _ _ | exact Ext.drew _ | refine Ext.trans ?_ (Ext.alloc _ _) | refine Ext.trans ?_ (Ext.drew _)))).trans hx))
    all_goals
      simp only [World.size_alloc, World.size_drew] at hm0
      have hm1 := hm.lt
      have hk6 := hk
      go_wp2_with fail
      go_meet
      case rel =>
        refine ⟨_, _, m, rfl, rfl, ?_, (by first | omega | (simp; done) | (simp; omega)), (by first | omega | (simp; done) | (simp; omega)), (by first | omega | (simp; done) | (simp; omega)), (by first | omega | (simp; done) | (simp; omega)), (by first | omega | (simp; done) | (simp; omega)), (by first | omega | (simp; done) | (simp; omega)), by (go_simp; (try (refine World.cell?_setCell_same' _ _ _ ?_; (repeat rw [World.cell?_setCell_far _ _ _ _ (by first | omega | (simp; done) | (simp; omega))]); (try rw [q1 _ (by repeat (first | exact Ext.refl _ | assumption | exact Ext.alloc _ _ | exact Ext.drew _ | refine Ext.trans ?_ (Ext.alloc _ _) | refine Ext.trans ?_ (Ext.drew _))) _ _ (by first | omega | (simp; done) | (simp; omega))]); go_simp))), by go_simp, by (go_simp; (try (refine World.cell?_setCell_same' _ _ _ ?_; (repeat rw [World.cell?_setCell_far _ _ _ _ (by first | omega | (simp; done) | (simp; omega))]); (try rw [q1 _ (by repeat (first | exact Ext.refl _ | assumption | exact Ext.alloc _ _ | exact Ext.drew _ | refine Ext.trans ?_ (Ext.alloc _ _) | refine Ext.trans ?_ (Ext.drew _))) _ _ (by first | omega | (simp; done) | (simp; omega))]); go_simp))), by go_simp, ?_⟩
        · (repeat (first | with_reducible refine Ext.set ?_ (by first | omega | (simp; done) | (simp; omega)) _ | with_reducible refine Ext.trans ?_ (Ext.drew _)))
          exact (by repeat (first | exact Ext.refl _ | assumption | exact Ext.alloc _ _ | exact Ext.drew _ | refine Ext.trans ?_ (Ext.alloc _ _) | refine Ext.trans ?_ (Ext.drew _)))
        · (repeat (with_reducible refine MS.setc ?_ (by first | omega | (simp; done) | (simp; omega)) _))
          exact hm.ext (by repeat (first | exact Ext.refl _ | assumption | exact Ext.alloc _ _ | exact Ext.drew _ | refine Ext.trans ?_ (Ext.alloc _ _) | refine Ext.trans ?_ (Ext.drew _)))
  case rest =>
    obtain ⟨B6, B7, m, rfl, rfl, hE, g6, g7, gm, t6, t7, hne, c6, f6, c7, f7, hm⟩ := hcut
    have HS := hide hE.size
    go_wp2_with (go_at_call 25; refine (backw_any _ _ _ _).mono ?_; rintro e w7 ⟨rfl, rfl⟩)
    have hW := Ext.alloc wc (.cells #[.slice C ch.length c2] 25)
    have hchb : ChB (wc.alloc (.cells #[.slice C ch.length c2] 25)) w.heap.size C ch := HCH.out.low.ext ((HX.out.trans hE).trans hW)
    have hbs : Blk (wc.alloc (.cells #[.slice C ch.length c2] 25)) wc.heap.size #[.slice C ch.length c2] 25 := Blk.new _ _ _
    have hsz1 : (wc.alloc (.cells #[.slice C ch.length c2] 25)).heap.size = wc.heap.size + 1 := World.size_alloc _ _
    have hm1 := hm.lt
    have h0 : InvD w1 B6 B7 m (wc.heap.size + 1) l.length l (wc.alloc (.cells #[.slice C ch.length c2] 25)) :=
      ⟨hE.trans hW, ⟨_, (hW.oldCell _ _ t6).trans c6, .inl ⟨A, rfl, ((HR.out.take (Nat.le_refl _)).ext ((HX.out.trans hE).trans hW)).eq (by rw [List.take_length])⟩⟩, (hW.facts.2.1 _ _ t6).trans f6, (hW.oldCell _ _ t7).trans c7, (hW.facts.2.1 _ _ t7).trans f7, ⟨_, Nat.le_refl _, hm.ext hW⟩, by rw [hsz1]; exact Nat.le_refl _, ok⟩
    refine wpIn_wide.1 (wpIn_rangeFunc_ownG (F := Fence.wide) (n := 3) rfl (by omega) (gf := 29) (lb := #[.pointer (some ⟨wc.heap.size, 0, none⟩)]) rfl trivial (enters_of Try.func29 (by kernel_rfl) rfl)
      (backw_stops Fence.wide 2 trivial rfl (by omega) wc.heap.size w.heap.size hl2 _ hbs hchb) KB.trans (KB.put (by rw [hsz1]; have := HS.out; omega) (by rw [hsz1]; omega)) (Below.refl _ _) (fun _ => rfl)
      (fun pre W => InvD w1 B6 B7 m (wc.heap.size + 1) (l.length + pre.length) (fo ch l pre) W)
      (fun _ _ _ => False)
      (InvD.own (by rw [hsz1]; have := HS.out; omega) (by rw [hsz1]; omega) (by rw [hsz1]; omega) (by rw [hsz1]; omega))
      (fun _ _ _ _ _ hs _ _ => hs)
      (by simpa [fo] using h0)
      (fun x => { tmps := #[.agg #[.slice A l.length c], .slice C ch.length c2, .pointer (some ⟨w.heap.size, 0, none⟩), undef, .pointer (some ⟨w.heap.size + 1, 0, none⟩), .int .i64 0, .pointer (some ⟨B6, 0, none⟩), .pointer (some ⟨B7, 0, none⟩), undef, .int .i64 (ch[x]?.getD 0), undef, undef, u12, u13, u14, u15, u16, u17, u18, .slice C ch.length c2, .func (.func 29) #[] #[.pointer (some ⟨wc.heap.size, 0, none⟩)], .int .i64 (x : Int), .int .i64 (ch[x]?.getD 0), undef, undef, undef, undef, undef, undef, undef, undef, undef, undef, undef, undef, undef, undef, undef, undef, undef, undef, undef, undef, undef, undef, undef, undef, undef, undef], defers := [] })
      ?assign ?body ?done ?stop)
    case assign =>
      intro l x W K hK
      gi_wp2
      exact hK
    case body =>
      rintro l' pre x W hI hlt
      have hz : (ky (ch[x]?.getD 0)).wf = true := by
        by_cases hx : x < ch.length
        · rw [List.getElem?_eq_getElem hx]; exact hwf x hx
        · rw [List.getElem?_eq_none (by omega)]; decide
      obtain ⟨v, c6, hthr⟩ := hI.v
      obtain ⟨A1, c1, rfl, hrow⟩ := hthr.sl
      have f6 := hI.f6
      have c7 := hI.c7
      have f7 := hI.f7
      obtain ⟨N, hN, hms⟩ := hI.ms
      have hlook := hms.look hz
      have hfo := fo_snoc ch l pre x
      have hlen := hI.ok.len
      have hsz := hI.sz
      generalize ch[x]?.getD 0 = z at *
      generalize fo ch l pre = xs at *
      have HF := hide hfo
      have HI := hide hI
      have HT := hide hthr
      have HM := hide hms
      have s1 := HS.out
      clear hfo hI hthr hms hrow h0 hbs hchb
      cases hq : hasQ xs z with
      | true =>
        rw [hq] at hlook
        have ea : apB xs z = false := by unfold apB; rw [hq]; simp
        gi_wp2
        refine ⟨trivial, ?_⟩
        gi_wp2
        have hx := Ext.alloc W (.cells #[] 57)
        refine ⟨kf_of (T := []) (hx.chg []) (by simp), kb_of (T := []) (hx.chg _) (by simp), ?_⟩
        show InvD w1 B6 B7 m (wc.heap.size + 1) (l.length + (pre ++ [x]).length) (fo ch l (pre ++ [x])) _
        rw [HF.out, apL_no ea]
        exact (HI.out.chg (T := []) (hx.chg []) (by simp) (by simp)).le (by simp)
      | false =>
        rw [hq] at hlook
        cases ht : thr z with
        | false =>
          have ea : apB xs z = false := by unfold apB; rw [ht]; simp
          gi_wp2_with (refine ⟨trivial, ?_⟩; gi_at_call 22; refine (CallsIn.inRound l' (callsIn_wide.2 (isT_any _ _))).mono ?_; rw [ht]; rintro e w9 ⟨rfl, rfl⟩)
          have hx := Ext.alloc W (.cells #[] 57)
          refine ⟨kf_of (T := []) (hx.chg []) (by simp), kb_of (T := []) (hx.chg _) (by simp), ?_⟩
          show InvD w1 B6 B7 m (wc.heap.size + 1) (l.length + (pre ++ [x]).length) (fo ch l (pre ++ [x])) _
          rw [HF.out, apL_no ea]
          exact (HI.out.chg (T := []) (hx.chg []) (by simp) (by simp)).le (by simp)
        | true =>
          have ea : apB xs z = true := by unfold apB; rw [ht, hq]; rfl
          have hx := Ext.alloc W (.cells #[] 57)
          have hNb : N ≤ 100000 := by omega
          obtain ⟨wm, hput, hms2, hgm⟩ := (HM.out.ext hx).put (a0 := z) (by unfold maxLen; omega) hz
          have n6 := HM.out.neCell c6
          have n7 := HM.out.neCell c7
          have l7 : B7 < W.heap.size := World.block_lt_of_cell? W _ c7
          have c7x := (hx.oldCell B7 0 l7).trans c7
          have hA : Chg [m] W wm := (hx.chg [m]).trans (Chg.of_grown hgm (by simp))
          have l6 : B6 < W.heap.size := World.block_lt_of_cell? W _ c6
          have c6m := (hA.oldCell B6 0 l6 (by simp; omega)).trans c6
          have hA2 : Chg [m] W (wm.alloc (.cells #[.int .i64 z] 3)) := hA.trans (Chg.alloc _ _ _)
          have HT2 := hide (HT.out.chg hA2 (by intro b cs hb; simp at hb; subst hb; exact HM.out.noC cs 3))
          have HA2 := hide hA2
          have HMS2 := hide (hms2.ext (Ext.alloc wm (.cells #[.int .i64 z] 3)))
          have HC6 := hide c6
          have HF6 := hide f6
          have sz2 : wc.heap.size + 1 ≤ (wm.alloc (.cells #[.int .i64 z] 3)).heap.size := Nat.le_trans hsz hA2.size
          have HSZ := hide sz2
          clear hA hA2 hms2 hgm sz2
          gi_wp2_with (first
            | (refine ⟨trivial, ?_⟩; gi_at_call 22; refine (CallsIn.inRound l' (callsIn_wide.2 (isT_any _ _))).mono ?_; rw [ht]; rintro e w9 ⟨rfl, rfl⟩)
            | (gi_at_builtin; refine wpListIn_thr rfl _ _ rfl (v := .slice A1 xs.length c1) (xs := xs) (base := wc.heap.size + 1) ?h1 ?h2 ?h3 (g0 := wm.heap.size) (c := 1) (t := z) ?h4 ?h5 ?h6 ?h7; (case h1 => rfl); (case h2 => exact HT2.out); (case h3 => exact HSZ.out); (case h4 => rfl); (case h6 => omega); (case h5 => go_simp); intro A4 c4 w4 g hown hg hgc hch; have HO := hide hown; have HG := hide hgc; have HCH4 : Hid (Chg [m, g] W w4) := (HA2.out.mono (by intro k hk; simp at hk ⊢; omega)).trans (hch.mono (by intro k hk; simp at hk ⊢; omega)); have c6b := (HCH4.out.oldCell B6 0 l6 (by simp; omega)).trans HC6.out; have f6b := (World.frozen?_of_block (a := ⟨B6, 0, none⟩) (HCH4.out.block B6 l6 (by simp; omega))).trans HF6.out; have HMS4 := hide (HMS2.out.chg hch (by simp; omega)); clear hown hgc hch))
          have hc2 : Chg [m, g, B6] W (w4.setCell ⟨B6, 0, none⟩ (.slice A4 (xs.length + 1) c4)) := (HCH4.out.mono (by intro k hk; simp at hk ⊢; omega)).set (.inl (by simp)) _
          refine ⟨kf_of hc2 ?_, kb_of hc2 (by intro b hb; simp at hb; omega), ?_⟩
          · intro b hb
            simp only [List.mem_cons, List.not_mem_nil, or_false] at hb
            rcases hb with rfl | rfl | rfl
            · exact .inl (by omega)
            · refine .inr fun ob ho => HG.out ob ((HA2.out.block b (Array.getElem?_eq_some_iff.1 ho).1 (by simp; omega)).trans ho)
            · exact .inl (by omega)
          · show InvD w1 B6 B7 m (wc.heap.size + 1) (l.length + (pre ++ [x]).length) (fo ch l (pre ++ [x])) _
            rw [HF.out]
            have := HI.out.app (by omega) (by omega) hne n6 n7 g6 gm (by omega) hg HCH4.out HO.out HMS4.out (by omega) ea
            exact this.le (by simp; omega)
    case done =>
      rintro D ys W hD rfl hI hK
      rw [fo_rv ch l (Nat.le_refl _), show drK l ch ch.length = drL l ch from rfl] at hI
      obtain ⟨v, c6, hthr⟩ := hI.v
      obtain ⟨A1, c1, rfl, hrow⟩ := hthr.sl
      have HE := hide (drN_eq l ch)
      have l6 : B6 < W.heap.size := World.block_lt_of_cell? W _ c6
      have hIe := hI.ext
      have r6 := fun w' (x : Ext W w') => (x.oldCell B6 0 l6).trans c6
      have r2 := fun w' (x : Ext W w') => HB.out w' (hIe.trans x)
      have r4 := fun w' (x : Ext W w') => (HD.out w' (hIe.trans x)).cell
      have r4f := fun w' (x : Ext W w') => (HD.out w' (hIe.trans x)).free
      have hW := Ext.refl W
      have hlen := hI.ok.len
      obtain ⟨xs, hxs⟩ : ∃ xs, xs = drL l ch := ⟨_, rfl⟩
      rw [← hxs] at hI hthr hrow HE hlen r6 c6
      have HXS := hide hxs
      clear hxs
      have HRW := hide hrow
      have HI := hide hI
      clear hI hthr hrow hbs hchb h0 c6
      go_wp2_with fail
      have hk := Ext.drew W
      have l2 : w.heap.size < W.heap.size := World.block_lt_of_cell? W _ (r2 W (Ext.refl W))
      have l4 : w.heap.size + 1 < W.heap.size := by have := hIe.size; omega
      have q2 := r2 W (Ext.refl W)
      have q6 := r6 W (Ext.refl W)
      have n2 : ¬ w.heap.size = B6 := by have := sw; omega
      have q4 := r4 W (Ext.refl W)
      have q4f := r4f W (Ext.refl W)
      have nB : ¬ B6 = w.heap.size + 1 := by have := sw; omega
      have nB2 : ¬ w.heap.size + 1 = B6 := by have := sw; omega
      clear r2 r4 r4f r6
      go_region_held3 (fun w' => w'.cell? ⟨B6, 0, none⟩ = some (.slice A1 xs.length c1) ∧ w'.cell? ⟨w.heap.size, 0, none⟩ = some (.slice A l.length c)) (go_simp)
        ((go_at_call 19; refine (len_any _ _ _ _).mono ?_; rintro e w6 ⟨rfl, rfl⟩))
      go_wp2_with fail
      have hkf : ((W.setCell ⟨w.heap.size + 1, 0, none⟩ (.slice A1 xs.length c1)).alloc (Obj.cells #[.slice A l.length c] 27)).drew.heap[D]? = some (.deferred (some [])) := ((KeepsOthers.setCell W ⟨w.heap.size + 1, 0, none⟩ (.slice A1 xs.length c1)).trans (KeepsOthers.alloc _ _)).same D _ hK rfl
      have hcs : (W.setCell ⟨w.heap.size + 1, 0, none⟩ (.slice A1 xs.length c1)).cell? ⟨w.heap.size + 1, 0, none⟩ = some (.slice A1 xs.length c1) := World.cell?_setCell_same' _ _ _ (by rw [q4]; rfl)
      have hcf : ((W.setCell ⟨w.heap.size + 1, 0, none⟩ (.slice A1 xs.length c1)).alloc (Obj.cells #[.slice A l.length c] 27)).drew.cell? ⟨w.heap.size + 1, 0, none⟩ = some (.slice A1 xs.length c1) := ((Ext.alloc _ (Obj.cells #[.slice A l.length c] 27)).oldCell _ _ (World.block_lt_of_cell? _ _ hcs)).trans hcs
      have hE1 : Ext w ((W.setCell ⟨w.heap.size + 1, 0, none⟩ (.slice A1 xs.length c1)).alloc (Obj.cells #[.slice A l.length c] 27)).drew := (((HX.out.trans HI.out.ext).set (p := ⟨w.heap.size + 1, 0, none⟩) (Nat.le_succ _) _).trans (Ext.alloc _ _)).trans (Ext.drew _)
      have hR1 := ((HRW.out.set (i := 0) (u := .slice A1 xs.length c1) (HD.out W HI.out.ext) (by decide)).ext (Ext.alloc _ (Obj.cells #[.slice A l.length c] 27))).ext (Ext.drew _)
      generalize ((W.setCell ⟨w.heap.size + 1, 0, none⟩ (.slice A1 xs.length c1)).alloc (Obj.cells #[.slice A l.length c] 27)).drew = Wf at *
      have hD2 : w.heap.size ≤ D := by have := HS.out; omega
      refine ⟨by simp, .inl ⟨_, _, rfl, run_takeDeferred hkf, ?_⟩⟩
      have hc5 := cell_kept hcf (grownBy_putObj' _ D (.deferred none)) (fun r e => by cases e; exact ⟨_, hkf, rfl⟩)
      have hR2 := hR1.put (.deferred none) hkf rfl
      have hE2 : Ext w (Wf.putObj D (.deferred none)) := Below.trans hE1 (belowK_b (w := w) (Nat.le_refl _) Wf D _ (.deferred none) hD2 hkf rfl rfl)
      refine ⟨.tuple #[(Value.agg #[.slice A1 xs.length c1]), .int .i64 (drN l ch : Int)], ?_, A1, c1, ?_, ?_, hE2⟩
      · have e9 : IntKind.i64.wrap ((xs.length : Int) - (l.length : Int)) = (drN l ch : Int) := by rw [IntKind.wrap_i64]; have := HE.out; omega
        simp [results, Try.results12, go_sem, hc5, e9]
      · rw [← HXS.out]
      · rw [← HXS.out]; exact hR2
    case stop =>
      rintro D c pre W _ _ h _
      exact h.elim
end Go.Proofs.Ytnmegokppbdhdaa
