/- The document's table: Take. -/
import Derived.Test.YtpadepamknbkoaaDoorR2
namespace Go.Proofs.YtpadepamknbkoaaDoor
open Go.RowKit
set_option linter.unusedSimpArgs false
set_option linter.unusedVariables false

section
variable {w w' : World} {B R : Nat} {S : TS}
theorem fir_com {k : Nat} {v : Int} (h : FirI S 2 v) (hk : IsL S.com k) : v = (k : Int) := by
  have ha : (S.p k).a = 2 := beq_iff_eq.1 hk.2.1
  have hl := com_lt hk.2.1
  rcases h with ⟨_, h0⟩ | ⟨q, rfl, h1, h2, h3⟩
  · exact absurd ha (h0 k hl)
  · rcases Nat.lt_trichotomy q k with h | h | h
    · have := hk.2.2 q h
      unfold TS.com at this
      rw [h2] at this
      exact absurd this (by decide)
    · rw [h]
    · exact absurd ha (h3 k h)
theorem fir_none {v : Int} (h : FirI S 2 v) (hk : ∀ j, S.com j = false) : v = -1 := by
  rcases h with ⟨e, _⟩ | ⟨q, rfl, h1, h2, h3⟩
  · exact e
  · have := hk q
    unfold TS.com at this
    rw [h2] at this
    exact absurd this (by decide)
theorem fir_m {v : Int} (h : FirI S 0 v) (ok : Ok S) (hl : S.m < S.L.length) : v = (S.m : Int) := by
  have ha : (S.p S.m).a = 0 := (ok.un S.m hl).2 (Nat.le_refl _)
  rcases h with ⟨_, h0⟩ | ⟨q, rfl, h1, h2, h3⟩
  · exact absurd ha (h0 S.m hl)
  · have h4 := (ok.un q h1).1 h2
    rcases Nat.lt_or_ge S.m q with h | h
    · exact absurd ha (h3 S.m h)
    · omega
theorem fir_full {v : Int} (h : FirI S 0 v) (ok : Ok S) (hl : S.m = S.L.length) : v = -1 := by
  rcases h with ⟨e, _⟩ | ⟨q, rfl, h1, h2, h3⟩
  · exact e
  · have h4 := (ok.un q h1).1 h2
    omega
theorem grow_L (ok : Ok S) (hl : S.m < S.L.length) : ((setsL S ((List.range (S.en - S.m)).map (S.m + ·))).set S.m ((S.p S.m).to 1)).L = (S.grow.set S.m ((S.p S.m).to 1)).L := by
  have hf := sets_facts ((List.range (S.en - S.m)).map (S.m + ·)) S
  obtain ⟨e1, e2⟩ := ok.en1 hl
  apply L_ext
  · rw [TS.len_set, TS.len_set, hf.1, len_grow]
  · intro i hi
    rw [TS.len_set, len_grow] at hi
    by_cases e : i = S.m
    · subst e
      rw [TS.p_self _ _ (by rw [hf.1]; exact hl), TS.p_self _ _ (by rw [len_grow]; exact hl)]
    · rw [TS.p_other _ _ e, TS.p_other _ _ e, sets_p _ S i hi, p_grow]
      by_cases q : S.m ≤ i ∧ i < S.en ∧ i < S.L.length
      · rw [if_pos q, if_pos (List.mem_map.2 ⟨i - S.m, List.mem_range.2 (by omega), by omega⟩)]
      · rw [if_neg q, if_neg (fun hm => by
          obtain ⟨d, hd, e2⟩ := List.mem_map.1 hm
          have := List.mem_range.1 hd
          omega)]
set_option maxRecDepth 100000 in
theorem rtake_any {z a g er : Int} {S' : TS} (hk : Tk S z a g er S') (h : RefT w B R S) (ok : Ok S) (hN : S.N ≤ 1000) :
    Calls Tryd.prog 16 #[.pointer (some ⟨R, 0, none⟩), .int .i64 z] w fun e w' => e = .returned (.tuple #[.int .i64 a, .int .u32 g, .int .i64 er]) ∧ RefT w' B R S' ∧ Kp TR B w w' := by
  have hn1 := ok.n1
  have hlen := mine_len S z ok
  cases hk with
  | own r0 k hm =>
    have hmem := ok.mem.1 (show k ∈ S.mine z by rw [hm]; simp)
    have hz := (ok.ow k hmem.2.1)
    rw [hmem.2.2] at hz
    have I : isT z = true := by unfold isT; simp; omega
    rw [hm] at hlen
    have hl1 : (r0 ++ [k]).length = r0.length + 1 := by simp
    rw [hl1] at hlen
    have hkl := hide hmem.1
    have h0 := h
    have M1 := rmine_any (w := w) (B := B) (R := R) (S := S) z h ok hN
    rw [hm, hl1] at M1
    clear hz hmem hm hl1
    go_enter Tryd.func16, Tryd.ntmps16
    go_wp2_with fail
    refine (ris_any z w).mono ?_
    rw [I]
    rintro e w1 ⟨rfl, rfl⟩
    go_wp2_with fail
    refine M1.mono ?_
    rintro e w2 ⟨v, rfl, hown, hx⟩
    obtain ⟨g2, c2, rfl, rr⟩ := own_atN3 hown (by simp) (j := r0.length) (q := k) (by simp)
    have y0 := rr w2 (Ext.refl w2)
    have hr := h0.ext hx
    have hkx := hx.kp TR B
    have D : decide ((k : Int) < 0) = false := by simp
    clear rr hown M1 h0 h hx
    obtain ⟨r, c, q1, q2, q3, q4, q5⟩ := hr.putA (k := k) 1 (hkl.out)
    have H4 := hide (And.intro q4 q5)
    have z1 := q1 w2 (Ext.refl _)
    have x1 := q3 w2 (Ext.refl _)
    have f1 := q2 w2 (Ext.refl _)
    clear q1 q2 q3 q4 q5 hr
    go_wp2_with fail
    clear z1 x1 f1
    obtain ⟨hr, hc2⟩ := H4.out
    generalize w2.setCell ⟨r, (k) * 4, none⟩ (.int .i64 1) = w8 at *
    obtain ⟨r, c, q1, q2⟩ := hr.at_ (k := k)
    have y1 := (q1 w8 (Ext.refl w8)).2.2
    have y2 := (q2 (by rw [TS.len_set]; exact hkl.out) w8 (Ext.refl w8)).2.2.2
    rw [TS.len_set] at y1
    rw [TS.p_self _ _ (hkl.out), to_g] at y2
    have hk3 := hkl.out
    have HR := hide hr
    clear q1 q2 hr H4
    go_region
    clear y1 y2
    go_wp2_with fail
    refine bodyPost_ret (v := .tuple #[.int .i64 (k : Int), .int .u32 (S.p k).g, .int .i64 0]) (by simp [results, Tryd.results16, go_sem, *]) rfl ?_
    exact ⟨rfl, HR.out.ext (Ext.drew _), (hkx.trans hc2).trans ((Ext.drew _).kp _ _)⟩
  | com k hz hm hc =>
    have I : isT z = true := by unfold isT; simp; omega
    have ha : (S.p k).a = 2 := beq_iff_eq.1 hc.2.1
    have hkl := hide (ok.lt (i := k) (by omega)).2
    have M1 := rmine_any (w := w) (B := B) (R := R) (S := S) z h ok hN
    rw [hm, List.length_nil] at M1
    have HC := hide hc
    clear hm ha hc hlen
    go_enter Tryd.func16, Tryd.ntmps16
    go_wp2_with fail
    refine (ris_any z w).mono ?_
    rw [I]
    rintro e w1 ⟨rfl, rfl⟩
    go_wp2_with fail
    refine M1.mono ?_
    rintro e w2 ⟨v, rfl, hown, hx⟩
    obtain ⟨A2, c2, rfl⟩ := own_sl hown
    have hr := h.ext hx
    have hkx := hx.kp TR B
    clear hown M1 h hx
    go_wp2_with fail
    refine (rfirst_any 2 hr ok).mono ?_
    rintro e w3 ⟨v, rfl, hf, rfl⟩
    obtain rfl := fir_com hf HC.out
    clear hf
    have D : decide ((k : Int) < 0) = false := by simp
    obtain ⟨r, c, q1, q2, q3, q4, q5⟩ := hr.putA (k := k) 1 (hkl.out)
    have H4 := hide (And.intro q4 q5)
    have z1 := q1 w2 (Ext.refl _)
    have x1 := q3 w2 (Ext.refl _)
    have f1 := q2 w2 (Ext.refl _)
    clear q1 q2 q3 q4 q5 hr
    go_wp2_with fail
    clear z1 x1 f1
    obtain ⟨hr, hc2⟩ := H4.out
    generalize w2.setCell ⟨r, (k) * 4, none⟩ (.int .i64 1) = w8 at *
    obtain ⟨r, c, q1, q2⟩ := hr.at_ (k := k)
    have y1 := (q1 w8 (Ext.refl w8)).2.2
    have y2 := (q2 (by rw [TS.len_set]; exact hkl.out) w8 (Ext.refl w8)).2.2.2
    rw [TS.len_set] at y1
    rw [TS.p_self _ _ (hkl.out), to_g] at y2
    have hk3 := hkl.out
    have HR := hide hr
    clear q1 q2 hr H4
    go_region
    clear y1 y2
    go_wp2_with fail
    refine bodyPost_ret (v := .tuple #[.int .i64 (k : Int), .int .u32 (S.p k).g, .int .i64 0]) (by simp [results, Tryd.results16, go_sem, *]) rfl ?_
    exact ⟨rfl, HR.out.ext (Ext.drew _), (hkx.trans hc2).trans ((Ext.drew _).kp _ _)⟩
  | grow hz hm hc hl =>
    have I : isT z = true := by unfold isT; simp; omega
    have M1 := rmine_any (w := w) (B := B) (R := R) (S := S) z h ok hN
    rw [hm, List.length_nil] at M1
    have HC := hide hc
    have HE := hide (grow_L ok hl)
    obtain ⟨e1, e2⟩ := ok.en1 hl
    have hen : S.en = min (S.m + S.b) S.L.length := rfl
    have hb := ok.b1
    have hg0 := hide (ok.gu S.m ((ok.un S.m hl).2 (Nat.le_refl _)))
    have HEN := hide hen
    clear hm hc hlen hen
    go_enter Tryd.func16, Tryd.ntmps16
    go_wp2_with fail
    refine (ris_any z w).mono ?_
    rw [I]
    rintro e w1 ⟨rfl, rfl⟩
    go_wp2_with fail
    refine M1.mono ?_
    rintro e w2 ⟨v, rfl, hown, hx⟩
    obtain ⟨A2, c2, rfl⟩ := own_sl hown
    have hr := h.ext hx
    have hkx := hx.kp TR B
    clear hown M1 h hx
    go_wp2_with fail
    refine (rfirst_any 2 hr ok).mono ?_
    rintro e w3 ⟨v, rfl, hf, rfl⟩
    obtain rfl := fir_none hf HC.out
    clear hf
    go_wp2_with fail
    refine (rfirst_any 0 hr ok).mono ?_
    rintro e w3 ⟨v, rfl, hf, rfl⟩
    obtain rfl := fir_m hf ok hl
    clear hf
    have D : decide ((S.m : Int) < 0) = false := by simp
    go_wp2_with fail
    go_loopw [9] (fun i wr => ∃ d : Nat, d ≤ S.en - S.m ∧ i = .int .i64 (d : Int) ∧ RefT wr B R (setsL S ((List.range d).map (S.m + ·))) ∧ Kp TR B w wr) (fun i _ => S.en - S.m - (intOf i).toNat)
    case atStart => exact ⟨0, by omega, rfl, hr, hkx⟩
    case round =>
      clear hr hkx
      obtain ⟨d, hd, rfl, hr, hkx⟩ := hrel
      have hf := sets_facts ((List.range d).map (S.m + ·)) S
      by_cases hlt : d < S.en - S.m
      · have hen := HEN.out
        have t1 : d < S.b := by omega
        have t2 : S.m + d < S.L.length := by omega
        clear hen
        obtain ⟨r, c, q1, q2, q3, q4, q5⟩ := hr.putA (k := S.m + d) 2 (by rw [hf.1]; exact t2)
        obtain ⟨r', c', p1, _⟩ := hr.at_ (k := 0)
        have hs := sets_snoc S ((List.range d).map (S.m + ·)) (S.m + d)
        rw [show (List.range d).map (S.m + ·) ++ [S.m + d] = (List.range (d + 1)).map (S.m + ·) by rw [List.range_succ, List.map_append]; rfl] at hs
        rw [← hs] at q4
        have H4 := hide (And.intro q4 (hkx.trans q5))
        rw [hf.1] at q1
        have z0 := (p1 wr (Ext.refl _)).1
        rw [hf.2.1] at z0
        have z1 := q1 wr (Ext.refl _)
        have x1 := q3 wr (Ext.refl _)
        have f1 := q2 wr (Ext.refl _)
        clear q1 q2 q3 q4 q5 p1 hs hf hr hkx
        generalize (setsL S ((List.range d).map (S.m + ·))).p (S.m + d) = pp at *
        go_wp2_with fail
        go_roundw
        case rel => exact ⟨d + 1, by omega, by go_num, H4.out.1, H4.out.2⟩
        case measure => simp [intOf]; omega
      · obtain rfl : d = S.en - S.m := by omega
        have hkl := hide (show S.m < (setsL S ((List.range (S.en - S.m)).map (S.m + ·))).L.length by rw [hf.1]; exact hl)
        have hpm := sets_p ((List.range (S.en - S.m)).map (S.m + ·)) S S.m hl
        rw [if_pos (List.mem_map.2 ⟨0, List.mem_range.2 (by omega), by omega⟩)] at hpm
        obtain ⟨r', c', p1, _⟩ := hr.at_ (k := 0)
        have z0 := (p1 wr (Ext.refl _)).1
        rw [hf.2.1] at z0
        have HF := hide hf
        have hen := HEN.out
        have hbb : (setsL S ((List.range (S.en - S.m)).map (S.m + ·))).L.length = S.L.length := hf.1
        have HE2 := hide (show ∀ w9, RefT w9 B R ((setsL S ((List.range (S.en - S.m)).map (S.m + ·))).set S.m (((setsL S ((List.range (S.en - S.m)).map (S.m + ·))).p S.m).to 1)) → RefT w9 B R (S.grow.set S.m ((S.p S.m).to 1)) from fun w9 h9 => by
          rw [hpm] at h9
          exact h9.eq (S' := S.grow.set S.m ((S.p S.m).to 1)) HE.out.symm hf.2.1.symm hf.2.2.symm)
        have HG := hide (show ((setsL S ((List.range (S.en - S.m)).map (S.m + ·))).p S.m).g = (S.p S.m).g by rw [hpm]; rfl)
        clear hf hpm p1
        generalize setsL S ((List.range (S.en - S.m)).map (S.m + ·)) = S0 at *
        by_cases hdb : S.en - S.m < S.b
        · have u1 : ¬ ((S.m : Int) + ((S.en - S.m : Nat) : Int) < (S0.L.length : Int)) := by omega
          have HBB := hide hbb
          clear hen hbb HF
          obtain ⟨r, c, q1, q2, q3, q4, q5⟩ := hr.putA (k := S.m) 1 (hkl.out)
          have H4 := hide (And.intro q4 q5)
          have z1 := q1 wr (Ext.refl _)
          have x1 := q3 wr (Ext.refl _)
          have f1 := q2 wr (Ext.refl _)
          clear q1 q2 q3 q4 q5 hr
          go_wp2_with fail
          clear z1 x1 f1
          obtain ⟨hr, hc2⟩ := H4.out
          generalize wr.setCell ⟨r, (S.m) * 4, none⟩ (.int .i64 1) = w8 at *
          obtain ⟨r, c, q1, q2⟩ := hr.at_ (k := S.m)
          have y1 := (q1 w8 (Ext.refl w8)).2.2
          have y2 := (q2 (by rw [TS.len_set]; exact hkl.out) w8 (Ext.refl w8)).2.2.2
          rw [TS.len_set] at y1
          rw [TS.p_self _ _ (hkl.out), to_g] at y2
          have hk3 := hkl.out
          have HR := hide hr
          clear q1 q2 hr H4
          go_region
          clear y1 y2
          go_wp2_with fail
          rw [HG.out]
          refine bodyPost_ret (v := .tuple #[.int .i64 (S.m : Int), .int .u32 (S.p S.m).g, .int .i64 0]) (by simp [results, Tryd.results16, go_sem, *]) rfl ?_
          exact ⟨rfl, (HE2.out _ HR.out).ext (Ext.drew _), (hkx.trans hc2).trans ((Ext.drew _).kp _ _)⟩
        · have HBB := hide hbb
          clear hen hbb HF
          obtain ⟨r, c, q1, q2, q3, q4, q5⟩ := hr.putA (k := S.m) 1 (hkl.out)
          have H4 := hide (And.intro q4 q5)
          have z1 := q1 wr (Ext.refl _)
          have x1 := q3 wr (Ext.refl _)
          have f1 := q2 wr (Ext.refl _)
          clear q1 q2 q3 q4 q5 hr
          go_wp2_with fail
          clear z1 x1 f1
          obtain ⟨hr, hc2⟩ := H4.out
          generalize wr.setCell ⟨r, (S.m) * 4, none⟩ (.int .i64 1) = w8 at *
          obtain ⟨r, c, q1, q2⟩ := hr.at_ (k := S.m)
          have y1 := (q1 w8 (Ext.refl w8)).2.2
          have y2 := (q2 (by rw [TS.len_set]; exact hkl.out) w8 (Ext.refl w8)).2.2.2
          rw [TS.len_set] at y1
          rw [TS.p_self _ _ (hkl.out), to_g] at y2
          have hk3 := hkl.out
          have HR := hide hr
          clear q1 q2 hr H4
          go_region
          clear y1 y2
          go_wp2_with fail
          rw [HG.out]
          refine bodyPost_ret (v := .tuple #[.int .i64 (S.m : Int), .int .u32 (S.p S.m).g, .int .i64 0]) (by simp [results, Tryd.results16, go_sem, *]) rfl ?_
          exact ⟨rfl, (HE2.out _ HR.out).ext (Ext.drew _), (hkx.trans hc2).trans ((Ext.drew _).kp _ _)⟩
  | out hz hm hc hl =>
    have I : isT z = true := by unfold isT; simp; omega
    have M1 := rmine_any (w := w) (B := B) (R := R) (S := S) z h ok hN
    rw [hm, List.length_nil] at M1
    have HC := hide hc
    have HL := hide hl
    clear hm hc hlen hl
    go_enter Tryd.func16, Tryd.ntmps16
    go_wp2_with fail
    refine (ris_any z w).mono ?_
    rw [I]
    rintro e w1 ⟨rfl, rfl⟩
    go_wp2_with fail
    refine M1.mono ?_
    rintro e w2 ⟨v, rfl, hown, hx⟩
    obtain ⟨A2, c2, rfl⟩ := own_sl hown
    have hr := h.ext hx
    have hkx := hx.kp TR B
    clear hown M1 h hx
    go_wp2_with fail
    refine (rfirst_any 2 hr ok).mono ?_
    rintro e w3 ⟨v, rfl, hf, rfl⟩
    obtain rfl := fir_none hf HC.out
    clear hf
    go_wp2_with fail
    refine (rfirst_any 0 hr ok).mono ?_
    rintro e w3 ⟨v, rfl, hf, rfl⟩
    obtain rfl := fir_full hf ok HL.out
    clear hf
    go_wp2_with fail
    go_loopw [9] (fun i wr => i = .int .i64 0 ∧ wr = w2) (fun i _ => 0)
    case atStart => exact ⟨rfl, rfl⟩
    case round =>
      obtain ⟨rfl, rfl⟩ := hrel
      go_wp2_with fail
      refine bodyPost_ret (v := .tuple #[.int .i64 0, .int .u32 0, .int .i64 11]) (by simp [results, Tryd.results16, go_sem, *]) rfl ?_
      exact ⟨rfl, hr, hkx⟩
  | arg hz =>
    have I : isT z = false := by unfold isT; simp; omega
    go_enter Tryd.func16, Tryd.ntmps16
    go_wp2_with fail
    refine (ris_any z w).mono ?_
    rw [I]
    rintro e w1 ⟨rfl, rfl⟩
    go_wp2_with fail
    refine bodyPost_ret (v := .tuple #[.int .i64 0, .int .u32 0, .int .i64 1]) (by simp [results, Tryd.results16, go_sem, *]) rfl ?_
    exact ⟨rfl, h, Kp.refl _ _ _⟩
end
end Go.Proofs.YtpadepamknbkoaaDoor
