/-
  A law of layer 3 holds of every input: CellStays. No condition.
-/
import Derived.Test.YtlmlkclpfjbedaaC7
import Derived.Deep.RegionHeld3
namespace Go.Proofs.Ytlmlkclpfjbedaa
open Go.ChangeShapes Go.WideShapes Go.ChangeAt Go.RowKit Go.Deep Go.Joins
set_option linter.unusedVariables false
set_option linter.unusedSimpArgs false

theorem all_n (M V : Nat) (acc : Int) (ws : List Int) (w : World) (n : Nat) (h : MemT w M V acc ws) (hn : ws.length = n) :
    Calls Try.prog 20 #[.pointer (some ⟨M, 0, none⟩)] w fun e w' => ∃ g, e = .returned (.slice (some ⟨g, 0, none⟩) n n) ∧ Blk w' g (wc ws) 32 ∧ g ∉ [M, V] ∧ Ext w w' := by
  subst hn
  refine (all_any M V acc ws w h).mono fun e w' ⟨g, he, hb, hg, hx⟩ => ⟨g, he, hb, ?_, hx⟩
  have h1 := h.m.lt
  have h2 := h.v.lt
  simp; omega
theorem wc_nth {ws : List Int} {k : Nat} (h : k < ws.length) : (wc ws)[k]? = some (.int .u64 (nth ws k)) := by
  unfold wc nth
  simp [h]
/-- What the law asks of a round. -/
structure Kept (ws ws2 : List Int) (a x : Int) (ok : Bool) : Prop where
  len : ws2.length = ws.length
  got : ok = true → lookI ws2 a = x
  far : ∀ k : Nat, k < ws.length → ((k : Int) ≠ a ∨ ok = false) → nth ws2 k = nth ws k
theorem nth_set (ws : List Int) (a x : Int) (k : Nat) (h : (k : Int) ≠ a) : nth (setI ws a x) k = nth ws k := by
  unfold setI nth
  by_cases h0 : 0 ≤ a
  · rw [if_pos h0]
    have : a.toNat ≠ k := by omega
    simp [List.getD_eq_getElem?_getD, List.getElem?_set, this]
  · rw [if_neg h0]
theorem look_set {ws : List Int} {a x : Int} (h : hasB ws a = true) : lookI (setI ws a x) a = x := by
  obtain ⟨h0, h1⟩ := of_decide_eq_true h
  rw [lookI_set h0 h1, if_pos rfl]
theorem kept_cas (ws : List Int) (a o x : Int) : Kept ws (casL ws a o x) a x (casB ws a o) := by
  refine ⟨casL_len _ _ _ _, fun h => ?_, fun k hk h => ?_⟩
  · unfold casL; rw [if_pos h]; unfold casB at h; rw [Bool.and_eq_true] at h; exact look_set h.1
  · unfold casL
    cases hc : casB ws a o
    · rfl
    · rw [if_pos rfl]
      rcases h with h | h
      · exact nth_set _ _ _ _ h
      · rw [hc] at h; cases h
theorem kept_store (ws : List Int) (a o x : Int) : Kept ws (setI (casL ws a o x) a x) a x (hasB (casL ws a o x) a) := by
  refine ⟨by rw [setI_len, casL_len], fun h => look_set h, fun k hk h => ?_⟩
  rcases h with h | h
  · rw [nth_set _ _ _ _ h]
    exact (kept_cas ws a o x).far k hk (.inl h)
  · have h1 := of_decide_eq_false h
    rw [setI_no h1]
    refine (kept_cas ws a o x).far k hk (.inr ?_)
    unfold casB
    rw [hasB_no (by rw [casL_len] at h1; exact h1)]
    rfl

set_option maxRecDepth 100000 in
set_option maxHeartbeats 1000000 in
theorem lstays_any (C : Int) (A : Option Addr) (n c : Nat) (f : Nat → Stp) (w : World) (hC0 : 0 ≤ C) (hC1 : C ≤ 255) (hn : n ≤ c) (hc : c ≤ maxLen) (hs : Stps w w.heap.size A n f) (hf : ∀ k, k < n → Okst (f k)) :
    Calls Try.prog 4 #[.int .u8 C, .slice A n c] w fun e w' => e = .returned (.bool true) ∧ Ext w w' := by
  have HF := hide hf
  clear hf
  go_enter Try.func4, Try.ntmps4
  go_wp2_with fail
  refine (new_i (C + 1) _ (by omega) (by omega)).mono ?_
  rintro e w1 ⟨M, V, rfl, hm, hM, hV, hX⟩
  have HT := hide (low_MV hM hV)
  have hz : (zeros (C + 1).toNat).length = (C + 1).toNat := by simp [zeros]
  have HZ := hide hz
  clear hM hV hz
  go_wp2_with fail
  refine (short_any A n c _ hn hc).mono ?_
  rintro e w2 ⟨rfl, hx⟩
  have hm := hm.ext hx
  have hX := hX.trans hx
  clear hx
  go_wp2_with fail
  obtain ⟨N, hN⟩ : ∃ N, N = (C + 1).toNat := ⟨_, rfl⟩
  rw [← hN] at HZ hm
  have hN2 : N ≤ 256 := by omega
  clear hN
  go_loopw [30] (fun i wr => ∃ (j : Nat) (acc : Int) (ws : List Int), j ≤ min n 200 ∧ i = .int .i64 j ∧ MemT wr M V acc ws ∧ ws.length = N ∧ Ext w wr) (fun i _ => min n 200 - (intOf i).toNat)
  case atStart => exact ⟨0, 0, _, by omega, rfl, hm, HZ.out, hX⟩
  case round =>
    clear hm hX
    obtain ⟨j, acc, ws, hj, rfl, hm, hl, hX⟩ := hrel
    have HL := hide hl
    clear hl
    by_cases hlt : j < min n 200
    · have hj2 : j < n := by omega
      obtain ⟨b, off, rfl, hb, r0, r1, r2, r3⟩ := (hs.chg hX (Nat.le_refl _)).rules hj2
      have hk := HF.out j hj2
      have k0 := hk.k0
      have k1 := hk.k1
      have a0 := hk.a0
      have a1 := hk.a1
      have HS := hide (far_MV hm)
      have bs := Blk.new wr #[.int .u8 (f j).k, .int .i64 (f j).a, .int .u64 (f j).o, .int .u64 (f j).x] 34
      have rs := bs.ruleC HS.out
      have hm := hm.ext (Ext.alloc wr (.cells #[.int .u8 (f j).k, .int .i64 (f j).a, .int .u64 (f j).o, .int .u64 (f j).x] 34))
      have hX := hX.trans (Ext.alloc wr (.cells #[.int .u8 (f j).k, .int .i64 (f j).a, .int .u64 (f j).o, .int .u64 (f j).x] 34))
      have hV := Chg.refl [M, V] (wr.alloc (.cells #[.int .u8 (f j).k, .int .i64 (f j).a, .int .u64 (f j).o, .int .u64 (f j).x] 34))
      clear bs hk
      go_wp2_with fail
      refine (all_n _ _ _ _ _ N hm HL.out).mono ?_
      rintro e w3 ⟨g, rfl, hg, hgn, hx⟩
      have hm := hm.ext hx; have hX := hX.trans hx; have hV := hV.trans (hx.chg _); clear hx
      have HG := hide hgn
      clear hgn
      have W3 := Chg.refl [M, V] w3
      go_wp2_with fail
      refine (cas_any _ _ _ _ _ (f j).o (f j).x _ hm).mono ?_
      rintro e w4 ⟨rfl, hm, hc⟩
      have hX := hX.turn hc HT.out; have hV := hV.trans hc; have W3 := W3.trans hc; clear hc
      have HK1 := hide (kept_cas ws (f j).a (f j).o (f j).x)
      have HK2 := hide (kept_store ws (f j).a (f j).o (f j).x)
      cases hp : ((f j).k % 2 == 1)
      · have K := HK1.out
        generalize casL ws (f j).a (f j).o (f j).x = ws2 at hm K
        generalize casB ws (f j).a (f j).o = ok at K ⊢
        have HK := hide K
        clear K HK1 HK2
        cases ok
        · go_wp2_with fail
          refine (all_n _ _ _ _ _ N hm (HK.out.len.trans HL.out)).mono ?_
          rintro e w5 ⟨g2, rfl, hg2, hgn2, hx⟩
          have hm := hm.ext hx; have hX := hX.trans hx; have hV := hV.trans (hx.chg _); have W3 := W3.trans (hx.chg _); clear hx
          have HG2 := hide hgn2
          clear hgn2
          have hg1 := hg.chg W3 HG.out
          have W5 := Chg.refl [M, V] w5
          go_wp2_with fail
          refine wp_region_ext (by kernel_rfl) (by kernel_rfl) ?_
          repeat
            with_reducible refine wpQuiet_step (fun K hK => ?_)
            go_simp
            first
            | (refine hK _ ?_; clear hK K)
            | (apply Exists.intro
               refine ⟨fun w1 h1 => ?_, hK _ ?_⟩
               (have hV := hV.trans (h1.chg _); have W5 := W5.trans (h1.chg _); (first | rfl | (go_simp; done) | (go_simp; rfl)))
               clear hK K)
          refine wpQuiet_nil (fun w' hw' => ?_)
          have hm := hm.ext hw'; have hX := hX.trans hw'; have hV := hV.trans (hw'.chg _); have W5 := W5.trans (hw'.chg _); clear hw'
          have q1 : ∀ w', Chg [M, V] w5 w' → ∀ k, k < N → w'.cell? ⟨g, k, none⟩ = some (.int .u64 (nth ws k)) := fun w' h k hk => (hg1.ruleC HG.out w' h k).trans (wc_nth (by rw [HL.out]; exact hk))
          have q2 : ∀ w', Chg [M, V] w5 w' → ∀ k, k < N → w'.cell? ⟨g2, k, none⟩ = some (.int .u64 (nth ws2 k)) := fun w' h k hk => (hg2.ruleC HG2.out w' h k).trans (wc_nth (by rw [HK.out.len, HL.out]; exact hk))
          clear hg hg1 hg2
          go_wp2_with fail
          go_loopw [78] (fun i wq => ∃ (k : Nat), k ≤ N ∧ i = .int .i64 k ∧ MemT wq M V _ ws2 ∧ Ext w wq ∧ Chg [M, V] (wr.alloc (.cells #[.int .u8 (f j).k, .int .i64 (f j).a, .int .u64 (f j).o, .int .u64 (f j).x] 34)) wq ∧ Chg [M, V] w5 wq) (fun i _ => N - (intOf i).toNat)
          case atStart => exact ⟨0, by omega, rfl, hm, hX, hV, W5⟩
          case round =>
            clear hm hX hV W5
            obtain ⟨k, hk, rfl, hm, hX, hV, W5⟩ := hrel
            by_cases hlk : k < N
            · by_cases hne : (k : Int) = (f j).a
              · have t1 : ((k : Int) != (f j).a) = false := by rw [hne]; simp
                have HNE := hide hne
                clear hne
                have e1 : (nth ws2 k != nth ws k) = false := by rw [HK.out.far k (by rw [HL.out]; exact hlk) (.inr rfl)]; simp
                go_wp2_with fail
                refine wp_region_ext (by kernel_rfl) (by kernel_rfl) ?_
                repeat
                  with_reducible refine wpQuiet_step (fun K hK => ?_)
                  go_simp
                  first
                  | (refine hK _ ?_; clear hK K)
                  | (apply Exists.intro
                     refine ⟨fun w1 h1 => ?_, hK _ ?_⟩
                     (have hV := hV.trans (h1.chg _); have W5 := W5.trans (h1.chg _); (first | rfl | (go_simp; done) | (go_simp; rfl)))
                     clear hK K)
                refine wpQuiet_nil (fun w' hw' => ?_)
                have hm := hm.ext hw'; have hX := hX.trans hw'; have hV := hV.trans (hw'.chg _); have W5 := W5.trans (hw'.chg _); clear hw'
                go_wp2_with fail
                go_roundw
                case rel => exact ⟨k + 1, by omega, by go_num, hm, hX, hV, W5⟩
                case measure => simp [intOf]; omega
              · have t1 : ((k : Int) != (f j).a) = true := by simpa using hne
                have e1 : (nth ws2 k != nth ws k) = false := by rw [HK.out.far k (by rw [HL.out]; exact hlk) (.inl hne)]; simp
                clear hne
                go_wp2_with fail
                refine wp_region_ext (by kernel_rfl) (by kernel_rfl) ?_
                repeat
                  with_reducible refine wpQuiet_step (fun K hK => ?_)
                  go_simp
                  first
                  | (refine hK _ ?_; clear hK K)
                  | (apply Exists.intro
                     refine ⟨fun w1 h1 => ?_, hK _ ?_⟩
                     (have hV := hV.trans (h1.chg _); have W5 := W5.trans (h1.chg _); (first | rfl | (go_simp; done) | (go_simp; rfl)))
                     clear hK K)
                refine wpQuiet_nil (fun w' hw' => ?_)
                have hm := hm.ext hw'; have hX := hX.trans hw'; have hV := hV.trans (hw'.chg _); have W5 := W5.trans (hw'.chg _); clear hw'
                go_wp2_with fail
                go_roundw
                case rel => exact ⟨k + 1, by omega, by go_num, hm, hX, hV, W5⟩
                case measure => simp [intOf]; omega
            · go_wp2_with fail
              go_roundw
              case rel => exact ⟨j + 1, _, _, by omega, by go_num, hm, HK.out.len.trans HL.out, hX⟩
              case measure => simp [intOf]; omega
        · go_wp2_with fail
          refine (all_n _ _ _ _ _ N hm (HK.out.len.trans HL.out)).mono ?_
          rintro e w5 ⟨g2, rfl, hg2, hgn2, hx⟩
          have hm := hm.ext hx; have hX := hX.trans hx; have hV := hV.trans (hx.chg _); have W3 := W3.trans (hx.chg _); clear hx
          have HG2 := hide hgn2
          clear hgn2
          have hg1 := hg.chg W3 HG.out
          have W5 := Chg.refl [M, V] w5
          have HGT := hide (HK.out.got rfl)
          have s1 : ∀ w', Chg [M, V] (wr.alloc (.cells #[.int .u8 (f j).k, .int .i64 (f j).a, .int .u64 (f j).o, .int .u64 (f j).x] 34)) w' → w'.cell? ⟨wr.heap.size, 1, none⟩ = some (.int .i64 (f j).a) := fun w' h => rs w' h 1
          have s3 : ∀ w', Chg [M, V] (wr.alloc (.cells #[.int .u8 (f j).k, .int .i64 (f j).a, .int .u64 (f j).o, .int .u64 (f j).x] 34)) w' → w'.cell? ⟨wr.heap.size, 3, none⟩ = some (.int .u64 (f j).x) := fun w' h => rs w' h 3
          go_wp2_with fail
          go_region_held3 (fun w' => w'.cell? ⟨wr.heap.size, 1, none⟩ = some (.int .i64 (f j).a) ∧ w'.cell? ⟨wr.heap.size, 3, none⟩ = some (.int .u64 (f j).x)) (first | exact ⟨s1 _ hV, s3 _ hV⟩ | exact ⟨s1 _ (hV.trans (Chg.drew _ _)), s3 _ (hV.trans (Chg.drew _ _))⟩) (first | (go_at_call 10; refine (load_any _ _ _ _ _ _ (hm.ext (Ext.drew _))).mono ?_; rintro e w' ⟨rfl, hm, hc⟩; have hX := (hX.trans (Ext.drew _)).turn hc HT.out; have hV := (hV.trans (Chg.drew _ _)).trans hc; have W5 := (W5.trans (Chg.drew _ _)).trans hc; clear hc; rw [HGT.out]))
          clear s1 s3
          have q1 : ∀ w', Chg [M, V] w5 w' → ∀ k, k < N → w'.cell? ⟨g, k, none⟩ = some (.int .u64 (nth ws k)) := fun w' h k hk => (hg1.ruleC HG.out w' h k).trans (wc_nth (by rw [HL.out]; exact hk))
          have q2 : ∀ w', Chg [M, V] w5 w' → ∀ k, k < N → w'.cell? ⟨g2, k, none⟩ = some (.int .u64 (nth ws2 k)) := fun w' h k hk => (hg2.ruleC HG2.out w' h k).trans (wc_nth (by rw [HK.out.len, HL.out]; exact hk))
          clear hg hg1 hg2
          go_wp2_with fail
          go_loopw [78] (fun i wq => ∃ (k : Nat), k ≤ N ∧ i = .int .i64 k ∧ MemT wq M V _ ws2 ∧ Ext w wq ∧ Chg [M, V] (wr.alloc (.cells #[.int .u8 (f j).k, .int .i64 (f j).a, .int .u64 (f j).o, .int .u64 (f j).x] 34)) wq ∧ Chg [M, V] w5 wq) (fun i _ => N - (intOf i).toNat)
          case atStart => exact ⟨0, by omega, rfl, hm, hX, hV, W5⟩
          case round =>
            clear hm hX hV W5
            obtain ⟨k, hk, rfl, hm, hX, hV, W5⟩ := hrel
            by_cases hlk : k < N
            · by_cases hne : (k : Int) = (f j).a
              · have t1 : ((k : Int) != (f j).a) = false := by rw [hne]; simp
                have HNE := hide hne
                clear hne
                go_wp2_with fail
                refine wp_region_ext (by kernel_rfl) (by kernel_rfl) ?_
                repeat
                  with_reducible refine wpQuiet_step (fun K hK => ?_)
                  go_simp
                  first
                  | (refine hK _ ?_; clear hK K)
                  | (apply Exists.intro
                     refine ⟨fun w1 h1 => ?_, hK _ ?_⟩
                     (have hV := hV.trans (h1.chg _); have W5 := W5.trans (h1.chg _); (first | rfl | (go_simp; done) | (go_simp; rfl)))
                     clear hK K)
                refine wpQuiet_nil (fun w' hw' => ?_)
                have hm := hm.ext hw'; have hX := hX.trans hw'; have hV := hV.trans (hw'.chg _); have W5 := W5.trans (hw'.chg _); clear hw'
                go_wp2_with fail
                go_roundw
                case rel => exact ⟨k + 1, by omega, by go_num, hm, hX, hV, W5⟩
                case measure => simp [intOf]; omega
              · have t1 : ((k : Int) != (f j).a) = true := by simpa using hne
                have e1 : (nth ws2 k != nth ws k) = false := by rw [HK.out.far k (by rw [HL.out]; exact hlk) (.inl hne)]; simp
                clear hne
                go_wp2_with fail
                refine wp_region_ext (by kernel_rfl) (by kernel_rfl) ?_
                repeat
                  with_reducible refine wpQuiet_step (fun K hK => ?_)
                  go_simp
                  first
                  | (refine hK _ ?_; clear hK K)
                  | (apply Exists.intro
                     refine ⟨fun w1 h1 => ?_, hK _ ?_⟩
                     (have hV := hV.trans (h1.chg _); have W5 := W5.trans (h1.chg _); (first | rfl | (go_simp; done) | (go_simp; rfl)))
                     clear hK K)
                refine wpQuiet_nil (fun w' hw' => ?_)
                have hm := hm.ext hw'; have hX := hX.trans hw'; have hV := hV.trans (hw'.chg _); have W5 := W5.trans (hw'.chg _); clear hw'
                go_wp2_with fail
                go_roundw
                case rel => exact ⟨k + 1, by omega, by go_num, hm, hX, hV, W5⟩
                case measure => simp [intOf]; omega
            · go_wp2_with fail
              go_roundw
              case rel => exact ⟨j + 1, _, _, by omega, by go_num, hm, HK.out.len.trans HL.out, hX⟩
              case measure => simp [intOf]; omega
      · go_wp2_with fail
        refine (store_any _ _ _ _ _ (f j).x _ hm).mono ?_
        rintro e w4 ⟨rfl, hm, hc⟩
        have hX := hX.turn hc HT.out; have hV := hV.trans hc; have W3 := W3.trans hc; clear hc
        have K := HK2.out
        generalize setI (casL ws (f j).a (f j).o (f j).x) (f j).a (f j).x = ws2 at hm K
        generalize hasB (casL ws (f j).a (f j).o (f j).x) (f j).a = ok at K ⊢
        have HK := hide K
        clear K HK1 HK2
        cases ok
        · go_wp2_with fail
          refine (all_n _ _ _ _ _ N hm (HK.out.len.trans HL.out)).mono ?_
          rintro e w5 ⟨g2, rfl, hg2, hgn2, hx⟩
          have hm := hm.ext hx; have hX := hX.trans hx; have hV := hV.trans (hx.chg _); have W3 := W3.trans (hx.chg _); clear hx
          have HG2 := hide hgn2
          clear hgn2
          have hg1 := hg.chg W3 HG.out
          have W5 := Chg.refl [M, V] w5
          go_wp2_with fail
          refine wp_region_ext (by kernel_rfl) (by kernel_rfl) ?_
          repeat
            with_reducible refine wpQuiet_step (fun K hK => ?_)
            go_simp
            first
            | (refine hK _ ?_; clear hK K)
            | (apply Exists.intro
               refine ⟨fun w1 h1 => ?_, hK _ ?_⟩
               (have hV := hV.trans (h1.chg _); have W5 := W5.trans (h1.chg _); (first | rfl | (go_simp; done) | (go_simp; rfl)))
               clear hK K)
          refine wpQuiet_nil (fun w' hw' => ?_)
          have hm := hm.ext hw'; have hX := hX.trans hw'; have hV := hV.trans (hw'.chg _); have W5 := W5.trans (hw'.chg _); clear hw'
          have q1 : ∀ w', Chg [M, V] w5 w' → ∀ k, k < N → w'.cell? ⟨g, k, none⟩ = some (.int .u64 (nth ws k)) := fun w' h k hk => (hg1.ruleC HG.out w' h k).trans (wc_nth (by rw [HL.out]; exact hk))
          have q2 : ∀ w', Chg [M, V] w5 w' → ∀ k, k < N → w'.cell? ⟨g2, k, none⟩ = some (.int .u64 (nth ws2 k)) := fun w' h k hk => (hg2.ruleC HG2.out w' h k).trans (wc_nth (by rw [HK.out.len, HL.out]; exact hk))
          clear hg hg1 hg2
          go_wp2_with fail
          go_loopw [78] (fun i wq => ∃ (k : Nat), k ≤ N ∧ i = .int .i64 k ∧ MemT wq M V _ ws2 ∧ Ext w wq ∧ Chg [M, V] (wr.alloc (.cells #[.int .u8 (f j).k, .int .i64 (f j).a, .int .u64 (f j).o, .int .u64 (f j).x] 34)) wq ∧ Chg [M, V] w5 wq) (fun i _ => N - (intOf i).toNat)
          case atStart => exact ⟨0, by omega, rfl, hm, hX, hV, W5⟩
          case round =>
            clear hm hX hV W5
            obtain ⟨k, hk, rfl, hm, hX, hV, W5⟩ := hrel
            by_cases hlk : k < N
            · by_cases hne : (k : Int) = (f j).a
              · have t1 : ((k : Int) != (f j).a) = false := by rw [hne]; simp
                have HNE := hide hne
                clear hne
                have e1 : (nth ws2 k != nth ws k) = false := by rw [HK.out.far k (by rw [HL.out]; exact hlk) (.inr rfl)]; simp
                go_wp2_with fail
                refine wp_region_ext (by kernel_rfl) (by kernel_rfl) ?_
                repeat
                  with_reducible refine wpQuiet_step (fun K hK => ?_)
                  go_simp
                  first
                  | (refine hK _ ?_; clear hK K)
                  | (apply Exists.intro
                     refine ⟨fun w1 h1 => ?_, hK _ ?_⟩
                     (have hV := hV.trans (h1.chg _); have W5 := W5.trans (h1.chg _); (first | rfl | (go_simp; done) | (go_simp; rfl)))
                     clear hK K)
                refine wpQuiet_nil (fun w' hw' => ?_)
                have hm := hm.ext hw'; have hX := hX.trans hw'; have hV := hV.trans (hw'.chg _); have W5 := W5.trans (hw'.chg _); clear hw'
                go_wp2_with fail
                go_roundw
                case rel => exact ⟨k + 1, by omega, by go_num, hm, hX, hV, W5⟩
                case measure => simp [intOf]; omega
              · have t1 : ((k : Int) != (f j).a) = true := by simpa using hne
                have e1 : (nth ws2 k != nth ws k) = false := by rw [HK.out.far k (by rw [HL.out]; exact hlk) (.inl hne)]; simp
                clear hne
                go_wp2_with fail
                refine wp_region_ext (by kernel_rfl) (by kernel_rfl) ?_
                repeat
                  with_reducible refine wpQuiet_step (fun K hK => ?_)
                  go_simp
                  first
                  | (refine hK _ ?_; clear hK K)
                  | (apply Exists.intro
                     refine ⟨fun w1 h1 => ?_, hK _ ?_⟩
                     (have hV := hV.trans (h1.chg _); have W5 := W5.trans (h1.chg _); (first | rfl | (go_simp; done) | (go_simp; rfl)))
                     clear hK K)
                refine wpQuiet_nil (fun w' hw' => ?_)
                have hm := hm.ext hw'; have hX := hX.trans hw'; have hV := hV.trans (hw'.chg _); have W5 := W5.trans (hw'.chg _); clear hw'
                go_wp2_with fail
                go_roundw
                case rel => exact ⟨k + 1, by omega, by go_num, hm, hX, hV, W5⟩
                case measure => simp [intOf]; omega
            · go_wp2_with fail
              go_roundw
              case rel => exact ⟨j + 1, _, _, by omega, by go_num, hm, HK.out.len.trans HL.out, hX⟩
              case measure => simp [intOf]; omega
        · go_wp2_with fail
          refine (all_n _ _ _ _ _ N hm (HK.out.len.trans HL.out)).mono ?_
          rintro e w5 ⟨g2, rfl, hg2, hgn2, hx⟩
          have hm := hm.ext hx; have hX := hX.trans hx; have hV := hV.trans (hx.chg _); have W3 := W3.trans (hx.chg _); clear hx
          have HG2 := hide hgn2
          clear hgn2
          have hg1 := hg.chg W3 HG.out
          have W5 := Chg.refl [M, V] w5
          have HGT := hide (HK.out.got rfl)
          have s1 : ∀ w', Chg [M, V] (wr.alloc (.cells #[.int .u8 (f j).k, .int .i64 (f j).a, .int .u64 (f j).o, .int .u64 (f j).x] 34)) w' → w'.cell? ⟨wr.heap.size, 1, none⟩ = some (.int .i64 (f j).a) := fun w' h => rs w' h 1
          have s3 : ∀ w', Chg [M, V] (wr.alloc (.cells #[.int .u8 (f j).k, .int .i64 (f j).a, .int .u64 (f j).o, .int .u64 (f j).x] 34)) w' → w'.cell? ⟨wr.heap.size, 3, none⟩ = some (.int .u64 (f j).x) := fun w' h => rs w' h 3
          go_wp2_with fail
          go_region_held3 (fun w' => w'.cell? ⟨wr.heap.size, 1, none⟩ = some (.int .i64 (f j).a) ∧ w'.cell? ⟨wr.heap.size, 3, none⟩ = some (.int .u64 (f j).x)) (first | exact ⟨s1 _ hV, s3 _ hV⟩ | exact ⟨s1 _ (hV.trans (Chg.drew _ _)), s3 _ (hV.trans (Chg.drew _ _))⟩) (first | (go_at_call 10; refine (load_any _ _ _ _ _ _ (hm.ext (Ext.drew _))).mono ?_; rintro e w' ⟨rfl, hm, hc⟩; have hX := (hX.trans (Ext.drew _)).turn hc HT.out; have hV := (hV.trans (Chg.drew _ _)).trans hc; have W5 := (W5.trans (Chg.drew _ _)).trans hc; clear hc; rw [HGT.out]))
          clear s1 s3
          have q1 : ∀ w', Chg [M, V] w5 w' → ∀ k, k < N → w'.cell? ⟨g, k, none⟩ = some (.int .u64 (nth ws k)) := fun w' h k hk => (hg1.ruleC HG.out w' h k).trans (wc_nth (by rw [HL.out]; exact hk))
          have q2 : ∀ w', Chg [M, V] w5 w' → ∀ k, k < N → w'.cell? ⟨g2, k, none⟩ = some (.int .u64 (nth ws2 k)) := fun w' h k hk => (hg2.ruleC HG2.out w' h k).trans (wc_nth (by rw [HK.out.len, HL.out]; exact hk))
          clear hg hg1 hg2
          go_wp2_with fail
          go_loopw [78] (fun i wq => ∃ (k : Nat), k ≤ N ∧ i = .int .i64 k ∧ MemT wq M V _ ws2 ∧ Ext w wq ∧ Chg [M, V] (wr.alloc (.cells #[.int .u8 (f j).k, .int .i64 (f j).a, .int .u64 (f j).o, .int .u64 (f j).x] 34)) wq ∧ Chg [M, V] w5 wq) (fun i _ => N - (intOf i).toNat)
          case atStart => exact ⟨0, by omega, rfl, hm, hX, hV, W5⟩
          case round =>
            clear hm hX hV W5
            obtain ⟨k, hk, rfl, hm, hX, hV, W5⟩ := hrel
            by_cases hlk : k < N
            · by_cases hne : (k : Int) = (f j).a
              · have t1 : ((k : Int) != (f j).a) = false := by rw [hne]; simp
                have HNE := hide hne
                clear hne
                go_wp2_with fail
                refine wp_region_ext (by kernel_rfl) (by kernel_rfl) ?_
                repeat
                  with_reducible refine wpQuiet_step (fun K hK => ?_)
                  go_simp
                  first
                  | (refine hK _ ?_; clear hK K)
                  | (apply Exists.intro
                     refine ⟨fun w1 h1 => ?_, hK _ ?_⟩
                     (have hV := hV.trans (h1.chg _); have W5 := W5.trans (h1.chg _); (first | rfl | (go_simp; done) | (go_simp; rfl)))
                     clear hK K)
                refine wpQuiet_nil (fun w' hw' => ?_)
                have hm := hm.ext hw'; have hX := hX.trans hw'; have hV := hV.trans (hw'.chg _); have W5 := W5.trans (hw'.chg _); clear hw'
                go_wp2_with fail
                go_roundw
                case rel => exact ⟨k + 1, by omega, by go_num, hm, hX, hV, W5⟩
                case measure => simp [intOf]; omega
              · have t1 : ((k : Int) != (f j).a) = true := by simpa using hne
                have e1 : (nth ws2 k != nth ws k) = false := by rw [HK.out.far k (by rw [HL.out]; exact hlk) (.inl hne)]; simp
                clear hne
                go_wp2_with fail
                refine wp_region_ext (by kernel_rfl) (by kernel_rfl) ?_
                repeat
                  with_reducible refine wpQuiet_step (fun K hK => ?_)
                  go_simp
                  first
                  | (refine hK _ ?_; clear hK K)
                  | (apply Exists.intro
                     refine ⟨fun w1 h1 => ?_, hK _ ?_⟩
                     (have hV := hV.trans (h1.chg _); have W5 := W5.trans (h1.chg _); (first | rfl | (go_simp; done) | (go_simp; rfl)))
                     clear hK K)
                refine wpQuiet_nil (fun w' hw' => ?_)
                have hm := hm.ext hw'; have hX := hX.trans hw'; have hV := hV.trans (hw'.chg _); have W5 := W5.trans (hw'.chg _); clear hw'
                go_wp2_with fail
                go_roundw
                case rel => exact ⟨k + 1, by omega, by go_num, hm, hX, hV, W5⟩
                case measure => simp [intOf]; omega
            · go_wp2_with fail
              go_roundw
              case rel => exact ⟨j + 1, _, _, by omega, by go_num, hm, HK.out.len.trans HL.out, hX⟩
              case measure => simp [intOf]; omega
    · go_wp2_with fail
      refine (alive_any _).mono ?_
      rintro e w3 ⟨rfl, hx⟩
      have hX := hX.trans hx
      clear hx
      go_wp2_with fail
      go_ret
      exact ⟨rfl, hX⟩

theorem cellStays_walk {H : Type} {enc : TypeId × Value → H} (W : World) (base : Nat) (args : Array Value) (ds : List (DataW H)) (p : List MemPlace)
    (hval0 : ∀ (j : Nat) t v, Try.f4.params[j]? = some t → args[j]? = some v → Value.okWide Try.prog W .any base t v)
    (hA0 : DataW.TrodAll enc Try.prog W 0 (fun _ => true) true Try.f4.params.toList args.toList ds p) (_hlt : ∀ x ∈ p, x.block < W.heap.size) :
    Calls Try.prog 4 args W fun e W' => e = .returned (.bool true) ∧ Ext W W' := by
  have hval := hval0
  have hA := hA0
  rw [Try.params4] at hA hval
  clear hval0 hA0
  obtain ⟨v0, v1, d0, d1, p0, p1, hargs, rfl, rfl, h0, h1⟩ := trodAll_two hA
  obtain rfl : args = #[v0, v1] := by cases args; simp_all
  obtain ⟨y, rfl, rfl, rfl, wy⟩ := open_int Try.underlying5 (hval 0 5 v0 rfl rfl) h0
  obtain ⟨A, n, c, f, rfl, hn, hc, hs, hf⟩ := open_steps (hval 1 22 v1 rfl rfl) h1
  have hb := bounds_u8 wy
  exact lstays_any y A n c f W (by omega) (by omega) hn hc hs hf
set_option maxRecDepth 100000 in
theorem cellStays_lifted (os : Os) (started : os.Started) (H : Type) (enc : TypeId × Value → H) :
    ReturnsInHanded {} Try.checked os 4 .any (Rows.cellStaysSpec.pre6 enc Try.prog Try.f4 Rows.cellStaysRow.domain false) (Rows.cellStaysSpec.post enc Try.prog Try.f4 false true false false) :=
  law_lifted (fn := Try.f4) 4 os started (by kernel_rfl) Try.func4 rfl rfl Try.underlying4 (hread_of (by kernel_rfl))
    (fun l hl => by
      have hl2 : l.length = 2 := hl
      clear hl
      match l, hl2 with
      | [_, _], _ => rfl)
    (ChangeSpec.witness6 (enc := enc) (C := Try.checked) false ⟨#[], #[.int .u8 0, .slice none 0 0], []⟩ 8 (by kernel_rfl) (by kernel_rfl) (by kernel_rfl) (by kernel_rfl))
    (fun W base args ds p hval hA hlt => cellStays_walk W base args ds p hval hA hlt)
theorem cellStays_holds : Rows.CellStaysSaid :=
  OpenClaim.holds_of_wide 4 Try.f4 rfl rfl rfl rfl rfl rfl rfl ⟨rfl, rfl, rfl, rfl, rfl⟩ rfl rfl rfl rfl rfl (by kernel_rfl) Try.func4 (by kernel_rfl)
    (of_decide_eq_true (by kernel_rfl)) (by unfold Func.isWrapper; rw [if_neg (of_decide_eq_false (by kernel_rfl))]; exact ⟨rfl, rfl⟩)
    (fun os started H enc _ => cellStays_lifted os started H enc)
end Go.Proofs.Ytlmlkclpfjbedaa
