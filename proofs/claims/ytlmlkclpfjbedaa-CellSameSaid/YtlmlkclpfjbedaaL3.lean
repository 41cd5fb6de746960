/-
  A law of layer 3 holds of every input: CellSame. No condition.
-/
import Derived.Test.YtlmlkclpfjbedaaC7
namespace Go.Proofs.Ytlmlkclpfjbedaa
open Go.ChangeShapes Go.WideShapes Go.ChangeAt Go.RowKit Go.Deep Go.Joins
set_option linter.unusedVariables false
set_option linter.unusedSimpArgs false

def inc (x : Int) : Int := IntKind.u64.wrap (x + 1)
def incL (ws : List Int) (k : Nat) : List Int := (ws.take k).map inc ++ ws.drop k
theorem all_m (M V : Nat) (acc : Int) (ws : List Int) (w : World) (n : Nat) (h : MemT w M V acc ws) (hn : ws.length = n) :
    Calls Try.prog 20 #[.pointer (some ⟨M, 0, none⟩)] w fun e w' => ∃ g, e = .returned (.slice (some ⟨g, 0, none⟩) n n) ∧ Blk w' g (wc ws) 32 ∧ w.heap.size ≤ g ∧ Ext w w' := by
  subst hn
  exact all_any M V acc ws w h
theorem wc_nth' {ws : List Int} {k : Nat} (h : k < ws.length) : (wc ws)[k]? = some (.int .u64 (nth ws k)) := by
  unfold wc nth
  simp [h]
theorem incL_len (ws : List Int) (k : Nat) : (incL ws k).length = ws.length := by unfold incL; simp; omega
theorem incL_at (ws : List Int) (k : Nat) (h : k < ws.length) : nth (incL ws k) k = nth ws k := by
  unfold incL nth
  have e : ((ws.take k).map inc).length = k := by simp; omega
  simp only [List.getD_eq_getElem?_getD]
  rw [List.getElem?_append_right (by omega), e, Nat.sub_self, List.getElem?_drop, Nat.add_zero]
theorem incL_succ (ws : List Int) (k : Nat) (h : k < ws.length) : (wc (incL ws k)).setIfInBounds k (.int .u64 (inc (nth ws k))) = wc (incL ws (k + 1)) := by
  have e : ((ws.take k).map inc).length = k := by simp; omega
  have e2 : (incL ws k).set k (inc (nth ws k)) = incL ws (k + 1) := by
    unfold incL
    rw [List.set_append_right _ _ (by omega), e, Nat.sub_self, List.drop_eq_getElem_cons h, List.set_cons_zero, List.take_succ_eq_append_getElem h, List.map_append, List.append_assoc]
    simp [nth, h]
  rw [← e2]
  unfold wc
  simp
theorem incL_zero (ws : List Int) : incL ws 0 = ws := by simp [incL]
theorem incL_first (ws : List Int) (h : 1 ≤ ws.length) : nth (incL ws ws.length) 0 = inc (nth ws 0) := by
  unfold incL nth
  match ws, h with
  | x :: r, _ => simp
theorem look_nth (ws : List Int) (k : Nat) : lookI ws k = nth ws k := by
  unfold lookI nth
  rw [if_pos (by omega), Int.toNat_natCast]
theorem inc_ne (x : Int) : inc x ≠ x := by
  unfold inc IntKind.wrap
  simp [IntKind.signed, IntKind.bits]
  omega
theorem same_set (ws : List Int) (a : Int) : decide (ws = setI ws a (inc (lookI ws a))) = !hasB ws a := by
  cases h : hasB ws a
  · rw [setI_no (of_decide_eq_false h)]; simp
  · obtain ⟨h0, h1⟩ := of_decide_eq_true h
    refine decide_eq_false fun e => ?_
    have h2 := lookI_set (x := inc (lookI ws a)) (a := a) h0 h1
    rw [← e, if_pos rfl] at h2
    exact inc_ne _ h2.symm

set_option maxRecDepth 100000 in
set_option maxHeartbeats 2000000 in
theorem lsame_any (C : Int) (A : Option Addr) (n c : Nat) (f : Nat → Stp) (at_ : Int) (w : World) (hC0 : 0 ≤ C) (hC1 : C ≤ 255) (hn : n ≤ c) (hc : c ≤ maxLen) (hs : Stps w w.heap.size A n f) (hf : ∀ k, k < n → Okst (f k)) :
    Calls Try.prog 5 #[.int .u8 C, .slice A n c, .int .i64 at_] w fun e w' => e = .returned (.bool true) ∧ Ext w w' := by
  have HF := hide hf
  clear hf
  have hN1 : Nob ((w.alloc (.cells #[.slice none 0 0, .int .i64 0] 46)).alloc (.cells #[.pointer none, .pointer (some ⟨w.heap.size, 0, none⟩)] 23)) (.pointer (some ⟨w.heap.size, 0, none⟩)) :=
    .inr ⟨w.heap.size, rfl, (Blk.new w _ _).ext (Ext.alloc _ _)⟩
  have hG := Blk.new (w.alloc (.cells #[.slice none 0 0, .int .i64 0] 46)) #[.pointer none, .pointer (some ⟨w.heap.size, 0, none⟩)] 23
  simp only [World.size_alloc] at hG
  have rG := hG.rule
  have hX0 : Ext w ((w.alloc (.cells #[.slice none 0 0, .int .i64 0] 46)).alloc (.cells #[.pointer none, .pointer (some ⟨w.heap.size, 0, none⟩)] 23)) := (Ext.alloc _ _).trans (Ext.alloc _ _)
  clear hG
  have hX := Ext.refl ((w.alloc (.cells #[.slice none 0 0, .int .i64 0] 46)).alloc (.cells #[.pointer none, .pointer (some ⟨w.heap.size, 0, none⟩)] 23))
  go_enter Try.func5, Try.ntmps5
  go_wp2_with fail
  generalize (w.alloc (.cells #[.slice none 0 0, .int .i64 0] 46)).alloc (.cells #[.pointer none, .pointer (some ⟨w.heap.size, 0, none⟩)] 23) = W1 at *
  go_loopw [24] (fun i wr => ∃ k : Nat, k ≤ 2 ∧ i = .int .i64 k ∧ Ext W1 wr) (fun i _ => 2 - (intOf i).toNat)
  case atStart => exact ⟨0, by omega, rfl, hX⟩
  case round =>
    clear hX
    obtain ⟨k, hk, rfl, hX⟩ := hrel
    rcases (by omega : k = 0 ∨ k = 1 ∨ k = 2) with rfl | rfl | rfl
    · have rG0 := rG _ hX 0
      have hN : Nob wr (.pointer none) := .inl rfl
      go_wp2_with fail
      (refine (cas_nob _ _ hN _ _ _).mono ?_; rintro e w' ⟨rfl, hx⟩; have hX := hX.trans hx; have hN := hN.ext hx; clear hx)
      go_wp2_with fail
      (refine (load_nob _ _ hN _).mono ?_; rintro e w' ⟨rfl, hx⟩; have hX := hX.trans hx; have hN := hN.ext hx; clear hx)
      go_wp2_with fail
      (refine (store_nob _ _ hN _ _).mono ?_; rintro e w' ⟨rfl, hx⟩; have hX := hX.trans hx; have hN := hN.ext hx; clear hx)
      go_wp2_with fail
      (refine (look_nob _ _ hN _).mono ?_; rintro e w' ⟨rfl, hx⟩; have hX := hX.trans hx; have hN := hN.ext hx; clear hx)
      go_wp2_with fail
      (refine (len_nob _ _ hN).mono ?_; rintro e w' ⟨rfl, hx⟩; have hX := hX.trans hx; have hN := hN.ext hx; clear hx)
      go_wp2_with fail
      (refine (count_nob _ _ hN).mono ?_; rintro e w' ⟨rfl, hx⟩; have hX := hX.trans hx; have hN := hN.ext hx; clear hx)
      go_wp2_with fail
      refine (all_nob _ _ hN).mono ?_
      rintro e w' ⟨ga, rfl, hx⟩
      have hX := hX.trans hx; have hN := hN.ext hx; clear hx
      go_wp2_with fail
      (refine (same_nob _ _ _ hN (.inl rfl)).mono ?_; rintro e w' ⟨rfl, hx⟩; have hX := hX.trans hx; have hN := hN.ext hx; clear hx)
      go_wp2_with fail
      go_roundw
      case rel => exact ⟨1, by omega, by go_num, hX⟩
      case measure => simp [intOf]
    · have rG1 := rG _ hX 1
      have hN := hN1.ext hX
      go_wp2_with fail
      (refine (cas_nob _ _ hN _ _ _).mono ?_; rintro e w' ⟨rfl, hx⟩; have hX := hX.trans hx; have hN := hN.ext hx; clear hx)
      go_wp2_with fail
      (refine (load_nob _ _ hN _).mono ?_; rintro e w' ⟨rfl, hx⟩; have hX := hX.trans hx; have hN := hN.ext hx; clear hx)
      go_wp2_with fail
      (refine (store_nob _ _ hN _ _).mono ?_; rintro e w' ⟨rfl, hx⟩; have hX := hX.trans hx; have hN := hN.ext hx; clear hx)
      go_wp2_with fail
      (refine (look_nob _ _ hN _).mono ?_; rintro e w' ⟨rfl, hx⟩; have hX := hX.trans hx; have hN := hN.ext hx; clear hx)
      go_wp2_with fail
      (refine (len_nob _ _ hN).mono ?_; rintro e w' ⟨rfl, hx⟩; have hX := hX.trans hx; have hN := hN.ext hx; clear hx)
      go_wp2_with fail
      (refine (count_nob _ _ hN).mono ?_; rintro e w' ⟨rfl, hx⟩; have hX := hX.trans hx; have hN := hN.ext hx; clear hx)
      go_wp2_with fail
      refine (all_nob _ _ hN).mono ?_
      rintro e w' ⟨ga, rfl, hx⟩
      have hX := hX.trans hx; have hN := hN.ext hx; clear hx
      go_wp2_with fail
      (refine (same_nob _ _ _ hN (.inl rfl)).mono ?_; rintro e w' ⟨rfl, hx⟩; have hX := hX.trans hx; have hN := hN.ext hx; clear hx)
      go_wp2_with fail
      go_roundw
      case rel => exact ⟨2, by omega, by go_num, hX⟩
      case measure => simp [intOf]
    · have hX := hX0.trans hX
      clear rG hN1
      go_wp2_with fail
      refine (new_i (C + 1) _ (by omega) (by omega)).mono ?_
      rintro e w1 ⟨M, V, rfl, hm, hM, hV, hx⟩
      have z1 := hX.size
      have HT := hide (low_MV (w := w) (M := M) (V := V) (by omega) (by omega))
      have hX := hX.trans hx
      have l1 := hm.m.lt
      have l2 := hm.v.lt
      clear hx
      go_wp2_with fail
      refine (new_i (C + 1) _ (by omega) (by omega)).mono ?_
      rintro e w2 ⟨M', V', rfl, hm', hM', hV', hx⟩
      have z2 := hX.size
      have HT' := hide (low_MV (w := w) (M := M') (V := V') (by omega) (by omega))
      have hm := hm.ext hx
      have hX := hX.trans hx
      clear hx
      have D1 := hide (show M ∉ [M', V'] by simp; omega)
      have D2 := hide (show V ∉ [M', V'] by simp; omega)
      have D3 := hide (show M' ∉ [M, V] by simp; omega)
      have D4 := hide (show V' ∉ [M, V] by simp; omega)
      clear hM hV hM' hV' l1 l2 z1 z2
      obtain ⟨N, hN⟩ : ∃ N, N = (C + 1).toNat := ⟨_, rfl⟩
      have hz : (zeros N).length = N := by simp [zeros]
      rw [← hN] at hm hm'
      have hN2 : N ≤ 256 := by omega
      have hN3 : 1 ≤ N := by omega
      have HN := hide (show C + 1 = (N : Int) by omega)
      have HZ := hide hz
      clear hz hN
      go_wp2_with fail
      refine (short_any A n c _ hn hc).mono ?_
      rintro e w3 ⟨rfl, hx⟩
      have hm := hm.ext hx
      have hm' := hm'.ext hx
      have hX := hX.trans hx
      clear hx
      go_wp2_with fail
      go_loopw [101] (fun i wr => ∃ (j : Nat) (acc acc' : Int) (ws : List Int), j ≤ min n 200 ∧ i = .int .i64 j ∧ MemT wr M V acc ws ∧ MemT wr M' V' acc' ws ∧ ws.length = N ∧ Ext w wr) (fun i _ => min n 200 - (intOf i).toNat)
      case atStart => exact ⟨0, 0, 0, _, by omega, rfl, hm, hm', HZ.out, hX⟩
      case round =>
        clear hm hm' hX
        obtain ⟨j, acc, acc', ws, hj, rfl, hm, hm', hl, hX⟩ := hrel
        have HL := hide hl
        clear hl
        by_cases hlt : j < min n 200
        · have hj2 : j < n := by omega
          obtain ⟨b, off, rfl, hb, r0, r1, r2, r3⟩ := (hs.chg hX (Nat.le_refl _)).rules hj2
          have HS := hide (far_MV hm)
          have HS' := hide (far_MV hm')
          have bs := Blk.new wr #[.int .u8 (f j).k, .int .i64 (f j).a, .int .u64 (f j).o, .int .u64 (f j).x] 34
          have hm := hm.ext (Ext.alloc wr (.cells #[.int .u8 (f j).k, .int .i64 (f j).a, .int .u64 (f j).o, .int .u64 (f j).x] 34))
          have hm' := hm'.ext (Ext.alloc wr (.cells #[.int .u8 (f j).k, .int .i64 (f j).a, .int .u64 (f j).o, .int .u64 (f j).x] 34))
          have hX := hX.trans (Ext.alloc wr (.cells #[.int .u8 (f j).k, .int .i64 (f j).a, .int .u64 (f j).o, .int .u64 (f j).x] 34))
          go_wp2_with fail
          refine (store_any _ _ _ _ _ (f j).x _ hm).mono ?_
          rintro e w4 ⟨rfl, hm, hc⟩
          have hX := hX.turn hc HT.out
          have hm' := hm'.chg hc D3.out D4.out
          have bs := bs.chg hc HS.out
          have rs := bs.cell
          clear hc
          go_wp2_with fail
          refine (load_any _ _ _ _ _ _ hm).mono ?_
          rintro e w5 ⟨rfl, hm, hc⟩
          have hX := hX.turn hc HT.out
          have hm' := hm'.chg hc D3.out D4.out
          have bs := bs.chg hc HS.out
          have rs := bs.cell
          clear hc
          go_wp2_with fail
          refine (store_any _ _ _ _ _ (f j).x _ hm').mono ?_
          rintro e w6 ⟨rfl, hm', hc⟩
          have hX := hX.turn hc HT'.out
          have hm := hm.chg hc D1.out D2.out
          clear hc
          go_wp2_with fail
          go_roundw
          case rel => exact ⟨j + 1, _, _, _, by omega, by go_num, hm, hm', (setI_len _ _ _).trans HL.out, hX⟩
          case measure => simp [intOf]; omega
        · go_wp2_with fail
          refine (same_any _ _ _ _ _ _ _ _ _ hm hm').mono ?_
          rintro e w4 ⟨rfl, hx⟩
          rw [show decide (ws = ws) = true by simp]
          have hm := hm.ext hx
          have hm' := hm'.ext hx
          have hX := hX.trans hx
          clear hx
          go_wp2_with fail
          refine (same_any _ _ _ _ _ _ _ _ _ hm' hm).mono ?_
          rintro e w5 ⟨rfl, hx⟩
          rw [show decide (ws = ws) = true by simp]
          have hm := hm.ext hx
          have hm' := hm'.ext hx
          have hX := hX.trans hx
          clear hx
          go_wp2_with fail
          refine (look_any _ _ _ _ _ _ hm').mono ?_
          rintro e w6 ⟨rfl, hx⟩
          have hm := hm.ext hx
          have hm' := hm'.ext hx
          have hX := hX.trans hx
          clear hx
          go_wp2_with fail
          rw [show IntKind.u64.wrap (lookI ws at_ + 1) = inc (lookI ws at_) from rfl]
          have SS := hide (same_set ws at_)
          generalize inc (lookI ws at_) = y at *
          refine (store_any _ _ _ _ _ y _ hm').mono ?_
          rintro e w7 ⟨rfl, hm', hc⟩
          have hX := hX.turn hc HT'.out
          have hm := hm.chg hc D1.out D2.out
          clear hc
          generalize hasB ws at_ = ok at SS ⊢
          go_wp2_with fail
          refine (all_m _ _ _ _ _ N hm HL.out).mono ?_
          rintro e w8 ⟨g, rfl, hg, hgz, hx⟩
          have G1 := hide (show M ∉ [g] by have := hm.m.lt; simp; omega)
          have G2 := hide (show V ∉ [g] by have := hm.v.lt; simp; omega)
          have G3 := hide (show M' ∉ [g] by have := hm'.m.lt; simp; omega)
          have G4 := hide (show V' ∉ [g] by have := hm'.v.lt; simp; omega)
          have G5 := hide (show ∀ t, t ∈ [g] → w.heap.size ≤ t by have := hX.size; simp; omega)
          have hm := hm.ext hx
          have hm' := hm'.ext hx
          have hX := hX.trans hx
          clear hx hgz
          rw [← incL_zero ws] at hg
          go_wp2_with fail
          go_loopw [143] (fun i wr => ∃ (k : Nat), k ≤ N ∧ i = .int .i64 k ∧ MemT wr M V _ ws ∧ MemT wr M' V' _ (setI ws at_ y) ∧ Blk wr g (wc (incL ws k)) 32 ∧ Ext w wr) (fun i _ => N - (intOf i).toNat)
          case atStart => exact ⟨0, by omega, rfl, hm, hm', hg, hX⟩
          case round =>
            clear hm hm' hX hg
            obtain ⟨k, hk, rfl, hm, hm', hg, hX⟩ := hrel
            by_cases hlk : k < N
            · have rk : wr.cell? ⟨g, k, none⟩ = some (.int .u64 (nth ws k)) := by
                rw [hg.cell, wc_nth' (by rw [incL_len, HL.out]; exact hlk), incL_at _ _ (by rw [HL.out]; exact hlk)]
              have fk := hg.free k
              have hg2 := hg.set k (.int .u64 (inc (nth ws k)))
              rw [incL_succ _ _ (by rw [HL.out]; exact hlk)] at hg2
              have ck := (Chg.refl [g] wr).set (p := ⟨g, k, none⟩) (.inl (by simp)) (.int .u64 (inc (nth ws k)))
              have hm := hm.chg ck G1.out G2.out
              have hm' := hm'.chg ck G3.out G4.out
              have hX := hX.turn ck G5.out
              clear hg ck
              go_wp2_with fail
              go_roundw
              case rel => exact ⟨k + 1, by omega, by go_num, hm, hm', hg2, hX⟩
              case measure => simp [intOf]; omega
            · have ek : k = N := by omega
              rw [ek] at hg
              clear ek
              have r0 : ∀ w', Ext wr w' → w'.cell? ⟨g, 0, none⟩ = some (.int .u64 (IntKind.u64.wrap (lookI ws 0 + 1))) := fun w' h => by
                have h1 := HL.out
                rw [(hg.ext h).cell, wc_nth' (by rw [incL_len]; omega), ← h1, incL_first ws (by omega), ← look_nth]; rfl
              have hW := Ext.refl wr
              have n1 : IntKind.i64.wrap C = C := by rw [IntKind.wrap_i64]; omega
              have n2 : IntKind.i64.wrap (C + 1) = (N : Int) := by have := HN.out; rw [IntKind.wrap_i64]; omega
              have n0 : 0 < N := by omega
              cases ok
              · go_wp2_with fail
                refine wp_region_ext (by kernel_rfl) (by kernel_rfl) ?_
                repeat
                  with_reducible refine wpQuiet_step (fun K hK => ?_)
                  go_simp
                  first
                  | (refine hK _ ?_; clear hK K)
                  | (apply Exists.intro
                     refine ⟨fun w1 h1 => ?_, hK _ ?_⟩
                     (have hW := Ext.trans2 hW (by repeat (first | exact Ext.refl _ | exact Ext.alloc _ _ | exact Ext.drewN _ _ | assumption | refine Ext.trans ?_ (Ext.alloc _ _) | refine Ext.trans ?_ (Ext.drew _) | refine Ext.trans ?_ (by assumption))) h1; (try have hV := Ext.trans2 hV (by repeat (first | exact Ext.refl _ | exact Ext.alloc _ _ | exact Ext.drewN _ _ | assumption | refine Ext.trans ?_ (Ext.alloc _ _) | refine Ext.trans ?_ (Ext.drew _) | refine Ext.trans ?_ (by assumption))) h1); (first | rfl | (go_simp; done) | (go_simp; rfl) | (first | (go_at_call 21; refine (same_any _ _ _ _ _ _ _ _ _ (hm.ext h1) (hm'.ext h1)).mono ?_; rintro e w2 ⟨rfl, hb⟩; rw [SS.out]; exact ⟨rfl, h1.trans hb⟩) | (go_at_call 17; refine (look_any _ _ _ _ _ _ (hm.ext h1)).mono ?_; rintro e w2 ⟨rfl, hb⟩; exact ⟨rfl, h1.trans hb⟩) | (go_at_call 8; refine (alive_any _).mono ?_; rintro e w2 ⟨rfl, hb⟩; exact ⟨rfl, h1.trans hb⟩))))
                     clear hK K)
                refine wpQuiet_nil (fun w' hw' => ?_)
                have hW := Ext.trans2 hW (by repeat (first | exact Ext.refl _ | exact Ext.alloc _ _ | exact Ext.drewN _ _ | assumption | refine Ext.trans ?_ (Ext.alloc _ _) | refine Ext.trans ?_ (Ext.drew _) | refine Ext.trans ?_ (by assumption))) hw'
                try have hV := Ext.trans2 hV (by repeat (first | exact Ext.refl _ | exact Ext.alloc _ _ | exact Ext.drewN _ _ | assumption | refine Ext.trans ?_ (Ext.alloc _ _) | refine Ext.trans ?_ (Ext.drew _) | refine Ext.trans ?_ (by assumption))) hw'
                clear hw'
                go_wp2_with fail
                go_ret
                exact ⟨by simp, hX.trans hW⟩
              · go_wp2_with fail
                refine wp_region_ext (by kernel_rfl) (by kernel_rfl) ?_
                repeat
                  with_reducible refine wpQuiet_step (fun K hK => ?_)
                  go_simp
                  first
                  | (refine hK _ ?_; clear hK K)
                  | (apply Exists.intro
                     refine ⟨fun w1 h1 => ?_, hK _ ?_⟩
                     (have hW := Ext.trans2 hW (by repeat (first | exact Ext.refl _ | exact Ext.alloc _ _ | exact Ext.drewN _ _ | assumption | refine Ext.trans ?_ (Ext.alloc _ _) | refine Ext.trans ?_ (Ext.drew _) | refine Ext.trans ?_ (by assumption))) h1; (try have hV := Ext.trans2 hV (by repeat (first | exact Ext.refl _ | exact Ext.alloc _ _ | exact Ext.drewN _ _ | assumption | refine Ext.trans ?_ (Ext.alloc _ _) | refine Ext.trans ?_ (Ext.drew _) | refine Ext.trans ?_ (by assumption))) h1); (first | rfl | (go_simp; done) | (go_simp; rfl) | (first | (go_at_call 21; refine (same_any _ _ _ _ _ _ _ _ _ (hm.ext h1) (hm'.ext h1)).mono ?_; rintro e w2 ⟨rfl, hb⟩; rw [SS.out]; exact ⟨rfl, h1.trans hb⟩) | (go_at_call 17; refine (look_any _ _ _ _ _ _ (hm.ext h1)).mono ?_; rintro e w2 ⟨rfl, hb⟩; exact ⟨rfl, h1.trans hb⟩) | (go_at_call 8; refine (alive_any _).mono ?_; rintro e w2 ⟨rfl, hb⟩; exact ⟨rfl, h1.trans hb⟩))))
                     clear hK K)
                refine wpQuiet_nil (fun w' hw' => ?_)
                have hW := Ext.trans2 hW (by repeat (first | exact Ext.refl _ | exact Ext.alloc _ _ | exact Ext.drewN _ _ | assumption | refine Ext.trans ?_ (Ext.alloc _ _) | refine Ext.trans ?_ (Ext.drew _) | refine Ext.trans ?_ (by assumption))) hw'
                try have hV := Ext.trans2 hV (by repeat (first | exact Ext.refl _ | exact Ext.alloc _ _ | exact Ext.drewN _ _ | assumption | refine Ext.trans ?_ (Ext.alloc _ _) | refine Ext.trans ?_ (Ext.drew _) | refine Ext.trans ?_ (by assumption))) hw'
                clear hw'
                go_wp2_with fail
                go_ret
                exact ⟨by simp, hX.trans hW⟩

theorem cellSame_walk {H : Type} {enc : TypeId × Value → H} (W : World) (base : Nat) (args : Array Value) (ds : List (DataW H)) (p : List MemPlace)
    (hval0 : ∀ (j : Nat) t v, Try.f5.params[j]? = some t → args[j]? = some v → Value.okWide Try.prog W .any base t v)
    (hA0 : DataW.TrodAll enc Try.prog W 0 (fun _ => true) true Try.f5.params.toList args.toList ds p) (_hlt : ∀ x ∈ p, x.block < W.heap.size) :
    Calls Try.prog 5 args W fun e W' => e = .returned (.bool true) ∧ Ext W W' := by
  have hval := hval0
  have hA := hA0
  rw [Try.params5] at hA hval
  clear hval0 hA0
  obtain ⟨v0, v1, v2, d0, d1, d2, p0, p1, p2, hargs, rfl, rfl, h0, h1, h2⟩ := trodAll_three hA
  obtain rfl : args = #[v0, v1, v2] := by cases args; simp_all
  obtain ⟨y, rfl, rfl, rfl, wy⟩ := open_int Try.underlying5 (hval 0 5 v0 rfl rfl) h0
  obtain ⟨A, n, c, f, rfl, hn, hc, hs, hf⟩ := open_steps (hval 1 22 v1 rfl rfl) h1
  obtain ⟨z, rfl, rfl, rfl, wz⟩ := open_int Try.underlying3 (hval 2 3 v2 rfl rfl) h2
  have hb := bounds_u8 wy
  exact lsame_any y A n c f z W (by omega) (by omega) hn hc hs hf
set_option maxRecDepth 100000 in
theorem cellSame_lifted (os : Os) (started : os.Started) (H : Type) (enc : TypeId × Value → H) :
    ReturnsInHanded {} Try.checked os 5 .any (Rows.cellSameSpec.pre6 enc Try.prog Try.f5 Rows.cellSameRow.domain false) (Rows.cellSameSpec.post enc Try.prog Try.f5 false true false false) :=
  law_lifted (fn := Try.f5) 4 os started (by kernel_rfl) Try.func5 rfl rfl Try.underlying4 (hread_of (by kernel_rfl))
    (fun l hl => by
      have hl2 : l.length = 3 := hl
      clear hl
      match l, hl2 with
      | [_, _, _], _ => rfl)
    (ChangeSpec.witness6 (enc := enc) (C := Try.checked) false ⟨#[], #[.int .u8 0, .slice none 0 0, .int .i64 0], []⟩ 8 (by kernel_rfl) (by kernel_rfl) (by kernel_rfl) (by kernel_rfl))
    (fun W base args ds p hval hA hlt => cellSame_walk W base args ds p hval hA hlt)
theorem cellSame_holds : Rows.CellSameSaid :=
  OpenClaim.holds_of_wide 5 Try.f5 rfl rfl rfl rfl rfl rfl rfl ⟨rfl, rfl, rfl, rfl, rfl⟩ rfl rfl rfl rfl rfl (by kernel_rfl) Try.func5 (by kernel_rfl)
    (of_decide_eq_true (by kernel_rfl)) (by unfold Func.isWrapper; rw [if_neg (of_decide_eq_false (by kernel_rfl))]; exact ⟨rfl, rfl⟩)
    (fun os started H enc _ => cellSame_lifted os started H enc)
end Go.Proofs.Ytlmlkclpfjbedaa
