/- The program's around and Ring. -/
import Derived.Test.YtaglpodilepioaaDoorP5
import Derived.WalkMore
namespace Go.Proofs.YtaglpodilepioaaDoor
open Go.RowKit
set_option linter.unusedSimpArgs false
set_option linter.unusedVariables false
set_option maxRecDepth 100000
set_option maxHeartbeats 4000000


theorem find_at {α : Type} {p : α → Bool} : ∀ (l : List α) {k : Nat} {y : α}, (∀ i, i < k → ∀ x, l[i]? = some x → p x = false) → l[k]? = some y → p y = true → l.find? p = some y
  | [], k, y, _, h, _ => by simp at h
  | x :: l, 0, y, _, h, hp => by
    obtain rfl : x = y := by simpa using h
    rw [List.find?_cons_of_pos hp]
  | x :: l, k + 1, y, hn, h, hp => by
    rw [List.find?_cons_of_neg (by rw [hn 0 (by omega) x rfl]; simp)]
    exact find_at (k := k) l (fun i hi x hx => hn (i + 1) (by omega) x (by simpa using hx)) (by simpa using h) hp
theorem find_no {α : Type} {p : α → Bool} (l : List α) (h : ∀ i, i < l.length → ∀ x, l[i]? = some x → p x = false) : l.find? p = none := by
  rw [List.find?_eq_none]
  intro x hx
  obtain ⟨i, hi⟩ := List.getElem?_of_mem hx
  rw [h i (List.getElem?_eq_some_iff.1 hi).1 x hi]; simp
/-- An element of a row of numbers. -/
theorem row_at {w : World} {B n : Nat} {v : Value} {l : List Nat} (h : w.ownsRow B 3 1 v n (l.map enN)) {k x : Nat} (hk : l[k]? = some x) :
    ∃ b off c, v = .slice (some ⟨b, off, none⟩) n c ∧ k < n ∧ ∀ wx, Ext w wx → wx.cell? ⟨b, off + k, none⟩ = some (.int .i64 (x : Int)) := by
  obtain ⟨A, c, rfl, hs⟩ := Sl.of_own h
  have hl := hs.1
  simp at hl
  have hk2 := (List.getElem?_eq_some_iff.1 hk).1
  obtain ⟨b, off, rfl, hb, hc⟩ := hs.2 (by omega)
  refine ⟨b, off, c, rfl, by omega, fun wx hx => (hx.oldCell b _ hb).trans ?_⟩
  rw [hc k (by omega), List.getElem?_map, hk]; rfl
theorem own_one {w : World} {base g : Nat} {e : TypeId} {u : Value} (hb : Blk w g #[u] e) (h : base ≤ g) : w.ownsRow base e 1 (.slice (some ⟨g, 0, none⟩) 1 1) 1 [u] :=
  ⟨rfl, .inr ⟨g, 1, #[u], rfl, h, hb, Nat.le_refl _, by unfold maxLen; omega, rfl, rfl⟩⟩
theorem isN_nat {t : Nat} (h : t < 64) : isN (t : Int) = true := by unfold isN; simp; omega
theorem ofN_nat {f : Nat → NS} {t : Nat} (h : t < 64) : ofN f (t : Int) = setL (f t) := by unfold ofN; rw [if_pos (isN_nat h), Int.toNat_natCast]
theorem blk_kept {w w' : World} {base b n size : Nat} {cs : Array Value} {t e : TypeId} {v : Value} {xs : List Value} {o : Obj} (h : Blk w b cs t) (hown : w.ownsRow base e size v n xs) (hne : t ≠ e)
    (hg : (w.alloc o).grownBy w' v.ownBlock) : Blk w' b cs t :=
  (h.ext (Ext.alloc w o)).grown hg fun k hk e' => by
    subst e'
    obtain ⟨cs2, hb⟩ := own_blk hown k hk
    exact hne (h.type hb)
theorem gr_some {E : Gr} {b f t k : Nat} (h : (setL (E t)).find? (fun k => decide (dist E b k = f + 1)) = some k) : gr E b (f + 1) t = k :: gr E b f k := by rw [gr, h]
theorem gr_none {E : Gr} {b f t : Nat} (h : (setL (E t)).find? (fun k => decide (dist E b k = f + 1)) = none) : gr E b (f + 1) t = gr E b f t := by rw [gr, h]
theorem around_any (E : Gr) {b D : Nat} (hb : b < 64) (hD : dist E b b = D + 1) (w : World) (hT : Tb w) : Calls Tryd.prog 32 #[.agg (gc E), .int .i64 (b : Int)] w fun e w' =>
    ∃ v, e = .returned v ∧ Row w' w.heap.size v (b :: gr E b D b) ∧ Ext w w' := by
  have hD64 : D + 1 ≤ 64 := by
    have := dist_is (E := E) (b := b) (n := b) (by omega)
    rw [hD] at this
    exact dist_le hb this
  obtain ⟨zi, hz1, hz2, hz3, hz5⟩ : ∃ zz : Array Value, (∀ w, (zeroValue 56).run Tryd.prog w = .ok (.agg zz) w) ∧ ¬ zz = #[] ∧ ¬ zz.size < 2 ∧ zz.size = 64 := ⟨zri, fun w => by kernel_rfl, by decide +kernel, by decide +kernel, by decide +kernel⟩
  have HZ5 := hide hz5
  clear hz5
  go_enter Tryd.func32, Tryd.ntmps32
  go_upto_region 1 with fail
  have HB := hide (Blk.new w (gc E) 27)
  have HX := hide (Ext.alloc w (.cells (gc E) 27))
  generalize (w.alloc (.cells (gc E) 27)) = W0 at *
  have hb2 : (b : Int) < 64 := by omega
  go_step3
  go_wp2_with (first | (with_reducible refine get_g rfl _ rfl w.heap.size E rfl HB.out ?_; go_frame) | (go_at_call 31; (with_reducible refine (away_any E hb _).mono ?_); rintro e w1 ⟨rfl, hx⟩; go_frame) | (with_reducible refine put_i rfl _ _ rfl w1.heap.size (dist E b) rfl rfl zi (Blk.new w1 zi 56) HZ5.out ?_; intro w2 hR hc hs; go_frame))
  go_step3
  have HX2 := hide ((HX.out.trans (hx.trans (Ext.alloc w1 (.cells zi 56)))).turn hc (by have := (HX.out.trans hx).size; simp; omega))
  have HB2 := hide ((HB.out.ext (hx.trans (Ext.alloc w1 (.cells zi 56)))).chg hc (by have := HB.out.lt; have := hx.size; simp; omega))
  have hw2 : w2.heap.size = w1.heap.size + 1 := by rw [hs]; simp
  have hw1 : w.heap.size ≤ w1.heap.size := (HX.out.trans hx).size
  rw [← hw2]
  have hO := own_one (base := w.heap.size) (Blk.new w2 #[.int .i64 (b : Int)] 3) (by omega)
  have HA := hide (hR.ext (Ext.alloc w2 (.cells #[.int .i64 (b : Int)] 3)))
  have HB := hide (HB2.out.ext (Ext.alloc w2 (.cells #[.int .i64 (b : Int)] 3)))
  have HX := hide (HX2.out.trans (Ext.alloc w2 (.cells #[.int .i64 (b : Int)] 3)))
  generalize hs3 : (Value.slice (some ⟨w2.heap.size, 0, none⟩) 1 1) = v0 at *
  generalize w2.alloc (.cells #[.int .i64 (b : Int)] 3) = W3 at *
  clear HB2 HX2 hR hc hs hx hw2 hz1 hz2 hz3
  have HO := hide hO
  have c1 := ((HA.out).cell b).trans (ic_at hb)
  rw [hD] at c1
  have hhd := hD
  have HD := hide hD
  generalize w1.heap.size = R at *
  clear hO hs3 hhd hD
  go_wp2_with fail
  go_loopw [6, 7] (fun v y wr => ∃ (f q : Nat) (L : List Nat) (t : Nat), y = .int .i64 (f : Int) ∧ wr.ownsRow w.heap.size 3 1 v (q + 1) (L.map enN) ∧ L.length = q + 1 ∧ L[q]? = some t ∧ t < 64 ∧ L ++ gr E b f t = b :: gr E b D b ∧ f + q ≤ D ∧ Blk wr w.heap.size (gc E) 27 ∧ Blk wr R (ic (dist E b)) 56 ∧ Ext w wr) (fun _ y _ => (intOf y).toNat)
  case atStart => exact ⟨D, 0, [b], b, rfl, HO.out, rfl, rfl, hb, rfl, by omega, HB.out, HA.out, HX.out⟩
  case round =>
    clear HB HA HX HO c1
    obtain ⟨f, q, L, t, rfl, hO, hL, ht, ht64, hg, hfq, hB, hA, hX⟩ := hrel
    have HB := hide hB
    have HA := hide hA
    have HX := hide hX
    have HO := hide hO
    have HG := hide hg
    have HL := hide hL
    cases f with
    | zero =>
      clear hO hg hA hB hX hL
      go_wp2_with fail
      rw [Exit.noGoto_ret]
      go_ret
      have hgg := HG.out
      rw [show gr E b 0 t = [] from rfl, List.append_nil] at hgg
      refine ⟨_, rfl, ?_, HX.out⟩
      rw [← hgg]
      unfold Row
      rw [HL.out]
      exact HO.out
    | succ f =>
      obtain ⟨b1, off, c, rfl, _, hcell⟩ := row_at hO ht
      have HT := hide ht
      clear hO hg hA hB hX hL ht
      have c1 := hcell wr (Ext.refl _)
      have hcell := hide hcell
      go_wp2_with fail
      clear c1
      have hk := Ext.drew wr
      have c2 := hcell.out
      have wq : IntKind.i64.wrap (q : Int) = (q : Int) := by rw [IntKind.wrap_i64]; omega
      have wq2 : (0 : Int) ≤ (q : Int) ∧ (q : Int) < (q : Int) + 1 := by omega
      refine wp_region_held_drew (S := fun w' => Ext wr w') (by kernel_rfl) hk (fun hHeld => ?_)
      refine wpAnyH_take (i := 0) (at_drop rfl) (by kernel_rfl) (by kernel_rfl) (by kernel_rfl) (fun _ _ _ h => h) (yieldsIf_load_mid (by rfl) 27 _ rfl w.heap.size 0 rfl (gc E).toList _ (fun w h => r64_rng (HB.out.ext h)) Tryd.underlying27 rfl (inf_gc E)) (by assumption) ?_
      rw [Array.toArray_toList]
      (try simp only [Act.put, List.setIfInBounds_toArray, List.set_cons_zero, List.set_cons_succ])
      (refine held_take (i := 1) (v := ?_) rfl (by kernel_rfl) (by kernel_rfl) (by kernel_rfl) (fun _ _ _ h => h) (by rfl) ?_ (by assumption) ?_; rotate_left; (intro w hSw; (try dsimp only at hSw); (first | (go_simp; done) | (go_simp; with_reducible rfl))); (try simp only [Act.put, List.setIfInBounds_toArray, List.set_cons_zero, List.set_cons_succ]))
      (refine held_take (i := 2) (v := ?_) rfl (by kernel_rfl) (by kernel_rfl) (by kernel_rfl) (fun _ _ _ h => h) (by rfl) ?_ (by assumption) ?_; rotate_left; (intro w hSw; (try dsimp only at hSw); (first | (go_simp; done) | (go_simp; with_reducible rfl))); (try simp only [Act.put, List.setIfInBounds_toArray, List.set_cons_zero, List.set_cons_succ]))
      (refine held_take (i := 3) (v := ?_) rfl (by kernel_rfl) (by kernel_rfl) (by kernel_rfl) (fun _ _ _ h => h) (by rfl) ?_ (by assumption) ?_; rotate_left; (intro w hSw; (try dsimp only at hSw); (first | (go_simp; done) | (go_simp; with_reducible rfl))); (try simp only [Act.put, List.setIfInBounds_toArray, List.set_cons_zero, List.set_cons_succ]))
      (refine held_take (i := 4) (v := ?_) rfl (by kernel_rfl) (by kernel_rfl) (by kernel_rfl) (fun _ _ _ h => h) (by rfl) ?_ (by assumption) ?_; rotate_left; (intro w hSw; (try dsimp only at hSw); (first | (go_simp; done) | (go_simp; with_reducible rfl))); (try simp only [Act.put, List.setIfInBounds_toArray, List.set_cons_zero, List.set_cons_succ]))
      (refine held_take (i := 5) (v := ?_) rfl (by kernel_rfl) (by kernel_rfl) (by kernel_rfl) (fun _ _ _ h => h) (by rfl) ?_ (by assumption) ?_; rotate_left; (intro w hSw; (try dsimp only at hSw); (first | (go_simp; done) | (go_simp; with_reducible rfl))); (try simp only [Act.put, List.setIfInBounds_toArray, List.set_cons_zero, List.set_cons_succ]))
      (refine held_take (i := 6) (v := ?_) rfl (by kernel_rfl) (by kernel_rfl) (by kernel_rfl) (fun _ _ _ h => h) (by rfl) ?_ (by assumption) ?_; rotate_left; (intro w hSw; (try dsimp only at hSw); (first | (go_simp; done) | (go_simp; with_reducible rfl))); (try simp only [Act.put, List.setIfInBounds_toArray, List.set_cons_zero, List.set_cons_succ]))
      (refine held_take (i := 9) (v := ?_) rfl (by kernel_rfl) (by kernel_rfl) (by kernel_rfl) (fun _ _ _ h => h) (by rfl) ?_ (by assumption) ?_; rotate_left; (intro w hSw; (try dsimp only at hSw); (first | (go_simp; done) | (go_simp; with_reducible rfl))); (try simp only [Act.put, List.setIfInBounds_toArray, List.set_cons_zero, List.set_cons_succ]))
      clear c2
      have HNX := hide (fun (w' : World) (x : Ext wr w') => next_any E (t : Int) w' (hT.ext (HX.out.trans x)))
      refine wpAnyH_ready (rs := [7]) (by kernel_rfl) (by simp) (held_cons rfl (fun K hK => ?_) AllReadyH.nil)
      rw [if_pos (by rfl)]
      go_simp
      go_at_call 12
      refine (HNX.out _ hk).mono ?_
      rintro e w5 ⟨vN, rfl, hN, hy⟩
      have hk := hk.trans hy
      refine hK.out _ _ hk (fun hHeld => ?_)
      (try simp only [Act.put, List.setIfInBounds_toArray, List.set_cons_zero, List.set_cons_succ])
      rw [ofN_nat ht64] at hN
      obtain ⟨A5, c5, rfl⟩ := own_sl hN
      have HN := hide hN
      clear hN
      (refine held_take (i := 8) (v := ?_) rfl (by kernel_rfl) (by kernel_rfl) (by kernel_rfl) (fun _ _ _ h => h) (by rfl) ?_ (by assumption) ?_; rotate_left; (intro w hSw; (try dsimp only at hSw); (first | (go_simp; done) | (go_simp; with_reducible rfl))); (try simp only [Act.put, List.setIfInBounds_toArray, List.set_cons_zero, List.set_cons_succ]))
      refine wpAnyH_done (by kernel_rfl) ?_ _
      go_wp2_with fail
      have HB := hide (HB.out.ext hk)
      have HA := hide (HA.out.ext hk)
      have HX := hide (HX.out.trans hk)
      have HO := hide (own_ext HO.out hk)
      have hNm : ∀ x, x ∈ setL (E t) → x < 64 := fun x hx => (mem_setL.1 hx).1
      have hNl := setL_len (E t)
      have HS := hide (fun k (h : (setL (E t)).find? (fun k => decide (dist E b k = f + 1)) = some k) => gr_some h)
      have HQ := hide (fun (h : (setL (E t)).find? (fun k => decide (dist E b k = f + 1)) = none) => gr_none h)
      generalize setL (E t) = N at *
      clear hk hHeld hy HNX hcell
      go_loopw [6, 32] (fun v y wr2 => wr2 = w5 ∧ v = .slice (some ⟨b1, off, none⟩) (q + 1) c ∧ ∃ k : Nat, k ≤ N.length ∧ y = .int .i64 (k : Int) ∧ ∀ i, i < k → ∀ x, N[i]? = some x → decide (dist E b x = f + 1) = false) (fun _ y _ => N.length - (intOf y).toNat)
      case atStart => exact ⟨rfl, rfl, 0, by omega, rfl, fun i hi => by omega⟩
      case round =>
        obtain ⟨rfl, rfl, k, hk, rfl, hno⟩ := hrel
        have HK := hide hno
        clear hno
        by_cases hlt : k < N.length
        · obtain ⟨x, hx⟩ : ∃ x, N[k]? = some x := ⟨_, List.getElem?_eq_getElem hlt⟩
          have hx64 := hNm x (List.mem_of_getElem? hx)
          obtain ⟨b2, off2, c2, he2, _, hc2⟩ := row_at HN.out hx
          simp only [Value.slice.injEq] at he2
          obtain ⟨rfl, -, rfl⟩ := he2
          have d1 := hc2 _ (Ext.refl _)
          have d2 := ((HA.out).cell x).trans (ic_at hx64)
          have hx2 : (x : Int) < 64 := by omega
          have HXX := hide hx
          clear hx hc2
          by_cases hd : dist E b x = f + 1
          · have HF := hide (HS.out x (find_at N HK.out HXX.out (by simpa using hd)))
            rw [hd] at d2
            clear hd
            go_wp2_with (at_builtin; refine wpList_app2 (base := w.heap.size) (n := q + 1) (xs := L.map enN) rfl rfl Tryd.underlying38 inf_int rfl (by omega) rfl HO.out HX.out.size rfl rfl rfl (by simp [Value.oneCell']) (by unfold maxLen; omega) (by omega) ?_; intro v' w3 hown' hg3; go_frame)
            refine ⟨⟨f, q + 1, L ++ [x], x, by go_num, by rw [List.map_append]; exact hown', by simp [HL.out], ?_, hx64, ?_, by omega, blk_kept HB.out HO.out (by decide) hg3, blk_kept HA.out HO.out (by decide) hg3, Ext.grown (HX.out.trans (Ext.alloc _ _)) hg3 (own_row HO.out)⟩, ?_⟩
            · rw [List.getElem?_append_right (by rw [HL.out]; omega), HL.out]; simp
            · rw [← HG.out, HF.out]; simp
            · simp [intOf]
          · have E0 : ((dist E b x : Int) == ((f : Int) + 1)) = false := by simp; omega
            go_wp2_with fail
            go_roundw
            case rel => exact ⟨by first | rfl | trivial, rfl, k + 1, by omega, by go_num, fun i hi y hy => by
              by_cases e : i = k
              · subst e
                rw [HXX.out] at hy
                obtain rfl := Option.some.inj hy
                simpa using hd
              · exact HK.out i (by omega) y hy⟩
            case measure => simp [intOf]; omega
        · obtain rfl : k = N.length := by omega
          have HF := hide (HQ.out (find_no N HK.out))
          go_wp2_with fail
          go_roundw
          case rel => exact ⟨f, q, L, t, by go_num, HO.out, HL.out, HT.out, ht64, by rw [← HF.out]; exact HG.out, by omega, HB.out, HA.out, HX.out⟩
          case measure => simp [intOf]
end Go.Proofs.YtaglpodilepioaaDoor
