/- The program's Order. -/
import Derived.Test.YtaglpodilepioaaDoorP7
namespace Go.Proofs.YtaglpodilepioaaDoor
open Go.RowKit
set_option linter.unusedSimpArgs false
set_option linter.unusedVariables false
set_option maxRecDepth 100000
set_option maxHeartbeats 4000000


/-- What Order tells. -/
structure OrdA (E : Gr) (w : World) (B : Nat) (v : Value) (b : Bool) : Prop where
  ok : b = (ordR E).isSome
  row : Row w B v ((ordR E).getD [])
theorem ord_len {E : Gr} {o : List Nat} (h : stp E o.length = some o) : o.length ≤ 64 := by
  obtain ⟨_, h2, h3, _⟩ := stp_is _ h
  have := nodup_le o (setL (tch E)) h2 h3
  have := setL_len (tch E)
  omega
theorem order_any (E : Gr) (w : World) (hT : Tb w) : Calls Tryd.prog 19 #[.agg (gc E)] w fun e w' =>
    ∃ v b, e = .returned (.tuple #[v, .bool b]) ∧ OrdA E w' w.heap.size v b ∧ Ext w w' := by
  go_enter Tryd.func19, Tryd.ntmps19
  go_upto_region 1 with fail
  have HB := hide (Blk.new w (gc E) 27)
  have HX := hide (Ext.alloc w (.cells (gc E) 27))
  generalize (w.alloc (.cells (gc E) 27)) = W0 at *
  go_step3
  go_wp2_with (first | (with_reducible refine get_g rfl _ rfl w.heap.size E rfl HB.out ?_; go_frame) | (go_at_call 28; (with_reducible refine (touched_any E _).mono ?_); rintro e w1 ⟨rfl, hx⟩; go_frame))
  go_step3
  go_wp2_with fail
  have hlf : wv (tch E) = wv (lft E []) := wv_eq fun j _ => by simp [lft]
  have HB1 := hide (HB.out.ext hx)
  have HX1 := hide (HX.out.trans hx)
  go_loopw [4, 5] (fun v y wr => ∃ o : List Nat, wr.ownsRow w.heap.size 3 1 v o.length (o.map enN) ∧ y = .int .u64 (wv (lft E o) : Int) ∧ stp E o.length = some o ∧ Blk wr w.heap.size (gc E) 27 ∧ Ext w wr) (fun v _ _ => 64 - lenV v)
  case atStart => exact ⟨[], own_nil _ _ _ _, by rw [hlf], rfl, HB1.out, HX1.out⟩
  case round =>
    clear HB HX HB1 HX1 hx hlf
    obtain ⟨o, hO, rfl, hs, hB, hX⟩ := hrel
    obtain ⟨A, c, rfl⟩ := own_sl hO
    have HB := hide hB
    have HX := hide hX
    have HO := hide hO
    have HS := hide hs
    have hol := ord_len hs
    clear hB hX hO hs
    by_cases h0 : wv (lft E o) = 0
    · have E0 : ((wv (lft E o) : Int) != 0) = false := by simp [h0]
      have HQ := hide (ord_done HS.out (wv_zero.1 h0))
      clear h0
      go_wp2_with fail
      rw [Exit.noGoto_ret]
      go_ret2
      exact ⟨_, _, rfl, ⟨by rw [HQ.out]; rfl, by rw [HQ.out]; exact HO.out⟩, HX.out⟩
    · have E0 : ((wv (lft E o) : Int) != 0) = true := by simp [h0]
      have HQ := hide (fun (hc : cand E o = none) => by
        have : ∃ k, k < 64 ∧ lft E o k = true := by
          apply Classical.byContradiction
          intro q
          refine h0 (wv_zero.2 fun j hj => ?_)
          cases hf : lft E o j
          · rfl
          · exact absurd ⟨j, hj, hf⟩ q
        obtain ⟨k, hk, hl⟩ := this
        exact ord_none HS.out hk hl hc)
      clear h0
      obtain ⟨n, hn⟩ : ∃ n, o.length = n := ⟨_, rfl⟩
      have HN := hide hn
      rw [hn] at HO hol
      rw [hn]
      clear hn
      go_wp2_with (go_at_call 25; (with_reducible refine (list_any _ _ (hT.ext HX.out)).mono ?_); rintro e5 w5 ⟨vN, rfl, hr, hx⟩; obtain ⟨A5, c5, rfl⟩ := own_sl hr; go_frame)
      have HB := hide (HB.out.ext hx)
      have HX := hide (HX.out.trans hx)
      have HO := hide (own_ext HO.out hx)
      have HR := hide hr
      clear hr hx
      have hNm : ∀ x, x ∈ setL (lft E o) → x < 64 := fun x hx => (mem_setL.1 hx).1
      have hNl := setL_len (lft E o)
      have HC := hide (cand_prog E o)
      generalize setL (lft E o) = N at *
      go_loopw [4, 5, 15] (fun v z y wr2 => wr2 = w5 ∧ v = .slice A n c ∧ z = .int .u64 (wv (lft E o) : Int) ∧ ∃ k : Nat, k ≤ N.length ∧ y = .int .i64 (k : Int) ∧ ∀ i, i < k → ∀ x, N[i]? = some x → decide (wv (cap (E x) (lft E o)) = 0) = false) (fun _ _ y _ => N.length - (intOf y).toNat)
      case atStart => exact ⟨rfl, rfl, rfl, 0, by omega, rfl, fun i hi => by omega⟩
      case round =>
        obtain ⟨rfl, rfl, rfl, k, hk, rfl, hno⟩ := hrel
        have HK := hide hno
        clear hno
        by_cases hlt : k < N.length
        · obtain ⟨x, hx⟩ : ∃ x, N[k]? = some x := ⟨_, List.getElem?_eq_getElem hlt⟩
          have hx64 := hNm x (List.mem_of_getElem? hx)
          obtain ⟨b2, off2, c2, he2, _, hc2⟩ := row_at HR.out hx
          simp only [Value.slice.injEq] at he2
          obtain ⟨rfl, -, rfl⟩ := he2
          have d1 := hc2 _ (Ext.refl _)
          have d2 := ((HB.out).cell x).trans (gc_at hx64)
          have hx2 : (x : Int) < 64 := by omega
          have HXX := hide hx
          have e1 := and_u (E x) (lft E o)
          clear hx hc2
          by_cases hd : wv (cap (E x) (lft E o)) = 0
          · have E1 : ((wv (cap (E x) (lft E o)) : Int) == 0) = true := by simp [hd]
            have hcand := (find_at (p := fun n => decide (wv (cap (E n) (lft E o)) = 0)) N HK.out HXX.out (by simpa using hd))
            rw [HC.out] at hcand
            have HM := hide (stp_more HS.out hcand)
            have HL := hide (wv_eq (lft_more (E := E) (o := o) hx64))
            have e2 := no_u (lft E o) (one x)
            have hlen := ord_len HM.out
            have hlen : n + 1 ≤ 64 := by rw [List.length_append, HN.out] at hlen; simpa using hlen
            clear hd hcand
            go_wp2_with (first | (at_builtin; refine wpList_app2 (base := w.heap.size) (n := n) (xs := o.map enN) rfl rfl Tryd.underlying38 inf_int rfl (by omega) rfl HO.out HX.out.size rfl rfl rfl (by simp [Value.oneCell']) (by unfold maxLen; omega) (by omega) ?_; intro v' w3 hown' hg3; go_frame) | (go_at_call 24; (with_reducible refine (bit_any hx64 _).mono ?_); rintro e6 w6 ⟨rfl, rfl⟩; go_frame))
            obtain ⟨A', c', rfl⟩ := own_sl hown'
            refine ⟨⟨o ++ [x], ?_, ?_, HM.out, blk_kept HB.out HO.out (by decide) hg3, Ext.grown (HX.out.trans (Ext.alloc _ _)) hg3 (own_row HO.out)⟩, ?_⟩
            · rw [List.length_append, List.map_append, HN.out]; exact hown'
            · rw [← HL.out]
            · simp [lenV]; omega
          · have E1 : ((wv (cap (E x) (lft E o)) : Int) == 0) = false := by simp [hd]
            go_wp2_with fail
            go_roundw
            case rel => exact ⟨by first | rfl | trivial, rfl, rfl, k + 1, by omega, by go_num, fun i hi y hy => by
              by_cases e : i = k
              · subst e
                rw [HXX.out] at hy
                obtain rfl := Option.some.inj hy
                simpa using hd
              · exact HK.out i (by omega) y hy⟩
            case measure => simp [intOf]; omega
        · obtain rfl : k = N.length := by omega
          have hcand := find_no (p := fun n => decide (wv (cap (E n) (lft E o)) = 0)) N HK.out
          rw [HC.out] at hcand
          have HM := hide (HQ.out hcand)
          clear hcand
          go_wp2_with fail
          rw [Exit.noGoto_ret]
          go_ret2
          exact ⟨_, _, rfl, ⟨by rw [HM.out]; rfl, by rw [HM.out]; exact own_nil _ _ _ _⟩, HX.out⟩
end Go.Proofs.YtaglpodilepioaaDoor
