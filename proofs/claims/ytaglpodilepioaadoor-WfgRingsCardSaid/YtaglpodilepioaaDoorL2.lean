/- WfgRings, walked. -/
import Derived.Test.YtaglpodilepioaaDoorS2
import Derived.Test.YtaglpodilepioaaDoorR6
import Derived.Test.YtaglpodilepioaaDoorR9
namespace Go.Proofs.YtaglpodilepioaaDoor
open Go.RowKit
set_option linter.unusedSimpArgs false
set_option linter.unusedVariables false
set_option maxRecDepth 100000
set_option maxHeartbeats 16000000


theorem ring_len {E : Gr} {Q : List Nat} (h : RingIs E Q) : Q.length ≤ 64 := by
  rcases h with ⟨rfl, _⟩ | ⟨l, e, he, hb, rfl⟩
  · simp
  · obtain ⟨hl, hI, _, _⟩ := bst_all he hb
    have h64 := dist_le hl hI
    rw [show e = (e - 1) + 1 by omega] at hI
    have := (gr_chain (e - 1) l hI).1
    simp only [List.length_cons, this]
    omega
theorem ring_many {L : EL} : ∀ l e, 0 < e → Bst (eg L) 64 l e → e ≤ min 64 L.length := by
  intro l e he hb
  obtain ⟨hl, hI, _, _⟩ := bst_all he hb
  have h1 := dist_le hl hI
  have h2 := dist_edges hl hI
  omega
theorem lrings_any {A : Option Addr} {es : IE} {n c : Nat} (w : World) (hT : Tb w) (h : Eds w A es) (hn : es.length = n) :
    Calls Tryd.prog 4 #[.slice A n c] w fun e w' => e = .returned (.bool true) ∧ Ext w w' := by
  have HT := hide hT
  clear hT
  have HF := hide (fun w => far_any (A := A) n c w)
  by_cases hbig : 14 < n
  · rw [show decide (14 < n) = true by simpa using hbig] at HF
    clear h hn
    go_enter Tryd.func4, Tryd.ntmps4
    go_wp2_with (first | (go_at_call 17; (with_reducible refine (HF.out _).mono ?_); rintro e0 w0 ⟨rfl, rfl⟩; go_frame) | (go_at_call 6; (with_reducible refine (alive_any _ HT.out).mono ?_); rintro e1 w1 ⟨rfl, hx1⟩; go_frame))
    go_ret
    exact ⟨rfl, hx1⟩
  · rw [show decide (14 < n) = false by simpa using hbig] at HF
    have HE := hide h
    have HN := hide hn
    clear h hn
    obtain ⟨zz, hz1, hz2, hz3, hz5, hz4⟩ : ∃ zz : Array Value, (∀ w, (zeroValue 27).run Tryd.prog w = .ok (.agg zz) w) ∧ ¬ zz = #[] ∧ ¬ zz.size < 2 ∧ zz.size = 64 ∧ zz = zrw := ⟨_, fun w => by kernel_rfl, by decide +kernel, by decide +kernel, by decide +kernel, rfl⟩
    have HZ := hide hz5
    clear hz4 hz5
    go_enter Tryd.func4, Tryd.ntmps4
    go_upto_region 4 with (go_at_call 17; (with_reducible refine (HF.out _).mono ?_); rintro e0 w0 ⟨rfl, rfl⟩; go_frame)
    have HR := hide (show RG (w.alloc (.cells #[.slice none 0 0] 29)) w.heap.size 0 [] from ⟨_, Blk.new w #[.slice none 0 0] 29, own_nil _ _ _ _⟩)
    have HX := hide (Ext.alloc w (.cells #[.slice none 0 0] 29))
    obtain ⟨g, hg⟩ : ∃ g, w.heap.size = g := ⟨_, rfl⟩
    have hgw : w.heap.size ≤ g := by omega
    rw [hg] at HR
    rw [hg]
    generalize w.alloc (.cells #[.slice none 0 0] 29) = W0 at *
    clear hg
    go_wp2_with fail
    go_loopw [16] (fun y wr => ∃ k : Nat, k ≤ n ∧ y = .int .i64 (k : Int) ∧ RG wr g 0 (adds (es.take k)) ∧ Ext w wr) (fun y _ => n - (intOf y).toNat)
    case atStart => exact ⟨0, by omega, rfl, by rw [List.take_zero]; exact HR.out, HX.out⟩
    case round =>
      clear HR HX
      obtain ⟨k, hk, rfl, hR, hX⟩ := hrel
      have HR := hide hR
      have HX := hide hX
      clear hR hX
      by_cases hlt : k < n
      · obtain ⟨p, hp⟩ : ∃ p, es[k]? = some p := ⟨_, List.getElem?_eq_getElem (by rw [HN.out]; exact hlt)⟩
        obtain ⟨b, off, rfl, hcc⟩ := HE.out k p hp
        obtain ⟨d1, d2⟩ := hcc _ HX.out
        have HS := hide (adds_step hp)
        have hLl : (adds (es.take k)).length < 1000 := by
          have := (adds_is (es.take k)).2
          have : (es.take k).length ≤ k := by rw [List.length_take]; omega
          omega
        clear hp hcc
        generalize adds (es.take k) = L at *
        have HRA := hide (fun w (h : RG w g 0 L) => radd_any p.1 p.2 w h hLl)
        have hX2 := Ext.alloc wr (.cells #[.int .i64 p.1, .int .i64 p.2] 31)
        have HR2 := hide (HR.out.ext hX2)
        have HX2 := hide (HX.out.trans hX2)
        clear hX2
        go_wp2_with (go_at_call 8; (with_reducible refine (HRA.out _ HR2.out).mono ?_); rintro e3 w3 ⟨rfl, hr3, hc3⟩; go_frame)
        have HX3 := hide (HX2.out.turn hc3 (by simp; omega))
        go_roundw
        case rel => exact ⟨k + 1, by omega, by go_num, by rw [HS.out]; exact hr3, HX3.out⟩
        case measure => simp [intOf]; omega
      · obtain rfl : k = n := by omega
        have hok := (adds_is es).1
        have hL2 := (adds_is es).2
        have hLl : (adds es).length < 1000 := by have := HN.out; omega
        rw [show es.take k = es by rw [← HN.out]; exact List.take_length] at HR
        have HTH := hide (fun (w' : World) (x : Ext w w') => theirs_any c w' (HE.out.ext x) HN.out (by omega))
        generalize adds es = L at *
        have HOK := hide hok
        clear hok hL2
        go_wp2_with (first | (go_at_call 18; (with_reducible refine (HTH.out _ HX.out).mono ?_); rintro e4 w4 ⟨rfl, hx4⟩; go_frame) | (refine put_g rfl _ _ rfl w4.heap.size (eg L) rfl rfl zz (Blk.new w4 zz 27) HZ.out ?_; intro w5 hb5 hc5 hs5; have HG := hide hb5; have HX5 := hide (((HX.out.trans hx4).trans (Ext.alloc w4 (.cells zz 27))).turn hc5 (by have := (HX.out.trans hx4).size; simp; omega)); have HR5 := hide ((HR.out.ext (hx4.trans (Ext.alloc w4 (.cells zz 27)))).chgO hc5 (by have := HR.out.lt; have := hx4.size; simp; omega) (fun k hk => by rw [List.mem_singleton.1 hk]; exact ⟨_, _, Blk.new w4 zz 27, by decide⟩)); clear hb5 hc5 hs5; go_frame) | (refine get_g rfl _ rfl w4.heap.size (eg L) rfl HG.out ?_; go_frame))
        refine (order_any (eg L) _ (HT.out.ext HX5.out)).mono ?_
        rintro e6 w6 ⟨v6, b6, rfl, hO6, hx6⟩
        go_wp2_with fail
        refine (rorder_any w6 (HR5.out.ext hx6) HOK.out hLl).mono ?_
        rintro e7 w7 ⟨v7, b7, rfl, hO7, hx7⟩
        have HG := hide (HG.out.ext (hx6.trans hx7))
        have HX7 := hide (HX5.out.trans (hx6.trans hx7))
        have HR7 := hide (HR5.out.ext (hx6.trans hx7))
        have HO6 := hide (own_ext hO6.row hx7)
        have HO7 := hide hO7.row
        obtain rfl : b7 = b6 := by rw [hO6.ok, hO7.ok]
        have hol : ((ordR (eg L)).getD []).length ≤ 64 := by
          cases hq : ordR (eg L) with
          | none => simp
          | some o =>
            have h1 := (stp_is _ hq).1
            unfold ordR at hq
            rw [← h1] at hq
            exact ord_len hq
        generalize (ordR (eg L)).getD [] = o at *
        clear hO6 hO7 hx6 hx7 HX5 HR5
        go_wp2_with (refine get_g rfl _ rfl w4.heap.size (eg L) rfl HG.out ?_; go_frame)
        refine (ring_any (eg L) _ (HT.out.ext HX7.out)).mono ?_
        rintro e8 w8 ⟨v8, rfl, ⟨Q8, hq8, hr8⟩, hx8⟩
        go_wp2_with fail
        refine (rring_any w8 (HR7.out.ext hx8) hLl).mono ?_
        rintro e9 w9 ⟨v9, rfl, ⟨Q9, B9, hq9, hr9⟩, hx9⟩
        obtain rfl := ring_one hr8 hr9 ring_many
        have hQl := ring_len hr8
        have HX9 := hide (HX7.out.trans (hx8.trans hx9))
        have HO6 := hide (own_ext HO6.out (hx8.trans hx9))
        have HO7 := hide (own_ext HO7.out (hx8.trans hx9))
        have HSM := hide (same_any w9 (own_ext hq8 hx9) hq9 (by omega))
        clear hr8 hr9 hx8 hx9 hq8 hq9
        go_wp2_with fail
        refine HSM.out.mono ?_
        rintro e10 w10 ⟨rfl, hx10⟩
        have HSM2 := hide (same_any w10 (own_ext HO6.out hx10) (own_ext HO7.out hx10) (by omega))
        have HX10 := hide (HX9.out.trans hx10)
        go_wp2_with fail
        refine HSM2.out.mono ?_
        rintro e11 w11 ⟨rfl, hx11⟩
        have HX11 := hide (HX10.out.trans hx11)
        go_wp2_with fail
        refine (alive_any _ (HT.out.ext HX11.out)).mono ?_
        rintro e12 w12 ⟨rfl, hx12⟩
        go_wp2_with fail
        go_ret
        exact ⟨rfl, HX11.out.trans hx12⟩
end Go.Proofs.YtaglpodilepioaaDoor
