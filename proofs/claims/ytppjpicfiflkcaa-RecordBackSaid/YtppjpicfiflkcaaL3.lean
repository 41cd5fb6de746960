/-
  A law of layer 9 holds of every input: RecordBack. No condition.
-/
import Derived.Test.YtppjpicfiflkcaaS3
namespace Go.Proofs.Ytppjpicfiflkcaa
open Go.ChangeShapes Go.WideShapes Go.ChangeAt Go.RowKit Go.Deep Go.Joins
set_option linter.unusedVariables false
set_option linter.unusedSimpArgs false
set_option maxRecDepth 100000

set_option maxHeartbeats 4000000 in
theorem lback_any (A A2 : Option Addr) (n c n2 c2 : Nat) (f f2 : Nat → Stp) (w : World) (hn : n ≤ c) (hc : c ≤ maxLen) (hs : Stps w w.heap.size A n f) (hn2 : n2 ≤ c2) (hc2 : c2 ≤ maxLen) (hs2 : Stps w w.heap.size A2 n2 f2) :
    Calls Try.prog 4 #[.slice A n c, .slice A2 n2 c2] w fun e w' => e = .returned (.bool true) ∧ Ext w w' := by
  by_cases h1 : 100 < n
  · have h1 : (100 : Int) < n := by omega
    go_enter Try.func4, Try.ntmps4
    go_wp2_with fail
    refine (alive_any _).mono ?_
    rintro e w1 ⟨rfl, hx⟩
    go_wp2_with fail
    go_ret
    exact ⟨rfl, hx⟩
  by_cases h2 : 100 < n2
  · have h1 : ¬ (100 : Int) < n := by omega
    have h2 : (100 : Int) < n2 := by omega
    go_enter Try.func4, Try.ntmps4
    go_wp2_with fail
    refine (alive_any _).mono ?_
    rintro e w1 ⟨rfl, hx⟩
    go_wp2_with fail
    go_ret
    exact ⟨rfl, hx⟩
  have g1 : ¬ (100 : Int) < n := by omega
  have g2 : ¬ (100 : Int) < n2 := by omega
  go_enter Try.func4, Try.ntmps4
  go_wp2_with fail
  refine (new_in 512 _ (by omega) (by omega)).mono ?_
  rintro e w1 ⟨M, rfl, hm, hM, hX⟩
  rw [show ((512 : Nat) : Int) = 512 from rfl] at hm
  go_wp2_with fail
  go_loopw [47] (fun i wr => ∃ (j g : Nat) (l : List Rec), j ≤ n ∧ i = .int .i64 j ∧ St 58 38 wr M g 512 l ∧ l.length ≤ j ∧ w.heap.size ≤ g ∧ Ext w wr) (fun i _ => n - (intOf i).toNat)
  case atStart => exact ⟨0, M, [], by omega, rfl, hm, by simp, hM, hX⟩
  case round =>
    clear hm hX
    obtain ⟨j, g, l, hj, rfl, hm, hl, hg, hX⟩ := hrel
    by_cases hlt : j < n
    · obtain ⟨b, off, rfl, hb, r0, r1, r2⟩ := (hs.chg hX (Nat.le_refl _)).rules hlt
      have hm := hm.ext (Ext.alloc wr (.cells #[.int .u8 (f j).k, .int .i64 (f j).n, .int .u64 (f j).s] 36))
      have hX := hX.trans (Ext.alloc wr (.cells #[.int .u8 (f j).k, .int .i64 (f j).n, .int .u64 (f j).s] 36))
      go_wp2_with fail
      refine (push_any (f j).s hm hM hg (by omega) (by omega)).mono ?_
      rintro e w2 ⟨rfl, g2, hm, hg2, hc⟩
      have hX := hX.turn hc (low2 hM hg)
      have hl2 := pushL_len 512 l (f j).n (f j).s
      clear hc
      go_wp2_with fail
      go_roundw
      case rel => exact ⟨j + 1, g2, _, by omega, by go_num, hm, by omega, hg2, hX⟩
      case measure => simp [intOf]; omega
    · have hl1 : l.length ≤ 100 := by omega
      clear hs hl
      obtain ⟨W1, hW1⟩ : ∃ W, W = wr := ⟨_, rfl⟩
      subst hW1
      go_wp2_with fail
      refine (len_any hm.lst).mono ?_
      rintro e w2 ⟨rfl, rfl⟩
      go_wp2_with fail
      go_loopw [9, 60] (fun v i wz => ∃ k : Nat, k ≤ l.length ∧ i = .int .i64 k ∧ wz.ownsRow W1.heap.size 38 2 v k (rcells (l.take k)) ∧ Ext W1 wz) (fun _ i _ => l.length - (intOf i).toNat)
      case atStart => exact ⟨0, by omega, rfl, own_nil _ _ _ _, Ext.refl _⟩
      case round =>
        obtain ⟨k, hk, rfl, hwas, hZ⟩ := hrel
        have hz := hm.ext hZ
        by_cases hkl : k < l.length
        · have HO := hide hwas
          have HZ := hide hZ
          have Y := hide (show rcells (l.take k) ++ #[.int .i64 (l[k]).1, .int .u64 (l[k]).2].toList = rcells (l.take (k + 1)) by rw [List.take_succ_eq_append_getElem hkl, rcells_append]; rfl)
          obtain ⟨A3, c3, rfl⟩ := own_sl hwas
          clear hwas hZ
          go_wp2_with fail
          refine (get_in hz (by omega) hkl).mono ?_
          rintro e w8 ⟨rfl, hx⟩
          have HO2 := hide (own_ext HO.out (hx.trans (Ext.alloc w8 (.cells #[.int .i64 (l[k]).1, .int .u64 (l[k]).2] 38))))
          have HZ2 := hide ((HZ.out.trans hx).trans (Ext.alloc w8 (.cells #[.int .i64 (l[k]).1, .int .u64 (l[k]).2] 38)))
          have sz := HZ2.out.size
          clear hx hz
          go_wp2_with (first
            | (at_builtin; refine wpList_app1 (W0 := W1) (g := w8.heap.size + 1) rfl rfl Try.underlying53 inf_rec rfl (by omega) rfl HO2.out HZ2.out rfl (by simp) rfl (by simp [Value.oneCell']) (by unfold maxLen; omega) (by omega) ?_; intro v' w3 hown' hW3; obtain ⟨A4, c4, rfl⟩ := own_sl hown'; have HO3 := hide hown'; have HW3 := hide hW3; clear hown' hW3; go_frame)
            | go_in)
          go_roundw
          case rel => exact ⟨k + 1, by omega, by go_num, by rw [← Y.out]; exact HO3.out, HW3.out⟩
          case measure => simp [intOf]; omega
        · obtain rfl : k = l.length := by omega
          rw [List.take_length] at hwas
          obtain ⟨W2, hW2⟩ : ∃ W, W = wr := ⟨_, rfl⟩
          subst hW2
          obtain ⟨A3, c3, rfl⟩ := own_sl hwas
          have lgM := hm.ltg
          have hX2 := hX.trans hZ
          have HBW := hide (show ∀ i, (Value.slice A3 l.length c3).ownBlock = some i → i ∉ [M, g] from fun i hi => by have := own_row hwas i hi; have := hm.ltM; simp; omega)
          clear hX hm
          have sz12 := hZ.size
          have HWS := hide hwas
          clear hZ hwas
          go_wp2_with fail
          go_loopw [13, 76] (fun bv i wq => ∃ (j g : Nat) (e : List Rec), j ≤ n2 ∧ i = .int .i64 j ∧ St 58 38 wq M g 512 (l ++ e) ∧ e.length ≤ j ∧ w.heap.size ≤ g ∧ Ext w wq ∧
            wq.ownsRow W1.heap.size 38 2 (.slice A3 l.length c3) l.length (rcells l) ∧ (∀ i, (Value.slice A3 l.length c3).ownBlock = some i → i ∉ [M, g]) ∧ wq.ownsRow w.heap.size 3 1 bv e.length ((e.map (·.1)).map enJ)) (fun _ i _ => n2 - (intOf i).toNat)
          case atStart => exact ⟨0, g, [], by omega, rfl, by rw [List.append_nil]; exact hz, by simp, hg, hX2, HWS.out, HBW.out, own_nil _ _ _ _⟩
          case round =>
            clear hz hX2 HBW HWS hg lgM
            obtain ⟨j, g, e, hj, rfl, hm, hl, hg, hX, hwas, hbw, hback⟩ := hrel
            by_cases hlt : j < n2
            · obtain ⟨b, off, rfl, hb, r0, r1, r2⟩ := (hs2.chg hX (Nat.le_refl _)).rules hlt
              obtain ⟨A5, c5, rfl⟩ := own_sl hback
              have hY := Ext.alloc wr (.cells #[.int .u8 (f2 j).k, .int .i64 (f2 j).n, .int .u64 (f2 j).s] 36)
              have lM := hm.ltM
              have lg := hm.ltg
              have bs := Blk.new wr #[.int .u8 (f2 j).k, .int .i64 (f2 j).n, .int .u64 (f2 j).s] 36
              have HBL := hide (own_lt hwas)
              have hm := hm.ext hY
              have hX := hX.trans hY
              have hwas := own_ext hwas hY
              have hback := own_ext hback hY
              have hsd := hm.aside hback
              have HWS := hide hwas
              have HBK := hide hback
              have HBW := hide hbw
              have HSD := hide hsd
              have llen : ((l ++ e).length : Int) ≤ 512 := by simp; omega
              clear hwas hback hbw hsd hY
              go_wp2_with fail
              refine (push_any2 (f2 j).s hm hM hg llen (by omega)).mono ?_
              rintro e1 w2 ⟨rfl, g2, hm, hg2, hc, hgn⟩
              have hX := hX.turn hc (low2 hM hg)
              have HWS := hide (own_chgB HWS.out hc HBW.out)
              have HBK := hide (own_chgB HBK.out hc HSD.out)
              have bs := bs.chg hc (by simp; omega)
              have HBW := hide (show ∀ i, (Value.slice A3 l.length c3).ownBlock = some i → i ∉ [M, g2] from fun i hi => by
                have q1 := HBW.out i hi
                have q2 := HBL.out i hi
                simp only [World.size_alloc] at hgn
                simp at q1 ⊢
                omega)
              clear hc HSD hgn HBL
              by_cases hE : pushE 512 (l ++ e) (f2 j).n = 0
              · have e2 : pushL 512 (l ++ e) (f2 j).n (f2 j).s = l ++ (e ++ [((f2 j).n, (f2 j).s)]) := by unfold pushL; rw [if_pos hE, List.append_assoc]
                rw [e2] at hm
                rw [hE]
                have rs := bs.cell
                have HM := hide hm
                have HX := hide hX
                have HB := hide bs
                clear hm hX e2 bs
                go_wp2_with (first
                  | (at_builtin; (refine wpList_app3 (g := w2.heap.size) (v := .slice A5 e.length c5) rfl rfl Try.underlying55 inf_int rfl (by omega) rfl HBK.out HX.out.size rfl rfl rfl (by simp [Value.oneCell']) (by unfold maxLen; omega) (by omega) ?_; intro v' w3 hown' hg3 hnw; obtain ⟨A6, c6, rfl⟩ := own_sl hown'; have HO3 := hide hown'; have HG3 := hide hg3; clear hown' hg3 hnw; go_frame))
                  | go_in)
                have hY := Ext.alloc w2 (.cells #[.int .i64 (f2 j).n] 3)
                have hsd := HM.out.aside HBK.out
                have hG : Chg ((Value.slice A5 e.length c5).ownBlock.toList) (w2.alloc (.cells #[.int .i64 (f2 j).n] 3)) w3 := Chg.grow1 HG3.out (fun k hk => by simp [hk])
                have hT : ∀ x, x ∈ (Value.slice A5 e.length c5).ownBlock.toList → (Value.slice A5 e.length c5).ownBlock = some x := fun x hx => by simpa using hx
                have hm := (HM.out.ext hY).chg hG (fun q => hsd M (hT M q) (by simp)) (fun q => hsd g2 (hT g2 q) (by simp))
                have hX := (HX.out.trans hY).turn hG (fun t ht => own_row HBK.out t (hT t ht))
                have hws := own_chgB (own_ext HWS.out hY) hG (fun i hi q => own_aside HBK.out HWS.out i hi i (hT i q) rfl)
                have hb3 : w3.ownsRow w.heap.size 3 1 (.slice A6 (e.length + 1) c6) (e ++ [((f2 j).n, (f2 j).s)]).length (((e ++ [((f2 j).n, (f2 j).s)]).map (·.1)).map enJ) := by
                  have := HO3.out
                  simpa using this
                go_roundw
                case rel => exact ⟨j + 1, g2, e ++ [((f2 j).n, (f2 j).s)], by omega, by go_num, hm, by simp; omega, hg2, hX, hws, HBW.out, hb3⟩
                case measure => simp [intOf]; omega
              · have e2 : pushL 512 (l ++ e) (f2 j).n (f2 j).s = l ++ e := by unfold pushL; rw [if_neg hE]
                rw [e2] at hm
                have HE := hE
                go_wp2_with fail
                go_roundw
                case rel => exact ⟨j + 1, g2, e, by omega, by go_num, hm, by omega, hg2, hX, HWS.out, HBW.out, HBK.out⟩
                case measure => simp [intOf]; omega
            · clear hs2
              have he2 : e.length ≤ 100 := by omega
              obtain ⟨W3, hW3⟩ : ∃ W, W = wr := ⟨_, rfl⟩
              subst hW3
              obtain ⟨A5, c5, rfl⟩ := own_sl hback
              have HBW := hide hbw
              clear hbw
              go_wp2_with fail
              go_loopw [99] (fun i wq => ∃ (q : Nat) (e2 : List Rec), q ≤ e.length ∧ i = .int .i64 q ∧ St 58 38 wq M g 512 (l ++ e2) ∧ (e2.map (·.1)).Perm ((e.map (·.1)).drop q) ∧ Ext w wq ∧
                wq.ownsRow W1.heap.size 38 2 (.slice A3 l.length c3) l.length (rcells l) ∧ wq.ownsRow w.heap.size 3 1 (.slice A5 e.length c5) e.length ((e.map (·.1)).map enJ)) (fun i _ => e.length - (intOf i).toNat)
              case atStart => exact ⟨0, e, by omega, rfl, hm, by rw [List.drop_zero], hX, hwas, hback⟩
              case round =>
                clear hm hX hwas hback
                obtain ⟨q, e2, hq, rfl, hm, hP, hX, hwas, hback⟩ := hrel
                have ml : (e.map (·.1)).length = e.length := by simp
                by_cases hql : q < e.length
                · obtain ⟨gb, cb, hv, hgb, hcell⟩ := own_atK hback ml (j := q) (by omega)
                  simp only [Value.slice.injEq, true_and] at hv
                  obtain ⟨rfl, rfl⟩ := hv
                  rw [List.drop_eq_getElem_cons (by omega)] at hP
                  have l2 : (l ++ e2).length ≤ 1000 := by have := hP.length_eq; simp at this ⊢; omega
                  generalize (e.map (·.1))[q]'(by omega) = o at *
                  obtain ⟨k, hk, t1, t2, t3, t4⟩ := pop_extra (l := l) hP
                  have hp := pop_any (a := o) hm l2
                  rw [t1, getR_extra hk, erA_in (by omega) (by simp; omega), t3, t2] at hp
                  have hsd := HBW.out
                  have hsd2 := hm.aside hback
                  have HWS := hide hwas
                  have HBK := hide hback
                  have HS2 := hide hsd2
                  have T4 := hide t4
                  clear hwas hback hsd hsd2 t1 t3 t4 hm hP t2
                  generalize (e2[k]).2 = sv at *
                  go_wp2_with fail
                  refine hp.mono ?_
                  rintro e3 w4 ⟨rfl, hm, hc⟩
                  clear hp
                  have hX := hX.turn hc (low2 hM hg)
                  have hwas := own_chgB HWS.out hc HBW.out
                  have hback := own_chgB HBK.out hc HS2.out
                  have hY := Ext.alloc w4 (.cells #[.int .i64 o, .int .u64 sv] 38)
                  have HM := hide (hm.ext hY)
                  have HX := hide (hX.trans hY)
                  have HWS := hide (own_ext hwas hY)
                  have HBK := hide (own_ext hback hY)
                  clear hm hX hwas hback hY hc hcell
                  go_wp2_with fail
                  go_roundw
                  case rel => exact ⟨q + 1, e2.eraseIdx k, by omega, by go_num, HM.out, T4.out, HX.out, HWS.out, HBK.out⟩
                  case measure => simp [intOf]; omega
                · obtain rfl : q = e.length := by omega
                  have e0 : e2 = [] := by
                    rw [List.drop_of_length_le (by simp)] at hP
                    exact List.map_eq_nil_iff.1 hP.eq_nil
                  subst e0
                  rw [List.append_nil] at hm
                  obtain ⟨W4, hW4⟩ : ∃ W, W = wr := ⟨_, rfl⟩
                  subst hW4
                  have HWS := hide hwas
                  clear hwas hback hP
                  go_wp2_with fail
                  refine (len_any hm.lst).mono ?_
                  rintro e3 w5 ⟨rfl, rfl⟩
                  go_wp2_with fail
                  go_loopw [125] (fun i wz => ∃ k : Nat, k ≤ l.length ∧ i = .int .i64 k ∧ Ext W4 wz) (fun i _ => l.length - (intOf i).toNat)
                  case atStart => exact ⟨0, by omega, rfl, Ext.refl _⟩
                  case round =>
                    obtain ⟨k, hk, rfl, hZ⟩ := hrel
                    by_cases hkl : k < l.length
                    · obtain ⟨gw, cw, hv, hgw, c0, c1⟩ := own_atR (own_ext HWS.out hZ) hkl
                      simp only [Value.slice.injEq, true_and] at hv
                      obtain ⟨rfl, rfl⟩ := hv
                      have hY := Ext.alloc wr (.cells #[.int .i64 (l[k]).1, .int .u64 (l[k]).2] 38)
                      have bw := Blk.new wr #[.int .i64 (l[k]).1, .int .u64 (l[k]).2] 38
                      have hz := hm.ext (hZ.trans hY)
                      go_wp2_with fail
                      refine (get_in hz (by omega) hkl).mono ?_
                      rintro e4 w6 ⟨rfl, hx⟩
                      have hY2 := Ext.alloc w6 (.cells #[.int .i64 (l[k]).1, .int .u64 (l[k]).2] 38)
                      have bw := (bw.ext hx).ext hY2
                      have rw1 := bw.cell
                      have hZ := ((hZ.trans hY).trans hx).trans hY2
                      have hE := run_neqS (l[k]).1 (l[k]).2
                      clear hx hY hY2 hz bw c0 c1
                      go_wp2_with fail
                      go_roundw
                      case rel => exact ⟨k + 1, by omega, by go_num, hZ⟩
                      case measure => simp [intOf]; omega
                    · go_wp2_with fail
                      refine (alive_any _).mono ?_
                      rintro e4 w6 ⟨rfl, hx⟩
                      go_wp2_with fail
                      go_ret
                      exact ⟨rfl, (hX.trans hZ).trans hx⟩

set_option maxRecDepth 100000 in
theorem recordBack_walk {H : Type} {enc : TypeId × Value → H} (W : World) (base : Nat) (args : Array Value) (ds : List (DataW H)) (p : List MemPlace)
    (hval0 : ∀ (j : Nat) t v, Try.f4.params[j]? = some t → args[j]? = some v → Value.okWide Try.prog W .any base t v)
    (hA0 : DataW.TrodAll enc Try.prog W 0 (fun _ => true) true Try.f4.params.toList args.toList ds p) (_hlt : ∀ x ∈ p, x.block < W.heap.size) :
    Calls Try.prog 4 args W fun e W' => e = .returned (.bool true) ∧ Ext W W' := by
  have hval := hval0
  have hA := hA0
  rw [Try.params4] at hA hval
  clear hval0 hA0
  obtain ⟨v0, v1, d0, d1, p0, p1, hargs, rfl, rfl, h0, h1⟩ := trodAll_two hA
  obtain rfl : args = #[v0, v1] := by cases args; simp_all
  obtain ⟨A, n, c, f, rfl, hn, hc, hs, _⟩ := open_steps (hval 0 22 v0 rfl rfl) h0
  obtain ⟨A2, n2, c2, f2, rfl, hn2, hc2, hs2, _⟩ := open_steps (hval 1 22 v1 rfl rfl) h1
  exact lback_any A A2 n c n2 c2 f f2 W hn hc hs hn2 hc2 hs2
set_option maxRecDepth 100000 in
theorem recordBack_lifted (os : Os) (started : os.Started) (H : Type) (enc : TypeId × Value → H) :
    ReturnsInHanded {} Try.checked os 4 .any (Rows.recordBackSpec.pre6 enc Try.prog Try.f4 Rows.recordBackRow.domain false) (Rows.recordBackSpec.post enc Try.prog Try.f4 false true false false) :=
  law_lifted (fn := Try.f4) 4 os started (by kernel_rfl) Try.func4 rfl rfl Try.underlying4 (hread_of (by kernel_rfl))
    (fun l hl => by
      have hl2 : l.length = 2 := hl
      clear hl
      match l, hl2 with
      | [_, _], _ => rfl)
    (ChangeSpec.witness6 (enc := enc) (C := Try.checked) false ⟨#[], #[.slice none 0 0, .slice none 0 0], []⟩ 8 (by kernel_rfl) (by kernel_rfl) (by kernel_rfl) (by kernel_rfl))
    (fun W base args ds p hval hA hlt => recordBack_walk W base args ds p hval hA hlt)
theorem recordBack_holds : Rows.RecordBackSaid :=
  OpenClaim.holds_of_wide 4 Try.f4 rfl rfl rfl rfl rfl rfl rfl ⟨rfl, rfl, rfl, rfl, rfl⟩ rfl rfl rfl rfl rfl (by kernel_rfl) Try.func4 (by kernel_rfl)
    (of_decide_eq_true (by kernel_rfl)) (by unfold Func.isWrapper; rw [if_neg (of_decide_eq_false (by kernel_rfl))]; exact ⟨rfl, rfl⟩)
    (fun os started H enc _ => recordBack_lifted os started H enc)
end Go.Proofs.Ytppjpicfiflkcaa
