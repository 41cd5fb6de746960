/-
  A law of layer 9 holds of every input: RecordCounts. No condition.
-/
import Derived.Test.YtppjpicfiflkcaaS2
namespace Go.Proofs.Ytppjpicfiflkcaa
open Go.ChangeShapes Go.WideShapes Go.ChangeAt Go.RowKit Go.Deep Go.Joins
set_option linter.unusedVariables false
set_option linter.unusedSimpArgs false
set_option maxRecDepth 100000

set_option maxHeartbeats 4000000 in
theorem lcounts_any (A : Option Addr) (n c : Nat) (f : Nat → Stp) (w : World) (hn : n ≤ c) (hc : c ≤ maxLen) (hs : Stps w w.heap.size A n f) (hf : ∀ k, k < n → Okst (f k)) :
    Calls Try.prog 6 #[.slice A n c] w fun e w' => e = .returned (.bool true) ∧ Ext w w' := by
  have HF := hide hf
  clear hf
  go_enter Try.func6, Try.ntmps6
  go_wp2_with fail
  refine (new_in 512 _ (by omega) (by omega)).mono ?_
  rintro e w1 ⟨M, rfl, hm, hM, hX⟩
  rw [show ((512 : Nat) : Int) = 512 from rfl] at hm
  go_wp2_with fail
  refine (short_any A n c _ hn hc).mono ?_
  rintro e w2 ⟨rfl, rfl⟩
  go_wp2_with fail
  go_loopw [32] (fun i wr => ∃ (j g : Nat) (l : List Rec), j ≤ min n 200 ∧ i = .int .i64 j ∧ St 58 38 wr M g 512 l ∧ l.length ≤ j ∧ w.heap.size ≤ g ∧ Ext w wr) (fun i _ => min n 200 - (intOf i).toNat)
  case atStart => exact ⟨0, M, [], by omega, rfl, hm, by simp, hM, hX⟩
  case round =>
    clear hm hX
    obtain ⟨j, g, l, hj, rfl, hm, hl, hg, hX⟩ := hrel
    by_cases hlt : j < min n 200
    · have hj2 : j < n := by omega
      obtain ⟨b, off, rfl, hb, r0, r1, r2⟩ := (hs.chg hX (Nat.le_refl _)).rules hj2
      have hok := HF.out j hj2
      have k0 := hok.k0
      have k1 := hok.k1
      have hm := hm.ext (Ext.alloc wr (.cells #[.int .u8 (f j).k, .int .i64 (f j).n, .int .u64 (f j).s] 36))
      have hX := hX.trans (Ext.alloc wr (.cells #[.int .u8 (f j).k, .int .i64 (f j).n, .int .u64 (f j).s] 36))
      by_cases q1 : (f j).k % 4 = 1
      · go_wp2_with fail
        refine (pop_any hm (by omega)).mono ?_
        rintro e w2 ⟨rfl, hm, hc⟩
        have hX := hX.turn hc (low2 hM hg)
        have hl2 := popL_len 512 l (f j).n
        clear hc
        go_wp2_with fail
        go_roundw
        case rel => exact ⟨j + 1, g, _, by omega, by go_num, hm, by omega, hg, hX⟩
        case measure => simp [intOf]; omega
      · go_wp2_with fail
        refine (push_any (f j).s hm hM hg (by omega) (by omega)).mono ?_
        rintro e w2 ⟨rfl, g2, hm, hg2, hc⟩
        have hX := hX.turn hc (low2 hM hg)
        have hl2 := pushL_len 512 l (f j).n (f j).s
        clear hc
        go_wp2_with fail
        go_roundw
        case rel => exact ⟨j + 1, g2, _, by omega, by go_num, hm, by omega, hg2, hX⟩
        case measure => simp [intOf]; omega
    · have hl2 : l.length ≤ 1000 := by omega
      clear hl hj hs
      go_wp2_with fail
      refine (objects_any hm.lst hl2).mono ?_
      rintro e w2 ⟨v, rfl, hown, hx⟩
      have hm := hm.ext hx
      have hX := hX.trans hx
      clear hx
      obtain ⟨A2, c2, rfl⟩ := own_sl hown
      have ol := objL_len l
      have HO := hide hown
      have HM := hide hm
      clear hown hm
      go_wp2_with fail
      go_loopw [7, 54] (fun all i wq => ∃ q : Nat, q ≤ (objL l).length ∧ i = .int .i64 q ∧ all = .int .i64 (sumQ l (objL l) q : Nat) ∧ Ext w2 wq) (fun _ i _ => (objL l).length - (intOf i).toNat)
      case atStart => exact ⟨0, by omega, rfl, by simp [sumQ], Ext.refl _⟩
      case round =>
        obtain ⟨q, hq, rfl, rfl, hW⟩ := hrel
        have sl := sumQ_le l q hq
        by_cases hql : q < (objL l).length
        · obtain ⟨g2, c3, hv, hg2, hcell⟩ := own_atJ (own_ext HO.out hW) hql
          simp only [Value.slice.injEq, true_and] at hv
          obtain ⟨rfl, rfl⟩ := hv
          have ho := List.getElem_mem hql
          have hp := cntL_pos ho
          have hsp := span_of (objL_mem.1 ho)
          have HN := hide (sumQ_next (l := l) hql)
          have sl2 := sumQ_le l (q + 1) hql
          rw [HN.out] at sl2
          generalize hoe : (objL l)[q] = o at *
          clear ho hoe
          have hm := HM.out.ext hW
          go_wp2_with fail
          refine (count_any o hm.lst hl2).mono ?_
          rintro e w3 ⟨rfl, hx⟩
          have hm := hm.ext hx
          have hW := hW.trans hx
          clear hx
          go_wp2_with fail
          refine (first_any o hm.lst hl2).mono ?_
          rintro e w4 ⟨rfl, hx⟩
          have hm := hm.ext hx
          have hW := hW.trans hx
          clear hx
          go_wp2_with fail
          refine (top_any o hm.lst hl2).mono ?_
          rintro e w5 ⟨rfl, hx⟩
          have hm := hm.ext hx
          have hW := hW.trans hx
          clear hx
          have HC := hide (show cntL l o = (ofL l o l.length).length from rfl)
          generalize firI l o = a at *
          generalize topI l o = b at *
          generalize cntL l o = cn at *
          have sa0 := hsp.a0
          have sab := hsp.ab
          have sbl := hsp.bl
          have SP := hide hsp
          clear hsp
          have sb0 : 0 ≤ b := by omega
          go_wp2_with fail
          refine (len_any hm.lst).mono ?_
          rintro e w6 ⟨rfl, rfl⟩
          go_wp2_with fail
          refine (len_any hm.lst).mono ?_
          rintro e w7 ⟨rfl, rfl⟩
          go_wp2_with fail
          go_loopw [15, 100] (fun met i wz => ∃ k : Nat, k ≤ l.length ∧ i = .int .i64 k ∧ met = .int .i64 ((ofL l o k).length : Nat) ∧ Ext w5 wz) (fun _ i _ => l.length - (intOf i).toNat)
          case atStart => exact ⟨0, by omega, rfl, rfl, Ext.refl _⟩
          case round =>
            clear hcell
            obtain ⟨k, hk, rfl, rfl, hZ⟩ := hrel
            by_cases hkl : k < l.length
            · have hz := hm.ext hZ
              have sk := ofL_len l o k
              go_wp2_with fail
              refine (get_in hz (by omega) hkl).mono ?_
              rintro e w8 ⟨rfl, hx⟩
              have hZ := (hZ.trans hx).trans (Ext.alloc w8 (.cells #[.int .i64 (l[k]).1, .int .u64 (l[k]).2] 38))
              have SPk := SP.out.all k hkl
              by_cases he : (l[k]).1 = o
              · obtain ⟨p1, p2⟩ := SPk he
                rw [he] at hZ
                have Y := hide (ofL_yes hkl he)
                go_wp2_with fail
                go_roundw
                case rel => exact ⟨k + 1, by omega, by go_num, by rw [Y.out, List.length_append]; go_num, hZ⟩
                case measure => simp [intOf]; omega
              · clear SPk
                have Y := hide (ofL_no hkl he)
                go_wp2_with fail
                go_roundw
                case rel => exact ⟨k + 1, by omega, by go_num, by rw [Y.out], hZ⟩
                case measure => simp [intOf]; omega
            · obtain rfl : k = l.length := by omega
              have hW := hW.trans hZ
              rw [← HC.out]
              go_wp2_with fail
              go_roundw
              case rel => exact ⟨q + 1, by omega, by go_num, by rw [HN.out]; go_num, hW⟩
              case measure => simp [intOf]; omega
        · obtain rfl : q = (objL l).length := by omega
          have HS := hide (sum_all l)
          have hm := HM.out.ext hW
          rw [HS.out]
          go_wp2_with fail
          refine (len_any hm.lst).mono ?_
          rintro e w3 ⟨rfl, rfl⟩
          go_wp2_with fail
          refine (alive_any _).mono ?_
          rintro e w4 ⟨rfl, hx⟩
          go_wp2_with fail
          go_ret
          exact ⟨rfl, (hX.trans hW).trans hx⟩

set_option maxRecDepth 100000 in
theorem recordCounts_walk {H : Type} {enc : TypeId × Value → H} (W : World) (base : Nat) (args : Array Value) (ds : List (DataW H)) (p : List MemPlace)
    (hval0 : ∀ (j : Nat) t v, Try.f6.params[j]? = some t → args[j]? = some v → Value.okWide Try.prog W .any base t v)
    (hA0 : DataW.TrodAll enc Try.prog W 0 (fun _ => true) true Try.f6.params.toList args.toList ds p) (_hlt : ∀ x ∈ p, x.block < W.heap.size) :
    Calls Try.prog 6 args W fun e W' => e = .returned (.bool true) ∧ Ext W W' := by
  have hval := hval0
  have hA := hA0
  rw [Try.params6] at hA hval
  clear hval0 hA0
  obtain ⟨v0, d0, rfl, rfl, h0⟩ := trodAll_one hA
  obtain ⟨A, n, c, f, rfl, hn, hc, hs, hf⟩ := open_steps (hval 0 22 v0 rfl rfl) h0
  exact lcounts_any A n c f W hn hc hs hf
set_option maxRecDepth 100000 in
theorem recordCounts_lifted (os : Os) (started : os.Started) (H : Type) (enc : TypeId × Value → H) :
    ReturnsInHanded {} Try.checked os 6 .any (Rows.recordCountsSpec.pre6 enc Try.prog Try.f6 Rows.recordCountsRow.domain false) (Rows.recordCountsSpec.post enc Try.prog Try.f6 false true false false) :=
  law_lifted (fn := Try.f6) 4 os started (by kernel_rfl) Try.func6 rfl rfl Try.underlying4 (hread_of (by kernel_rfl))
    (fun l hl => by
      have hl2 : l.length = 1 := hl
      clear hl
      match l, hl2 with
      | [_], _ => rfl)
    (ChangeSpec.witness6 (enc := enc) (C := Try.checked) false ⟨#[], #[.slice none 0 0], []⟩ 8 (by kernel_rfl) (by kernel_rfl) (by kernel_rfl) (by kernel_rfl))
    (fun W base args ds p hval hA hlt => recordCounts_walk W base args ds p hval hA hlt)
theorem recordCounts_holds : Rows.RecordCountsSaid :=
  OpenClaim.holds_of_wide 6 Try.f6 rfl rfl rfl rfl rfl rfl rfl ⟨rfl, rfl, rfl, rfl, rfl⟩ rfl rfl rfl rfl rfl (by kernel_rfl) Try.func6 (by kernel_rfl)
    (of_decide_eq_true (by kernel_rfl)) (by unfold Func.isWrapper; rw [if_neg (of_decide_eq_false (by kernel_rfl))]; exact ⟨rfl, rfl⟩)
    (fun os started H enc _ => recordCounts_lifted os started H enc)
end Go.Proofs.Ytppjpicfiflkcaa
