/- Whether a stack tells what the document's has. -/
import Derived.Test.YtppjpicfiflkcaaS3
import Derived.Deep.DeepCutAuto
import Derived.Deep.CutBlock
namespace Go.Proofs.Ytppjpicfiflkcaa
open Go.RowKit Go.Deep
set_option linter.unusedVariables false
set_option linter.unusedSimpArgs false
set_option maxRecDepth 100000

theorem run_neqRS (a b : Int) (w : World) : Sem.run Try.prog (binOp .neq 41 (.agg #[.int .i64 a, .int .u64 b]) (.agg #[.int .i64 a, .int .u64 b])) w = .ok (.bool false) w := by
  go_simp
theorem run_eqRS (a b : Int) (w : World) : Sem.run Try.prog (binOp .eql 41 (.agg #[.int .i64 a, .int .u64 b]) (.agg #[.int .i64 a, .int .u64 b])) w = .ok (.bool true) w := by
  go_simp
theorem own_atN2 {w : World} {base n : Nat} {v : Value} {l : List Nat} (h : w.ownsRow base 3 1 v n (l.map enI)) (hn : l.length = n) {j : Nat} (hj : j < l.length) :
    ∃ g c, v = .slice (some ⟨g, 0, none⟩) n c ∧ base ≤ g ∧ g < w.heap.size ∧ w.cell? ⟨g, j, none⟩ = some (.int .i64 ((l[j] : Nat) : Int)) := by
  subst hn
  obtain ⟨g, c, rfl, hb, hc⟩ := own_atN h hj
  exact ⟨g, c, rfl, hb, own_lt h g rfl, hc⟩
theorem fir_at {l : List Rec} {a : Int} {n : Nat} (hn : cntL l a = n) (h : 0 < n) : ∃ q : Nat, firI l a = q ∧ (ofL l a l.length)[0]? = some q := by
  unfold cntL at hn
  unfold firI
  cases e : ofL l a l.length with
  | nil => rw [e] at hn; simp at hn; omega
  | cons x r => exact ⟨x, rfl, rfl⟩
theorem top_at {l : List Rec} {a : Int} {n : Nat} (hn : cntL l a = n) (h : 0 < n) : ∃ q : Nat, topI l a = q ∧ (ofL l a l.length)[n - 1]? = some q := by
  unfold cntL at hn
  unfold topI
  rcases List.eq_nil_or_concat (ofL l a l.length) with e | ⟨r, x, e⟩
  · rw [e] at hn; simp at hn; omega
  · rw [List.concat_eq_append] at e
    rw [e] at hn ⊢
    rw [List.getLast?_concat]
    have : n - 1 = r.length := by simp at hn; omega
    exact ⟨x, rfl, by rw [this]; simp⟩
theorem own_atN3 {w : World} {base n q : Nat} {v : Value} {l : List Nat} (h : w.ownsRow base 3 1 v n (l.map enI)) (hn : l.length = n) {j : Nat} (hj : l[j]? = some q) :
    ∃ g c, v = .slice (some ⟨g, 0, none⟩) n c ∧ ∀ w', Ext w w' → w'.cell? ⟨g, j, none⟩ = some (.int .i64 (q : Int)) := by
  subst hn
  obtain ⟨hlt, he⟩ := List.getElem?_eq_some_iff.1 hj
  obtain ⟨g, c, rfl, hb, hc⟩ := own_atN h hlt
  rw [he] at hc
  exact ⟨g, c, rfl, fun w' hx => (hx.oldCell _ _ (own_lt h g rfl)).trans hc⟩
set_option maxHeartbeats 4000000 in
theorem told_any {w : World} {M g R h : Nat} {N a : Int} {l : List Rec} (hm : St 58 38 w M g N l) (hr : St 29 41 w R h N l) (h0 : 0 < N) (hl : l.length ≤ 600) :
    Calls Try.prog 17 #[(.pointer (some ⟨M, 0, none⟩)), (.pointer (some ⟨R, 0, none⟩)), .int .i64 a] w fun e w' => e = .returned (.bool true) ∧ Ext w w' := by
  have HM := hide hm
  have HR := hide hr
  have hl1 : l.length ≤ 1000 := by omega
  clear hm hr
  go_enter Try.func17, Try.ntmps17
  go_upto_if 30 with (go_at_call 25; refine (rof_any a HR.out hl1).mono ?_; rintro e w1 ⟨v, rfl, hown, hX⟩; obtain ⟨A1, c1, rfl⟩ := own_sl hown)
  have HO := hide hown
  have hcn : cntL l a ≤ 1000 := by have := cntL_len l a; omega
  have HC := hide (show (ofL l a l.length).length = cntL l a from rfl)
  clear hown
  rw [HC.out]
  have HN := hide (show cntL l a = cntL l a from rfl)
  generalize hn : cntL l a = n at *
  have HE := hide hn
  clear hn HN
  go_cut [8, 9] (fun x y wc => x = .int .i64 (firI l a) ∧ y = .int .i64 (topI l a) ∧ Ext w wc)
  case first =>
    by_cases hz : 0 < n
    · obtain ⟨q1, e1, c1⟩ := fir_at HE.out hz
      obtain ⟨q2, e2, c2⟩ := top_at HE.out hz
      obtain ⟨gb, cb, hv, r1⟩ := own_atN3 HO.out rfl c1
      obtain ⟨gb2, cb2, hv2, r2⟩ := own_atN3 HO.out rfl c2
      rw [hv] at hv2
      simp only [Value.slice.injEq, Option.some.injEq, Addr.mk.injEq, and_true, true_and] at hv hv2
      obtain ⟨rfl, rfl⟩ := hv2
      obtain ⟨rfl, rfl⟩ := hv
      have E1 := hide e1
      have E2 := hide e2
      have gw : IntKind.i64.wrap ((n : Int) - 1) = ((n - 1 : Nat) : Int) := by rw [IntKind.wrap_i64]; omega
      have hz2 : (0 : Int) < n := by omega
      have hz3 : n - 1 < n := by omega
      have hW := Ext.refl w1
      clear e1 e2 c1 c2
      go_wp2_with fail
      refine wp_region_ext (by kernel_rfl) (by kernel_rfl) ?_
      repeat
        with_reducible refine wpQuiet_step (fun K hK => ?_)
        go_simp
        first
        | (refine hK _ ?_; clear hK K)
        | (apply Exists.intro
           refine ⟨fun w1 h1 => ?_, hK _ ?_⟩
           (have hW := hW.trans h1; (first | rfl | (go_simp; done) | (go_simp; rfl) | fail))
           clear hK K)
      refine wpQuiet_nil (fun w' hw' => ?_)
      have hX := hX.trans hw'
      go_wp2_with fail
      go_meet
      case rel => exact ⟨by rw [E1.out], by rw [E2.out], hX⟩
    · have e0 : ofL l a l.length = [] := List.eq_nil_of_length_eq_zero (by have := HC.out; omega)
      have E1 : firI l a = -1 := by unfold firI; rw [e0]
      have E2 : topI l a = -1 := by unfold topI; rw [e0]; rfl
      have E1 := hide E1
      have E2 := hide E2
      have hz2 : ¬ (0 : Int) < n := by omega
      clear e0
      go_wp2_with fail
      go_meet
      case rel => exact ⟨by rw [E1.out], by rw [E2.out], hX⟩
  case rest =>
    obtain ⟨rfl, rfl, hX⟩ := hcut
    have hm := HM.out.ext hX
    have hr := HR.out.ext hX
    generalize hfi : firI l a = fi at *
    generalize hti : topI l a = ti at *
    have hf := first_any a hm.lst hl1
    rw [hfi] at hf
    go_wp2_with fail
    refine hf.mono ?_
    rintro e w2 ⟨rfl, hx⟩
    clear hf
    have hm := hm.ext hx
    have hr := hr.ext hx
    have hX := hX.trans hx
    clear hx
    have hf := top_any a hm.lst hl1
    rw [hti] at hf
    go_wp2_with fail
    refine hf.mono ?_
    rintro e w3 ⟨rfl, hx⟩
    clear hf hfi hti
    have hm := hm.ext hx
    have hr := hr.ext hx
    have hX := hX.trans hx
    clear hx
    have HM3 := hide hm
    have HR3 := hide hr
    have HCT := hide (show ∀ w', Ext w3 w' → Calls Try.prog 22 #[(.pointer (some ⟨M, 0, none⟩)), .int .i64 a] w' fun e w'' => e = .returned (.int .i64 (n : Nat)) ∧ Ext w' w'' from fun w' h => by
      have := count_any a (HM3.out.ext h).lst hl1
      rw [HE.out] at this
      exact this)
    obtain ⟨vr, hbr, hrow⟩ := hr
    obtain ⟨A2, c2, rfl, _⟩ := hrow.len
    have HB := hide hbr
    have rr := hbr.rule
    have hW := Ext.refl w3
    clear hrow hbr hm HO
    go_wp2_with fail
    refine wp_region_ext (by kernel_rfl) (by kernel_rfl) ?_
    repeat
      with_reducible refine wpQuiet_step (fun K hK => ?_)
      go_simp
      first
      | (refine hK _ ?_; clear hK K)
      | (apply Exists.intro
         refine ⟨fun w1 h1 => ?_, hK _ ?_⟩
         (have hW := hW.trans h1; (first | rfl | (go_simp; done) | (go_simp; rfl) | (first | (go_at_call 22; refine (HCT.out _ h1).mono ?_; rintro e w2 ⟨rfl, hx⟩; exact ⟨rfl, h1.trans hx⟩) | (go_at_call 18; refine (len_any (HM3.out.ext h1).lst).mono ?_; rintro e w2 ⟨rfl, rfl⟩; exact ⟨rfl, h1⟩))))
         clear hK K)
    refine wpQuiet_nil (fun w' hw' => ?_)
    have hX := hX.trans hw'
    have HM4 := hide (HM3.out.ext hw')
    have HR4 := hide (HR3.out.ext hw')
    have HB4 := hide (HB.out.ext hw')
    clear hw' rr hW HCT HM3 HR3 HB
    obtain ⟨W4, hW4⟩ : ∃ W, W = w' := ⟨_, rfl⟩
    subst hW4
    go_wp2_with fail
    go_loopw [14] (fun i wz => ∃ k : Nat, k ≤ l.length + 2 ∧ i = .int .i64 ((k : Int) - 1) ∧ Ext W4 wz) (fun i _ => l.length + 2 - (intOf i + 1).toNat)
    case atStart => exact ⟨0, by omega, by go_num, Ext.refl _⟩
    case round =>
      obtain ⟨k, hk, rfl, hZ⟩ := hrel
      have hr := HR4.out.ext hZ
      have rr := (HB4.out.ext hZ).cell
      by_cases hkl : k < l.length + 2
      · have g1 : (k : Int) - 1 ≤ l.length := by omega
        have p1 := get_any (z := (k : Int) - 1) (HM4.out.ext hZ)
        generalize hgr : getR N l ((k : Int) - 1) = gr at *
        generalize her : erA N l ((k : Int) - 1) = er at *
        obtain ⟨ro, rs⟩ := gr
        have HGR := hide hgr
        have HER := hide her
        clear hgr her
        go_wp2_with fail
        refine p1.mono ?_
        rintro e w5 ⟨rfl, hx⟩
        have hY := Ext.alloc w5 (.cells #[.int .i64 ro, .int .u64 rs] 38)
        have bx := Blk.new w5 #[.int .i64 ro, .int .u64 rs] 38
        have p2 := rget_any (z := (k : Int) - 1) (hr.ext (hx.trans hY)) h0
        rw [HGR.out, HER.out] at p2
        clear p1 hr rr
        go_wp2_with fail
        refine p2.mono ?_
        rintro e w6 ⟨rfl, hx2⟩
        have hY2 := Ext.alloc w6 (.cells #[.int .i64 ro, .int .u64 rs] 41)
        have bx := (bx.ext hx2).ext hY2
        have rx := bx.cell
        have hE := run_neqRS ro rs
        have hZ := (((hZ.trans hx).trans hY).trans hx2).trans hY2
        clear p2 hx hY hx2 hY2 bx
        go_wp2_with fail
        go_roundw
        case rel => exact ⟨k + 1, by omega, by go_num, hZ⟩
        case measure => simp [intOf]; omega
      · have g1 : ¬ (k : Int) - 1 ≤ l.length := by omega
        have hX := hX.trans hZ
        obtain ⟨W5, hW5⟩ : ∃ W, W = wr := ⟨_, rfl⟩
        subst hW5
        go_wp2_with fail
        refine (objects_any (HM4.out.ext hZ).lst hl1).mono ?_
        rintro e w5 ⟨v, rfl, hown, hx⟩
        obtain ⟨A3, c3, rfl⟩ := own_sl hown
        have hX := hX.trans hx
        have HO := hide hown
        have HR5 := hide (hr.ext hx)
        have HB5 := hide (HB4.out.ext (hZ.trans hx))
        have ol := objL_len l
        have HZ5 := hide (hZ.trans hx)
        clear hr rr hZ hx hown
        go_wp2_with fail
        go_loopw [127] (fun i wz => ∃ q : Nat, q ≤ (objL l).length ∧ i = .int .i64 q ∧ Ext w5 wz) (fun i _ => (objL l).length - (intOf i).toNat)
        case atStart => exact ⟨0, by omega, rfl, Ext.refl _⟩
        case round =>
          obtain ⟨q, hq, rfl, hZ⟩ := hrel
          have hr := HR5.out.ext hZ
          by_cases hql : q < (objL l).length
          · obtain ⟨gb, cb, hv, hgb, hcell⟩ := own_atJ (own_ext HO.out hZ) hql
            simp only [Value.slice.injEq, true_and] at hv
            obtain ⟨rfl, rfl⟩ := hv
            have hp := cntL_pos (List.getElem_mem hql)
            have hp2 := cntL_len l (objL l)[q]
            rcases Nat.eq_zero_or_pos q with hq0 | hq0
            · subst hq0
              generalize (objL l)[0] = o at *
              go_wp2_with fail
              refine (rof_any o hr hl1).mono ?_
              rintro e w6 ⟨v, rfl, hown, hx⟩
              obtain ⟨A6, c6, rfl⟩ := own_sl hown
              rw [show (ofL l o l.length).length = cntL l o from rfl]
              have hZ := hZ.trans hx
              clear hown hx hcell hr
              generalize cntL l o = cn at *
              go_wp2_with fail
              go_roundw
              case rel => exact ⟨1, by omega, by go_num, hZ⟩
              case measure => simp [intOf]; omega
            · obtain ⟨p, rfl⟩ : ∃ p, q = p + 1 := ⟨q - 1, by omega⟩
              obtain ⟨gb2, cb2, hv2, _, hcell2⟩ := own_atJ (own_ext HO.out hZ) (show p < (objL l).length by omega)
              simp only [Value.slice.injEq, Option.some.injEq, Addr.mk.injEq, and_true, true_and] at hv2
              obtain ⟨rfl, rfl⟩ := hv2
              have hlt := List.pairwise_iff_getElem.1 (objL_asc l) p (p + 1) (by omega) hql (by omega)
              have hp3 : p < (objL l).length := by omega
              generalize (objL l)[p + 1] = o at *
              generalize (objL l)[p] = o2 at *
              have hlt2 : ¬ o ≤ o2 := by omega
              go_wp2_with fail
              refine (rof_any o hr hl1).mono ?_
              rintro e w6 ⟨v, rfl, hown, hx⟩
              obtain ⟨A6, c6, rfl⟩ := own_sl hown
              rw [show (ofL l o l.length).length = cntL l o from rfl]
              have hZ := hZ.trans hx
              clear hown hx hcell hcell2 hr
              generalize cntL l o = cn at *
              go_wp2_with fail
              go_roundw
              case rel => exact ⟨p + 1 + 1, by omega, by go_num, hZ⟩
              case measure => simp [intOf]; omega
          · obtain ⟨W6, hW6⟩ : ∃ W, W = wr := ⟨_, rfl⟩
            subst hW6
            have HS := hide (sum_all l)
            have HZ6 := hide hZ
            clear hr
            go_wp2_with fail
            go_loopw [22, 153] (fun all i wz => ∃ q : Nat, q ≤ (objL l).length ∧ i = .int .i64 q ∧ all = .int .i64 (sumQ l (objL l) q : Nat) ∧ Ext W6 wz) (fun _ i _ => (objL l).length - (intOf i).toNat)
            case atStart => exact ⟨0, by omega, rfl, by simp [sumQ], Ext.refl _⟩
            case round =>
              obtain ⟨q3, hq3, rfl, rfl, hZ3⟩ := hrel
              have hr := HR5.out.ext (HZ6.out.trans hZ3)
              have sl := sumQ_le l q3 hq3
              by_cases hql3 : q3 < (objL l).length
              · obtain ⟨gb, cb, hv, hgb, hcell⟩ := own_atJ (own_ext HO.out (HZ6.out.trans hZ3)) hql3
                simp only [Value.slice.injEq, true_and] at hv
                obtain ⟨rfl, rfl⟩ := hv
                have HN := hide (sumQ_next (l := l) hql3)
                have sl2 := sumQ_le l (q3 + 1) hql3
                rw [HN.out] at sl2
                generalize (objL l)[q3] = o at *
                go_wp2_with fail
                refine (rof_any o hr hl1).mono ?_
                rintro e w7 ⟨v, rfl, hown, hx⟩
                obtain ⟨A7, c7, rfl⟩ := own_sl hown
                rw [show (ofL l o l.length).length = cntL l o from rfl]
                have hZ3 := hZ3.trans hx
                clear hown hx hcell hr
                generalize cntL l o = cn at *
                go_wp2_with fail
                go_roundw
                case rel => exact ⟨q3 + 1, by omega, by go_num, by rw [HN.out]; go_num, hZ3⟩
                case measure => simp [intOf]; omega
              · obtain rfl : q3 = (objL l).length := by omega
                rw [HS.out]
                have rr := (HB5.out.ext (HZ6.out.trans hZ3)).cell
                clear hr
                go_wp2_with fail
                go_ret
                exact ⟨by simp, (hX.trans HZ6.out).trans hZ3⟩
end Go.Proofs.Ytppjpicfiflkcaa
