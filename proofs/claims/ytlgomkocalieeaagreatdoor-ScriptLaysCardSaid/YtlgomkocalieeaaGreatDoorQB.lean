/- The document's Pack, with its bytes in a new block. -/
import Derived.Test.YtlgomkocalieeaaGreatDoorO7
import Derived.Test.YtlgomkocalieeaaGreatDoorO5
import Derived.Test.YtlgomkocalieeaaGreatDoorNB
import Derived.Test.YtlgomkocalieeaaGreatDoorSA
import Derived.Test.YtlgomkocalieeaaGreatDoorET
namespace Go.Proofs.YtlgomkocalieeaaGreatDoor
open Go.RowKit
set_option linter.unusedSimpArgs false
set_option linter.unusedVariables false
set_option maxRecDepth 100000

theorem rpack_ok2 {w : World} {A : Option Addr} {l : List Op3} (c : Nat) (h : Ch w A l) (hw : wrongO l = 0) :
    Calls Tryz.prog 20 #[.slice A l.length c] w fun e w' => PackR2 w.heap.size l e w' ∧ Ext w w' := by
  have hc := rall_any c h
  rw [hw] at hc
  obtain ⟨h64, hall⟩ := wrong_out hw
  have HALL := hide hall
  have H := hide h
  have h64i : (l.length : Int) ≤ 64 := by omega
  clear h hall
  go_enter Tryz.func20, Tryz.ntmps20
  go_wp2_with (go_at_call 35; refine hc.mono ?_; rintro e w1 ⟨rfl, hb⟩)
  go_loopw [5, 6] (fun v i wr => ∃ j : Nat, j ≤ l.length ∧ i = .int .i64 (j : Int) ∧ Ext w wr ∧ wr.ownsRow w.heap.size 5 1 v (j * 3) (bcells (bytesO (l.take j))) ∧ fits (l.take j) = true) (fun _ i _ => l.length - (intOf i).toNat)
  case atStart => exact ⟨0, by omega, rfl, hb, by simpa [bcells, bytesO] using own_nil w1 _ _ _, rfl⟩
  case round =>
    clear hb hc
    obtain ⟨j, hj, rfl, hW0, hown, hfit⟩ := hrel
    by_cases hlt : j < l.length
    · have hs := fit_succ l hlt
      rw [hfit, Bool.true_and] at hs
      have HS := hide (bytes_succ l hlt)
      have HF := hide hs
      have HN := hide (@fit_no l j hlt)
      have hm : mayO l[j] = true := List.all_eq_true.1 HALL.out _ (List.getElem_mem hlt)
      have HP := hide (@pbO_cells l[j] hm)
      obtain ⟨b1, o1, rfl, r1⟩ := (H.out.ext hW0).at_ hlt
      have hmo := may_out hm
      generalize l[j] = x at *
      obtain ⟨k, o, a⟩ := x
      have q1 := fun w' (x : Ext wr w') => (r1 w' x).1
      have q2 := fun w' (x : Ext wr w') => (r1 w' x).2.1
      have q3 := fun w' (x : Ext wr w') => (r1 w' x).2.2
      clear r1 hs hfit
      obtain ⟨A3, c3, rfl⟩ := own_sl hown
      have HO := hide hown
      have HW := hide hW0
      have hx := Ext.refl wr
      obtain ⟨h1, h2, h3, h4, h5, h6, h7⟩ := hmo
      simp only at h1 h2 h3 h4 h5 h6 h7
      have hk0 : 1 ≤ k := by omega
      have hk9 : k ≤ 9 := by omega
      clear hown hW0 h5 h6 h7
      cases hf : fitO (k, o, a) with
      | false =>
        have ha : (65535 : Int) < a := by simpa [fitO] using hf
        go_wp2_with fail
        go_ret2
        exact ⟨by unfold PackR2; exact .inr ⟨HN.out hf, rfl⟩, HW.out.trans (Ext.alloc _ _)⟩
      | true =>
        have ha : ¬ (65535 : Int) < a := by simpa [fitO] using hf
        have hmd : (k + 16 * o) % 256 = k + 16 * o := by omega
        rw [hf] at HF
        have HO2 := hide (own_ext HO.out (Ext.alloc wr (.cells #[.int .i64 k, .int .i64 o, .int .i64 a] 53)))
        go_wp2_with (at_builtin; refine wpList_appm (W0 := w) 3 rfl rfl Tryz.underlying31 inf_u8 rfl (by omega) rfl HO2.out (HW.out.trans (Ext.alloc _ _)) rfl (by simp) rfl (by simp [Value.oneCell']) (by unfold maxLen; omega) (by omega) ?_; intro v' w4 hown' hW4; go_frame)
        go_roundw
        case rel => exact ⟨j + 1, by omega, by simp, hW4, by rw [HS.out, bcells_app, HP.out hf, show (j + 1) * 3 = j * 3 + 3 by omega]; exact hown', HF.out⟩
        case measure => simp [intOf]; omega
    · obtain rfl : j = l.length := by omega
      have h3 : ¬ (l.length : Int) < (l.length : Int) := by omega
      rw [List.take_length] at hown hfit
      obtain ⟨A3, c3, rfl, hle, hmx, hby, hlo⟩ := By.of_own2 hown
      clear hown
      go_wp2_with fail
      go_ret2
      exact ⟨by unfold PackR2; exact .inl ⟨hfit, A3, c3, rfl, hle, hmx, hby, hlo⟩, hW0⟩
end Go.Proofs.YtlgomkocalieeaaGreatDoor

namespace Go.Proofs.YtlgomkocalieeaaGreatDoor
open Go.RowKit
set_option linter.unusedSimpArgs false
set_option linter.unusedVariables false
set_option maxRecDepth 100000
set_option maxHeartbeats 8000000

theorem rcnew_any {w : World} {A : Option Addr} {ps : List (List Op3)} (c : Nat) (x : Cf) (h : Pr w A ps) (hpl : ps.length ≤ 9223372036854775807) :
    Calls Tryz.prog 27 #[.agg #[.int .i64 x.t, .int .i64 x.o, .int .i64 x.c, .int .i64 x.s, .int .i64 x.p, .int .i64 x.n, .int .u8 x.b, .int .i64 x.r, .int .i64 x.v, .int .u64 x.d], .slice A ps.length c] w fun e w' => e = .returned (.int .i64 (newE x ps)) ∧ Ext w w' := by
  obtain ⟨t, o, k, s, p, n, b, r, v, d⟩ := x
  have H := hide h
  have hX0 := Ext.alloc w (.cells #[.int .i64 t, .int .i64 o, .int .i64 k, .int .i64 s, .int .i64 p, .int .i64 n, .int .u8 b, .int .i64 r, .int .i64 v, .int .u64 d] 24)
  have hb := Blk.new w #[.int .i64 t, .int .i64 o, .int .i64 k, .int .i64 s, .int .i64 p, .int .i64 n, .int .u8 b, .int .i64 r, .int .i64 v, .int .u64 d] 24
  have q := hb.rule
  have HX := hide hX0
  have HB := hide hb
  clear h hX0 hb
  cases hmc : mayC ⟨t, o, k, s, p, n, b, r, v, d⟩ with
  | false =>
    rw [show newE ⟨t, o, k, s, p, n, b, r, v, d⟩ ps = 1 by unfold newE; rw [if_neg (by rw [hmc]; simp)]]
    go_enter Tryz.func27, Tryz.ntmps27
    go_wp2_with (go_at_call 47; refine (rcmay_any ⟨t, o, k, s, p, n, b, r, v, d⟩ _).mono ?_; rw [hmc]; rintro e w' ⟨rfl, hy⟩)
    go_ret
    exact ⟨by simp, HX.out.trans hy⟩
  | true =>
    by_cases hl : (ps.length : Int) = t
    · have HE := hide (show newE ⟨t, o, k, s, p, n, b, r, v, d⟩ ps = if ps.any (wrongP t o) = true then 3 else 0 by unfold newE; rw [if_pos ⟨hmc, hl⟩])
      rw [HE.out]
      obtain ⟨R, hR⟩ : ∃ R : Int, R = if ps.any (wrongP t o) = true then 3 else 0 := ⟨_, rfl⟩
      rw [← hR]
      have HRR := hide hR
      clear hR
      have hne : ((ps.length : Int) != t) = false := by simp [hl]
      have HT := hide hl
      clear HE hl
      go_enter Tryz.func27, Tryz.ntmps27
      go_wp2_with (go_at_call 47; refine (rcmay_any ⟨t, o, k, s, p, n, b, r, v, d⟩ _).mono ?_; rw [hmc]; rintro e w' ⟨rfl, hy⟩)
      have HY := hide hy
      clear q hy
      generalize w.alloc (.cells #[.int .i64 t, .int .i64 o, .int .i64 k, .int .i64 s, .int .i64 p, .int .i64 n, .int .u8 b, .int .i64 r, .int .i64 v, .int .u64 d] 24) = W0 at *
      generalize w.heap.size = g at *
      go_loopw [5, 6] (fun i m wr => ∃ j : Nat, j ≤ ps.length ∧ i = .int .i64 (j : Int) ∧ Ext W0 wr ∧ (ps.take j).any (wrongP t o) = false) (fun i _ _ => ps.length - (intOf i).toNat)
      case atStart => exact ⟨0, by omega, rfl, HY.out, by simp⟩
      case round =>
        obtain ⟨j, hj, rfl, hk, hall⟩ := hrel
        have HA := hide hall
        have HK := hide hk
        clear hall hk
        by_cases hlt : j < ps.length
        · have hs := any_take_succ (wrongP t o) ps hlt
          rw [HA.out, Bool.false_or] at hs
          have HS := hide hs
          have HYS := hide (@any_yes _ (wrongP t o) ps j hlt)
          have hltI : (j : Int) < (ps.length : Int) := by omega
          obtain ⟨b1, o1, A', c', rfl, hb1, r1, hch0, hch⟩ := (H.out.ext (HX.out.trans HK.out)).at_ hlt
          have HCH := hide hch
          clear hs hch
          generalize ps[j]'hlt = y at *
          by_cases h64 : 64 < y.length
          · have h64i : (64 : Int) < (y.length : Int) := by omega
            have hw : wrongP t o y = true := by simp [wrongP, h64]
            obtain rfl : R = 3 := by rw [HRR.out, if_pos (HYS.out hw)]
            clear hw
            go_wp2_with fail
            go_ret
            exact ⟨by simp, HX.out.trans HK.out⟩
          · have h64i : ¬ (64 : Int) < (y.length : Int) := by omega
            have HW := hide (show wrongP t o y = y.any (isNo t o) by simp [wrongP, h64])
            have HKr := HK
            have HB1 := hb1
            have R1 := hide r1
            go_wp2_with fail
            go_loopw [6] (fun i wz => ∃ m : Nat, m ≤ y.length ∧ i = .int .i64 (m : Int) ∧ Ext wr wz ∧ (y.take m).any (isNo t o) = false) (fun i _ => y.length - (intOf i).toNat)
            case atStart => exact ⟨0, by omega, rfl, Ext.refl _, by simp⟩
            case round =>
              obtain ⟨m, hm, rfl, hk, hall⟩ := hrel
              have HA2 := hide hall
              have HK2 := hide (HK.out.trans hk)
              have r1 := (hk.oldCell _ _ hb1).trans R1.out
              have hrr := fun w' (z : Ext wr w') => ((hk.trans z).oldCell _ _ hb1).trans R1.out
              have hqq := (HB.out.ext HK2.out).rule
              have HKZ := hide hk
              clear hall hk
              by_cases hlm : m < y.length
              · have hs := any_take_succ (isNo t o) y hlm
                rw [HA2.out, Bool.false_or] at hs
                have HS2 := hide hs
                have HYS2 := hide (@any_yes _ (isNo t o) y m hlm)
                have hlmI : (m : Int) < (y.length : Int) := by omega
                obtain ⟨b2, o2, rfl, r2⟩ := (HCH.out.ext HKZ.out).at_ hlm
                clear hs
                generalize y[m]'hlm = z at *
                obtain ⟨zk, zo, za⟩ := z
                have q1 := fun w' (x : Ext wr w') => (r2 w' x).1
                have q2 := fun w' (x : Ext wr w') => (r2 w' x).2.1
                have q3 := fun w' (x : Ext wr w') => (r2 w' x).2.2
                have hW := Ext.refl wr
                have HN := hide (show isNo t o (zk, zo, za) = !mayI zk zo za t o from rfl)
                clear r2
                go_wp2_with fail
                refine wp_region_ext (by kernel_rfl) (by kernel_rfl) ?_
                repeat
                  with_reducible refine wpQuiet_step (fun K hK => ?_)
                  go_simp
                  first
                  | (refine hK _ ?_; clear hK K)
                  | (apply Exists.intro
                     refine ⟨fun w1 h1 => ?_, hK _ ?_⟩
                     (have hW := Ext.trans2 hW (by repeat (first | exact Ext.refl _ | exact Ext.alloc _ _ | exact Ext.drewN _ _ | assumption | refine Ext.trans ?_ (Ext.alloc _ _) | refine Ext.trans ?_ (Ext.drew _) | refine Ext.trans ?_ (by assumption))) h1; (try have hV := Ext.trans2 hV (by repeat (first | exact Ext.refl _ | exact Ext.alloc _ _ | exact Ext.drewN _ _ | assumption | refine Ext.trans ?_ (Ext.alloc _ _) | refine Ext.trans ?_ (Ext.drew _) | refine Ext.trans ?_ (by assumption))) h1); (first | rfl | (go_simp; done) | (go_simp; rfl) | (go_at_call 48; (with_reducible refine (rmay_any _ _ _ _ _ _).mono ?_); rintro e w2 ⟨rfl, hb⟩; exact ⟨rfl, h1.trans hb⟩)))
                     clear hK K)
                refine wpQuiet_nil (fun w' hw' => ?_)
                have hW := Ext.trans2 hW (by repeat (first | exact Ext.refl _ | exact Ext.alloc _ _ | exact Ext.drewN _ _ | assumption | refine Ext.trans ?_ (Ext.alloc _ _) | refine Ext.trans ?_ (Ext.drew _) | refine Ext.trans ?_ (by assumption))) hw'
                try have hV := Ext.trans2 hV (by repeat (first | exact Ext.refl _ | exact Ext.alloc _ _ | exact Ext.drewN _ _ | assumption | refine Ext.trans ?_ (Ext.alloc _ _) | refine Ext.trans ?_ (Ext.drew _) | refine Ext.trans ?_ (by assumption))) hw'
                clear hw'
                have HKW := hide (HK2.out.trans hW)
                have HKV := hide (HKZ.out.trans hW)
                cases hmi : mayI zk zo za t o with
                | true =>
                  rw [hmi] at HN
                  have HS3 := hide (HS2.out.trans HN.out)
                  go_wp2_with fail
                  go_roundw
                  case rel => exact ⟨m + 1, by omega, by go_num, HKV.out, HS3.out⟩
                  case measure => simp [intOf]; omega
                | false =>
                  rw [hmi] at HN
                  have hw : wrongP t o y = true := HW.out.trans (HYS2.out HN.out)
                  obtain rfl : R = 3 := by rw [HRR.out, if_pos (HYS.out hw)]
                  clear hw
                  go_wp2_with fail
                  go_ret
                  exact ⟨by simp, HX.out.trans HKW.out⟩
              · obtain rfl : m = y.length := by omega
                have h3 : ¬ (y.length : Int) < (y.length : Int) := by omega
                have hf := HA2.out
                rw [List.take_length, ← HW.out] at hf
                have HF := hide (HS.out.trans hf)
                clear hf
                go_wp2_with fail
                go_roundw
                case rel => exact ⟨j + 1, by omega, by go_num, HK2.out, HF.out⟩
                case measure => simp [intOf]; omega
        · obtain rfl : j = ps.length := by omega
          have h3 : ¬ (ps.length : Int) < (ps.length : Int) := by omega
          have hf := HA.out
          rw [List.take_length] at hf
          obtain rfl : R = 0 := by rw [HRR.out, if_neg (by rw [hf]; simp)]
          clear hf
          go_wp2_with fail
          go_ret
          exact ⟨by simp, HX.out.trans HK.out⟩
    · rw [show newE ⟨t, o, k, s, p, n, b, r, v, d⟩ ps = 1 by unfold newE; rw [if_neg (fun q => hl q.2)]]
      go_enter Tryz.func27, Tryz.ntmps27
      go_wp2_with (go_at_call 47; refine (rcmay_any ⟨t, o, k, s, p, n, b, r, v, d⟩ _).mono ?_; rw [hmc]; rintro e w' ⟨rfl, hy⟩)
      go_ret
      exact ⟨by simp, HX.out.trans hy⟩
end Go.Proofs.YtlgomkocalieeaaGreatDoor

namespace Go.Proofs.YtlgomkocalieeaaGreatDoor
open Go.RowKit
set_option linter.unusedSimpArgs false
set_option linter.unusedVariables false
set_option maxRecDepth 100000
set_option maxHeartbeats 8000000

theorem mayI_mono {k o a t n : Int} (ht : t ≤ 8) (hn : n ≤ 8) (h : mayI k o a t n = true) : mayI k o a 8 8 = true := by
  unfold mayI at h ⊢
  simp only [Bool.and_eq_true, decide_eq_true_eq] at h ⊢
  refine ⟨by omega, ?_⟩
  have h2 := h.2
  unfold mayK at h2 ⊢
  split at h2
  · rw [if_pos ‹_›]; exact h2
  · rw [if_neg ‹_›]
    split at h2
    · rw [if_pos ‹_›]
    · rw [if_neg ‹_›]
      split at h2
      · rw [if_pos ‹_›]; simp at h2 ⊢; omega
      · cases h2
theorem new_wrong {x : Cf} {ps : List (List Op3)} (h : newE x ps = 0) : mayC x = true ∧ (ps.length : Int) = x.t ∧ ∀ p, p ∈ ps → wrongO p = 0 := by
  unfold newE at h
  split at h
  · rename_i hq
    split at h
    · cases h
    · rename_i h5
      have hmn := may_n hq.1
      refine ⟨hq.1, hq.2, fun p hp => ?_⟩
      have hw : wrongP x.t x.o p = false := by
        rw [Bool.eq_false_iff]; intro q; exact h5 (List.any_eq_true.2 ⟨p, hp, q⟩)
      obtain ⟨h1, h2⟩ := wrongP_no hw
      unfold wrongO
      rw [if_neg (by omega), if_pos]
      rw [List.all_eq_true]
      intro z hz
      have h3 := List.any_eq_false.1 h2 z hz
      have h4 : mayI z.1 z.2.1 z.2.2 x.t x.o = true := by simpa [isNo] using h3
      exact mayI_mono (by omega) (by omega) h4
  · cases h
theorem noB_fits {p : List Op3} (h : wrongO p = 0) : noB p = !fits p := by
  unfold noB packE
  rw [if_pos h]
  cases fits p <;> simp
theorem rsmay_any {w : World} {A B : Option Addr} {ps : List (List Op3)} {ts : List Tr} (c d : Nat) (x : Cf) (h : Scr w A B ps ts) :
    Calls Tryz.prog 12 #[.agg #[.int .i64 x.t, .int .i64 x.o, .int .i64 x.c, .int .i64 x.s, .int .i64 x.p, .int .i64 x.n, .int .u8 x.b, .int .i64 x.r, .int .i64 x.v, .int .u64 x.d, .slice A ps.length c, .slice B ts.length d]] w fun e w' => e = .returned (.int .i64 (mayS x ps ts)) ∧ Ext w w' := by
  have H := hide h
  have hpl := h.pl
  have htl := h.tl
  have hX0 := Ext.alloc w (.cells #[.int .i64 x.t, .int .i64 x.o, .int .i64 x.c, .int .i64 x.s, .int .i64 x.p, .int .i64 x.n, .int .u8 x.b, .int .i64 x.r, .int .i64 x.v, .int .u64 x.d, .slice A ps.length c, .slice B ts.length d] 28)
  have hb := Blk.new w #[.int .i64 x.t, .int .i64 x.o, .int .i64 x.c, .int .i64 x.s, .int .i64 x.p, .int .i64 x.n, .int .u8 x.b, .int .i64 x.r, .int .i64 x.v, .int .u64 x.d, .slice A ps.length c, .slice B ts.length d] 28
  have hnew := rcnew_any c x (h.p.ext hX0) h.pl
  have hM : mayS x ps ts = if newE x ps ≠ 0 then newE x ps else if ps.any noB = true then 1 else if 4096 < ts.length then 5 else if ts.any (notT x.t) = true then 1 else 0 := rfl
  have hN := @new_wrong x ps
  generalize newE x ps = er at *
  generalize mayS x ps ts = R at *
  have HM := hide hM
  have q := hb.cell
  clear hM h
  go_enter Tryz.func12, Tryz.ntmps12
  go_wp2_with fail
  refine hnew.mono ?_
  rintro e w1 ⟨rfl, hx1⟩
  have HB := hide (hb.ext hx1)
  have HX := hide (hX0.trans hx1)
  clear hX0 hx1 hb hnew q
  generalize w.heap.size = g at *
  by_cases he : er = 0
  · subst he
    have E0 := hide (HM.out.trans (if_neg (show ¬ ((0 : Int) ≠ 0) from fun h => h rfl)))
    have HN := hide (hN rfl)
    clear HM hN
    have q := HB.out.cell
    go_wp2_with fail
    clear q
    go_loopw [4, 5] (fun i k wr => ∃ j : Nat, j ≤ ps.length ∧ i = .int .i64 (j : Int) ∧ Ext w1 wr ∧ (ps.take j).any noB = false) (fun i _ _ => ps.length - (intOf i).toNat)
    case atStart => exact ⟨0, by omega, rfl, Ext.refl _, by simp⟩
    case round =>
      obtain ⟨j, hj, rfl, hk, hall⟩ := hrel
      have HA := hide hall
      have HK := hide hk
      have q := (HB.out.ext hk).cell
      clear hall hk
      by_cases hlt : j < ps.length
      · have hs := any_take_succ noB ps hlt
        rw [HA.out, Bool.false_or] at hs
        have HS := hide hs
        have HYS := hide (@any_yes _ noB ps j hlt)
        have hltI : (j : Int) < (ps.length : Int) := by omega
        obtain ⟨b1, o1, A', c', rfl, hb1, r1, hch0, hch⟩ := (H.out.p.ext (HX.out.trans HK.out)).at_ hlt
        have HCH := hide hch
        have HNF := hide (noB_fits (HN.out.2.2 _ (List.getElem_mem hlt)))
        clear hs hch
        generalize ps[j]'hlt = y at *
        have R1 := hide r1
        go_wp2_with fail
        clear q
        go_loopw [5] (fun i wz => ∃ m : Nat, m ≤ y.length ∧ i = .int .i64 (m : Int) ∧ Ext wr wz ∧ fits (y.take m) = true) (fun i _ => y.length - (intOf i).toNat)
        case atStart => exact ⟨0, by omega, rfl, Ext.refl _, by simp [fits]⟩
        case round =>
          obtain ⟨m, hm, rfl, hk, hall⟩ := hrel
          have HA2 := hide hall
          have HK2 := hide (HK.out.trans hk)
          have r1 := (hk.oldCell _ _ hb1).trans R1.out
          have q := (HB.out.ext HK2.out).cell
          have HKZ := hide hk
          clear hall hk
          by_cases hlm : m < y.length
          · have hs := fit_succ y hlm
            rw [HA2.out, Bool.true_and] at hs
            have HS2 := hide hs
            have HYS2 := hide (@fit_no y m hlm)
            have hlmI : (m : Int) < (y.length : Int) := by omega
            obtain ⟨b2, o2, rfl, r2⟩ := (HCH.out.ext HKZ.out).at_ hlm
            clear hs
            generalize y[m]'hlm = z at *
            obtain ⟨zk, zo, za⟩ := z
            have q3 := (r2 wr (Ext.refl _)).2.2
            have HF := hide (show fitO (zk, zo, za) = decide (za ≤ 65535) from rfl)
            clear r2
            by_cases hz : 65535 < za
            · have hn : noB y = true := by
                rw [HNF.out, HYS2.out (HF.out.trans (decide_eq_false (by omega)))]; rfl
              obtain rfl : R = 1 := by rw [E0.out, if_pos (HYS.out hn)]
              clear hn
              go_wp2_with fail
              go_ret
              exact ⟨by simp, HX.out.trans HK2.out⟩
            · have HS3 := hide (HS2.out.trans (HF.out.trans (decide_eq_true (by omega))))
              go_wp2_with fail
              go_roundw
              case rel => exact ⟨m + 1, by omega, by go_num, HKZ.out, HS3.out⟩
              case measure => simp [intOf]; omega
          · obtain rfl : m = y.length := by omega
            have h3 : ¬ (y.length : Int) < (y.length : Int) := by omega
            have hf := HA2.out
            rw [List.take_length] at hf
            have HF := hide (show (ps.take (j + 1)).any noB = false by rw [HS.out, HNF.out, hf]; rfl)
            clear hf
            go_wp2_with fail
            go_roundw
            case rel => exact ⟨j + 1, by omega, by go_num, HK2.out, HF.out⟩
            case measure => simp [intOf]; omega
      · obtain rfl : j = ps.length := by omega
        have h3 : ¬ (ps.length : Int) < (ps.length : Int) := by omega
        have hf := HA.out
        rw [List.take_length] at hf
        have E1 := hide (E0.out.trans (if_neg (show ¬ (ps.any noB = true) by rw [hf]; simp)))
        clear E0 hf
        by_cases h4 : 4096 < ts.length
        · have h4i : (4096 : Int) < (ts.length : Int) := by omega
          have E : R = 5 := E1.out.trans (if_pos h4)
          subst E
          clear E1
          go_wp2_with fail
          go_ret
          exact ⟨by simp, HX.out.trans HK.out⟩
        · have h4i : ¬ (4096 : Int) < (ts.length : Int) := by omega
          have E2 := hide (E1.out.trans (if_neg h4))
          clear E1
          go_wp2_with fail
          clear q
          go_loopw [6] (fun i wz => ∃ m : Nat, m ≤ ts.length ∧ i = .int .i64 (m : Int) ∧ Ext wr wz ∧ (ts.take m).any (notT x.t) = false) (fun i _ => ts.length - (intOf i).toNat)
          case atStart => exact ⟨0, by omega, rfl, Ext.refl _, by simp⟩
          case round =>
            obtain ⟨m, hm, rfl, hk, hall⟩ := hrel
            have HA2 := hide hall
            have HK2 := hide (HK.out.trans hk)
            have q := (HB.out.ext HK2.out).rule
            have HKZ := hide hk
            have HT := hide (H.out.t.ext (HX.out.trans HK2.out))
            clear hall hk
            by_cases hlm : m < ts.length
            · have hs := any_take_succ (notT x.t) ts hlm
              rw [HA2.out, Bool.false_or] at hs
              have HS2 := hide hs
              have HYS2 := hide (@any_yes _ (notT x.t) ts m hlm)
              have hlmI : (m : Int) < (ts.length : Int) := by omega
              obtain ⟨b2, o2, rfl, hb2, r1, r2⟩ := HT.out.at_ hlm
              clear hs
              generalize ts[m]'hlm = y at *
              obtain ⟨yk, yn⟩ := y
              have q1 := fun w' (x : Ext wr w') => (x.oldCell _ _ hb2).trans r1
              have q2 := fun w' (x : Ext wr w') => (x.oldCell _ _ hb2).trans r2
              have hW := Ext.refl wr
              have HN2 := hide (show notT x.t (yk, yn) = !isT x.t (yk, yn) from rfl)
              clear r1 r2
              go_wp2_with fail
              refine wp_region_ext (by kernel_rfl) (by kernel_rfl) ?_
              repeat
                with_reducible refine wpQuiet_step (fun K hK => ?_)
                go_simp
                first
                | (refine hK _ ?_; clear hK K)
                | (apply Exists.intro
                   refine ⟨fun w1 h1 => ?_, hK _ ?_⟩
                   (have hW := Ext.trans2 hW (by repeat (first | exact Ext.refl _ | exact Ext.alloc _ _ | exact Ext.drewN _ _ | assumption | refine Ext.trans ?_ (Ext.alloc _ _) | refine Ext.trans ?_ (Ext.drew _) | refine Ext.trans ?_ (by assumption))) h1; (try have hV := Ext.trans2 hV (by repeat (first | exact Ext.refl _ | exact Ext.alloc _ _ | exact Ext.drewN _ _ | assumption | refine Ext.trans ?_ (Ext.alloc _ _) | refine Ext.trans ?_ (Ext.drew _) | refine Ext.trans ?_ (by assumption))) h1); (first | rfl | (go_simp; done) | (go_simp; rfl) | (go_at_call 28; (with_reducible refine (rright_any (yk, yn) _ _).mono ?_); rintro e w2 ⟨rfl, hb⟩; exact ⟨rfl, h1.trans hb⟩)))
                   clear hK K)
              refine wpQuiet_nil (fun w' hw' => ?_)
              have hW := Ext.trans2 hW (by repeat (first | exact Ext.refl _ | exact Ext.alloc _ _ | exact Ext.drewN _ _ | assumption | refine Ext.trans ?_ (Ext.alloc _ _) | refine Ext.trans ?_ (Ext.drew _) | refine Ext.trans ?_ (by assumption))) hw'
              try have hV := Ext.trans2 hV (by repeat (first | exact Ext.refl _ | exact Ext.alloc _ _ | exact Ext.drewN _ _ | assumption | refine Ext.trans ?_ (Ext.alloc _ _) | refine Ext.trans ?_ (Ext.drew _) | refine Ext.trans ?_ (by assumption))) hw'
              clear hw'
              have HKW := hide (HK2.out.trans hW)
              have HKV := hide (HKZ.out.trans hW)
              cases hmi : isT x.t (yk, yn) with
              | true =>
                rw [hmi] at HN2
                have HS3 := hide (HS2.out.trans HN2.out)
                go_wp2_with fail
                go_roundw
                case rel => exact ⟨m + 1, by omega, by go_num, HKV.out, HS3.out⟩
                case measure => simp [intOf]; omega
              | false =>
                rw [hmi] at HN2
                obtain rfl : R = 1 := by rw [E2.out, if_pos (HYS2.out HN2.out)]
                go_wp2_with fail
                go_ret
                exact ⟨by simp, HX.out.trans HKW.out⟩
            · obtain rfl : m = ts.length := by omega
              have h3 : ¬ (ts.length : Int) < (ts.length : Int) := by omega
              have hf := HA2.out
              rw [List.take_length] at hf
              obtain rfl : R = 0 := by rw [E2.out, if_neg (by rw [hf]; simp)]
              clear hf
              have q := (HB.out.ext HK2.out).cell
              go_wp2_with fail
              go_ret
              exact ⟨by simp, HX.out.trans HK2.out⟩
  · have E : R = er := by rw [HM.out, if_pos he]
    subst E
    clear HM
    go_wp2_with fail
    go_ret
    exact ⟨by simp, HX.out⟩
end Go.Proofs.YtlgomkocalieeaaGreatDoor

namespace Go.Proofs.YtlgomkocalieeaaGreatDoor
open Go.RowKit
set_option linter.unusedSimpArgs false
set_option linter.unusedVariables false
set_option maxRecDepth 100000
set_option maxHeartbeats 8000000

theorem ten_cells {x : Cf} (hm : mayC x = true) (hb0 : 0 ≤ x.b) (hb1 : x.b < 256) : bcells (77 :: nB x) = (#[.int .u8 77, .int .u8 x.t, .int .u8 x.o, .int .u8 x.c, .int .u8 x.s, .int .u8 x.p, .int .u8 x.n, .int .u8 x.b, .int .u8 x.r, .int .u8 x.v] : Array Value).toList := by
  have hc : ∀ j, j < 9 → (((u8 (cfN x j)).toNat : Int)) = cfN x j := fun j _ => by
    obtain ⟨y0, y1⟩ := cfN_bd hm hb0 hb1 j
    exact u8_val y0 y1
  have h0 := hc 0 (by omega)
  have h1 := hc 1 (by omega)
  have h2 := hc 2 (by omega)
  have h3 := hc 3 (by omega)
  have h4 := hc 4 (by omega)
  have h5 := hc 5 (by omega)
  have h6 := hc 6 (by omega)
  have h7 := hc 7 (by omega)
  have h8 := hc 8 (by omega)
  have e : nB x = [u8 (cfN x 0), u8 (cfN x 1), u8 (cfN x 2), u8 (cfN x 3), u8 (cfN x 4), u8 (cfN x 5), u8 (cfN x 6), u8 (cfN x 7), u8 (cfN x 8)] := rfl
  rw [e]
  simp only [bcells, List.map_cons, List.map_nil, h0, h1, h2, h3, h4, h5, h6, h7, h8]
  rfl
/-- What the document's Lay answers. -/
theorem rlay_any {w : World} {A B : Option Addr} {ps : List (List Op3)} {ts : List Tr} (c d : Nat) (x : Cf) (hb0 : 0 ≤ x.b) (hb1 : x.b < 256) (hd0 : 0 ≤ x.d) (hd1 : x.d < 18446744073709551616) (h : Scr w A B ps ts) :
    Calls Tryz.prog 10 #[.agg #[.int .i64 x.t, .int .i64 x.o, .int .i64 x.c, .int .i64 x.s, .int .i64 x.p, .int .i64 x.n, .int .u8 x.b, .int .i64 x.r, .int .i64 x.v, .int .u64 x.d, .slice A ps.length c, .slice B ts.length d]] w fun e w' => LayR x ps ts e w' ∧ Ext w w' := by
  have H := hide h
  have hX0 := Ext.alloc w (.cells #[.int .i64 x.t, .int .i64 x.o, .int .i64 x.c, .int .i64 x.s, .int .i64 x.p, .int .i64 x.n, .int .u8 x.b, .int .i64 x.r, .int .i64 x.v, .int .u64 x.d, .slice A ps.length c, .slice B ts.length d] 28)
  have hb := Blk.new w #[.int .i64 x.t, .int .i64 x.o, .int .i64 x.c, .int .i64 x.s, .int .i64 x.p, .int .i64 x.n, .int .u8 x.b, .int .i64 x.r, .int .i64 x.v, .int .u64 x.d, .slice A ps.length c, .slice B ts.length d] 28
  have hmay := rsmay_any c d x (h.ext hX0)
  by_cases he : mayS x ps ts = 0
  · have hok := may_ok he
    rw [he] at hmay
    have HOK := hide hok
    have hps : ps.length ≤ 8 := by have := may_n hok.c; have := hok.n; omega
    have hts := hok.t
    have hmn := may_n hok.c
    have HE := hide he
    clear h he hok
    have q := hb.cell
    go_enter Tryz.func10, Tryz.ntmps10
    go_wp2_with fail
    refine hmay.mono ?_
    rintro e w1 ⟨rfl, hx1⟩
    have hb1' := hb.ext hx1
    have HX := hide (hX0.trans hx1)
    have hs1 : w.heap.size ≤ w1.heap.size := (hX0.trans hx1).size
    have HB := hide hb1'
    have q := hb1'.cell
    have m1 : x.t % 256 = x.t := by omega
    have m2 : x.o % 256 = x.o := by omega
    have m3 : x.c % 256 = x.c := by omega
    have m4 : x.s % 256 = x.s := by omega
    have m5 : x.p % 256 = x.p := by omega
    have m6 : x.n % 256 = x.n := by omega
    have m7 : x.r % 256 = x.r := by omega
    have m8 : x.v % 256 = x.v := by omega
    have hcb := Blk.new w1 #[.int .i64 x.t, .int .i64 x.o, .int .i64 x.c, .int .i64 x.s, .int .i64 x.p, .int .i64 x.n, .int .u8 x.b, .int .i64 x.r, .int .i64 x.v, .int .u64 x.d] 24
    have qc := hcb.cell
    clear hX0 hx1 hb hmay hb1'
    have hxa := Ext.alloc w1 (.cells #[.int .i64 x.t, .int .i64 x.o, .int .i64 x.c, .int .i64 x.s, .int .i64 x.p, .int .i64 x.n, .int .u8 x.b, .int .i64 x.r, .int .i64 x.v, .int .u64 x.d] 24)
    have hxb := Ext.alloc (w1.alloc (.cells #[.int .i64 x.t, .int .i64 x.o, .int .i64 x.c, .int .i64 x.s, .int .i64 x.p, .int .i64 x.n, .int .u8 x.b, .int .i64 x.r, .int .i64 x.v, .int .u64 x.d] 24)) (.cells #[.int .u8 77, .int .u8 x.t, .int .u8 x.o, .int .u8 x.c, .int .u8 x.s, .int .u8 x.p, .int .u8 x.n, .int .u8 x.b, .int .u8 x.r, .int .u8 x.v] 5)
    have hrow : ((w1.alloc (.cells #[.int .i64 x.t, .int .i64 x.o, .int .i64 x.c, .int .i64 x.s, .int .i64 x.p, .int .i64 x.n, .int .u8 x.b, .int .i64 x.r, .int .i64 x.v, .int .u64 x.d] 24)).alloc (.cells #[.int .u8 77, .int .u8 x.t, .int .u8 x.o, .int .u8 x.c, .int .u8 x.s, .int .u8 x.p, .int .u8 x.n, .int .u8 x.b, .int .u8 x.r, .int .u8 x.v] 5)).ownsRow w.heap.size 5 1 (.slice (some ⟨w1.heap.size + 1, 0, none⟩) 10 10) 10 (bcells (77 :: nB x)) :=
      ⟨by simp [bcells, nB], .inr ⟨_, 10, #[.int .u8 77, .int .u8 x.t, .int .u8 x.o, .int .u8 x.c, .int .u8 x.s, .int .u8 x.p, .int .u8 x.n, .int .u8 x.b, .int .u8 x.r, .int .u8 x.v], rfl, by omega, by rw [show w1.heap.size + 1 = (w1.alloc (.cells #[.int .i64 x.t, .int .i64 x.o, .int .i64 x.c, .int .i64 x.s, .int .i64 x.p, .int .i64 x.n, .int .u8 x.b, .int .i64 x.r, .int .i64 x.v, .int .u64 x.d] 24)).heap.size by simp]; exact heap_alloc_new _ _, Nat.le_refl _, by unfold maxLen; omega, by simp, by rw [ten_cells HOK.out.c hb0 hb1]; rfl⟩⟩
    have HROW := hide hrow
    have HKA := hide ((hxa.trans hxb).kp [5] w.heap.size)
    clear hrow
    go_wp2_with fail
    clear q qc m1 m2 m3 m4 m5 m6 m7 m8 hcb hxa hxb
    generalize (w1.alloc (.cells #[.int .i64 x.t, .int .i64 x.o, .int .i64 x.c, .int .i64 x.s, .int .i64 x.p, .int .i64 x.n, .int .u8 x.b, .int .i64 x.r, .int .i64 x.v, .int .u64 x.d] 24)).alloc (.cells #[.int .u8 77, .int .u8 x.t, .int .u8 x.o, .int .u8 x.c, .int .u8 x.s, .int .u8 x.p, .int .u8 x.n, .int .u8 x.b, .int .u8 x.r, .int .u8 x.v] 5) = W1 at *
    have HL9 := hide (show (77 :: nB x).length = 10 by simp [nB])
    generalize h77 : (77 :: nB x) = F10 at *
    have H77 := hide h77
    clear h77
    go_loopw [6, 7, 8] (fun v n i wr => ∃ j : Nat, j ≤ 8 ∧ i = .int .i64 (j : Int) ∧ n = .int .u64 (x.d / 2 ^ (8 * j)) ∧ wr.ownsRow w.heap.size 5 1 v (10 + j) (bcells (F10 ++ (List.range j).map (fun j => u8 (sB x.d j)))) ∧ Kp [5] w.heap.size w1 wr) (fun _ _ i _ => 8 - (intOf i).toNat)
    case atStart => exact ⟨0, by omega, rfl, by simp, by simpa using HROW.out, HKA.out⟩
    case round =>
      obtain ⟨j, hj, rfl, rfl, hown, hk⟩ := hrel
      have hs := hk.size
      obtain ⟨A1, c1, rfl⟩ := own_sl hown
      have HO1 := hide hown
      have HK1 := hide hk
      clear hown hk
      by_cases hlt : j < 8
      · have hltI : (j : Int) < 8 := by omega
        have HR := hide (range_take_succ (fun j => u8 (sB x.d j)) 0 j)
        have hdv0 : 0 ≤ x.d / 2 ^ (8 * j) := Int.ediv_nonneg hd0 (Int.pow_nonneg (by omega))
        have hdv1 : x.d / 2 ^ (8 * j) < 18446744073709551616 := Int.lt_of_le_of_lt (Int.ediv_le_self _ hd0) hd1
        have HDN := hide (show x.d / 2 ^ (8 * (j + 1)) = x.d / 2 ^ (8 * j) / 256 by
          rw [show 8 * (j + 1) = 8 * j + 8 by omega, Int.pow_add, Int.ediv_ediv, if_neg (fun q => absurd q.1 (Int.not_lt.mpr (Int.pow_nonneg (by omega)))), Int.sub_zero]; rfl)
        have HU := hide (bcells_u8 (n := sB x.d j) (sB_bd hd0).1 (sB_bd hd0).2)
        have HSB := hide (show sB x.d j = x.d / 2 ^ (8 * j) % 256 from rfl)
        generalize x.d / 2 ^ (8 * j) = dv at *
        go_wp2_with (at_builtin; refine wpList_bapp 1 rfl rfl rfl HO1.out (by omega) rfl rfl rfl (by simp [Value.oneCell']) (by omega) ?_; intro v' w2 hown' hk2 _; go_frame)
        go_roundw
        case rel => exact ⟨j + 1, by omega, by go_num, by rw [HDN.out], by rw [HR.out, ← List.append_assoc, bcells_app, HU.out, HSB.out]; exact hown', HK1.out.trans hk2⟩
        case measure => simp [intOf]; omega
      · obtain rfl : j = 8 := by omega
        have e8 : (List.range 8).map (fun j => u8 (sB x.d j)) = dB x := rfl
        have eH : F10 ++ dB x = hB x := by rw [← H77.out]; rfl
        rw [e8, eH] at HO1
        have HRB := hide (RB.of HO1.out)
        clear HO1
        go_wp2_with fail
        go_loopw [6, 9, 10, 11] (fun v i _ _ wr => ∃ j : Nat, j ≤ ps.length ∧ i = .int .i64 (j : Int) ∧ RB wr w.heap.size v (hB x ++ (ps.take j).flatMap pB) ∧ Kp [5] w.heap.size w1 wr) (fun _ i _ _ _ => ps.length - (intOf i).toNat)
        case atStart => exact ⟨0, by omega, rfl, by simpa using HRB.out, HK1.out⟩
        case round =>
          obtain ⟨j, hj, rfl, hrb, hk⟩ := hrel
          have hE : Ext w wr := hk.ext HX.out (Nat.le_refl _)
          have q := (hk.blk HB.out (by decide)).cell
          by_cases hlt : j < ps.length
          · obtain ⟨b1, o1, A', c', rfl, hbl, r1, hl2, hch⟩ := (H.out.p.ext hE).at_ hlt
            obtain ⟨p1, p2, p3⟩ := HOK.out.p ps[j] (List.getElem_mem hlt)
            have HF := hide (flat_take_succ pB ps hlt)
            have hln : (hB x ++ (ps.take j).flatMap pB).length ≤ 100000 := by
              rw [List.length_append, hB_len]
              have := flat_len pB 193 (ps.take j) (fun y hy => pB_len (HOK.out.p y (List.mem_of_mem_take hy)).1)
              rw [List.length_take] at this
              omega
            have hbs : w.heap.size ≤ wr.heap.size := hE.size
            generalize ps[j] = p at *
            have hpk := rpack_ok2 c' hch p1
            generalize hL : hB x ++ (ps.take j).flatMap pB = L at *
            have HL := hide hL
            clear hL
            have HK := hide hk
            have hown : wr.ownsRow w.heap.size 5 1 _ _ _ := hrb
            have HRB1 := hide hown
            have HLT := hide (show ∀ k, Value.ownBlock _ = some k → k < wr.heap.size from fun k hk => by obtain ⟨cs, hb⟩ := own_blk hown k hk; exact Blk.lt hb)
            obtain ⟨A0, c0, rfl⟩ := own_sl hown
            clear hrb hk hch hl2 hown
            have h64 := (wrong_out p1).1
            have hbl2 := bytesO_length p
            go_wp2_with fail
            refine hpk.mono ?_
            rintro e w4 ⟨hr, hx4⟩
            unfold PackR2 at hr
            rcases hr with ⟨_, A5, c5, rfl, hle, hmx, hby, hlo⟩ | ⟨h0, _⟩
            · have HX4 := hide hx4
              have HBY := hide hby
              have HLO := hide hlo
              have hs4 := hx4.size
              have HBL := hide hbl2
              have hmd : ((bytesO p).length : Int) % 256 = ((bytesO p).length : Int) := by omega
              have HU := hide (bcells_u8 (n := ((bytesO p).length : Int)) (by omega) (by omega))
              clear hx4 hby hlo hpk hbl2
              go_wp2_with (at_builtin; (first
                | (refine wpList_bapp 1 rfl rfl rfl (own_ext HRB1.out HX4.out) (by omega) rfl rfl rfl (by simp [Value.oneCell']) (by omega) ?_; intro v' w2 hown' hk2 hfar; have HO2 := hide hown'; have HK2 := hide hk2; have HB2 := hide (HBY.out.far hk2.size (fun b e hb => hfar _ hb (fun q => by have := HLO.out b e; have := HLT.out _ q; omega))); clear hown' hk2 hfar; go_frame)
                | (refine wpList_bapp2 (l := bytesO p) rfl rfl rfl HO2.out (by have := HK2.out.size; omega) rfl HB2.out (by omega) ?_; intro v3 w3 hown3 hk3; go_frame)))
              go_roundw
              case rel =>
                refine ⟨j + 1, by omega, by go_num, RB.of (n := L.length + 1 + (bytesO p).length) ?_, ((HK.out.trans (HX4.out.kp _ _)).trans HK2.out).trans hk3⟩
                have e2 : ((3 * p.length : Nat) : Int) = ((bytesO p).length : Int) := by have := HBL.out; omega
                rw [HF.out, ← List.append_assoc, HL.out]
                rw [show pB p = [u8 ((bytesO p).length : Int)] ++ bytesO p by unfold pB; rw [e2]; rfl, ← List.append_assoc, bcells_app, bcells_app, HU.out]
                exact hown3
              case measure => simp [intOf]; omega
            · rw [p2] at h0; cases h0
          · obtain rfl : j = ps.length := by omega
            rw [List.take_length] at hrb
            have HK3 := hide hk
            have HRB3 := hide hrb
            have h3 : ¬ (ps.length : Int) < (ps.length : Int) := by omega
            clear hrb hk hE
            go_wp2_with fail
            clear q
            go_loopw [6, 12, 13, 103, 111] (fun v i _ _ _ wz => ∃ j : Nat, j ≤ ts.length ∧ i = .int .i64 (j : Int) ∧ RB wz w.heap.size v (hB x ++ ps.flatMap pB ++ (ts.take j).flatMap tB) ∧ Kp [5] w.heap.size w1 wz) (fun _ i _ _ _ _ => ts.length - (intOf i).toNat)
            case atStart => exact ⟨0, by omega, rfl, by simpa using HRB3.out, HK3.out⟩
            case round =>
              obtain ⟨j, hj, rfl, hrb, hk⟩ := hrel
              have hE : Ext w wr := hk.ext HX.out (Nat.le_refl _)
              have q := (hk.blk HB.out (by decide)).cell
              by_cases hlt : j < ts.length
              · obtain ⟨b1, o1, rfl, hbl, r0, r1⟩ := (H.out.t.ext hE).at_ hlt
                have hy := HOK.out.y ts[j] (List.getElem_mem hlt)
                have HF := hide (flat_take_succ tB ts hlt)
                have hln : (hB x ++ ps.flatMap pB ++ (ts.take j).flatMap tB).length ≤ 100000 := by
                  rw [List.length_append, List.length_append, hB_len]
                  have := flat_len pB 193 ps (fun y hy => pB_len (HOK.out.p y hy).1)
                  have := flat_len tB 2 (ts.take j) (fun y _ => tB_len y)
                  rw [List.length_take] at this
                  omega
                have hbs : w.heap.size ≤ wr.heap.size := hE.size
                generalize ts[j] = y at *
                obtain ⟨k, n⟩ := y
                generalize hL : hB x ++ ps.flatMap pB ++ (ts.take j).flatMap tB = L at *
                have HL := hide hL
                clear hL
                have hxa := Ext.alloc wr (.cells #[.int .i64 k, .int .i64 n] 59)
                have HO := hide (own_ext (show wr.ownsRow w.heap.size 5 1 _ _ _ from hrb) hxa)
                have hown : wr.ownsRow w.heap.size 5 1 _ _ _ := hrb
                obtain ⟨A0, c0, rfl⟩ := own_sl hown
                have hbs2 : w.heap.size ≤ (wr.alloc (.cells #[.int .i64 k, .int .i64 n] 59)).heap.size := Nat.le_trans hbs hxa.size
                have qa := (Blk.new wr #[.int .i64 k, .int .i64 n] 59).cell
                have HK := hide hk
                have HXA := hide (hxa.kp [5] w.heap.size)
                have HY := hide hy
                have hbd : 0 ≤ n ∧ n < 256 := by
                  have hx := HY.out
                  have hm8 := hmn.2.1
                  unfold isT at hx
                  split at hx
                  · have := of_decide_eq_true hx; simp only at this; omega
                  · split at hx
                    · have := of_decide_eq_true hx; simp only at this; omega
                    · split at hx
                      · have : n = 0 := by simpa using hx
                        omega
                      · cases hx
                obtain ⟨n0, n1⟩ := hbd
                have hmd : n % 256 = n := by omega
                have HU := hide (bcells_u8 n0 n1)
                clear hrb hk hE hxa hy hown
                by_cases h1 : k = 1
                · subst h1
                  have HT := hide (show tB (1, n) = [u8 n] from rfl)
                  go_wp2_with (at_builtin; refine wpList_bapp 1 rfl rfl rfl HO.out hbs2 rfl (by simp) rfl (by simp [Value.oneCell']) (by omega) ?_; intro v' w2 hown' hk2 _; go_frame)
                  go_roundw
                  case rel => exact ⟨j + 1, by omega, by go_num, RB.of (n := L.length + 1) (by rw [HF.out, ← List.append_assoc, HL.out, HT.out, bcells_app, HU.out]; exact hown'), (HK.out.trans HXA.out).trans hk2⟩
                  case measure => simp [intOf]; omega
                · by_cases h2 : k = 2
                  · subst h2
                    have HT := hide (show tB (2, n) = [100] ++ [u8 n] from rfl)
                    go_wp2_with (at_builtin; refine wpList_bapp 2 rfl rfl rfl HO.out hbs2 rfl (by simp) rfl (by simp [Value.oneCell']) (by omega) ?_; intro v' w2 hown' hk2 _; go_frame)
                    go_roundw
                    case rel => exact ⟨j + 1, by omega, by go_num, RB.of (n := L.length + 2) (by rw [HF.out, ← List.append_assoc, HL.out, HT.out, bcells_app, bcells_app, HU.out]; exact hown'), (HK.out.trans HXA.out).trans hk2⟩
                    case measure => simp [intOf]; omega
                  · have h3k : k = 3 := by
                      have hx := HY.out
                      unfold isT at hx
                      rw [if_neg h1, if_neg h2] at hx
                      split at hx
                      · assumption
                      · cases hx
                    subst h3k
                    have HT := hide (show tB (3, n) = [101] from rfl)
                    go_wp2_with (at_builtin; refine wpList_bapp 1 rfl rfl rfl HO.out hbs2 rfl (by simp) rfl (by simp [Value.oneCell']) (by omega) ?_; intro v' w2 hown' hk2 _; go_frame)
                    go_roundw
                    case rel => exact ⟨j + 1, by omega, by go_num, RB.of (n := L.length + 1) (by rw [HF.out, ← List.append_assoc, HL.out, HT.out, bcells_app]; exact hown'), (HK.out.trans HXA.out).trans hk2⟩
                    case measure => simp [intOf]; omega
              · obtain rfl : j = ts.length := by omega
                rw [List.take_length] at hrb
                rw [show hB x ++ ps.flatMap pB ++ ts.flatMap tB = scB x ps ts from rfl] at hrb
                generalize hS : scB x ps ts = S at *
                have HS := hide hS
                clear hS
                obtain ⟨A9, c9, rfl, hle, hmx, hby⟩ := By.of_own (show wr.ownsRow w.heap.size 5 1 _ _ _ from hrb)
                have HE9 := hide hE
                have h4 : ¬ (ts.length : Int) < (ts.length : Int) := by omega
                have HBY := hide hby
                clear hrb hk hE hby
                go_wp2_with fail
                go_ret2
                exact ⟨.inr ⟨HE.out, A9, c9, by rw [HS.out]; rfl, by rw [HS.out]; exact hle, hmx, by rw [HS.out]; exact HBY.out⟩, HE9.out⟩
  · have HE := hide he
    generalize hR : mayS x ps ts = R at *
    have HR := hide hR
    clear h hR
    go_enter Tryz.func10, Tryz.ntmps10
    go_wp2_with fail
    refine hmay.mono ?_
    rintro e w1 ⟨rfl, hx1⟩
    have HX := hide (hX0.trans hx1)
    clear hX0 hx1 hb hmay
    go_wp2_with fail
    go_ret2
    exact ⟨.inl ⟨by rw [HR.out]; exact HE.out, by rw [HR.out]; rfl⟩, HX.out⟩
end Go.Proofs.YtlgomkocalieeaaGreatDoor

namespace Go.Proofs.YtlgomkocalieeaaGreatDoor
open Go.RowKit
set_option linter.unusedSimpArgs false
set_option linter.unusedVariables false
set_option maxRecDepth 100000
set_option maxHeartbeats 8000000

theorem run_neqC (x y : Cf) (w : World) : Sem.run Tryz.prog (binOp .neq 24 (.agg #[.int .i64 x.t, .int .i64 x.o, .int .i64 x.c, .int .i64 x.s, .int .i64 x.p, .int .i64 x.n, .int .u8 x.b, .int .i64 x.r, .int .i64 x.v, .int .u64 x.d]) (.agg #[.int .i64 y.t, .int .i64 y.o, .int .i64 y.c, .int .i64 y.s, .int .i64 y.p, .int .i64 y.n, .int .u8 y.b, .int .i64 y.r, .int .i64 y.v, .int .u64 y.d])) w = .ok (.bool (!decide (x = y))) w := by
  obtain ⟨t, o, c, s, p, n, b, r, v, d⟩ := x
  obtain ⟨t', o', c', s', p', n', b', r', v', d'⟩ := y
  go_simp
  by_cases h1 : t = t'
  · by_cases h2 : o = o'
    · by_cases h3 : c = c'
      · by_cases h4 : s = s'
        · by_cases h5 : p = p'
          · by_cases h6 : n = n'
            · by_cases h7 : b = b'
              · by_cases h8 : r = r'
                · by_cases h9 : v = v'
                  · by_cases h10 : d = d' <;> simp [h1, h2, h3, h4, h5, h6, h7, h8, h9, h10]
                  · simp [h1, h2, h3, h4, h5, h6, h7, h8, h9]
                · simp [h1, h2, h3, h4, h5, h6, h7, h8]
              · simp [h1, h2, h3, h4, h5, h6, h7]
            · simp [h1, h2, h3, h4, h5, h6]
          · simp [h1, h2, h3, h4, h5]
        · simp [h1, h2, h3, h4]
      · simp [h1, h2, h3]
    · simp [h1, h2]
  · simp [h1]
theorem run_neqR (a b x y : Int) (w : World) : Sem.run Tryz.prog (binOp .neq 59 (.agg #[.int .i64 a, .int .i64 b]) (.agg #[.int .i64 x, .int .i64 y])) w = .ok (.bool (!decide (a = x ∧ b = y))) w := by
  go_simp
  by_cases h1 : a = x
  · by_cases h2 : b = y <;> simp [h1, h2]
  · simp [h1]
theorem rsame_any {w : World} {A B A2 B2 : Option Addr} {ps ps2 : List (List Op3)} {ts ts2 : List Tr} (c d c2 d2 : Nat) (x x2 : Cf) (h : Scr w A B ps ts) (h2 : Scr w A2 B2 ps2 ts2) :
    Calls Tryz.prog 14 #[.agg #[.int .i64 x.t, .int .i64 x.o, .int .i64 x.c, .int .i64 x.s, .int .i64 x.p, .int .i64 x.n, .int .u8 x.b, .int .i64 x.r, .int .i64 x.v, .int .u64 x.d, .slice A ps.length c, .slice B ts.length d], .agg #[.int .i64 x2.t, .int .i64 x2.o, .int .i64 x2.c, .int .i64 x2.s, .int .i64 x2.p, .int .i64 x2.n, .int .u8 x2.b, .int .i64 x2.r, .int .i64 x2.v, .int .u64 x2.d, .slice A2 ps2.length c2, .slice B2 ts2.length d2]] w fun e w' => e = .returned (.bool (decide (x = x2) && (decide (ps = ps2) && decide (ts = ts2)))) ∧ Ext w w' := by
  have hpl := h.pl
  have htl := h.tl
  have hX1 := Ext.alloc w (.cells #[.int .i64 x.t, .int .i64 x.o, .int .i64 x.c, .int .i64 x.s, .int .i64 x.p, .int .i64 x.n, .int .u8 x.b, .int .i64 x.r, .int .i64 x.v, .int .u64 x.d, .slice A ps.length c, .slice B ts.length d] 28)
  have hX2 := Ext.alloc (w.alloc (.cells #[.int .i64 x.t, .int .i64 x.o, .int .i64 x.c, .int .i64 x.s, .int .i64 x.p, .int .i64 x.n, .int .u8 x.b, .int .i64 x.r, .int .i64 x.v, .int .u64 x.d, .slice A ps.length c, .slice B ts.length d] 28)) (.cells #[.int .i64 x2.t, .int .i64 x2.o, .int .i64 x2.c, .int .i64 x2.s, .int .i64 x2.p, .int .i64 x2.n, .int .u8 x2.b, .int .i64 x2.r, .int .i64 x2.v, .int .u64 x2.d, .slice A2 ps2.length c2, .slice B2 ts2.length d2] 28)
  have hb1 := (Blk.new w #[.int .i64 x.t, .int .i64 x.o, .int .i64 x.c, .int .i64 x.s, .int .i64 x.p, .int .i64 x.n, .int .u8 x.b, .int .i64 x.r, .int .i64 x.v, .int .u64 x.d, .slice A ps.length c, .slice B ts.length d] 28).ext hX2
  have hb2 := Blk.new (w.alloc (.cells #[.int .i64 x.t, .int .i64 x.o, .int .i64 x.c, .int .i64 x.s, .int .i64 x.p, .int .i64 x.n, .int .u8 x.b, .int .i64 x.r, .int .i64 x.v, .int .u64 x.d, .slice A ps.length c, .slice B ts.length d] 28)) #[.int .i64 x2.t, .int .i64 x2.o, .int .i64 x2.c, .int .i64 x2.s, .int .i64 x2.p, .int .i64 x2.n, .int .u8 x2.b, .int .i64 x2.r, .int .i64 x2.v, .int .u64 x2.d, .slice A2 ps2.length c2, .slice B2 ts2.length d2] 28
  simp only [World.size_alloc] at hb2
  have hX := hX1.trans hX2
  have hnc := run_neqC x x2
  have H := hide (h.ext hX)
  have H2 := hide (h2.ext hX)
  have HX := hide hX
  have HB1 := hide hb1
  have HB2 := hide hb2
  obtain ⟨R, hR⟩ : ∃ R : Bool, R = (decide (x = x2) && (decide (ps = ps2) && decide (ts = ts2))) := ⟨_, rfl⟩
  rw [← hR]
  have HR := hide hR
  have q1 := hb1.cell
  have q2 := hb2.cell
  clear h h2 hX1 hX2 hX hb1 hb2 hR
  by_cases hx : x = x2
  · by_cases hlp : ps.length = ps2.length
    · by_cases hlt : ts.length = ts2.length
      · have hnc1 : ∀ w, Sem.run Tryz.prog (binOp .neq 24 (.agg #[.int .i64 x.t, .int .i64 x.o, .int .i64 x.c, .int .i64 x.s, .int .i64 x.p, .int .i64 x.n, .int .u8 x.b, .int .i64 x.r, .int .i64 x.v, .int .u64 x.d]) (.agg #[.int .i64 x2.t, .int .i64 x2.o, .int .i64 x2.c, .int .i64 x2.s, .int .i64 x2.p, .int .i64 x2.n, .int .u8 x2.b, .int .i64 x2.r, .int .i64 x2.v, .int .u64 x2.d])) w = .ok (.bool false) w := fun w => by rw [hnc, decide_eq_true hx]; rfl
        have hlpi : ((ps.length : Int) != (ps2.length : Int)) = false := by simp; omega
        have hlti : ((ts.length : Int) != (ts2.length : Int)) = false := by simp; omega
        have HXX := hide hx
        have HLP := hide hlp
        have HLT := hide hlt
        clear hnc hx hlp hlt
        go_enter Tryz.func14, Tryz.ntmps14
        go_wp2_with fail
        clear q1 q2 hnc1 hlpi hlti
        generalize (w.alloc (.cells #[.int .i64 x.t, .int .i64 x.o, .int .i64 x.c, .int .i64 x.s, .int .i64 x.p, .int .i64 x.n, .int .u8 x.b, .int .i64 x.r, .int .i64 x.v, .int .u64 x.d, .slice A ps.length c, .slice B ts.length d] 28)).alloc (.cells #[.int .i64 x2.t, .int .i64 x2.o, .int .i64 x2.c, .int .i64 x2.s, .int .i64 x2.p, .int .i64 x2.n, .int .u8 x2.b, .int .i64 x2.r, .int .i64 x2.v, .int .u64 x2.d, .slice A2 ps2.length c2, .slice B2 ts2.length d2] 28) = W0 at *
        generalize w.heap.size = g at *
        go_loopw [5, 6, 7, 8] (fun i _ _ _ wr => ∃ j : Nat, j ≤ ps.length ∧ i = .int .i64 (j : Int) ∧ Ext W0 wr ∧ ps.take j = ps2.take j) (fun i _ _ _ _ => ps.length - (intOf i).toNat)
        case atStart => exact ⟨0, by omega, rfl, Ext.refl _, by simp⟩
        case round =>
          obtain ⟨j, hj, rfl, hk, htk⟩ := hrel
          have HK := hide hk
          have HTK := hide htk
          have qa := (HB1.out.ext hk).rule
          have qb := (HB2.out.ext hk).rule
          have hW := Ext.refl wr
          by_cases hlt : j < ps.length
          · have hlt2 : j < ps2.length := by have := HLP.out; omega
            have hltI : (j : Int) < (ps.length : Int) := by omega
            have hltI2 : (j : Int) < (ps2.length : Int) := by omega
            obtain ⟨b1, o1, A', c', rfl, hb1, r1, hch0, hch⟩ := (H.out.p.ext hk).at_ hlt
            obtain ⟨b2, o2, A'', c'', rfl, hb2, r2, hch02, hch2⟩ := (H2.out.p.ext hk).at_ hlt2
            have HCH := hide hch
            have HCH2 := hide hch2
            have HN := hide (fun (hne : ps[j] ≠ ps2[j]) => (show ¬ ps = ps2 from fun e => hne (by subst e; rfl)))
            have HY := hide (fun (he : ps[j] = ps2[j]) => take_eq_succ hlt hlt2 htk he)
            generalize ps[j]'hlt = y at *
            generalize ps2[j]'hlt2 = z at *
            have q1 := fun w' (x : Ext wr w') => (x.oldCell _ _ hb1).trans r1
            have q2 := fun w' (x : Ext wr w') => (x.oldCell _ _ hb2).trans r2
            have p1 := qa wr hW
            have p2 := qb wr hW
            clear hk htk hch hch2 r1 r2
            go_wp2_with fail
            clear p1 p2
            refine wp_region_ext (by kernel_rfl) (by kernel_rfl) ?_
            repeat
              with_reducible refine wpQuiet_step (fun K hK => ?_)
              go_simp
              first
              | (refine hK _ ?_; clear hK K)
              | (apply Exists.intro
                 refine ⟨fun w1 h1 => ?_, hK _ ?_⟩
                 (have hW := Ext.trans2 hW (by repeat (first | exact Ext.refl _ | exact Ext.alloc _ _ | exact Ext.drewN _ _ | assumption | refine Ext.trans ?_ (Ext.alloc _ _) | refine Ext.trans ?_ (Ext.drew _) | refine Ext.trans ?_ (by assumption))) h1; (try have hV := Ext.trans2 hV (by repeat (first | exact Ext.refl _ | exact Ext.alloc _ _ | exact Ext.drewN _ _ | assumption | refine Ext.trans ?_ (Ext.alloc _ _) | refine Ext.trans ?_ (Ext.drew _) | refine Ext.trans ?_ (by assumption))) h1); (first | rfl | (go_simp; done) | (go_simp; rfl) | fail))
                 clear hK K)
            refine wpQuiet_nil (fun w' hw' => ?_)
            have hW := Ext.trans2 hW (by repeat (first | exact Ext.refl _ | exact Ext.alloc _ _ | exact Ext.drewN _ _ | assumption | refine Ext.trans ?_ (Ext.alloc _ _) | refine Ext.trans ?_ (Ext.drew _) | refine Ext.trans ?_ (by assumption))) hw'
            try have hV := Ext.trans2 hV (by repeat (first | exact Ext.refl _ | exact Ext.alloc _ _ | exact Ext.drewN _ _ | assumption | refine Ext.trans ?_ (Ext.alloc _ _) | refine Ext.trans ?_ (Ext.drew _) | refine Ext.trans ?_ (by assumption))) hw'
            clear hw'
            have HKW := hide (HK.out.trans hW)
            have HWW := hide hW
            by_cases hle : y.length = z.length
            · have hlei : ((y.length : Int) != (z.length : Int)) = false := by simp; omega
              have HLE := hide hle
              clear hle qa qb q1 q2 hW
              go_wp2_with fail
              clear hlei
              go_loopw [8] (fun i wz => ∃ m : Nat, m ≤ y.length ∧ i = .int .i64 (m : Int) ∧ Ext w' wz ∧ y.take m = z.take m) (fun i _ => y.length - (intOf i).toNat)
              case atStart => exact ⟨0, by omega, rfl, Ext.refl _, by simp⟩
              case round =>
                obtain ⟨m, hm, rfl, hk, htk⟩ := hrel
                have HK2 := hide hk
                have HTK2 := hide htk
                have hW := Ext.refl wr
                by_cases hlm : m < y.length
                · have hlm2 : m < z.length := by have := HLE.out; omega
                  have hlmI : (m : Int) < (y.length : Int) := by omega
                  have hlmI2 : (m : Int) < (z.length : Int) := by omega
                  obtain ⟨b3, o3, rfl, r3⟩ := (HCH.out.ext (HWW.out.trans hk)).at_ hlm
                  obtain ⟨b4, o4, rfl, r4⟩ := (HCH2.out.ext (HWW.out.trans hk)).at_ hlm2
                  have HN2 := hide (fun (hne : y[m] ≠ z[m]) => HN.out (fun e => hne (by subst e; rfl)))
                  have HY2 := hide (fun (he : y[m] = z[m]) => take_eq_succ hlm hlm2 htk he)
                  generalize y[m]'hlm = u at *
                  generalize z[m]'hlm2 = v at *
                  obtain ⟨uk, uo, ua⟩ := u
                  obtain ⟨vk, vo, va⟩ := v
                  have u1 := fun w' (x : Ext wr w') => (r3 w' x).1
                  have u2 := fun w' (x : Ext wr w') => (r3 w' x).2.1
                  have u3 := fun w' (x : Ext wr w') => (r3 w' x).2.2
                  have v1 := fun w' (x : Ext wr w') => (r4 w' x).1
                  have v2 := fun w' (x : Ext wr w') => (r4 w' x).2.1
                  have v3 := fun w' (x : Ext wr w') => (r4 w' x).2.2
                  have hne3 := run_neq3 uk uo ua vk vo va
                  clear r3 r4 hk htk
                  by_cases he : uk = vk ∧ uo = vo ∧ ua = va
                  · obtain ⟨rfl, rfl, rfl⟩ := he
                    have hne4 : ∀ w, Sem.run Tryz.prog (binOp .neq 53 (.agg #[.int .i64 uk, .int .i64 uo, .int .i64 ua]) (.agg #[.int .i64 uk, .int .i64 uo, .int .i64 ua])) w = .ok (.bool false) w := fun w => by rw [hne3]; simp
                    clear hne3
                    go_wp2_with fail
                    refine wp_region_ext (by kernel_rfl) (by kernel_rfl) ?_
                    repeat
                      with_reducible refine wpQuiet_step (fun K hK => ?_)
                      go_simp
                      first
                      | (refine hK _ ?_; clear hK K)
                      | (apply Exists.intro
                         refine ⟨fun w1 h1 => ?_, hK _ ?_⟩
                         (have hW := Ext.trans2 hW (by repeat (first | exact Ext.refl _ | exact Ext.alloc _ _ | exact Ext.drewN _ _ | assumption | refine Ext.trans ?_ (Ext.alloc _ _) | refine Ext.trans ?_ (Ext.drew _) | refine Ext.trans ?_ (by assumption))) h1; (try have hV := Ext.trans2 hV (by repeat (first | exact Ext.refl _ | exact Ext.alloc _ _ | exact Ext.drewN _ _ | assumption | refine Ext.trans ?_ (Ext.alloc _ _) | refine Ext.trans ?_ (Ext.drew _) | refine Ext.trans ?_ (by assumption))) h1); (first | rfl | (go_simp; done) | (go_simp; rfl) | fail))
                         clear hK K)
                    refine wpQuiet_nil (fun w' hw' => ?_)
                    have hW := Ext.trans2 hW (by repeat (first | exact Ext.refl _ | exact Ext.alloc _ _ | exact Ext.drewN _ _ | assumption | refine Ext.trans ?_ (Ext.alloc _ _) | refine Ext.trans ?_ (Ext.drew _) | refine Ext.trans ?_ (by assumption))) hw'
                    try have hV := Ext.trans2 hV (by repeat (first | exact Ext.refl _ | exact Ext.alloc _ _ | exact Ext.drewN _ _ | assumption | refine Ext.trans ?_ (Ext.alloc _ _) | refine Ext.trans ?_ (Ext.drew _) | refine Ext.trans ?_ (by assumption))) hw'
                    clear hw'
                    have HK3 := hide (HK2.out.trans hW)
                    clear u1 u2 u3 v1 v2 v3 hne4 hW
                    go_wp2_with fail
                    go_roundw
                    case rel => exact ⟨m + 1, by omega, by go_num, HK3.out, HY2.out trivial⟩
                    case measure => simp [intOf]; omega
                  · have hne4 : ∀ w, Sem.run Tryz.prog (binOp .neq 53 (.agg #[.int .i64 uk, .int .i64 uo, .int .i64 ua]) (.agg #[.int .i64 vk, .int .i64 vo, .int .i64 va])) w = .ok (.bool true) w := fun w => by rw [hne3, decide_eq_false he]; rfl
                    obtain rfl : R = false := by
                      rw [HR.out, decide_eq_false (HN2.out (fun e => he (by simp only [Prod.mk.injEq] at e; exact e)))]; simp
                    clear hne3 he
                    go_wp2_with fail
                    refine wp_region_ext (by kernel_rfl) (by kernel_rfl) ?_
                    repeat
                      with_reducible refine wpQuiet_step (fun K hK => ?_)
                      go_simp
                      first
                      | (refine hK _ ?_; clear hK K)
                      | (apply Exists.intro
                         refine ⟨fun w1 h1 => ?_, hK _ ?_⟩
                         (have hW := Ext.trans2 hW (by repeat (first | exact Ext.refl _ | exact Ext.alloc _ _ | exact Ext.drewN _ _ | assumption | refine Ext.trans ?_ (Ext.alloc _ _) | refine Ext.trans ?_ (Ext.drew _) | refine Ext.trans ?_ (by assumption))) h1; (try have hV := Ext.trans2 hV (by repeat (first | exact Ext.refl _ | exact Ext.alloc _ _ | exact Ext.drewN _ _ | assumption | refine Ext.trans ?_ (Ext.alloc _ _) | refine Ext.trans ?_ (Ext.drew _) | refine Ext.trans ?_ (by assumption))) h1); (first | rfl | (go_simp; done) | (go_simp; rfl) | fail))
                         clear hK K)
                    refine wpQuiet_nil (fun w' hw' => ?_)
                    have hW := Ext.trans2 hW (by repeat (first | exact Ext.refl _ | exact Ext.alloc _ _ | exact Ext.drewN _ _ | assumption | refine Ext.trans ?_ (Ext.alloc _ _) | refine Ext.trans ?_ (Ext.drew _) | refine Ext.trans ?_ (by assumption))) hw'
                    try have hV := Ext.trans2 hV (by repeat (first | exact Ext.refl _ | exact Ext.alloc _ _ | exact Ext.drewN _ _ | assumption | refine Ext.trans ?_ (Ext.alloc _ _) | refine Ext.trans ?_ (Ext.drew _) | refine Ext.trans ?_ (by assumption))) hw'
                    clear hw'
                    have HK3 := hide (HKW.out.trans (HK2.out.trans hW))
                    clear u1 u2 u3 v1 v2 v3 hne4 hW
                    go_wp2_with fail
                    go_ret
                    exact ⟨by simp, HX.out.trans HK3.out⟩
                · have hme : m = y.length := by omega
                  have hyz : y = z := by
                    have := htk
                    rw [hme, List.take_length, HLE.out, List.take_length] at this
                    exact this
                  have h3 : ¬ (m : Int) < (y.length : Int) := by omega
                  have HT3 := hide (HY.out hyz)
                  have HK3 := hide (HKW.out.trans hk)
                  clear hyz hk htk hme
                  go_wp2_with fail
                  go_roundw
                  case rel => exact ⟨j + 1, by omega, by go_num, HK3.out, HT3.out⟩
                  case measure => simp [intOf]; omega
            · have hlei : ((y.length : Int) != (z.length : Int)) = true := by simp; omega
              obtain rfl : R = false := by
                rw [HR.out, decide_eq_false (HN.out (fun e => hle (by rw [e])))]; simp
              clear hle qa qb q1 q2 hW
              go_wp2_with fail
              go_ret
              exact ⟨by simp, HX.out.trans HKW.out⟩
          · have hje : j = ps.length := by omega
            have hpq : ps = ps2 := by
              have := htk
              rw [hje, List.take_length, HLP.out, List.take_length] at this
              exact this
            have HPQ := hide hpq
            have h3 : ¬ (j : Int) < (ps.length : Int) := by omega
            have p1 := qa wr hW
            have p2 := qb wr hW
            clear hpq hk htk hje
            go_wp2_with fail
            clear p1 p2
            go_loopw [9] (fun i wz => ∃ m : Nat, m ≤ ts.length ∧ i = .int .i64 (m : Int) ∧ Ext wr wz ∧ ts.take m = ts2.take m) (fun i _ => ts.length - (intOf i).toNat)
            case atStart => exact ⟨0, by omega, rfl, Ext.refl _, by simp⟩
            case round =>
              clear qa qb hW
              obtain ⟨m, hm, rfl, hk, htk⟩ := hrel
              have HK2 := hide (HK.out.trans hk)
              have HKZ := hide hk
              have qa := (HB1.out.ext HK2.out).rule
              have qb := (HB2.out.ext HK2.out).rule
              have hW := Ext.refl wr
              have p1 := qa wr hW
              have p2 := qb wr hW
              by_cases hlm : m < ts.length
              · have hlm2 : m < ts2.length := by have := HLT.out; omega
                have hlmI : (m : Int) < (ts.length : Int) := by omega
                have hlmI2 : (m : Int) < (ts2.length : Int) := by omega
                obtain ⟨b3, o3, rfl, hb3, r1, r2⟩ := (H.out.t.ext HK2.out).at_ hlm
                obtain ⟨b4, o4, rfl, hb4, r3, r4⟩ := (H2.out.t.ext HK2.out).at_ hlm2
                have HN2 := hide (fun (hne : ts[m] ≠ ts2[m]) => (show ¬ ts = ts2 from fun e => hne (by subst e; rfl)))
                have HY2 := hide (fun (he : ts[m] = ts2[m]) => take_eq_succ hlm hlm2 htk he)
                generalize ts[m]'hlm = u at *
                generalize ts2[m]'hlm2 = v at *
                obtain ⟨uk, un⟩ := u
                obtain ⟨vk, vn⟩ := v
                have u1 := fun w' (x : Ext wr w') => (x.oldCell _ _ hb3).trans r1
                have u2 := fun w' (x : Ext wr w') => (x.oldCell _ _ hb3).trans r2
                have v1 := fun w' (x : Ext wr w') => (x.oldCell _ _ hb4).trans r3
                have v2 := fun w' (x : Ext wr w') => (x.oldCell _ _ hb4).trans r4
                have hne3 := run_neqR uk un vk vn
                clear r1 r2 r3 r4 hk htk
                by_cases he : uk = vk ∧ un = vn
                · obtain ⟨rfl, rfl⟩ := he
                  have hne4 : ∀ w, Sem.run Tryz.prog (binOp .neq 59 (.agg #[.int .i64 uk, .int .i64 un]) (.agg #[.int .i64 uk, .int .i64 un])) w = .ok (.bool false) w := fun w => by rw [hne3]; simp
                  clear hne3
                  go_wp2_with fail
                  clear p1 p2
                  refine wp_region_ext (by kernel_rfl) (by kernel_rfl) ?_
                  repeat
                    with_reducible refine wpQuiet_step (fun K hK => ?_)
                    go_simp
                    first
                    | (refine hK _ ?_; clear hK K)
                    | (apply Exists.intro
                       refine ⟨fun w1 h1 => ?_, hK _ ?_⟩
                       (have hW := Ext.trans2 hW (by repeat (first | exact Ext.refl _ | exact Ext.alloc _ _ | exact Ext.drewN _ _ | assumption | refine Ext.trans ?_ (Ext.alloc _ _) | refine Ext.trans ?_ (Ext.drew _) | refine Ext.trans ?_ (by assumption))) h1; (try have hV := Ext.trans2 hV (by repeat (first | exact Ext.refl _ | exact Ext.alloc _ _ | exact Ext.drewN _ _ | assumption | refine Ext.trans ?_ (Ext.alloc _ _) | refine Ext.trans ?_ (Ext.drew _) | refine Ext.trans ?_ (by assumption))) h1); (first | rfl | (go_simp; done) | (go_simp; rfl) | fail))
                       clear hK K)
                  refine wpQuiet_nil (fun w' hw' => ?_)
                  have hW := Ext.trans2 hW (by repeat (first | exact Ext.refl _ | exact Ext.alloc _ _ | exact Ext.drewN _ _ | assumption | refine Ext.trans ?_ (Ext.alloc _ _) | refine Ext.trans ?_ (Ext.drew _) | refine Ext.trans ?_ (by assumption))) hw'
                  try have hV := Ext.trans2 hV (by repeat (first | exact Ext.refl _ | exact Ext.alloc _ _ | exact Ext.drewN _ _ | assumption | refine Ext.trans ?_ (Ext.alloc _ _) | refine Ext.trans ?_ (Ext.drew _) | refine Ext.trans ?_ (by assumption))) hw'
                  clear hw'
                  have HK3 := hide (HKZ.out.trans hW)
                  clear u1 u2 v1 v2 hne4 hW qa qb
                  go_wp2_with fail
                  go_roundw
                  case rel => exact ⟨m + 1, by omega, by go_num, HK3.out, HY2.out trivial⟩
                  case measure => simp [intOf]; omega
                · have hne4 : ∀ w, Sem.run Tryz.prog (binOp .neq 59 (.agg #[.int .i64 uk, .int .i64 un]) (.agg #[.int .i64 vk, .int .i64 vn])) w = .ok (.bool true) w := fun w => by rw [hne3, decide_eq_false he]; rfl
                  obtain rfl : R = false := by
                    rw [HR.out, decide_eq_false (HN2.out (fun e => he (by simp only [Prod.mk.injEq] at e; exact e)))]; simp
                  clear hne3 he
                  go_wp2_with fail
                  clear p1 p2
                  refine wp_region_ext (by kernel_rfl) (by kernel_rfl) ?_
                  repeat
                    with_reducible refine wpQuiet_step (fun K hK => ?_)
                    go_simp
                    first
                    | (refine hK _ ?_; clear hK K)
                    | (apply Exists.intro
                       refine ⟨fun w1 h1 => ?_, hK _ ?_⟩
                       (have hW := Ext.trans2 hW (by repeat (first | exact Ext.refl _ | exact Ext.alloc _ _ | exact Ext.drewN _ _ | assumption | refine Ext.trans ?_ (Ext.alloc _ _) | refine Ext.trans ?_ (Ext.drew _) | refine Ext.trans ?_ (by assumption))) h1; (try have hV := Ext.trans2 hV (by repeat (first | exact Ext.refl _ | exact Ext.alloc _ _ | exact Ext.drewN _ _ | assumption | refine Ext.trans ?_ (Ext.alloc _ _) | refine Ext.trans ?_ (Ext.drew _) | refine Ext.trans ?_ (by assumption))) h1); (first | rfl | (go_simp; done) | (go_simp; rfl) | fail))
                       clear hK K)
                  refine wpQuiet_nil (fun w' hw' => ?_)
                  have hW := Ext.trans2 hW (by repeat (first | exact Ext.refl _ | exact Ext.alloc _ _ | exact Ext.drewN _ _ | assumption | refine Ext.trans ?_ (Ext.alloc _ _) | refine Ext.trans ?_ (Ext.drew _) | refine Ext.trans ?_ (by assumption))) hw'
                  try have hV := Ext.trans2 hV (by repeat (first | exact Ext.refl _ | exact Ext.alloc _ _ | exact Ext.drewN _ _ | assumption | refine Ext.trans ?_ (Ext.alloc _ _) | refine Ext.trans ?_ (Ext.drew _) | refine Ext.trans ?_ (by assumption))) hw'
                  clear hw'
                  have HK3 := hide (HK2.out.trans hW)
                  clear u1 u2 v1 v2 hne4 hW qa qb
                  go_wp2_with fail
                  go_ret
                  exact ⟨by simp, HX.out.trans HK3.out⟩
              · have hme : m = ts.length := by omega
                have hyz : ts = ts2 := by
                  have := htk
                  rw [hme, List.take_length, HLT.out, List.take_length] at this
                  exact this
                obtain rfl : R = true := by
                  rw [HR.out, decide_eq_true HXX.out, decide_eq_true HPQ.out, decide_eq_true hyz]; rfl
                have h4 : ¬ (m : Int) < (ts.length : Int) := by omega
                clear hyz hk htk hme
                go_wp2_with fail
                go_ret
                exact ⟨by simp, HX.out.trans HK2.out⟩
      · have hnc1 : ∀ w, Sem.run Tryz.prog (binOp .neq 24 (.agg #[.int .i64 x.t, .int .i64 x.o, .int .i64 x.c, .int .i64 x.s, .int .i64 x.p, .int .i64 x.n, .int .u8 x.b, .int .i64 x.r, .int .i64 x.v, .int .u64 x.d]) (.agg #[.int .i64 x2.t, .int .i64 x2.o, .int .i64 x2.c, .int .i64 x2.s, .int .i64 x2.p, .int .i64 x2.n, .int .u8 x2.b, .int .i64 x2.r, .int .i64 x2.v, .int .u64 x2.d])) w = .ok (.bool false) w := fun w => by rw [hnc, decide_eq_true hx]; rfl
        have hlpi : ((ps.length : Int) != (ps2.length : Int)) = false := by simp; omega
        have hlti : ((ts.length : Int) != (ts2.length : Int)) = true := by simp; omega
        obtain rfl : R = false := by rw [HR.out, decide_eq_false (show ¬ ts = ts2 from fun e => hlt (by rw [e]))]; simp
        clear hnc hlt hx hlp
        go_enter Tryz.func14, Tryz.ntmps14
        go_wp2_with fail
        go_ret
        exact ⟨by simp, HX.out⟩
    · have hnc1 : ∀ w, Sem.run Tryz.prog (binOp .neq 24 (.agg #[.int .i64 x.t, .int .i64 x.o, .int .i64 x.c, .int .i64 x.s, .int .i64 x.p, .int .i64 x.n, .int .u8 x.b, .int .i64 x.r, .int .i64 x.v, .int .u64 x.d]) (.agg #[.int .i64 x2.t, .int .i64 x2.o, .int .i64 x2.c, .int .i64 x2.s, .int .i64 x2.p, .int .i64 x2.n, .int .u8 x2.b, .int .i64 x2.r, .int .i64 x2.v, .int .u64 x2.d])) w = .ok (.bool false) w := fun w => by rw [hnc, decide_eq_true hx]; rfl
      have hlpi : ((ps.length : Int) != (ps2.length : Int)) = true := by simp; omega
      obtain rfl : R = false := by rw [HR.out, decide_eq_false (show ¬ ps = ps2 from fun e => hlp (by rw [e]))]; simp
      clear hnc hx hlp
      go_enter Tryz.func14, Tryz.ntmps14
      go_wp2_with fail
      go_ret
      exact ⟨by simp, HX.out⟩
  · have hnc1 : ∀ w, Sem.run Tryz.prog (binOp .neq 24 (.agg #[.int .i64 x.t, .int .i64 x.o, .int .i64 x.c, .int .i64 x.s, .int .i64 x.p, .int .i64 x.n, .int .u8 x.b, .int .i64 x.r, .int .i64 x.v, .int .u64 x.d]) (.agg #[.int .i64 x2.t, .int .i64 x2.o, .int .i64 x2.c, .int .i64 x2.s, .int .i64 x2.p, .int .i64 x2.n, .int .u8 x2.b, .int .i64 x2.r, .int .i64 x2.v, .int .u64 x2.d])) w = .ok (.bool true) w := fun w => by rw [hnc, decide_eq_false hx]; rfl
    obtain rfl : R = false := by rw [HR.out, decide_eq_false hx]; simp
    clear hnc hx
    go_enter Tryz.func14, Tryz.ntmps14
    go_wp2_with fail
    go_ret
    exact ⟨by simp, HX.out⟩
end Go.Proofs.YtlgomkocalieeaaGreatDoor
