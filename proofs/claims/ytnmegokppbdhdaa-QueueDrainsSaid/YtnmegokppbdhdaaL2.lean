/-
  A law of layer 12 holds of every input: QueueDrains. No condition.
-/
import Derived.Test.YtnmegokppbdhdaaB1
namespace Go.Proofs.Ytnmegokppbdhdaa
open Go.ChangeShapes Go.WideShapes Go.ChangeAt Go.RowKit Go.Deep Go.Joins
set_option linter.unusedVariables false
set_option linter.unusedSimpArgs false
set_option maxRecDepth 100000

set_option maxHeartbeats 4000000 in
theorem drains_any {W : World} {A C : Option Addr} {c c2 : Nat} {f ch : List Int} {t : Int} (hF : Ch W A f) (hC : Ch W C ch) (hwf : ∀ j (h : j < ch.length), (ky ch[j]).wf = true) :
    Calls Try.prog 6 #[.slice A f.length c, .slice C ch.length c2, .int .i64 t] W fun e w' => e = .returned (.bool true) ∧ Ext W w' := by
  by_cases hl1 : 100 < f.length
  · go_enter Try.func6, Try.ntmps6
    go_wp2_with (go_at_call 8; refine (alive_any _).mono ?_; rintro e w1 ⟨rfl, hx⟩)
    go_ret
    exact ⟨rfl, hx⟩
  · by_cases hl2 : 100 < ch.length
    · go_enter Try.func6, Try.ntmps6
      go_wp2_with (go_at_call 8; refine (alive_any _).mono ?_; rintro e w1 ⟨rfl, hx⟩)
      go_ret
      exact ⟨rfl, hx⟩
    · have HF := hide hF
      have HCH := hide hC
      have hi0 : Bx (W.alloc (Obj.cells #[.slice none 0 0] 27)) W.heap.size (apK f 0) := Bx.newN (Row.nil _)
      have hx0 := Ext.alloc W (Obj.cells #[.slice none 0 0] 27)
      clear hF hC
      go_enter Try.func6, Try.ntmps6
      go_wp2_with fail
      obtain ⟨Q, hQ⟩ : ∃ Q, Q = W.heap.size := ⟨_, rfl⟩
      rw [← hQ] at hi0 ⊢
      have HQ := hide hQ
      clear hQ
      go_loopw [34] (fun i wr => ∃ j : Nat, j ≤ f.length ∧ i = .int .i64 (j : Int) ∧ Bx wr Q (apK f j) ∧ Ext W wr) (fun i _ => f.length - (intOf i).toNat)
      case atStart => exact ⟨0, by omega, rfl, hi0, hx0⟩
      case round =>
        clear hi0 hx0
        obtain ⟨j, hj, rfl, hI, hX⟩ := hrel
        by_cases hlt : j < f.length
        · obtain ⟨b, off, rfl, r⟩ := (HF.out.ext hX).at_ hlt
          have r0 := r wr (Ext.refl _)
          have HE := hide (apK_succ f hlt)
          obtain ⟨A1, c1, hb, hr⟩ := hI
          have hcall := append_any f[j] hr (okq_apK f j)
          have q0 := hb.cell
          have HB := hide hb
          have HX := hide hX
          clear r hb hr hX
          generalize f[j] = z at *
          generalize apK f j = xs at *
          go_wp2_with fail
          refine hcall.mono ?_
          rintro e w1 ⟨A2, c2, rfl, hr2, hx, _⟩
          have hb1 := HB.out.ext hx
          have q1 := hb1.cell
          have q1f := hb1.free
          have HB1 := hide hb1
          have HR2 := hide hr2
          have HX1 := hide (HX.out.trans hx)
          clear hcall q0 hb1 hr2 hx
          go_wp2_with fail
          go_roundw
          case rel =>
            have h1 := Bx.store HB1.out HR2.out
            rw [← HE.out] at h1 ⊢
            exact ⟨j + 1, by omega, by go_num, h1, HX1.out.set (p := ⟨Q, 0, none⟩) (by have := HQ.out; simp; omega) _⟩
          case measure => simp [intOf]; omega
        · obtain rfl : j = f.length := by omega
          have ok := okq_apK f f.length
          generalize apK f f.length = xs at *
          obtain ⟨A1, c1, hb, hr⟩ := hI
          have q0 := hb.cell
          have hcall := drain_any hr ok (HCH.out.ext hX) (c2 := c2) (by omega) hwf
          have oka := ok.dr ch ch.length
          rw [show drK xs ch ch.length = drL xs ch from rfl] at oka
          have hne := drN_eq xs ch
          have HB := hide hb
          have HR := hide hr
          have HX := hide hX
          have hxl := ok.len
          have hal := oka.len
          clear hb hr hX
          go_wp2_with fail
          refine hcall.mono ?_
          rintro e w1 ⟨A2, c3, rfl, hr2, hx⟩
          have HLA := hide (show drL xs ch = drL xs ch from rfl)
          obtain ⟨la, hla⟩ : ∃ la, la = drL xs ch := ⟨_, rfl⟩
          obtain ⟨dn, hdn⟩ : ∃ dn, dn = drN xs ch := ⟨_, rfl⟩
          rw [← hla] at hr2 hne oka hal ⊢
          rw [← hdn] at hne ⊢
          have ELA := hide hla
          have EDN := hide hdn
          have ELN := hide hne
          have HB1 := hide ((HB.out.ext hx).ext (Ext.alloc w1 (Obj.cells #[.slice A2 la.length c3] 27)))
          have HR1 := hide ((HR.out.ext hx).ext (Ext.alloc w1 (Obj.cells #[.slice A2 la.length c3] 27)))
          have HXA := hide ((HX.out.trans hx).trans (Ext.alloc w1 (Obj.cells #[.slice A2 la.length c3] 27)))
          have HA1 := hide (Bx.new hr2)
          have q1 := HB1.out.cell
          clear hcall q0 hr2 hx hla hdn hne HB HR HX HLA
          go_wp2_with fail
          obtain ⟨Ba, hBa⟩ : ∃ Ba, Ba = w1.heap.size := ⟨_, rfl⟩
          rw [← hBa] at HA1 ⊢
          have hs2 : (w1.alloc (Obj.cells #[.slice A2 la.length c3] 27)).heap.size = Ba + 1 := by rw [World.size_alloc, hBa]
          generalize w1.alloc (Obj.cells #[.slice A2 la.length c3] 27) = w2 at *
          have HX2 := hide (HXA.out.trans (Ext.alloc w2 (Obj.cells #[.slice A1 xs.length c1] 27)))
          have hi2 : Bx (w2.alloc (Obj.cells #[.slice A1 xs.length c1] 27)) Q xs ∧ Bx (w2.alloc (Obj.cells #[.slice A1 xs.length c1] 27)) Ba la ∧ Bx (w2.alloc (Obj.cells #[.slice A1 xs.length c1] 27)) (Ba + 1) (drK xs ch 0) :=
            ⟨⟨A1, c1, HB1.out.ext (Ext.alloc _ _), HR1.out.ext (Ext.alloc _ _)⟩, HA1.out.ext (Ext.alloc _ _), by rw [← hs2]; exact (Bx.new HR1.out).eq (drK_zero xs ch).symm⟩
          obtain ⟨Bb, hBb⟩ : ∃ Bb, Bb = Ba + 1 := ⟨_, rfl⟩
          rw [← hBb] at hi2 ⊢
          have hne1 : Bb ≠ Q := by have := HB1.out.lt; omega
          have hne2 : Bb ≠ Ba := by have := HA1.out.lt; omega
          have hlb : W.heap.size ≤ Bb := by have := HXA.out.size; omega
          have HN1 := hide hne1
          have HN2 := hide hne2
          clear hBa hBb hne1 hne2 q1 hs2
          obtain ⟨hi2a, hi2b, hi2c⟩ := hi2
          have hx2 := HX2.out
          go_loopw [13, 54] (fun v i wr => ∃ j : Nat, j ≤ ch.length ∧ v = .int .i64 (((drK xs ch j).length : Int) - (xs.length : Int)) ∧ i = .int .i64 (j : Int) ∧ Bx wr Q xs ∧ Bx wr Ba la ∧ Bx wr Bb (drK xs ch j) ∧ Ext W wr) (fun _ i _ => ch.length - (intOf i).toNat)
          case atStart => exact ⟨0, by omega, by rw [drK_zero]; simp, rfl, hi2a, hi2b, hi2c, hx2⟩
          case round =>
            clear hi2a hi2b hi2c hx2
            obtain ⟨j, hj, rfl, rfl, hq, ha, hb, hX⟩ := hrel
            by_cases hlt : j < ch.length
            · obtain ⟨m, hm⟩ : ∃ m, m = ch.length - 1 - j := ⟨_, rfl⟩
              have hm2 : m < ch.length := by omega
              have gw1 : IntKind.i64.wrap ((ch.length : Int) - 1) = (ch.length : Int) - 1 := by rw [IntKind.wrap_i64]; omega
              have gw2 : IntKind.i64.wrap ((ch.length : Int) - 1 - (j : Int)) = (m : Int) := by rw [IntKind.wrap_i64]; omega
              have E : drK xs ch (j + 1) = apL (drK xs ch j) (ch[m]'hm2) := by
                have q := drK_succ xs ch hlt
                simp only [← hm] at q
                exact q
              have okj := ok.dr ch j
              have hlj := okj.len
              have hlj2 := (drK_len xs ch j).1
              obtain ⟨b, off, rfl, r⟩ := (HCH.out.ext hX).at_ hm2
              obtain ⟨A4, c4, hb, hr⟩ := hb
              have HE := hide E
              have HQ2 := hide hq
              have HA2 := hide ha
              have HB2 := hide hb
              have HR2 := hide hr
              have HX3 := hide hX
              clear hm E hq ha hX
              generalize ch[m] = z at *
              generalize drK xs ch j = ys at *
              have r0 := r wr.drew (Ext.drew wr)
              have q0 := (hb.ext (Ext.drew wr)).cell 0
              have hk := Ext.drew wr
              have lb := hb.lt
              have HRC := hide r
              clear hb hr r
              go_wp2_with fail
              go_region_held3 (fun w' => w'.cell? ⟨Bb, 0, none⟩ = some (.slice A4 ys.length c4) ∧ w'.cell? ⟨b, off + m, none⟩ = some (.int .i64 z)) (exact ⟨(HB2.out.ext (by repeat (first | exact Ext.refl _ | assumption | exact Ext.alloc _ _ | exact Ext.drew _ | refine Ext.trans ?_ (Ext.alloc _ _) | refine Ext.trans ?_ (Ext.drew _) | with_reducible refine Ext.set ?_ (by simp) _))).cell 0, HRC.out _ (by repeat (first | exact Ext.refl _ | assumption | exact Ext.alloc _ _ | exact Ext.drew _ | refine Ext.trans ?_ (Ext.alloc _ _) | refine Ext.trans ?_ (Ext.drew _) | with_reducible refine Ext.set ?_ (by simp) _))⟩)
                ((go_at_call 10; refine (append_any z (HR2.out.ext (by repeat (first | exact Ext.refl _ | assumption | exact Ext.alloc _ _ | exact Ext.drew _ | refine Ext.trans ?_ (Ext.alloc _ _) | refine Ext.trans ?_ (Ext.drew _) | with_reducible refine Ext.set ?_ (by simp) _))) okj).mono ?_; rintro e w6 ⟨A5, c5, rfl, hr5, hx, _⟩; have q3 := hx.size; simp at q3; (try have n0 : ¬ wr.heap.size = w6.heap.size := by omega); obtain ⟨p1, p2, _⟩ := hx.facts; have hk := (show Ext wr _ from (by repeat (first | exact Ext.refl _ | assumption | exact Ext.alloc _ _ | exact Ext.drew _ | refine Ext.trans ?_ (Ext.alloc _ _) | refine Ext.trans ?_ (Ext.drew _) | with_reducible refine Ext.set ?_ (by simp) _))).trans hx))
              · have hx1 := hk.trans (Ext.alloc w6 (Obj.cells #[.slice A5 (apL ys z).length c5] 27))
                have hr6 := hr5.ext (Ext.alloc w6 (Obj.cells #[.slice A5 (apL ys z).length c5] 27))
                have hc := (Blk.new w6 #[Value.slice A5 (apL ys z).length c5] 27).cell
                clear r0 q0 p1 p2 hx hk hr5
                generalize w6.alloc (Obj.cells #[.slice A5 (apL ys z).length c5] 27) = wf at *
                generalize w6.heap.size = X at hc ⊢
                have hbb := HB2.out.ext hx1
                have q6 := hbb.cell
                have q6f := hbb.free
                have HBB := hide hbb
                have HR6 := hide hr6
                have HX1 := hide hx1
                clear hbb hr6 hx1
                cases ea : apB ys z with
                | true =>
                  go_wp2_with fail
                  go_roundw
                  case rel =>
                    have e1 : (drK xs ch (j + 1)).length = ys.length + 1 := by rw [HE.out, apL_yes ea]; simp
                    refine ⟨j + 1, by omega, by rw [e1]; congr 1; omega, by go_num, (HQ2.out.ext HX1.out).far HBB.out (by decide) HN1.out, (HA2.out.ext HX1.out).far HBB.out (by decide) HN2.out, ?_, (HX3.out.trans HX1.out).set (p := ⟨Bb, 0, none⟩) hlb _⟩
                    rw [HE.out]
                    exact Bx.store HBB.out HR6.out
                  case measure => simp [intOf]; omega
                | false =>
                  go_wp2_with fail
                  go_roundw
                  case rel =>
                    have e1 : (drK xs ch (j + 1)).length = ys.length := by rw [HE.out, apL_no ea]
                    refine ⟨j + 1, by omega, by rw [e1], by go_num, (HQ2.out.ext HX1.out).far HBB.out (by decide) HN1.out, (HA2.out.ext HX1.out).far HBB.out (by decide) HN2.out, ?_, (HX3.out.trans HX1.out).set (p := ⟨Bb, 0, none⟩) hlb _⟩
                    rw [HE.out]
                    exact Bx.store HBB.out HR6.out
                  case measure => simp [intOf]; omega
              · have hb6 := ((Blk.new wr #[Value.slice none 0 0] 27).ext (Ext.drew _)).ext hx
                have hx1 := hk.set (p := ⟨wr.heap.size, 0, none⟩) (Nat.le_refl _) (.slice A5 (apL ys z).length c5)
                have hr6 := hr5.set (i := 0) (u := .slice A5 (apL ys z).length c5) hb6 (by decide)
                have hc := (hb6.set 0 (.slice A5 (apL ys z).length c5)).cell
                simp only [List.setIfInBounds_toArray, List.set_cons_zero] at hc
                clear r0 q0 p1 p2 hx hk hr5 hb6
                generalize w6.setCell ⟨wr.heap.size, 0, none⟩ (.slice A5 (apL ys z).length c5) = wf at *
                generalize wr.heap.size = X at hc ⊢
                have hbb := HB2.out.ext hx1
                have q6 := hbb.cell
                have q6f := hbb.free
                have HBB := hide hbb
                have HR6 := hide hr6
                have HX1 := hide hx1
                clear hbb hr6 hx1
                cases ea : apB ys z with
                | true =>
                  go_wp2_with fail
                  go_roundw
                  case rel =>
                    have e1 : (drK xs ch (j + 1)).length = ys.length + 1 := by rw [HE.out, apL_yes ea]; simp
                    refine ⟨j + 1, by omega, by rw [e1]; congr 1; omega, by go_num, (HQ2.out.ext HX1.out).far HBB.out (by decide) HN1.out, (HA2.out.ext HX1.out).far HBB.out (by decide) HN2.out, ?_, (HX3.out.trans HX1.out).set (p := ⟨Bb, 0, none⟩) hlb _⟩
                    rw [HE.out]
                    exact Bx.store HBB.out HR6.out
                  case measure => simp [intOf]; omega
                | false =>
                  go_wp2_with fail
                  go_roundw
                  case rel =>
                    have e1 : (drK xs ch (j + 1)).length = ys.length := by rw [HE.out, apL_no ea]
                    refine ⟨j + 1, by omega, by rw [e1], by go_num, (HQ2.out.ext HX1.out).far HBB.out (by decide) HN1.out, (HA2.out.ext HX1.out).far HBB.out (by decide) HN2.out, ?_, (HX3.out.trans HX1.out).set (p := ⟨Bb, 0, none⟩) hlb _⟩
                    rw [HE.out]
                    exact Bx.store HBB.out HR6.out
                  case measure => simp [intOf]; omega
            · obtain rfl : j = ch.length := by omega
              rw [show drK xs ch ch.length = la from ELA.out.symm] at hb ⊢
              have hmm := @run_makeMap Try.prog
              have em : (la.length : Int) - (xs.length : Int) = (dn : Int) := by have := ELN.out; omega
              rw [em]
              obtain ⟨Aa, ca, hba, hra⟩ := ha
              have q1 := hba.cell
              have hcall := remove_any t hra oka
              have hlr := (List.length_filter_le (fun x => x != t) la)
              rw [show la.filter (fun x => x != t) = rmL la t from rfl] at hlr
              have EM := hide em
              have HBA := hide hba
              have HRA := hide hra
              have HBB := hide hb
              have HBQ := hide hq
              have HX4 := hide hX
              clear hb hq hX em
              go_wp2_with fail
              refine hcall.mono ?_
              rintro e w3 ⟨A5, c5, rfl, hr5, hx⟩
              obtain ⟨Bc, hBc⟩ : ∃ Bc, Bc = w3.heap.size := ⟨_, rfl⟩
              have hX5 := (hx.trans (Ext.alloc w3 (Obj.cells #[.slice A5 (rmL la t).length c5] 27))).trans (Ext.alloc _ (.map #[] 0))
              have HC5 := hide ((Bx.new hr5).ext (Ext.alloc _ (.map #[] 0)))
              have hm5 := BM.made (w3.alloc (Obj.cells #[.slice A5 (rmL la t).length c5] 27))
              rw [World.size_alloc] at hm5
              rw [← hBc] at HC5 hm5
              have HM9 := hide (show W.heap.size ≤ Bc + 1 by have := (HX4.out.trans hx).size; omega)
              have HM5 := hide hm5
              have HX5 := hide hX5
              have q1 := (HBA.out.ext hX5).cell
              clear hcall hr5 hx hX5 hm5 hba hra
              go_wp2_with fail
              rw [← hBc]
              generalize (w3.alloc (Obj.cells #[.slice A5 (rmL la t).length c5] 27)).alloc (.map #[] 0) = w5 at *
              refine (all_any (HRA.out.ext HX5.out) (by omega)).mono ?_
              rintro e w6 ⟨A6, c6, rfl, hr6, hx⟩
              have hm6 := HM5.out.ext hx
              have hn6 := hm6.noC
              have HX6 := hide (HX5.out.trans hx)
              have HC6 := hide (HC5.out.ext hx)
              have HR6 := hide hr6
              have HN6 := hide hn6
              clear hx hBc q1 HC5 HM5 hr6 hn6
              go_wp2_with fail
              have hc6 := Chg.refl [Bc + 1] w6
              have hm6 := hm6.eq (show _ = hasQ (la.take 0) by funext z; simp [hasQ])
              go_loopw [85] (fun i wr => ∃ j : Nat, j ≤ la.length ∧ i = .int .i64 (j : Int) ∧ BM wr (Bc + 1) j (hasQ (la.take j)) ∧ Chg [Bc + 1] w6 wr) (fun i _ => la.length - (intOf i).toNat)
              case atStart => exact ⟨0, by omega, rfl, hm6, hc6⟩
              case round =>
                clear hm6 hc6
                obtain ⟨j, hj, rfl, hm, hc⟩ := hrel
                by_cases hlt : j < la.length
                · obtain ⟨b, off, rfl, r⟩ := (HR6.out.chgN hc HN6.out).ch.at_ hlt
                  have r0 := r wr (Ext.refl _)
                  have hb := oka.rng _ (List.getElem_mem hlt)
                  have hz := ky_wf (z := la[j]) (by omega) (by omega)
                  have lk := hm.look hz
                  rw [hasQ_no oka.nd hlt] at lk
                  obtain ⟨w7, hset, hm7, hg7⟩ := hm.set (a0 := la[j]) (by unfold maxLen; omega) hz true
                  rw [hasQ_snoc hlt] at hm7
                  have HM7 := hide hm7
                  have HC7 := hide (hc.trans (Chg.of_grown hg7 (by simp)))
                  clear r hb hm hc hm7 hg7 hz
                  go_wp2_with fail
                  go_roundw
                  case rel => exact ⟨j + 1, by omega, by go_num, HM7.out, HC7.out⟩
                  case measure => simp [intOf]; omega
                · obtain rfl : j = la.length := by omega
                  have HCC := hide (HC6.out.chgN hc HN6.out)
                  have HBA2 := hide ((Bx.ext ⟨Aa, ca, HBA.out, HRA.out⟩ HX6.out).chgN hc HN6.out)
                  have HBB2 := hide ((HBB.out.ext HX6.out).chgN hc HN6.out)
                  have HBQ2 := hide ((HBQ.out.ext HX6.out).chgN hc HN6.out)
                  have HXX := hide ((HX4.out.trans HX6.out).turn hc (by have := HM9.out; simp; omega))
                  clear hc hm
                  obtain ⟨A7, c7, h7, r7⟩ := HBA2.out
                  obtain ⟨A8, c8, h8, r8⟩ := HBB2.out
                  obtain ⟨A9, c9, h9, r9⟩ := HBQ2.out
                  obtain ⟨A10, c10, h10, r10⟩ := HCC.out
                  have HS := hide (show ∀ w', Ext wr w' → (w'.cell? ⟨Ba, 0, none⟩ = some (.slice A7 la.length c7) ∧ w'.cell? ⟨Bb, 0, none⟩ = some (.slice A8 la.length c8)) ∧ (w'.cell? ⟨Q, 0, none⟩ = some (.slice A9 xs.length c9) ∧ w'.cell? ⟨Bc, 0, none⟩ = some (.slice A10 (rmL la t).length c10)) from
                    fun w' x => ⟨⟨h7.rule w' x 0, h8.rule w' x 0⟩, ⟨h9.rule w' x 0, h10.rule w' x 0⟩⟩)
                  have A1H := hide (fun w' (x : Ext wr w') => all_any (r7.ext x) (by omega))
                  have A2H := hide (fun w' (x : Ext wr w') => all_any (r8.ext x) (by omega))
                  have H1H := hide (fun w' (x : Ext wr w') => has_any (c := c7) t (r7.ext x).ch (by omega))
                  have H2H := hide (fun w' (x : Ext wr w') => has_any (c := c10) t (r10.ext x).ch (by omega))
                  rw [hasQ_rm] at H2H
                  have EL := hide (rmL_len (t := t) oka.nd)
                  have gw := (by have := ELN.out; rw [IntKind.wrap_i64]; omega : IntKind.i64.wrap ((xs.length : Int) + (dn : Int)) = (la.length : Int))
                  have s0 := HS.out wr (Ext.refl _)
                  obtain ⟨⟨s1, s2⟩, s3, s4⟩ := s0
                  clear h7 h8 h9 h10 r7 r8 r9 r10
                  cases eh : hasQ la t with
                  | true =>
                    have gw2 : IntKind.i64.wrap ((la.length : Int) - 1) = ((rmL la t).length : Int) := by
                      have e1 := EL.out
                      have hm : t ∈ la := of_decide_eq_true eh
                      rw [if_pos hm] at e1
                      have := ix_lt hm
                      rw [IntKind.wrap_i64]; omega
                    rw [eh] at H1H
                    go_wp2_with fail
                    have hk := Ext.drew wr
                    go_region_held3 (fun w' => (w'.cell? ⟨Ba, 0, none⟩ = some (.slice A7 la.length c7) ∧ w'.cell? ⟨Bb, 0, none⟩ = some (.slice A8 la.length c8)) ∧ (w'.cell? ⟨Q, 0, none⟩ = some (.slice A9 xs.length c9) ∧ w'.cell? ⟨Bc, 0, none⟩ = some (.slice A10 (rmL la t).length c10))) (exact HS.out _ (by first | exact hk | exact hk.trans (Ext.drew _) | exact Ext.drew _))
                      (first
                        | (go_at_call 18; with_reducible refine (A1H.out _ (by repeat (first | exact Ext.refl _ | assumption | exact Ext.alloc _ _ | exact Ext.drew _ | refine Ext.trans ?_ (Ext.alloc _ _) | refine Ext.trans ?_ (Ext.drew _) | with_reducible refine Ext.set ?_ (by simp) _))).mono ?_; rintro e w6 ⟨A11, c11, rfl, hr11, hx⟩; have hk := (show Ext wr _ from (by repeat (first | exact Ext.refl _ | assumption | exact Ext.alloc _ _ | exact Ext.drew _ | refine Ext.trans ?_ (Ext.alloc _ _) | refine Ext.trans ?_ (Ext.drew _) | with_reducible refine Ext.set ?_ (by simp) _))).trans hx)
                        | (go_at_call 18; with_reducible refine (A2H.out _ (by repeat (first | exact Ext.refl _ | assumption | exact Ext.alloc _ _ | exact Ext.drew _ | refine Ext.trans ?_ (Ext.alloc _ _) | refine Ext.trans ?_ (Ext.drew _) | with_reducible refine Ext.set ?_ (by simp) _))).mono ?_; rintro e w6 ⟨A12, c12, rfl, hr12, hx⟩; have hr11 := hr11.ext hx; have hk := (show Ext wr _ from (by repeat (first | exact Ext.refl _ | assumption | exact Ext.alloc _ _ | exact Ext.drew _ | refine Ext.trans ?_ (Ext.alloc _ _) | refine Ext.trans ?_ (Ext.drew _) | with_reducible refine Ext.set ?_ (by simp) _))).trans hx)
                        | (go_at_call 17; with_reducible refine (same_any hr11.ch hr12.ch (by omega)).mono ?_; rintro e w6 ⟨rfl, hx⟩; have hk := (show Ext wr _ from (by repeat (first | exact Ext.refl _ | assumption | exact Ext.alloc _ _ | exact Ext.drew _ | refine Ext.trans ?_ (Ext.alloc _ _) | refine Ext.trans ?_ (Ext.drew _) | with_reducible refine Ext.set ?_ (by simp) _))).trans hx)
                        | (go_at_call 19; with_reducible refine (len_ext _ _ _ _).mono ?_; rintro e w6 ⟨rfl, hx⟩; have hk := (show Ext wr _ from (by repeat (first | exact Ext.refl _ | assumption | exact Ext.alloc _ _ | exact Ext.drew _ | refine Ext.trans ?_ (Ext.alloc _ _) | refine Ext.trans ?_ (Ext.drew _) | with_reducible refine Ext.set ?_ (by simp) _))).trans hx)
                        | (go_at_call 20; with_reducible refine (H1H.out _ (by repeat (first | exact Ext.refl _ | assumption | exact Ext.alloc _ _ | exact Ext.drew _ | refine Ext.trans ?_ (Ext.alloc _ _) | refine Ext.trans ?_ (Ext.drew _) | with_reducible refine Ext.set ?_ (by simp) _))).mono ?_; rintro e w6 ⟨rfl, hx⟩; have hk := (show Ext wr _ from (by repeat (first | exact Ext.refl _ | assumption | exact Ext.alloc _ _ | exact Ext.drew _ | refine Ext.trans ?_ (Ext.alloc _ _) | refine Ext.trans ?_ (Ext.drew _) | with_reducible refine Ext.set ?_ (by simp) _))).trans hx)
                        | (go_at_call 20; with_reducible refine (H2H.out _ (by repeat (first | exact Ext.refl _ | assumption | exact Ext.alloc _ _ | exact Ext.drew _ | refine Ext.trans ?_ (Ext.alloc _ _) | refine Ext.trans ?_ (Ext.drew _) | with_reducible refine Ext.set ?_ (by simp) _))).mono ?_; rintro e w6 ⟨rfl, hx⟩; have hk := (show Ext wr _ from (by repeat (first | exact Ext.refl _ | assumption | exact Ext.alloc _ _ | exact Ext.drew _ | refine Ext.trans ?_ (Ext.alloc _ _) | refine Ext.trans ?_ (Ext.drew _) | with_reducible refine Ext.set ?_ (by simp) _))).trans hx)
                        | (go_at_call 8; with_reducible refine (alive_any _).mono ?_; rintro e w6 ⟨rfl, hx⟩; have hk := (show Ext wr _ from (by repeat (first | exact Ext.refl _ | assumption | exact Ext.alloc _ _ | exact Ext.drew _ | refine Ext.trans ?_ (Ext.alloc _ _) | refine Ext.trans ?_ (Ext.drew _) | with_reducible refine Ext.set ?_ (by simp) _))).trans hx))
                    go_wp2_with fail
                    go_ret
                    exact ⟨by simp, HXX.out.trans hk⟩
                  | false =>
                    have gw2 : IntKind.i64.wrap (la.length : Int) = ((rmL la t).length : Int) := by
                      have e1 := EL.out
                      have hm : t ∉ la := of_decide_eq_false eh
                      rw [if_neg hm] at e1
                      rw [IntKind.wrap_i64]; omega
                    rw [eh] at H1H
                    go_wp2_with fail
                    have hk := Ext.drew wr
                    go_region_held3 (fun w' => (w'.cell? ⟨Ba, 0, none⟩ = some (.slice A7 la.length c7) ∧ w'.cell? ⟨Bb, 0, none⟩ = some (.slice A8 la.length c8)) ∧ (w'.cell? ⟨Q, 0, none⟩ = some (.slice A9 xs.length c9) ∧ w'.cell? ⟨Bc, 0, none⟩ = some (.slice A10 (rmL la t).length c10))) (exact HS.out _ (by first | exact hk | exact hk.trans (Ext.drew _) | exact Ext.drew _))
                      (first
                        | (go_at_call 18; with_reducible refine (A1H.out _ (by repeat (first | exact Ext.refl _ | assumption | exact Ext.alloc _ _ | exact Ext.drew _ | refine Ext.trans ?_ (Ext.alloc _ _) | refine Ext.trans ?_ (Ext.drew _) | with_reducible refine Ext.set ?_ (by simp) _))).mono ?_; rintro e w6 ⟨A11, c11, rfl, hr11, hx⟩; have hk := (show Ext wr _ from (by repeat (first | exact Ext.refl _ | assumption | exact Ext.alloc _ _ | exact Ext.drew _ | refine Ext.trans ?_ (Ext.alloc _ _) | refine Ext.trans ?_ (Ext.drew _) | with_reducible refine Ext.set ?_ (by simp) _))).trans hx)
                        | (go_at_call 18; with_reducible refine (A2H.out _ (by repeat (first | exact Ext.refl _ | assumption | exact Ext.alloc _ _ | exact Ext.drew _ | refine Ext.trans ?_ (Ext.alloc _ _) | refine Ext.trans ?_ (Ext.drew _) | with_reducible refine Ext.set ?_ (by simp) _))).mono ?_; rintro e w6 ⟨A12, c12, rfl, hr12, hx⟩; have hr11 := hr11.ext hx; have hk := (show Ext wr _ from (by repeat (first | exact Ext.refl _ | assumption | exact Ext.alloc _ _ | exact Ext.drew _ | refine Ext.trans ?_ (Ext.alloc _ _) | refine Ext.trans ?_ (Ext.drew _) | with_reducible refine Ext.set ?_ (by simp) _))).trans hx)
                        | (go_at_call 17; with_reducible refine (same_any hr11.ch hr12.ch (by omega)).mono ?_; rintro e w6 ⟨rfl, hx⟩; have hk := (show Ext wr _ from (by repeat (first | exact Ext.refl _ | assumption | exact Ext.alloc _ _ | exact Ext.drew _ | refine Ext.trans ?_ (Ext.alloc _ _) | refine Ext.trans ?_ (Ext.drew _) | with_reducible refine Ext.set ?_ (by simp) _))).trans hx)
                        | (go_at_call 19; with_reducible refine (len_ext _ _ _ _).mono ?_; rintro e w6 ⟨rfl, hx⟩; have hk := (show Ext wr _ from (by repeat (first | exact Ext.refl _ | assumption | exact Ext.alloc _ _ | exact Ext.drew _ | refine Ext.trans ?_ (Ext.alloc _ _) | refine Ext.trans ?_ (Ext.drew _) | with_reducible refine Ext.set ?_ (by simp) _))).trans hx)
                        | (go_at_call 20; with_reducible refine (H1H.out _ (by repeat (first | exact Ext.refl _ | assumption | exact Ext.alloc _ _ | exact Ext.drew _ | refine Ext.trans ?_ (Ext.alloc _ _) | refine Ext.trans ?_ (Ext.drew _) | with_reducible refine Ext.set ?_ (by simp) _))).mono ?_; rintro e w6 ⟨rfl, hx⟩; have hk := (show Ext wr _ from (by repeat (first | exact Ext.refl _ | assumption | exact Ext.alloc _ _ | exact Ext.drew _ | refine Ext.trans ?_ (Ext.alloc _ _) | refine Ext.trans ?_ (Ext.drew _) | with_reducible refine Ext.set ?_ (by simp) _))).trans hx)
                        | (go_at_call 20; with_reducible refine (H2H.out _ (by repeat (first | exact Ext.refl _ | assumption | exact Ext.alloc _ _ | exact Ext.drew _ | refine Ext.trans ?_ (Ext.alloc _ _) | refine Ext.trans ?_ (Ext.drew _) | with_reducible refine Ext.set ?_ (by simp) _))).mono ?_; rintro e w6 ⟨rfl, hx⟩; have hk := (show Ext wr _ from (by repeat (first | exact Ext.refl _ | assumption | exact Ext.alloc _ _ | exact Ext.drew _ | refine Ext.trans ?_ (Ext.alloc _ _) | refine Ext.trans ?_ (Ext.drew _) | with_reducible refine Ext.set ?_ (by simp) _))).trans hx)
                        | (go_at_call 8; with_reducible refine (alive_any _).mono ?_; rintro e w6 ⟨rfl, hx⟩; have hk := (show Ext wr _ from (by repeat (first | exact Ext.refl _ | assumption | exact Ext.alloc _ _ | exact Ext.drew _ | refine Ext.trans ?_ (Ext.alloc _ _) | refine Ext.trans ?_ (Ext.drew _) | with_reducible refine Ext.set ?_ (by simp) _))).trans hx))
                    go_wp2_with fail
                    go_ret
                    exact ⟨by simp, HXX.out.trans hk⟩

set_option maxRecDepth 100000 in
theorem queueDrains_walk {H : Type} {enc : TypeId × Value → H} (W : World) (base : Nat) (args : Array Value) (ds : List (DataW H)) (p : List MemPlace)
    (hval0 : ∀ (j : Nat) t v, Try.f6.params[j]? = some t → args[j]? = some v → Value.okWide Try.prog W .any base t v)
    (hA0 : DataW.TrodAll enc Try.prog W 0 (fun _ => true) true Try.f6.params.toList args.toList ds p) (_hlt : ∀ x ∈ p, x.block < W.heap.size) :
    Calls Try.prog 6 args W fun e W' => e = .returned (.bool true) ∧ Ext W W' := by
  have hval := hval0
  have hA := hA0
  rw [Try.params6] at hA hval
  clear hval0 hA0
  obtain ⟨v0, v1, v2, d0, d1, d2, p0, p1, p2, hargs, rfl, rfl, h0, h1, h2⟩ := trodAll_three hA
  subst hargs
  obtain ⟨A, c, f, rfl, _, _, hf, _⟩ := open_ints (hval 0 25 v0 rfl rfl) h0
  obtain ⟨C, c2, ch, rfl, _, _, hc, hwf⟩ := open_ints (hval 1 25 v1 rfl rfl) h1
  obtain ⟨t, rfl, _⟩ := open_int (hval 2 3 v2 rfl rfl) h2
  exact drains_any hf hc hwf
set_option maxRecDepth 100000 in
theorem queueDrains_lifted (os : Os) (started : os.Started) (H : Type) (enc : TypeId × Value → H) :
    ReturnsInHanded {} Try.checked os 6 .any (Rows.queueDrainsSpec.pre6 enc Try.prog Try.f6 Rows.queueDrainsRow.domain false) (Rows.queueDrainsSpec.post enc Try.prog Try.f6 false true false false) :=
  law_lifted (fn := Try.f6) 4 os started (by kernel_rfl) Try.func6 rfl rfl Try.underlying4 (hread_of (by kernel_rfl))
    (fun l hl => by
      have hl2 : l.length = 3 := hl
      clear hl
      match l, hl2 with
      | [_, _, _], _ => rfl)
    (ChangeSpec.witness6 (enc := enc) (C := Try.checked) false ⟨#[], #[.slice none 0 0, .slice none 0 0, .int .i64 0], []⟩ 8 (by kernel_rfl) (by kernel_rfl) (by kernel_rfl) (by kernel_rfl))
    (fun W base args ds p hval hA hlt => queueDrains_walk W base args ds p hval hA hlt)
theorem queueDrains_holds : Rows.QueueDrainsSaid :=
  OpenClaim.holds_of_wide 6 Try.f6 rfl rfl rfl rfl rfl rfl rfl ⟨rfl, rfl, rfl, rfl, rfl⟩ rfl rfl rfl rfl rfl (by kernel_rfl) Try.func6 (by kernel_rfl)
    (of_decide_eq_true (by kernel_rfl)) (by unfold Func.isWrapper; rw [if_neg (of_decide_eq_false (by kernel_rfl))]; exact ⟨rfl, rfl⟩)
    (fun os started H enc _ => queueDrains_lifted os started H enc)
end Go.Proofs.Ytnmegokppbdhdaa
