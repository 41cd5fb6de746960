/-
  A law of layer 11 holds of every input: UsesLead. No condition.
-/
import Derived.Test.YtcgbbgljchfbcaaS1
namespace Go.Proofs.Ytcgbbgljchfbcaa
open Go.ChangeShapes Go.WideShapes Go.ChangeAt Go.RowKit Go.Deep Go.Joins
set_option linter.unusedVariables false
set_option linter.unusedSimpArgs false
set_option maxRecDepth 100000

theorem asc_part {S : List Pr} (ok : OkS S) (z : Int) : lowL S z ++ higL S z = S := by
  refine asc_one (r := fun a b : Pr => a.s < b.s) (fun x y h => by omega) _ _ ?_ ok.asc (fun x => ?_)
  · refine List.pairwise_append.2 ⟨ok.asc.filter _, ok.asc.filter _, fun a ha b hb => ?_⟩
    unfold lowL at ha
    unfold higL at hb
    rw [List.mem_filter] at ha hb
    have h1 := ha.2
    have h2 := hb.2
    simp at h1 h2
    omega
  · unfold lowL higL
    rw [List.mem_append, List.mem_filter, List.mem_filter]
    constructor
    · rintro (⟨h, _⟩ | ⟨h, _⟩) <;> exact h
    · intro h
      by_cases e : x.s < z
      · exact .inl ⟨h, by simpa using e⟩
      · exact .inr ⟨h, by simp; omega⟩
theorem add_zero {S : List Pr} {p : Pr} (h : addE S p = 0) : OkP p ∧ bySlot S p.s = none ∧ byObj S p.o = none ∧ addS S p = ins S p := by
  have h0 := h
  unfold addE at h
  by_cases hp : okP p = true
  · rw [if_pos hp] at h
    by_cases hb : ((bySlot S p.s).isSome || (byObj S p.o).isSome) = true
    · rw [if_pos hb] at h; cases h
    · simp at hb
      exact ⟨(okP_iff p).1 hp, hb.1, hb.2, by unfold addS; rw [if_pos h0]⟩
  · rw [if_neg hp] at h; cases h
theorem drop_ins {S : List Pr} (ok : OkS S) {p : Pr} (h : addE S p = 0) : dropS (addS S p) p.s = S ∧ dropR (addS S p) p.s = p ∧ dropE (addS S p) p.s = 0 := by
  obtain ⟨hp, h1, h2, e⟩ := add_zero h
  rw [e]
  have hb : bySlot (ins S p) p.s = some p := by rw [bySlot_ins ok hp h1 h2]; unfold updF; rw [if_pos rfl]
  refine ⟨?_, by unfold dropR; rw [hb]; rfl, by unfold dropE; rw [hb]; rfl⟩
  rw [bySlot_none] at h1
  refine asc_one (r := fun a b : Pr => a.s < b.s) (fun x y h => by omega) _ _ (((ok.ins hp (bySlot_none.2 h1) h2).drop p.s).asc) ok.asc (fun x => ?_)
  rw [dropS_mem, ins_mem]
  constructor
  · rintro ⟨rfl | h, hn⟩
    · exact absurd rfl hn
    · exact h
  · intro h
    exact ⟨.inr h, h1 x h⟩
set_option maxHeartbeats 4000000 in
theorem llead_any (A : Option Addr) (n c : Nat) (f : Nat → Stp) (p : Pr) (hps : (ky p.s).wf = true) (hpo : (ky p.o).wf = true) (w : World) (hn : n ≤ c) (hc : c ≤ maxLen) (hs : Stps w w.heap.size A n f) (hf : ∀ k, k < n → Okst (f k)) :
    Calls Try.prog 4 #[.slice A n c, (Value.agg #[.int .i64 p.s, .int .i64 p.o, .int .i64 p.t])] w fun e w' => e = .returned (.bool true) ∧ Ext w w' := by
  have HF := hide hf
  have HP := hide (Blk.new w #[.int .i64 p.s, .int .i64 p.o, .int .i64 p.t] 30)
  have HXP := hide (Ext.alloc w (.cells #[.int .i64 p.s, .int .i64 p.o, .int .i64 p.t] 30))
  clear hf
  go_enter Try.func4, Try.ntmps4
  go_wp2_with fail
  refine (new_any _).mono ?_
  rintro e w1 ⟨C, m1, m2, rfl, hm, hC, h1, h2, hX⟩
  have HP := hide (HP.out.ext hX)
  have hX := HXP.out.trans hX
  simp only [World.size_alloc] at hC h1 h2
  have hC : w.heap.size ≤ C := by omega
  have h1 : w.heap.size + 1 ≤ m1 := by omega
  have h2 : w.heap.size + 1 ≤ m2 := by omega
  go_wp2_with fail
  refine (short_any A n c _ hn hc).mono ?_
  rintro e w2 ⟨rfl, rfl⟩
  go_wp2_with fail
  go_loopw [26] (fun i wr => ∃ (j : Nat) (S : List Pr), j ≤ min n 200 ∧ i = .int .i64 j ∧ BookT wr C m1 m2 S ∧ Ext w wr ∧ Blk wr w.heap.size #[.int .i64 p.s, .int .i64 p.o, .int .i64 p.t] 30) (fun i _ => min n 200 - (intOf i).toNat)
  case atStart => exact ⟨0, [], by omega, rfl, hm, hX, HP.out⟩
  case round =>
    clear hm hX HP
    obtain ⟨j, S, hj, rfl, hm, hX, hp⟩ := hrel
    by_cases hlt : j < min n 200
    · have hj2 : j < n := by omega
      obtain ⟨b, off, rfl, hb, r0, r1, r2, r3⟩ := (hs.chg hX (Nat.le_refl _)).rules hj2
      have hok := HF.out j hj2
      have hA := Ext.alloc wr (.cells #[.int .u8 (f j).k, .int .i64 (f j).p.s, .int .i64 (f j).p.o, .int .i64 (f j).p.t] 32)
      have HM := hide (hm.ext hA)
      have HX := hide (hX.trans hA)
      have HP := hide (hp.ext hA)
      clear hm hX hA hp
      go_wp2_with fail
      refine (add_in HM.out ⟨hok.s0, hok.o0⟩).mono ?_
      rintro e w2 ⟨rfl, hm, hc⟩
      have hX := HX.out.turn hc (low2 (by omega) (by omega))
      have hp := HP.out.chg hc (by simp; omega)
      clear hc
      go_wp2_with fail
      go_roundw
      case rel => exact ⟨j + 1, _, by omega, by go_num, hm, hX, hp⟩
      case measure => simp [intOf]; omega
    · have hl := hm.ok.len
      have HOK := hide hm.ok
      have l1 := hm.a.lt
      have l2 := hm.b.lt
      clear hj hs
      have HP := hide hp
      have HX := hide hX
      have HM := hide hm
      clear hm hX hp
      go_wp2_with fail
      refine (all_any HM.out.any).mono ?_
      rintro e w2 ⟨v, rfl, hown, hx⟩
      have HM := hide (HM.out.ext hx)
      have HX := hide (HX.out.trans hx)
      have HP := hide (HP.out.ext hx)
      have hx2s := hx.size
      clear hx
      obtain ⟨A2, c2, rfl⟩ := own_sl hown
      have HO := hide hown
      obtain ⟨_, _, e2, hs2⟩ := Sl.of_own hown
      cases e2
      have HSL := hide hs2
      clear hown hs2
      go_wp2_with fail
      go_loopw [47] (fun i wq => ∃ q : Nat, q ≤ S.length ∧ i = .int .i64 (q : Int) ∧ Ext w2 wq) (fun i _ => S.length - (intOf i).toNat)
      case atStart => exact ⟨0, by omega, rfl, Ext.refl _⟩
      case round =>
        rename World => wq
        obtain ⟨q, hq, rfl, hW⟩ := hrel
        by_cases hql : q < S.length
        · obtain ⟨b1, o1, rfl, r0, r1, r2⟩ := (HSL.out.ext hW (Nat.le_refl _)).prR hW.size hql
          have hgm : S[q] ∈ S := List.getElem_mem hql
          have hok := HOK.out.rng _ hgm
          have es1 := (byObj_some HOK.out).2 ⟨hgm, rfl⟩
          have es2 := (bySlot_some HOK.out).2 ⟨hgm, rfl⟩
          have F1 := hide (show slotA S (S[q]).o = (S[q]).s by unfold slotA; rw [es1]; rfl)
          have F2 := hide (show slotB S (S[q]).o = true by unfold slotB; rw [es1]; rfl)
          have F3 := hide (show objA S (S[q]).s = (S[q]).o by unfold objA; rw [es2]; rfl)
          have F4 := hide (show objB S (S[q]).s = true by unfold objB; rw [es2]; rfl)
          have w1 := ky_wf (z := (S[q]).o) (by have := hok.o0; omega) (by have := hok.o1; omega)
          have w2 := ky_wf (z := (S[q]).s) (by have := hok.s0; omega) (by have := hok.s1; omega)
          have E := hide (rfl : S[q] = S[q])
          clear es1 es2 hgm hok
          generalize S[q] = g at *
          have r0' := r0 _ (Ext.refl _)
          have r1' := r1 _ (Ext.refl _)
          have r2' := r2 _ (Ext.refl _)
          have hA := Ext.alloc wq (.cells #[.int .i64 g.s, .int .i64 g.o, .int .i64 g.t] 33)
          have HG := hide (Blk.new wq #[.int .i64 g.s, .int .i64 g.o, .int .i64 g.t] 33)
          have HM2 := hide (HM.out.ext (hW.trans hA))
          have HW := hide (hW.trans hA)
          have rg := HG.out.cell
          clear r0 r1 r2 hW hA
          have sl := slot_any HM2.out.any w1
          rw [F1.out, F2.out] at sl
          go_wp2_with fail
          refine sl.mono ?_
          rintro e w3 ⟨rfl, hx⟩
          have HG2 := hide (HG.out.ext hx)
          have HM3 := hide (HM2.out.ext hx)
          have HW3 := hide (HW.out.trans hx)
          have rg := HG2.out.cell
          clear hx sl r0' r1' r2'
          have ob := obj_any HM3.out.any w2
          rw [F3.out, F4.out] at ob
          go_wp2_with fail
          refine ob.mono ?_
          rintro e w4 ⟨rfl, hx⟩
          have HW4 := hide (HW3.out.trans hx)
          have rg := (HG2.out.ext hx).cell
          clear hx ob
          go_wp2_with fail
          go_roundw
          case rel => exact ⟨q + 1, by omega, by go_num, HW4.out⟩
          case measure => simp [intOf]; omega
        · obtain rfl : q = S.length := by omega
          have HM2 := hide (HM.out.ext hW)
          have HO2 := hide (own_ext HO.out hW)
          have HP2 := hide (HP.out.ext hW)
          have HX2 := hide (HX.out.trans hW)
          have lw := hW.size
          have hA := Ext.alloc wq (.cells #[.int .i64 p.s, .int .i64 p.o, .int .i64 p.t] 33)
          have HXB := hide (Blk.new wq #[.int .i64 p.s, .int .i64 p.o, .int .i64 p.t] 33)
          have rp := HP2.out.cell
          have rx := HXB.out.cell
          have HM3 := hide (HM2.out.ext hA)
          have HO3 := hide (own_ext HO2.out hA)
          have HP3 := hide (HP2.out.ext hA)
          have HX3 := hide (HX2.out.trans hA)
          have lp := HP2.out.lt
          have l3 := hx2s
          clear hW hA
          go_wp2_with fail
          refine (add_in HM3.out ⟨hps, hpo⟩).mono ?_
          clear rp rx
          by_cases ha : addE S p = 0
          · obtain ⟨D1, D2, D3⟩ := drop_ins HOK.out ha
            rw [ha]
            rintro e w3 ⟨rfl, hm, hc⟩
            have HM4 := hide hm
            have HO4 := hide (own_chg HO3.out hc (by intro t ht; simp at ht; omega))
            have HP4 := hide (HP3.out.chg hc (by simp; omega))
            have HXB4 := hide (HXB.out.chg hc (by simp; omega))
            have HX4 := hide (HX3.out.turn hc (low2 (by omega) (by omega)))
            have rp := HP4.out.cell
            have dr := drop_in HM4.out hps
            rw [D1, D2, D3] at dr
            clear hm hc ha D1 D2 D3
            go_wp2_with fail
            refine dr.mono ?_
            rintro e w4 ⟨rfl, hm, hc⟩
            have hA := Ext.alloc w4 (.cells #[.int .i64 p.s, .int .i64 p.o, .int .i64 p.t] 33)
            have HY := hide (Blk.new w4 #[.int .i64 p.s, .int .i64 p.o, .int .i64 p.t] 33)
            have HM := hide (hm.ext hA)
            have HOQ := hide (own_ext (own_chg HO4.out hc (by intro t ht; simp at ht; omega)) hA)
            have HXB5 := hide ((HXB4.out.chg hc (by simp; omega)).ext hA)
            have HX := hide ((HX4.out.turn hc (low2 (by omega) (by omega))).trans hA)
            have rx := HXB5.out.cell
            have ry := HY.out.cell
            have nq0 := run_neqP p.s p.o p.t
            clear hm hc hA rp dr
            generalize hwx : w4.alloc (.cells #[.int .i64 p.s, .int .i64 p.o, .int .i64 p.t] 33) = wx at *
            go_wp2_with fail
            refine (all_any HM.out.any).mono ?_
            rintro e w7 ⟨v7, rfl, hown7, hx7⟩
            obtain ⟨A7, c7, rfl⟩ := own_sl hown7
            obtain ⟨_, _, e7, hs7⟩ := Sl.of_own hown7
            cases e7
            have HS7 := hide hs7
            obtain ⟨_, _, eq, hsq⟩ := Sl.of_own HOQ.out
            cases eq
            have HSW := hide (Sl.ext hsq hx7 (Nat.le_refl _))
            clear hsq
            have HX7 := hide (HX.out.trans hx7)
            have sz7 := hx7.size
            clear hown7 hx7 hs7
            go_wp2_with fail
            go_loopw [118] (fun i wr => ∃ q : Nat, q ≤ S.length ∧ i = .int .i64 (q : Int) ∧ Ext w7 wr) (fun i _ => S.length - (intOf i).toNat)
            case atStart => exact ⟨0, by omega, rfl, Ext.refl _⟩
            case round =>
              obtain ⟨q, hq, rfl, hW0⟩ := hrel
              by_cases hlt : q < S.length
              · obtain ⟨b1, o1, e1, r0, r1, r2⟩ := (HS7.out.ext hW0 (Nat.le_refl _)).prR hW0.size hlt
                obtain ⟨b2, o2, e2, s0, s1, s2⟩ := (HSW.out.ext hW0 sz7).prR (Nat.le_trans sz7 hW0.size) hlt
                cases e1
                cases e2
                have E := hide (rfl : S[q] = S[q])
                generalize S[q] = g at *
                have hW := Ext.refl wr
                have nq := run_neqP
                go_wp2_with fail
                refine wp_region_ext (by kernel_rfl) (by kernel_rfl) ?_
                repeat
                  with_reducible refine wpQuiet_step (fun K hK => ?_)
                  go_simp
                  first
                  | (refine hK _ ?_; clear hK K)
                  | (apply Exists.intro
                     refine ⟨fun w1 h1 => ?_, hK _ ?_⟩
                     (have hW := Ext.trans2 hW (by repeat (first | exact Ext.refl _ | exact Ext.alloc _ _ | exact Ext.drewN _ _ | assumption | refine Ext.trans ?_ (Ext.alloc _ _) | refine Ext.trans ?_ (Ext.drew _) | refine Ext.trans ?_ (by assumption))) h1; (try have hV := Ext.trans2 hV (by repeat (first | exact Ext.refl _ | exact Ext.alloc _ _ | exact Ext.drewN _ _ | assumption | refine Ext.trans ?_ (Ext.alloc _ _) | refine Ext.trans ?_ (Ext.drew _) | refine Ext.trans ?_ (by assumption))) h1); (first | rfl | (go_simp; done) | (go_simp; rfl) | fail))
                     clear hK K)
                refine wpQuiet_nil (fun w' hw' => ?_)
                have hW := Ext.trans2 hW (by repeat (first | exact Ext.refl _ | exact Ext.alloc _ _ | exact Ext.drewN _ _ | assumption | refine Ext.trans ?_ (Ext.alloc _ _) | refine Ext.trans ?_ (Ext.drew _) | refine Ext.trans ?_ (by assumption))) hw'
                try have hV := Ext.trans2 hV (by repeat (first | exact Ext.refl _ | exact Ext.alloc _ _ | exact Ext.drewN _ _ | assumption | refine Ext.trans ?_ (Ext.alloc _ _) | refine Ext.trans ?_ (Ext.drew _) | refine Ext.trans ?_ (by assumption))) hw'
                clear hw'
                go_wp2_with fail
                go_roundw
                case rel => exact ⟨q + 1, by omega, by go_num, hW0.trans hW⟩
                case measure => simp [intOf]; omega
              · obtain rfl : q = S.length := by omega
                go_wp2_with fail
                refine (alive_any _).mono ?_
                rintro e w9 ⟨rfl, hx⟩
                go_wp2_with fail
                go_ret
                exact ⟨by simp, (HX7.out.trans hW0).trans hx⟩
          · have E2 : addS S p = S := by unfold addS; rw [if_neg ha]
            rw [E2]
            have he : (addE S p == 0) = false := by simpa using ha
            generalize addE S p = ev at *
            rintro e w3 ⟨rfl, hm, hc⟩
            have HM := hide hm
            have HOQ := hide (own_chg HO3.out hc (by intro t ht; simp at ht; omega))
            have HX := hide (HX3.out.turn hc (low2 (by omega) (by omega)))
            clear hm hc E2
            go_wp2_with fail
            refine (all_any HM.out.any).mono ?_
            rintro e w7 ⟨v7, rfl, hown7, hx7⟩
            obtain ⟨A7, c7, rfl⟩ := own_sl hown7
            obtain ⟨_, _, e7, hs7⟩ := Sl.of_own hown7
            cases e7
            have HS7 := hide hs7
            obtain ⟨_, _, eq, hsq⟩ := Sl.of_own HOQ.out
            cases eq
            have HSW := hide (Sl.ext hsq hx7 (Nat.le_refl _))
            clear hsq
            have HX7 := hide (HX.out.trans hx7)
            have sz7 := hx7.size
            clear hown7 hx7 hs7
            go_wp2_with fail
            go_loopw [118] (fun i wr => ∃ q : Nat, q ≤ S.length ∧ i = .int .i64 (q : Int) ∧ Ext w7 wr) (fun i _ => S.length - (intOf i).toNat)
            case atStart => exact ⟨0, by omega, rfl, Ext.refl _⟩
            case round =>
              obtain ⟨q, hq, rfl, hW0⟩ := hrel
              by_cases hlt : q < S.length
              · obtain ⟨b1, o1, e1, r0, r1, r2⟩ := (HS7.out.ext hW0 (Nat.le_refl _)).prR hW0.size hlt
                obtain ⟨b2, o2, e2, s0, s1, s2⟩ := (HSW.out.ext hW0 sz7).prR (Nat.le_trans sz7 hW0.size) hlt
                cases e1
                cases e2
                have E := hide (rfl : S[q] = S[q])
                generalize S[q] = g at *
                have hW := Ext.refl wr
                have nq := run_neqP
                go_wp2_with fail
                refine wp_region_ext (by kernel_rfl) (by kernel_rfl) ?_
                repeat
                  with_reducible refine wpQuiet_step (fun K hK => ?_)
                  go_simp
                  first
                  | (refine hK _ ?_; clear hK K)
                  | (apply Exists.intro
                     refine ⟨fun w1 h1 => ?_, hK _ ?_⟩
                     (have hW := Ext.trans2 hW (by repeat (first | exact Ext.refl _ | exact Ext.alloc _ _ | exact Ext.drewN _ _ | assumption | refine Ext.trans ?_ (Ext.alloc _ _) | refine Ext.trans ?_ (Ext.drew _) | refine Ext.trans ?_ (by assumption))) h1; (try have hV := Ext.trans2 hV (by repeat (first | exact Ext.refl _ | exact Ext.alloc _ _ | exact Ext.drewN _ _ | assumption | refine Ext.trans ?_ (Ext.alloc _ _) | refine Ext.trans ?_ (Ext.drew _) | refine Ext.trans ?_ (by assumption))) h1); (first | rfl | (go_simp; done) | (go_simp; rfl) | fail))
                     clear hK K)
                refine wpQuiet_nil (fun w' hw' => ?_)
                have hW := Ext.trans2 hW (by repeat (first | exact Ext.refl _ | exact Ext.alloc _ _ | exact Ext.drewN _ _ | assumption | refine Ext.trans ?_ (Ext.alloc _ _) | refine Ext.trans ?_ (Ext.drew _) | refine Ext.trans ?_ (by assumption))) hw'
                try have hV := Ext.trans2 hV (by repeat (first | exact Ext.refl _ | exact Ext.alloc _ _ | exact Ext.drewN _ _ | assumption | refine Ext.trans ?_ (Ext.alloc _ _) | refine Ext.trans ?_ (Ext.drew _) | refine Ext.trans ?_ (by assumption))) hw'
                clear hw'
                go_wp2_with fail
                go_roundw
                case rel => exact ⟨q + 1, by omega, by go_num, hW0.trans hW⟩
                case measure => simp [intOf]; omega
              · obtain rfl : q = S.length := by omega
                go_wp2_with fail
                refine (alive_any _).mono ?_
                rintro e w9 ⟨rfl, hx⟩
                go_wp2_with fail
                go_ret
                exact ⟨by simp, (HX7.out.trans hW0).trans hx⟩

set_option maxRecDepth 100000 in
theorem usesLead_walk {H : Type} {enc : TypeId × Value → H} (W : World) (base : Nat) (args : Array Value) (ds : List (DataW H)) (p : List MemPlace)
    (hval0 : ∀ (j : Nat) t v, Try.f4.params[j]? = some t → args[j]? = some v → Value.okWide Try.prog W .any base t v)
    (hA0 : DataW.TrodAll enc Try.prog W 0 (fun _ => true) true Try.f4.params.toList args.toList ds p) (_hlt : ∀ x ∈ p, x.block < W.heap.size) :
    Calls Try.prog 4 args W fun e W' => e = .returned (.bool true) ∧ Ext W W' := by
  have hval := hval0
  have hA := hA0
  rw [Try.params4] at hA hval
  clear hval0 hA0
  obtain ⟨v0, v1, d0, d1, p0, p1, hargs, rfl, rfl, h0, h1⟩ := trodAll_two hA
  obtain rfl : args = #[v0, v1] := by cases args; simp_all
  obtain ⟨A, n, c, f, rfl, hn, hc, hs, hf⟩ := open_steps (hval 0 22 v0 rfl rfl) h0
  obtain ⟨q, rfl, hs2, ho, ht⟩ := open_pair (hval 1 30 v1 rfl rfl) h1
  exact llead_any A n c f q hs2 ho W hn hc hs hf
set_option maxRecDepth 100000 in
theorem usesLead_lifted (os : Os) (started : os.Started) (H : Type) (enc : TypeId × Value → H) :
    ReturnsInHanded {} Try.checked os 4 .any (Rows.usesLeadSpec.pre6 enc Try.prog Try.f4 Rows.usesLeadRow.domain false) (Rows.usesLeadSpec.post enc Try.prog Try.f4 false true false false) :=
  law_lifted (fn := Try.f4) 4 os started (by kernel_rfl) Try.func4 rfl rfl Try.underlying4 (hread_of (by kernel_rfl))
    (fun l hl => by
      have hl2 : l.length = 2 := hl
      clear hl
      match l, hl2 with
      | [_, _], _ => rfl)
    (ChangeSpec.witness6 (enc := enc) (C := Try.checked) false ⟨#[], #[.slice none 0 0, .agg #[.int .i64 0, .int .i64 0, .int .i64 0]], []⟩ 8 (by kernel_rfl) (by kernel_rfl) (by kernel_rfl) (by kernel_rfl))
    (fun W base args ds p hval hA hlt => usesLead_walk W base args ds p hval hA hlt)
theorem usesLead_holds : Rows.UsesLeadSaid :=
  OpenClaim.holds_of_wide 4 Try.f4 rfl rfl rfl rfl rfl rfl rfl ⟨rfl, rfl, rfl, rfl, rfl⟩ rfl rfl rfl rfl rfl (by kernel_rfl) Try.func4 (by kernel_rfl)
    (of_decide_eq_true (by kernel_rfl)) (by unfold Func.isWrapper; rw [if_neg (of_decide_eq_false (by kernel_rfl))]; exact ⟨rfl, rfl⟩)
    (fun os started H enc _ => usesLead_lifted os started H enc)
end Go.Proofs.Ytcgbbgljchfbcaa
