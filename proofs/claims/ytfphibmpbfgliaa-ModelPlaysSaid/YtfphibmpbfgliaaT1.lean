/- A model held against the document's. -/
import Derived.Test.YtfphibmpbfgliaaR2
import Derived.Test.YtfphibmpbfgliaaP3
namespace Go.Proofs.Ytfphibmpbfgliaa
open Go.RowKit Go.Maps
set_option linter.unusedSimpArgs false
set_option linter.unusedVariables false
set_option maxRecDepth 100000
set_option maxHeartbeats 8000000



theorem list_any {w : World} {b1 b2 : Nat} {v1 v2 : Value} {l : List Int} (h1 : w.ownsRow b1 3 1 v1 l.length (l.map enJ)) (h2 : w.ownsRow b2 3 1 v2 l.length (l.map enJ)) (hl : l.length ≤ 16) :
    Calls Try.prog 34 #[v1, v2] w fun e w' => e = .returned (.bool true) ∧ Ext w w' := by
  obtain ⟨A1, c1, rfl⟩ := own_sl h1
  obtain ⟨A2, c2, rfl⟩ := own_sl h2
  have H1 := hide h1
  have H2 := hide h2
  obtain ⟨n, hn⟩ : ∃ n, n = l.length := ⟨_, rfl⟩
  have HN := hide hn
  have n16 : n ≤ 16 := by omega
  clear hl
  rw [← hn]
  clear h1 h2 hn
  go_enter Try.func34, Try.ntmps34
  go_wp2_with fail
  go_loopw [13] (fun v wr => ∃ i : Nat, i ≤ n ∧ v = .int .i64 (i : Int) ∧ Ext w wr) (fun v _ => n - (intOf v).toNat)
  case atStart => exact ⟨0, by omega, rfl, Ext.refl _⟩
  case round =>
    obtain ⟨i, hi, rfl, hx⟩ := hrel
    by_cases hlt : i < n
    · have hy := hx.trans (Ext.drew wr)
      obtain ⟨g1, d1, e1, _, r1⟩ := own_atJ (own_ext H1.out hy) (j := i) (by have := HN.out; omega)
      obtain ⟨g2, d2, e2, _, r2⟩ := own_atJ (own_ext H2.out hy) (j := i) (by have := HN.out; omega)
      rw [← HN.out] at e1 e2
      cases e1
      cases e2
      have hlt' : (i : Int) < (n : Int) := by omega
      have HY := hide hy
      clear hy
      generalize l[i] = y at *
      go_wp2_with fail
      go_region
      go_wp2_with fail
      go_roundw
      case rel => exact ⟨i + 1, by omega, by go_num, HY.out⟩
      case measure => simp [intOf]; omega
    · obtain rfl : i = n := by omega
      go_wp2_with fail
      go_ret
      exact ⟨by simp, hx⟩
def pf {α : Type} (f : Int → Int → Option α) (o i : Nat) : List Int := ((List.range i).filter fun t : Nat => (f o t).isSome).map Int.ofNat
theorem pf_succ {α : Type} (f : Int → Int → Option α) (o i : Nat) : pf f o (i + 1) = pf f o i ++ (if (f o i).isSome = true then [(i : Int)] else []) := by
  unfold pf
  rw [List.range_succ, List.filter_append, List.map_append]
  congr 1
  cases e : (f o i).isSome <;> simp [e]
theorem pf_len {α : Type} (f : Int → Int → Option α) (o i : Nat) : (pf f o i).length ≤ i := by
  unfold pf
  rw [List.length_map]
  have := List.length_filter_le (fun t : Nat => (f o t).isSome) (List.range i)
  rwa [List.length_range] at this
theorem pf_all {α : Type} (f : Int → Int → Option α) (o : Nat) {N : Nat} (hN : N ≤ 8) (h : ∀ t : Nat, N ≤ t → (f o t).isSome = false) : pf f o N = atL f o := by
  have key : ∀ j, pf f o (N + j) = pf f o N := by
    intro j
    induction j with
    | zero => rfl
    | succ j ih => rw [← Nat.add_assoc, pf_succ, ih, h (N + j) (by omega)]; simp
  have := key (8 - N)
  rw [show N + (8 - N) = 8 by omega] at this
  exact this.symm
theorem own_of {w : World} {b : Nat} {v : Value} {l : List Int} {n : Nat} (h : w.ownsRow b 3 1 v n (l.map enJ)) (e : n = l.length) : w.ownsRow b 3 1 v l.length (l.map enJ) := e ▸ h
theorem apart_ne {u v : Value} (h : ∀ k, u.ownBlock = some k → v.ownBlock ≠ some k) : v.ownBlock = none ∨ v.ownBlock ≠ u.ownBlock := by
  cases e : v.ownBlock with
  | none => exact .inl rfl
  | some k => exact .inr fun q => h k q.symm e
theorem flg_at {S : St} (ok : Ok S) (t : Nat) : flgA true S (t : Int) = S.flg t := by
  unfold flgA
  rw [Int.toNat_natCast]
  cases q : isT S (t : Int)
  · have : S.N ≤ t := by
      rcases Nat.lt_or_ge t S.N with h | h
      · rw [isT_iff.2 ⟨by omega, by omega⟩] at q; cases q
      · exact h
    rw [ok.fl t this]; rfl
  · rfl
theorem same_any {w : World} {B W L : Nat} {S : St} (h : ModT w B W L S) : Calls Try.prog 14 #[.pointer (some ⟨B, 0, none⟩), .agg (rc S)] w fun e w' => e = .returned (.bool true) ∧ Ext w w' := by
  have H := hide h
  have ok := h.ok
  have n1 := ok.n1
  have m1 := ok.m1
  go_enter Try.func14, Try.ntmps14
  go_upto_region 1 with fail
  have hal := Ext.alloc w (.cells (rc S) 35)
  have HM0 := hide (H.out.ext hal)
  have HB := hide (Blk.new w (rc S) 35)
  have HX := hide hal
  clear hal h
  generalize w.alloc (.cells (rc S) 35) = W0 at *
  go_wp2_with fail
  go_loopw [5] (fun v wr => ∃ i : Nat, i ≤ 10 ∧ v = .int .i64 ((i : Int) - 1) ∧ Ext W0 wr) (fun v _ => 10 - ((intOf v) + 1).toNat)
  case atStart => exact ⟨0, by omega, rfl, Ext.refl _⟩
  case round =>
    obtain ⟨i, hi, rfl, hx⟩ := hrel
    obtain ⟨z, hz⟩ : ∃ z, (i : Int) - 1 = z := ⟨_, rfl⟩
    rw [hz]
    by_cases hlt : i < 10
    · have z1 : z ≤ 8 := by omega
      have z2 : -1 ≤ z := by omega
      have hz' : (i : Int) = z + 1 := by omega
      have HX0 := hide hx
      have HM := hide (HM0.out.ext hx)
      have rM : wr.cell? ⟨w.heap.size, 1, none⟩ = some (.int .i64 (S.M : Int)) := by rw [(HB.out.ext hx).cell, rc_at (by omega)]; rfl
      have rN : wr.cell? ⟨w.heap.size, 0, none⟩ = some (.int .i64 (S.N : Int)) := by rw [(HB.out.ext hx).cell, rc_at (by omega)]; rfl
      have x0 := Ext.refl wr
      clear hx hz
      cases q : isO S z
      · have EM := hide (show (decide (0 ≤ z) && decide (z < S.M)) = false from q)
        have EO := hide (show ownA true S z = -1 by unfold ownA; rw [q]; rfl)
        have EC := hide (show cntA true S z = 0 by unfold cntA; rw [q]; rfl)
        have EH := hide (show hshA true S z = 0 by unfold hshA; rw [q]; rfl)
        have EW := hide (show watL true S z = [] by unfold watL; rw [q]; rfl)
        have EL := hide (show lefL true S z = [] by unfold lefL; rw [q]; rfl)
        have HW9 := hide (own_nil wr 0 3 1)
        have HL9 := hide (own_nil wr 0 3 1)
        have LW : Hid (([] : List Int).length ≤ 16) := hide (by simp)
        have LL := LW
        have co := fun w' (x : Ext wr w') => owner_any (HM.out.ext x).any z
        have cc := fun w' (x : Ext wr w') => count_any (HM.out.ext x).any z
        have ch := fun w' (x : Ext wr w') => hash_any (HM.out.ext x).any z
        have cw := fun w' (x : Ext wr w') => waiters_any (HM.out.ext x).any z
        have cl := fun w' (x : Ext wr w') => left_any (HM.out.ext x).any z
        rw [EO.out] at co
        rw [EC.out] at cc
        rw [EH.out] at ch
        rw [EW.out] at cw
        rw [EL.out] at cl
        clear EO EC EH EW EL
        cases q0 : decide (0 ≤ z)
        · go_wp2_with fail
          refine (co _ x0).mono ?_
          rintro e w1 ⟨rfl, x1⟩
          have x1 := x0.trans x1
          go_wp2_with fail
          refine (cc _ x1).mono ?_
          rintro e w2 ⟨rfl, x2⟩
          have x2 := x1.trans x2
          go_wp2_with fail
          refine (ch _ x2).mono ?_
          rintro e w3 ⟨rfl, x3⟩
          have x3 := x2.trans x3
          go_wp2_with fail
          refine (cw _ x3).mono ?_
          rintro e w4 ⟨v4, rfl, ho4, x4⟩
          have x4 := x3.trans x4
          obtain ⟨A4, c4, rfl⟩ := own_sl ho4
          have HO4 := hide ho4
          clear ho4
          go_wp2_with fail
          refine (list_any HO4.out (own_ext HW9.out x4) LW.out).mono ?_
          rintro e w5 ⟨rfl, x5⟩
          have x5 := x4.trans x5
          go_wp2_with fail
          refine (cl _ x5).mono ?_
          rintro e w6 ⟨v6, rfl, ho6, x6⟩
          have x6 := x5.trans x6
          obtain ⟨A6, c6, rfl⟩ := own_sl ho6
          have HO6 := hide ho6
          clear ho6
          go_wp2_with fail
          refine (list_any HO6.out (own_ext HL9.out x6) LL.out).mono ?_
          rintro e w7 ⟨rfl, x7⟩
          have x7 := x6.trans x7
          go_wp2_with fail
          go_roundw
          case rel => exact ⟨i + 1, by omega, by rw [show z + 1 = ((i + 1 : Nat) : Int) - 1 by omega], HX0.out.trans x7⟩
          case measure => simp [intOf]; omega
        · have q1 : decide (z < (S.M : Int)) = false := by have := EM.out; rw [q0] at this; simpa using this
          go_wp2_with fail
          refine (co _ x0).mono ?_
          rintro e w1 ⟨rfl, x1⟩
          have x1 := x0.trans x1
          go_wp2_with fail
          refine (cc _ x1).mono ?_
          rintro e w2 ⟨rfl, x2⟩
          have x2 := x1.trans x2
          go_wp2_with fail
          refine (ch _ x2).mono ?_
          rintro e w3 ⟨rfl, x3⟩
          have x3 := x2.trans x3
          go_wp2_with fail
          refine (cw _ x3).mono ?_
          rintro e w4 ⟨v4, rfl, ho4, x4⟩
          have x4 := x3.trans x4
          obtain ⟨A4, c4, rfl⟩ := own_sl ho4
          have HO4 := hide ho4
          clear ho4
          go_wp2_with fail
          refine (list_any HO4.out (own_ext HW9.out x4) LW.out).mono ?_
          rintro e w5 ⟨rfl, x5⟩
          have x5 := x4.trans x5
          go_wp2_with fail
          refine (cl _ x5).mono ?_
          rintro e w6 ⟨v6, rfl, ho6, x6⟩
          have x6 := x5.trans x6
          obtain ⟨A6, c6, rfl⟩ := own_sl ho6
          have HO6 := hide ho6
          clear ho6
          go_wp2_with fail
          refine (list_any HO6.out (own_ext HL9.out x6) LL.out).mono ?_
          rintro e w7 ⟨rfl, x7⟩
          have x7 := x6.trans x7
          go_wp2_with fail
          go_roundw
          case rel => exact ⟨i + 1, by omega, by rw [show z + 1 = ((i + 1 : Nat) : Int) - 1 by omega], HX0.out.trans x7⟩
          case measure => simp [intOf]; omega
      · obtain ⟨o, rfl⟩ := Int.eq_ofNat_of_zero_le (isO_iff.1 q).1
        have ho : o < S.M := by have := (isO_iff.1 q).2; omega
        have ho8 : o < 8 := by omega
        have o8 : (o : Int) < 8 := by omega
        have EO := hide (show ownA true S (o : Int) = S.own o by unfold ownA; rw [q]; rfl)
        have EC := hide (show cntA true S (o : Int) = S.cnt o by unfold cntA; rw [q]; rfl)
        have EH := hide (show hshA true S (o : Int) = S.hsh o by unfold hshA; rw [q]; rfl)
        have EW := hide (show watL true S (o : Int) = atL S.wt o by unfold watL; rw [q]; rfl)
        have EL := hide (show lefL true S (o : Int) = atL S.lf o by unfold lefL; rw [q]; rfl)
        have LW : Hid ((atL S.wt o).length ≤ 16) := hide (by have := atL_len S.wt o; omega)
        have LL : Hid ((atL S.lf o).length ≤ 16) := hide (by have := atL_len S.lf o; omega)
        have q0 : decide (0 ≤ (o : Int)) = true := decide_eq_true (by omega)
        have q1 : decide ((o : Int) < (S.M : Int)) = true := decide_eq_true (by omega)
        have wr1 : IntKind.i64.wrap (S.own o + 1 - 1) = S.own o := by rw [IntKind.wrap_i64]; have := ok.own o; omega
        have hy := Ext.drew wr
        have r1 : wr.drew.cell? ⟨w.heap.size, 3 + o, none⟩ = some (.int .i64 (S.own o + 1)) := by rw [(HB.out.ext (HX0.out.trans hy)).cell]; exact rc_own ho8
        have r2 : wr.drew.cell? ⟨w.heap.size, 11 + o, none⟩ = some (.int .i64 (S.cnt o)) := by rw [(HB.out.ext (HX0.out.trans hy)).cell]; exact rc_cnt ho8
        have r3 : wr.drew.cell? ⟨w.heap.size, 19 + o, none⟩ = some (.int .i64 (S.hsh o)) := by rw [(HB.out.ext (HX0.out.trans hy)).cell]; exact rc_hsh ho8
        obtain ⟨y, hyy⟩ : ∃ y, S.own o + 1 = y := ⟨_, rfl⟩
        rw [hyy] at wr1 r1
        clear hyy
        generalize S.own o = on at *
        generalize S.cnt o = cn at *
        generalize S.hsh o = hn at *
        go_wp2_with fail
        clear rM rN
        go_region
        clear r1 r2 r3
        have rN : wr.drew.cell? ⟨w.heap.size, 0, none⟩ = some (.int .i64 (S.N : Int)) := by rw [(HB.out.ext (HX0.out.trans hy)).cell, rc_at (by omega)]; rfl
        go_wp2_with fail
        clear rN x0
        have HX0 := hide (HX0.out.trans hy)
        have HM := hide (HM.out.ext hy)
        clear hy
        generalize wr.drew = W1 at *
        have P0 : Hid (∀ t : Nat, t < 8 → ∀ w', Ext W1 w' → w'.cell? ⟨w.heap.size, 35 + o * 24 + t * 3, none⟩ = some (.int .i64 (plA S o t 0))) := hide fun t ht w' x => by rw [(HB.out.ext (HX0.out.trans x)).cell]; exact rc_pla (o := o) (t := t) (j := 0) ho8 ht (by omega)
        have P1 : Hid (∀ t : Nat, t < 8 → ∀ w', Ext W1 w' → w'.cell? ⟨w.heap.size, 35 + o * 24 + t * 3 + 1, none⟩ = some (.int .i64 (plA S o t 1))) := hide fun t ht w' x => by rw [(HB.out.ext (HX0.out.trans x)).cell]; exact rc_pla (o := o) (t := t) (j := 1) ho8 ht (by omega)
        go_loopw [9, 10, 40] (fun va vb v wq => ∃ t : Nat, t ≤ S.N ∧ v = .int .i64 (t : Int) ∧ wq.ownsRow W1.heap.size 3 1 va (pf S.wt o t).length ((pf S.wt o t).map enJ) ∧ wq.ownsRow W1.heap.size 3 1 vb (pf S.lf o t).length ((pf S.lf o t).map enJ) ∧ Hid (∀ k, va.ownBlock = some k → vb.ownBlock ≠ some k) ∧ Ext W1 wq) (fun _ _ v _ => S.N - (intOf v).toNat)
        case atStart => exact ⟨0, by omega, rfl, own_nil _ _ _ _, own_nil _ _ _ _, hide (fun k hk => by cases hk), Ext.refl _⟩
        case round =>
          obtain ⟨t, ht, rfl, hoa, hob, HAP, hxq⟩ := hrel
          obtain ⟨A1, c1, rfl⟩ := own_sl hoa
          obtain ⟨A2, c2, rfl⟩ := own_sl hob
          have HOA := hide hoa
          have HOB := hide hob
          have HXQ := hide hxq
          by_cases hlt2 : t < S.N
          · have t8 : t < 8 := by omega
            have k8 : (t : Int) < 8 := by omega
            have hlt3 : (t : Int) < (S.N : Int) := by omega
            have p0 := P0.out t t8 _ hxq
            have p1 := P1.out t t8 _ hxq
            have b0 := wt_pos ok o t
            have b1 := lf_pos ok o t
            have NB := hide (ok.ex o t)
            have SA := hide (pf_succ S.wt o t)
            have SB := hide (pf_succ S.lf o t)
            have LA := pf_len S.wt o t
            have LB := pf_len S.lf o t
            have hsw := hxq.size
            have P1t := hide (P1.out t t8)
            clear hoa hob hxq
            generalize plA S o t 0 = q0' at *
            generalize plA S o t 1 = q1' at *
            generalize pf S.wt o t = la at *
            generalize pf S.lf o t = lb at *
            cases e0 : (S.wt o t).isSome
            · cases e1 : (S.lf o t).isSome
              · rw [e0] at b0
                rw [e1] at b1
                have e0' := hide e0
                have e1' := hide e1
                clear e0 e1
                go_wp2_with fail
                go_roundw
                case rel => exact ⟨t + 1, by omega, by go_num, by rw [SA.out, e0'.out]; simpa using HOA.out, by rw [SB.out, e1'.out]; simpa using HOB.out, HAP, HXQ.out⟩
                case measure => simp [intOf]; omega
              · rw [e0] at b0
                rw [e1] at b1
                have e0' := hide e0
                have e1' := hide e1
                clear e0 e1
                go_wp2_with (first
                  | (at_builtin; refine wpList_app3 (g := wr.heap.size) rfl rfl Try.underlying50 inf_int rfl (by omega) rfl HOB.out hsw rfl rfl rfl (by simp [Value.oneCell']) (by unfold maxLen; omega) (by omega) ?_; intro v' w3 hown' hg3 hap3; go_frame)
                  | go_in)
                have HX3 := hide (Ext.grown (HXQ.out.trans (Ext.alloc _ _)) hg3 (own_row HOB.out))
                go_roundw
                case rel =>
                  refine ⟨t + 1, by omega, by go_num, ?_, ?_, ?_, HX3.out⟩
                  · rw [SA.out, e0'.out]
                    simpa using (own_ext HOA.out (Ext.alloc _ _)).kept hg3 (apart_ne fun k hk q => HAP.out k q hk)
                  · rw [SB.out, e1'.out, List.map_append]; simpa using hown'
                  · intro k hk q
                    rcases hap3 k q with h | h
                    · exact HAP.out k hk h
                    · have := own_lt HOA.out k hk
                      omega
                case measure => simp [intOf]; omega
            · have e1 : (S.lf o t).isSome = false := by rw [NB.out e0]; rfl
              rw [e0] at b0
              rw [e1] at b1
              have e0' := hide e0
              have e1' := hide e1
              clear e0 e1
              go_wp2_with (first
                | (at_builtin; refine wpList_app3 (g := wr.heap.size) rfl rfl Try.underlying50 inf_int rfl (by omega) rfl HOA.out hsw rfl rfl rfl (by simp [Value.oneCell']) (by unfold maxLen; omega) (by omega) ?_; intro v' w3 hown' hg3 hap3; have HX3 := hide (Ext.grown (HXQ.out.trans (Ext.alloc _ _)) hg3 (own_row HOA.out)); have p1' := P1t.out _ HX3.out; go_frame)
                | go_in)
              go_roundw
              case rel =>
                refine ⟨t + 1, by omega, by go_num, ?_, ?_, ?_, HX3.out⟩
                · rw [SA.out, e0'.out, List.map_append]; simpa using hown'
                · rw [SB.out, e1'.out]
                  simpa using (own_ext HOB.out (Ext.alloc _ _)).kept hg3 (apart_ne HAP.out)
                · intro k hk q
                  rcases hap3 k hk with h | h
                  · exact HAP.out k h q
                  · have := own_lt HOB.out k q
                    omega
              case measure => simp [intOf]; omega
          · obtain rfl : t = S.N := by omega
            have FA : pf S.wt o S.N = atL S.wt o := pf_all S.wt o (by omega) (fun t ht => by
              cases e : S.wt o t with
              | none => rfl
              | some c => have := ok.wt _ _ _ e; omega)
            have FB : pf S.lf o S.N = atL S.lf o := pf_all S.lf o (by omega) (fun t ht => by
              cases e : S.lf o t with
              | none => rfl
              | some c => have := ok.lf _ _ _ e; omega)
            rw [FA] at hoa ⊢
            rw [FB] at hob ⊢
            have HW9 := hide hoa
            have HL9 := hide hob
            have HX0 := hide (HX0.out.trans hxq)
            have HM := hide (HM.out.ext hxq)
            have x0 := Ext.refl wr
            clear hoa hob hxq HOA HOB P0 P1 FA FB HAP
            have co := fun w' (x : Ext wr w') => owner_any (HM.out.ext x).any (o : Int)
            have cc := fun w' (x : Ext wr w') => count_any (HM.out.ext x).any (o : Int)
            have ch := fun w' (x : Ext wr w') => hash_any (HM.out.ext x).any (o : Int)
            have cw := fun w' (x : Ext wr w') => waiters_any (HM.out.ext x).any (o : Int)
            have cl := fun w' (x : Ext wr w') => left_any (HM.out.ext x).any (o : Int)
            rw [EO.out] at co
            rw [EC.out] at cc
            rw [EH.out] at ch
            rw [EW.out] at cw
            rw [EL.out] at cl
            clear EO EC EH EW EL
            generalize atL S.wt o = la at *
            generalize atL S.lf o = lb at *
            go_wp2_with fail
            refine (co _ x0).mono ?_
            rintro e w1 ⟨rfl, x1⟩
            have x1 := x0.trans x1
            go_wp2_with fail
            refine (cc _ x1).mono ?_
            rintro e w2 ⟨rfl, x2⟩
            have x2 := x1.trans x2
            go_wp2_with fail
            refine (ch _ x2).mono ?_
            rintro e w3 ⟨rfl, x3⟩
            have x3 := x2.trans x3
            go_wp2_with fail
            refine (cw _ x3).mono ?_
            rintro e w4 ⟨v4, rfl, ho4, x4⟩
            have x4 := x3.trans x4
            obtain ⟨A4, c4, rfl⟩ := own_sl ho4
            have HO4 := hide ho4
            clear ho4
            go_wp2_with fail
            refine (list_any HO4.out (own_ext HW9.out x4) LW.out).mono ?_
            rintro e w5 ⟨rfl, x5⟩
            have x5 := x4.trans x5
            go_wp2_with fail
            refine (cl _ x5).mono ?_
            rintro e w6 ⟨v6, rfl, ho6, x6⟩
            have x6 := x5.trans x6
            obtain ⟨A6, c6, rfl⟩ := own_sl ho6
            have HO6 := hide ho6
            clear ho6
            go_wp2_with fail
            refine (list_any HO6.out (own_ext HL9.out x6) LL.out).mono ?_
            rintro e w7 ⟨rfl, x7⟩
            have x7 := x6.trans x7
            go_wp2_with fail
            go_roundw
            case rel => exact ⟨i + 1, by omega, by rw [show (o : Int) + 1 = ((i + 1 : Nat) : Int) - 1 by omega], HX0.out.trans x7⟩
            case measure => simp [intOf]; omega
    · obtain rfl : i = 10 := by omega
      have hz2 : z = 9 := by omega
      subst hz2
      clear hz
      have HX0 := hide hx
      have HM := hide (HM0.out.ext hx)
      have HB := hide (HB.out.ext hx)
      have FL := hide (flg_at ok)
      clear hx
      go_wp2_with fail
      obtain ⟨W1, hW1⟩ : ∃ W, W = wr := ⟨_, rfl⟩
      subst hW1
      go_loopw [103] (fun v wq => ∃ t : Nat, t ≤ 8 ∧ v = .int .i64 (t : Int) ∧ Ext W1 wq) (fun v _ => 8 - (intOf v).toNat)
      case atStart => exact ⟨0, by omega, rfl, Ext.refl _⟩
      case round =>
        obtain ⟨t, ht, rfl, hxq⟩ := hrel
        by_cases hlt2 : t < 8
        · have k8 : (t : Int) < 8 := by omega
          have HXQ := hide hxq
          have f1 := fun w' (x : Ext wr w') => flag_any (HM.out.ext (HXQ.out.trans x)).any (t : Int)
          rw [FL.out t] at f1
          have rf := fun w' (x : Ext wr w') => ((HB.out.ext (HXQ.out.trans x)).cell (27 + t)).trans (rc_flg hlt2)
          generalize S.flg t = ft at *
          clear hxq
          go_wp2_with fail
          have hW := Ext.refl wr
          refine wp_region_ext (by kernel_rfl) (by kernel_rfl) ?_
          repeat
            with_reducible refine wpQuiet_step (fun K hK => ?_)
            go_simp
            first
            | (refine hK _ ?_; clear hK K)
            | (apply Exists.intro
               refine ⟨fun w1 h1 => ?_, hK _ ?_⟩
               (have hW := Ext.trans2 hW (by repeat (first | exact Ext.refl _ | exact Ext.alloc _ _ | exact Ext.drewN _ _ | assumption | refine Ext.trans ?_ (Ext.alloc _ _) | refine Ext.trans ?_ (Ext.drew _) | refine Ext.trans ?_ (by assumption))) h1; (try have hV := Ext.trans2 hV (by repeat (first | exact Ext.refl _ | exact Ext.alloc _ _ | exact Ext.drewN _ _ | assumption | refine Ext.trans ?_ (Ext.alloc _ _) | refine Ext.trans ?_ (Ext.drew _) | refine Ext.trans ?_ (by assumption))) h1); (first | rfl | (go_simp; done) | (go_simp; rfl) | first | (go_at_call 22; (with_reducible refine (f1 _ (hW.trans (by repeat (first | exact Ext.refl _ | exact Ext.alloc _ _ | exact Ext.drewN _ _ | assumption | refine Ext.trans ?_ (Ext.alloc _ _) | refine Ext.trans ?_ (Ext.drew _) | refine Ext.trans ?_ (by assumption))))).mono ?_); rintro e w2 ⟨rfl, rfl⟩; exact ⟨rfl, h1⟩)))
               clear hK K)
          refine wpQuiet_nil (fun w' hw' => ?_)
          have hW := Ext.trans2 hW (by repeat (first | exact Ext.refl _ | exact Ext.alloc _ _ | exact Ext.drewN _ _ | assumption | refine Ext.trans ?_ (Ext.alloc _ _) | refine Ext.trans ?_ (Ext.drew _) | refine Ext.trans ?_ (by assumption))) hw'
          try have hV := Ext.trans2 hV (by repeat (first | exact Ext.refl _ | exact Ext.alloc _ _ | exact Ext.drewN _ _ | assumption | refine Ext.trans ?_ (Ext.alloc _ _) | refine Ext.trans ?_ (Ext.drew _) | refine Ext.trans ?_ (by assumption))) hw'
          clear hw'
          go_wp2_with fail
          go_roundw
          case rel => exact ⟨t + 1, by omega, by go_num, HXQ.out.trans hW⟩
          case measure => simp [intOf]; omega
        · obtain rfl : t = 8 := by omega
          go_wp2_with fail
          go_ret
          exact ⟨by simp, (HX.out.trans HX0.out).trans hxq⟩
end Go.Proofs.Ytfphibmpbfgliaa
