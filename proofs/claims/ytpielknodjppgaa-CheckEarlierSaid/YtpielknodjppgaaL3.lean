/-
  A law of layer 23 holds of every input: CheckEarlier. No condition.
-/
import Derived.Test.YtpielknodjppgaaVA
import Derived.Test.YtpielknodjppgaaM2
namespace Go.Proofs.Ytpielknodjppgaa
open Go.ChangeShapes Go.WideShapes Go.ChangeAt Go.RowKit Go.Deep Go.Joins
set_option linter.unusedVariables false
set_option linter.unusedSimpArgs false
set_option maxRecDepth 100000
set_option maxHeartbeats 8000000


/-- The calls in the order that was told. -/
def ogr (g : Nat → Cl) (out : List Nat) : Nat → Cl := fun i => g (out.getD i 0)
/-- Who was met among the first j. -/
def uS (out : List Nat) (j : Nat) (z : Int) : Bool := (out.take j).any fun x => (x : Int) == z
theorem uS_iff {out : List Nat} {j x : Nat} : uS out j (x : Int) = true ↔ x ∈ out.take j := by
  unfold uS
  simp only [List.any_eq_true, beq_iff_eq]
  constructor
  · rintro ⟨y, hy, e⟩
    have : y = x := by omega
    exact this ▸ hy
  · exact fun h => ⟨x, h, rfl⟩
theorem uS_0 (out : List Nat) : uS out 0 = fun _ => false := by funext z; unfold uS; simp
theorem uS_succ {out : List Nat} {j : Nat} (h : j < out.length) : updB (uS out j) ((out.getD j 0 : Nat) : Int) true = uS out (j + 1) := by
  funext z
  have e : out.getD j 0 = out[j] := by simp [List.getD, h]
  unfold updB uS
  rw [List.take_succ_eq_append_getElem h, List.any_append, e]
  by_cases q : z = (out[j] : Int)
  · rw [if_pos q, q]; simp
  · rw [if_neg q]
    have : ((out[j] : Int) == z) = false := by simp; exact fun e => q e.symm
    simp [this]
theorem early {n : Nat} {g : Nat → Cl} {S : St} {out : List Nat} (h : seqB n g S 0 out) {j : Nat} (hj : j < out.length) :
    out.getD j 0 < n ∧ uS out j ((out.getD j 0 : Nat) : Int) = false ∧ ∀ x, x < n → uS out j (x : Int) = true ∨ ¬ (g x).u < (g (out.getD j 0)).f := by
  have e : out.getD j 0 = out[j] := by simp [List.getD, hj]
  obtain ⟨h1, h2, h3, h4⟩ := seq_at h j hj
  rw [e]
  refine ⟨h1, ?_, fun x hx => ?_⟩
  · cases q : uS out j ((out[j] : Nat) : Int)
    · rfl
    · exact absurd (uS_iff.1 q) h2
  · rcases h4 x hx with z | z | z
    · simp at z
    · exact .inl (uS_iff.2 z)
    · exact .inr z
theorem early_some {n : Nat} {g : Nat → Cl} {out : List Nat} (hM : allM g n = true) (hn : n ≤ 12) (h : seqB n g (st0 3 2 3) 0 out) (hl : out.length = n) {j : Nat} (hj : j < n) :
    SerR 3 2 3 (j + 1) (ogr g out) (j + 1) true ∧ (decide (ordE 3 2 3 (j + 1) (ogr g out) = 0) && (ordP 3 2 3 (j + 1) (ogr g out)).isSome) = true ∧ ordE 3 2 3 (j + 1) (ogr g out) = 0 := by
  have hok : okN 3 2 3 = true := by decide
  have e : ∀ i, i < n → ogr g out i = g (out.getD i 0) := fun i _ => rfl
  have hacc : ∀ i, i < j + 1 → acc (run (ogr g out) (st0 3 2 3) i) (ogr g out i) = true := fun i hi => by
    have := run_seq h i (by omega)
    have e2 : out.getD i 0 = out[i]'(by omega) := by simp [List.getD, show i < out.length by omega]
    show acc (run (fun i => g (out.getD i 0)) (st0 3 2 3) i) (g (out.getD i 0)) = true
    rw [e2]; exact this
  have hA : allM (ogr g out) (j + 1) = true := allM_iff.2 fun i hi => allM_iff.1 hM _ (early h (show i < out.length by omega)).1
  have hE : ordE 3 2 3 (j + 1) (ogr g out) = 0 := by unfold ordE; rw [hok, hA]; simp; omega
  have hP : ordP 3 2 3 (j + 1) (ogr g out) ≠ none := by
    unfold ordP
    rw [if_pos hE]
    refine in_order hacc (fun i k hik hk => ?_)
    obtain ⟨_, _, h3⟩ := early h (show i < out.length by omega)
    obtain ⟨k1, k2, _⟩ := early h (show k < out.length by omega)
    rcases h3 (out.getD k 0) k1 with z | z
    · have z := uS_iff.1 z
      have : uS out k ((out.getD k 0 : Nat) : Int) = true := uS_iff.2 ((List.take_subset_take_left out hik) z)
      rw [this] at k2; cases k2
    · exact z
  refine ⟨.inr ⟨hok, hacc, .inl ⟨rfl, rfl⟩⟩, ?_, hE⟩
  rw [hE]
  cases q : ordP 3 2 3 (j + 1) (ogr g out) with
  | none => exact absurd q hP
  | some x => rfl
theorem learly_far {A : Option Addr} {n cp : Nat} {w : World} (h : 8 < n) : Calls Try.prog 5 #[.slice A n cp] w fun e w' => e = .returned (.bool true) ∧ Ext w w' := by
  have al := fun w => alive_any w
  have i1 : (8 : Int) < n := by omega
  go_enter Try.func5, Try.ntmps5
  go_wp2_with fail
  refine (al _).mono ?_
  rintro e w1 ⟨rfl, hx⟩
  go_wp2_with fail
  go_ret
  exact ⟨by simp, hx⟩
theorem learly_any {A : Option Addr} {n cp : Nat} {g : Nat → Cl} {w : World} (hn : n ≤ 8) (h : Cs w w.heap.size A n g) (hok : ∀ k, k < n → OkC (g k)) :
    Calls Try.prog 5 #[.slice A n cp] w fun e w' => e = .returned (.bool true) ∧ Ext w w' := by
  have hth := theirs_any (c := cp) h (Nat.le_refl _) (by omega)
  have HOK := hide hok
  clear h hok
  have i1 : ¬ (8 : Int) < n := by omega
  go_enter Try.func5, Try.ntmps5
  go_wp2_with fail
  refine hth.mono ?_
  rintro e w1 ⟨A1, c1, rfl, hr1, hx1⟩
  have HC1 := hide (own_cs hr1)
  have HX1 := hide hx1
  have hor := order_any (c := c1) HOK.out (by omega) (own_cs hr1) (Nat.le_refl _) 3 2 3
  clear hth hr1 hx1
  by_cases q : ordE 3 2 3 n g = 0
  · obtain ⟨_, hM, h12⟩ := askS_ok q
    have EP : ordP 3 2 3 n g = pick n g n (st0 3 2 3) 0 := by unfold ordP; rw [if_pos q]; rfl
    rw [q, EP] at hor
    cases hp : pick n g n (st0 3 2 3) 0 with
    | none =>
      have hn0 : ((0 : Int) == (n : Int)) = false := by
        have : n ≠ 0 := by rintro rfl; simp [pick] at hp
        simp; omega
      rw [hp] at hor
      clear hp EP q
      go_wp2_with fail
      refine hor.mono ?_
      rintro e w2 ⟨v2, rfl, hr2, hx2⟩
      simp only [Option.getD_none, List.length_nil] at hr2
      obtain ⟨A2, c2, rfl⟩ := own_sl hr2
      have HX2 := hide (HX1.out.trans hx2)
      clear hor hr2 hx2
      go_wp2_with fail
      refine (alive_any _).mono ?_
      rintro e w3 ⟨rfl, hx3⟩
      go_wp2_with fail
      go_ret
      exact ⟨by simp, HX2.out.trans hx3⟩
    | some out =>
      obtain ⟨hl, hsq⟩ := pick_sound _ _ _ _ hp
      have HSQ := hide hsq
      have HL := hide hl
      have HM := hide hM
      rw [hp] at hor
      simp only [Option.getD_some] at hor
      rw [hl] at hor
      clear hp EP q hM hsq hl
      have hmm := @run_makeMap Try.prog
      go_wp2_with fail
      refine hor.mono ?_
      rintro e w2 ⟨v2, rfl, hr2, hx2⟩
      obtain ⟨A2, c2, rfl⟩ := own_sl hr2
      have HR2 := hide hr2
      have HX2 := hide (HX1.out.trans hx2)
      have HC2 := hide (HC1.out.ext hx2 (Nat.le_refl _))
      have hs12 := hx2.size
      clear hor hr2 hx2 HC1 HX1
      go_wp2_with fail
      have HB := hide (BM.made w2)
      have HXB := hide (Ext.alloc w2 (.map #[] 0))
      generalize w2.alloc (.map #[] 0) = w3 at *
      obtain ⟨mB, hmB⟩ : ∃ mB, mB = w2.heap.size := ⟨_, rfl⟩
      rw [← hmB] at HB ⊢
      have hmb : w2.heap.size ≤ mB := by omega
      clear hmm hmB
      go_loopw [6, 40] (fun sw v wr => ∃ j : Nat, j ≤ n ∧ v = .int .i64 (j : Int) ∧ BM wr mB j (uS out j) ∧ wr.ownsRow w2.heap.size 38 7 sw j (ccl (ogr g out) j) ∧ Ext w2 wr) (fun _ v _ => n - (intOf v).toNat)
      case atStart => exact ⟨0, by omega, rfl, by rw [uS_0]; exact HB.out, own_nil _ _ _ _, HXB.out⟩
      case round =>
        clear HB HXB
        obtain ⟨j, hj, rfl, hbm, hrow, hX⟩ := hrel
        by_cases hlt : j < n
        · obtain ⟨p1, p2, p3⟩ := early HSQ.out (show j < out.length by rw [HL.out]; exact hlt)
          have HP3 := hide p3
          have hus := uS_succ (out := out) (show j < out.length by rw [HL.out]; exact hlt)
          have HUS := hide hus
          obtain ⟨q, hq⟩ : ∃ q, q = out.getD j 0 := ⟨_, rfl⟩
          have HOG := hide (show ogr g out j = g q by rw [hq]; rfl)
          have hq2 : (out.map enI)[j]? = some (enI q) := by rw [List.getElem?_map, List.getElem?_eq_getElem (by rw [HL.out]; exact hlt), hq]; simp [List.getD, show j < out.length by rw [HL.out]; exact hlt]
          rw [← hq] at p1 p2 HP3 HUS
          obtain ⟨G2, k2, e2, _, h2⟩ := own_atX HR2.out hq2
          cases e2
          have r2 := h2 _ hX
          have hlook := hbm.look (a := (q : Int)) (ky_wf (by omega) (by omega))
          rw [p2] at hlook
          unfold enI at r2
          have hq0 : ¬ (q : Int) < 0 := by omega
          have hqn : ¬ (n : Int) ≤ (q : Int) := by omega
          have HBM := hide hbm
          have HROW := hide hrow
          have HX := hide hX
          clear hq2 h2 hus p3 p2 hbm hrow hX hq
          go_wp2_with fail
          clear hlook r2 hq0 hqn
          obtain ⟨W4, hW4⟩ : ∃ W, W = wr := ⟨_, rfl⟩
          subst hW4
          go_loopw [59] (fun v wr => ∃ i : Nat, i ≤ n ∧ v = .int .i64 (i : Int) ∧ Ext W4 wr) (fun v _ => n - (intOf v).toNat)
          case atStart => exact ⟨0, by omega, rfl, Ext.refl _⟩
          case round =>
            obtain ⟨i, hi, rfl, hY⟩ := hrel
            by_cases hli : i < n
            · have hYa := hY.trans (Ext.alloc wr (.cells (cc (g i)) 38))
              have hYd := hYa.trans (Ext.drew _)
              have hT := (Blk.new wr (cc (g i)) 38).ext (Ext.drew _)
              have hlk := (HBM.out.ext hYd).look (a := (i : Int)) (ky_wf (by omega) (by omega))
              have hCq := (HC2.out.ext ((HX.out.trans hYd)) hs12).rules p1
              obtain ⟨b, off, rfl, hb0, r0, r1, r2, r3, r4, r5, r6⟩ := (HC2.out.ext (HX.out.trans hY) hs12).rules hli
              obtain ⟨b2, off2, e2, _, q0, q1, q2, q3, q4, q5, q6⟩ := hCq
              cases e2
              have t6 := hT.cell 6
              have HYD := hide hYd
              have HP := hide (HP3.out i hli)
              unfold cc at HYD hlk t6 q5
              clear q0 q1 q2 q3 q4 q6 hT hYa hYd hY
              cases hu : uS out j (i : Int)
              · rw [hu] at hlk
                by_cases hiq : i = q
                · have hz : ((i : Int) != (q : Int)) = false := by simp; omega
                  clear HP hu hiq
                  go_upto_region 17 with fail
                  go_region
                  go_wp2_with fail
                  exact ⟨⟨i + 1, by omega, by go_num, HYD.out⟩, by simp [intOf]; omega⟩
                · have hlt2 : ¬ (g i).u < (g q).f := by
                    rcases HP.out with z | z
                    · rw [hu] at z; cases z
                    · omega
                  have hz : ((i : Int) != (q : Int)) = true := by simp; omega
                  generalize (g q).f = fq at *
                  clear HP hu hiq
                  go_upto_region 17 with fail
                  go_region
                  go_wp2_with fail
                  exact ⟨⟨i + 1, by omega, by go_num, HYD.out⟩, by simp [intOf]; omega⟩
              · rw [hu] at hlk
                clear HP hu
                go_upto_region 17 with fail
                go_region
                go_wp2_with fail
                exact ⟨⟨i + 1, by omega, by go_num, HYD.out⟩, by simp [intOf]; omega⟩
            · have hlw : W4.heap.size ≤ wr.heap.size := hY.size
              obtain ⟨w5, hrun, hbm5, hg5⟩ := (HBM.out.ext hY).set (by unfold maxLen; omega) (a0 := (q : Int)) (ky_wf (by omega) (by omega)) true
              rw [HUS.out] at hbm5
              have c5 := Chg.of_grownM hg5 (T := [mB]) (by simp)
              have HX5 := hide ((HX.out.trans hY).turn c5 (by simp; omega))
              have HROW5 := hide (own_chgB (own_ext HROW.out hY) c5 (fun k hk hm => by
                obtain ⟨cs, hb2⟩ := own_blk (own_ext HROW.out hY) k hk
                simp at hm
                subst hm
                exact (HBM.out.ext hY).noC _ _ hb2))
              have HBM5 := hide hbm5
              clear hbm5 hg5 c5 hY HBM HROW HX
              obtain ⟨A6, c6, rfl⟩ := own_sl HROW5.out
              obtain ⟨b, off, rfl, hb0, r0, r1, r2, r3, r4, r5, r6⟩ := (HC2.out.ext HX5.out hs12).rules p1
              have hrow5 := HROW5.out
              have hx5s := HX5.out.size
              have HCC := hide (show ccl (ogr g out) (j + 1) = ccl (ogr g out) j ++ (cc (g q)).toList by rw [ccl_succ, HOG.out])
              have HES := hide (early_some HM.out h12 HSQ.out HL.out hlt)
              have HOK6 := hide (show ∀ i, i < j + 1 → OkC (ogr g out i) from fun i hi => HOK.out _ (early HSQ.out (show i < out.length by rw [HL.out]; omega)).1)
              unfold cc at HCC
              clear HOG
              generalize (g q).k = x0 at *
              generalize (g q).t = x1 at *
              generalize (g q).o = x2 at *
              generalize (g q).a = x3 at *
              generalize (g q).r = x4 at *
              generalize (g q).f = x5 at *
              generalize (g q).u = x6 at *
              go_wp2_with (first
                | (at_builtin; refine wpList_app2 (base := w2.heap.size) rfl rfl Try.underlying28 inf_call rfl (by omega) rfl hrow5 hx5s rfl rfl rfl (by simp [Value.oneCell']) (by unfold maxLen; omega) (by omega) ?_; intro v' w6 ho6 hg6; obtain ⟨A7, c7, rfl⟩ := own_sl ho6; have HO6 := hide ho6; have HG6 := hide hg6; clear ho6 hg6; go_frame))
              have hx56 := Ext.alloc w5 (.cells #[.int .i64 x0, .int .i64 x1, .int .i64 x2, .int .i64 x3, .int .i64 x4, .int .i64 x5, .int .i64 x6] 38)
              have HX6 := hide ((HX5.out.trans hx56).grown HG6.out (fun k hk => own_row hrow5 k hk))
              have HBM6 := hide ((HBM5.out.ext hx56).chg (Chg.grow1 HG6.out (T := blkL (Value.slice A6 j c6)) (fun k hk => blkL_of hk)) (fun hm => by
                obtain ⟨cs, hb2⟩ := own_blk hrow5 mB (of_blkL hm)
                exact HBM5.out.noC _ _ hb2))
              have ho6 := HO6.out
              rw [← HCC.out] at ho6
              have HO7 := hide ho6
              have hcs6 := own_cs ho6
              have hser := serial_any (c := c7) HOK6.out (by omega) hcs6 (Nat.le_refl _) 3 2 3
              clear hrow5 hx56 HG6 HO6 HX5 HBM5 HROW5 r0 r1 r2 r3 r4 r5 r6 ho6 hcs6 HP3
              refine hser.mono ?_
              rintro e w7 ⟨m7, b7, rfl, hs7, hx7⟩
              obtain ⟨rfl, rfl⟩ := serR_one hs7 HES.out.1
              have HO8 := hide (own_ext HO7.out hx7)
              have hcan := can_any (c := c7) HOK6.out (by omega) (own_cs (own_ext HO7.out hx7)) (Nat.le_refl _) 3 2 3
              rw [HES.out.2.1, HES.out.2.2] at hcan
              have HX7 := hide (HX6.out.trans hx7)
              have HBM7 := hide (HBM6.out.ext hx7)
              clear hser hs7 hx7 HX6 HBM6 HO7 HES
              go_wp2_with fail
              refine hcan.mono ?_
              rintro e w8 ⟨rfl, hx8⟩
              have HX8 := hide (HX7.out.trans hx8)
              have HBM8 := hide (HBM7.out.ext hx8)
              have HO9 := hide (own_ext HO8.out hx8)
              clear hcan hx8 HX7 HBM7 HO8
              go_wp2_with fail
              exact ⟨⟨j + 1, by omega, by go_num, HBM8.out, HO9.out, HX8.out⟩, by simp [intOf]; omega⟩
        · obtain rfl : j = n := by omega
          clear hbm hrow
          go_wp2_with fail
          refine (alive_any _).mono ?_
          rintro e w20 ⟨rfl, hx20⟩
          go_wp2_with fail
          go_ret
          exact ⟨by simp, (HX2.out.trans hX).trans hx20⟩
  · have hne : (ordE 3 2 3 n g == 0) = false := by simpa using q
    generalize ordE 3 2 3 n g = er at *
    clear q
    go_wp2_with fail
    refine hor.mono ?_
    rintro e w2 ⟨v2, rfl, hr2, hx2⟩
    obtain ⟨A2, c2, rfl⟩ := own_sl hr2
    have HX2 := hide (HX1.out.trans hx2)
    clear hor hr2 hx2
    go_wp2_with fail
    refine (alive_any _).mono ?_
    rintro e w3 ⟨rfl, hx3⟩
    go_wp2_with fail
    go_ret
    exact ⟨by simp, HX2.out.trans hx3⟩
set_option maxRecDepth 100000 in
theorem checkEarlier_walk {H : Type} {enc : TypeId × Value → H} (W : World) (base : Nat) (args : Array Value) (ds : List (DataW H)) (p : List MemPlace)
    (hval0 : ∀ (j : Nat) t v, Try.f5.params[j]? = some t → args[j]? = some v → Value.okWide Try.prog W .any base t v)
    (hA0 : DataW.TrodAll enc Try.prog W 0 (fun _ => true) true Try.f5.params.toList args.toList ds p) (_hlt : ∀ x ∈ p, x.block < W.heap.size) :
    Calls Try.prog 5 args W fun e W' => e = .returned (.bool true) ∧ Ext W W' := by
  have hval := hval0
  have hA := hA0
  rw [Try.params5] at hA hval
  clear hval0 hA0
  obtain ⟨v0, d0, rfl, rfl, h0⟩ := trodAll_one hA
  obtain ⟨A, n, cp, g, rfl, hn, hc, hs, hok⟩ := open_calls (hval 0 23 v0 rfl rfl) h0
  by_cases q : 8 < n
  · exact learly_far q
  · exact learly_any (by omega) hs hok
set_option maxRecDepth 100000 in
theorem checkEarlier_lifted (os : Os) (started : os.Started) (H : Type) (enc : TypeId × Value → H) :
    ReturnsInHanded {} Try.checked os 5 .any (Rows.checkEarlierSpec.pre6 enc Try.prog Try.f5 Rows.checkEarlierRow.domain false) (Rows.checkEarlierSpec.post enc Try.prog Try.f5 false true false false) :=
  law_lifted (fn := Try.f5) 4 os started (by kernel_rfl) Try.func5 rfl rfl Try.underlying4 (hread_of (by kernel_rfl))
    (fun l hl => by
      have hl2 : l.length = 1 := hl
      clear hl
      match l, hl2 with
      | [_], _ => rfl)
    (ChangeSpec.witness6 (enc := enc) (C := Try.checked) false ⟨#[], #[.slice none 0 0], []⟩ 8 (by kernel_rfl) (by kernel_rfl) (by kernel_rfl) (by kernel_rfl))
    (fun W base args ds p hval hA hlt => checkEarlier_walk W base args ds p hval hA hlt)
theorem checkEarlier_holds : Rows.CheckEarlierSaid :=
  OpenClaim.holds_of_wide 5 Try.f5 rfl rfl rfl rfl rfl rfl rfl ⟨rfl, rfl, rfl, rfl, rfl⟩ rfl rfl rfl rfl rfl (by kernel_rfl) Try.func5 (by kernel_rfl)
    (of_decide_eq_true (by kernel_rfl)) (by unfold Func.isWrapper; rw [if_neg (of_decide_eq_false (by kernel_rfl))]; exact ⟨rfl, rfl⟩)
    (fun os started H enc _ => checkEarlier_lifted os started H enc)
end Go.Proofs.Ytpielknodjppgaa
