/-
  A law of layer 1 holds of every input: FieldStays. No condition.
-/
import Derived.Test.YtcofnmkemnmhaaaM2
import Derived.Test.YtcofnmkemnmhaaaL2
import Derived.RegionTactic
import Derived.Deep.DeepCutAuto
import Derived.Test.YtcofnmkemnmhaaaPhase
namespace Go.Proofs.Ytcofnmkemnmhaaa
open Go.ChangeShapes Go.WideShapes Go.ChangeAt Go.RowKit Go.Joins
set_option linter.unusedVariables false

theorem new1 (W : World) (cs cs' : Array Value) (t t' : TypeId) : Blk ((W.alloc (.cells cs t)).alloc (.cells cs' t')).drew W.heap.size cs t := ((Blk.new W cs t).ext (Ext.alloc _ _)).ext (Ext.drew _)
theorem new2 (W : World) (cs cs' : Array Value) (t t' : TypeId) : Blk ((W.alloc (.cells cs t)).alloc (.cells cs' t')).drew (W.heap.size + 1) cs' t' := by
  have h := (Blk.new (W.alloc (.cells cs t)) cs' t').ext (Ext.drew _)
  simpa using h
theorem new3 (W : World) (o o' : Obj) : Ext W ((W.alloc o).alloc o').drew := ((Ext.alloc _ _).trans (Ext.alloc _ _)).trans (Ext.drew _)

/-- What is put is got, as the law asks. -/
theorem stays_get {a d u v : Int} (ha : 0 ≤ a) (hd : 0 ≤ d) (hm : mayB a d = true) (hu : InW u) (hv : InW v) : getI a d (putI a d u v) = bits .and .u64 v (mostI a d) := by
  obtain ⟨A, rfl⟩ := Int.eq_ofNat_of_zero_le ha
  obtain ⟨D, rfl⟩ := Int.eq_ofNat_of_zero_le hd
  obtain ⟨V, rfl, hV⟩ := hv.nat
  obtain ⟨U, rfl, hU⟩ := hu.nat
  obtain ⟨h1, h2⟩ := (mayB_iff A D).1 hm
  have := two_pow_le D (by omega)
  have hq : 0 < 2 ^ D := Nat.pow_pos (by decide)
  rw [get_put_same hm hU hV, most_nat hm, u64_and_nat _ _ hV (by unfold two64 at this; omega), Nat.and_two_pow_sub_one_eq_mod]
theorem stays_back {a d u v : Int} (ha : 0 ≤ a) (hd : 0 ≤ d) (hm : mayB a d = true) (hu : InW u) (hv : InW v) : putI a d (putI a d u v) (getI a d u) = u := by
  obtain ⟨A, rfl⟩ := Int.eq_ofNat_of_zero_le ha
  obtain ⟨D, rfl⟩ := Int.eq_ofNat_of_zero_le hd
  obtain ⟨V, rfl, hV⟩ := hv.nat
  obtain ⟨U, rfl, hU⟩ := hu.nat
  obtain ⟨p, e1, l1, b1⟩ := put_bits hm hU hV
  rw [e1]
  refine put_get_back hm hU l1 fun k hk => ?_
  rw [b1, if_neg hk]
  by_cases h : k < 64
  · simp [h]
  · rw [lt_bit hU h]; simp
theorem stays_far {a d a' d' u v : Int} (ha : 0 ≤ a ∧ a ≤ 255 ∧ 0 ≤ d ∧ d ≤ 255) (ha' : 0 ≤ a' ∧ a' ≤ 255 ∧ 0 ≤ d' ∧ d' ≤ 255) (h : apartB [(a, d), (a', d')] = true) (hu : InW u) (hv : InW v) : getI a' d' (putI a d u v) = getI a' d' u := by
  have hA := apartB_iff.1 h
  have h0 := (hA 0 (by simp)).1
  obtain ⟨h1, h2⟩ := hA 1 (by simp)
  have hz : andI (a, d) (a', d') = 0 := by
    have h3 := h2 0 (by omega)
    obtain ⟨m, e1, l1⟩ := mask_isNat (p := (a, d)) ha
    obtain ⟨m', e2, l2⟩ := mask_isNat (p := (a', d')) ha'
    simp only at e1 e2
    unfold andI at h3 ⊢
    simp only [List.getElem_cons_zero, List.getElem_cons_succ] at h3
    rw [e1, e2, u64_and_nat _ _ l2 l1] at h3
    rw [e1, e2, u64_and_nat _ _ l1 l2, Nat.and_comm]
    exact h3
  exact get_put_far (p := (a, d)) (q := (a', d')) ha ha' h0 h1 hz hu hv
theorem two_fields (W : World) (a d a' d' : Int) (t : TypeId) : Sl (W.alloc (.cells #[.int .u8 a, .int .u8 d, .int .u8 a', .int .u8 d'] t)) (W.heap.size + 1) 2 (some ⟨W.heap.size, 0, none⟩) [(a, d), (a', d')].length (fcells [(a, d), (a', d')]) :=
  ⟨rfl, fun _ => ⟨W.heap.size, 0, rfl, by omega, fun j hj => by rw [Nat.zero_add, (Blk.new W _ t).cell]; simp [fcells]⟩⟩

theorem two_fieldsD (W : World) (a d a' d' : Int) (t : TypeId) : Sl (W.alloc (.cells #[.int .u8 a, .int .u8 d, .int .u8 a', .int .u8 d'] t)).drew (W.heap.size + 1) 2 (some ⟨W.heap.size, 0, none⟩) [(a, d), (a', d')].length (fcells [(a, d), (a', d')]) :=
  (two_fields W a d a' d' t).ext (Ext.drew _) (by simp)

set_option maxHeartbeats 1000000 in
theorem lstays_any (a d a' d' u v : Int) (w : World) (ha : 0 ≤ a) (ha' : a ≤ 255) (hd : 0 ≤ d) (hd' : d ≤ 255) (hb : 0 ≤ a') (hb' : a' ≤ 255) (he : 0 ≤ d') (he' : d' ≤ 255) (hu : InW u) (hv : InW v) :
    Calls Try.prog 6 #[.agg #[.int .u8 a, .int .u8 d], .agg #[.int .u8 a', .int .u8 d'], .agg #[.int .u64 u, .int .u64 v]] w fun e w' => e = .returned (.bool true) ∧ Ext w w' := by
  go_enter Try.func6, Try.ntmps6
  go_wp2_with fail
  have hZ := ((Blk.new ((w.alloc (Obj.cells #[.int .u8 a, .int .u8 d] 23)).alloc (Obj.cells #[.int .u8 a', .int .u8 d'] 23)) #[.int .u64 u, .int .u64 v] 51))
  have hX0 : Ext w (((w.alloc (Obj.cells #[.int .u8 a, .int .u8 d] 23)).alloc (Obj.cells #[.int .u8 a', .int .u8 d'] 23)).alloc (Obj.cells #[.int .u64 u, .int .u64 v] 51)) := ((Ext.alloc _ _).trans (Ext.alloc _ _)).trans (Ext.alloc _ _)
  have hY := (Blk.new (w.alloc (Obj.cells #[.int .u8 a, .int .u8 d] 23)) #[.int .u8 a', .int .u8 d'] 23).ext (Ext.alloc _ (Obj.cells #[.int .u64 u, .int .u64 v] 51))
  have hX := (Blk.new w #[.int .u8 a, .int .u8 d] 23).ext ((Ext.alloc _ (Obj.cells #[.int .u8 a', .int .u8 d'] 23)).trans (Ext.alloc _ (Obj.cells #[.int .u64 u, .int .u64 v] 51)))
  simp only [World.size_alloc] at hX hY hZ
  generalize ((w.alloc (Obj.cells #[.int .u8 a, .int .u8 d] 23)).alloc (Obj.cells #[.int .u8 a', .int .u8 d'] 23)).alloc (Obj.cells #[.int .u64 u, .int .u64 v] 51) = W0 at *
  go_cut [7, 8] (fun s7 s8 wx => ∃ g h : Nat, s7 = .pointer (some ⟨g, 0, none⟩) ∧ s8 = .pointer (some ⟨h, 0, none⟩) ∧ Blk wx g #[.int .u8 a, .int .u8 d] 25 ∧ Blk wx h #[.int .u8 a', .int .u8 d'] 25 ∧ Ext W0 wx)
  case first =>
    have r1 := hX.cell
    have r2 := hY.cell
    have l1 := hX.lt
    have l2 := hY.lt
    have n1 := Nat.ne_of_lt hX.lt
    have n2 := Nat.ne_of_lt hY.lt
    go_region
    all_goals (go_wp2_with fail; go_meet)
    · exact ⟨_, _, rfl, rfl, new1 _ _ _ _ _, new2 _ _ _ _ _, new3 _ _ _⟩
    · exact ⟨_, _, rfl, rfl, new2 _ _ _ _ _, new1 _ _ _ _ _, new3 _ _ _⟩
  case rest =>
    obtain ⟨g, h, rfl, rfl, bX, bY, hE⟩ := hcut
    have bZ := hZ.ext hE
    have hX0 := hX0.trans hE
    clear hX hY hZ hE
    have rx := bX.rule
    have ry := bY.rule
    have rz := bZ.rule
    generalize w.heap.size + 1 + 1 = z at *
    have hW := Ext.refl wc
    cases hm : mayB a d
    · have P0 := hide (put_no (a := a) (d := d) (w := u) (v := v) (by rw [hm]; simp) hu.1 hu.2 hv.1 hv.2)
      have e1 : (putI a d u v == u) = true := by rw [P0.out]; simp
      have e2 : (getI a d (putI a d u v) == 0) = true := by rw [P0.out, get_no (by rw [hm]; simp) hu.1 hu.2]; simp
      go_wp2_with (first | (go_at_call 21; refine (put_any _ _ _ _ _ ha ha' hd hd').mono ?_; rintro e w' ⟨rfl, hb⟩; have hW := Ext.trans2 hW (by repeat (first | exact Ext.refl _ | exact Ext.alloc _ _ | exact Ext.drewN _ _ | assumption | refine Ext.trans ?_ (Ext.alloc _ _) | refine Ext.trans ?_ (Ext.drew _) | refine Ext.trans ?_ (by assumption))) hb; (try have hV := Ext.trans2 hV (by repeat (first | exact Ext.refl _ | exact Ext.alloc _ _ | exact Ext.drewN _ _ | assumption | refine Ext.trans ?_ (Ext.alloc _ _) | refine Ext.trans ?_ (Ext.drew _) | refine Ext.trans ?_ (by assumption))) hb); clear hb) | (go_at_call 8; refine (may_any _ _ _ ha ha' hd hd').mono ?_; rintro e w' ⟨rfl, hb⟩; have hW := Ext.trans2 hW (by repeat (first | exact Ext.refl _ | exact Ext.alloc _ _ | exact Ext.drewN _ _ | assumption | refine Ext.trans ?_ (Ext.alloc _ _) | refine Ext.trans ?_ (Ext.drew _) | refine Ext.trans ?_ (by assumption))) hb; (try have hV := Ext.trans2 hV (by repeat (first | exact Ext.refl _ | exact Ext.alloc _ _ | exact Ext.drewN _ _ | assumption | refine Ext.trans ?_ (Ext.alloc _ _) | refine Ext.trans ?_ (Ext.drew _) | refine Ext.trans ?_ (by assumption))) hb); clear hb) | (go_at_call 14; refine (get_any _ _ _ _ ha ha' hd hd').mono ?_; rintro e w' ⟨rfl, hb⟩; have hW := Ext.trans2 hW (by repeat (first | exact Ext.refl _ | exact Ext.alloc _ _ | exact Ext.drewN _ _ | assumption | refine Ext.trans ?_ (Ext.alloc _ _) | refine Ext.trans ?_ (Ext.drew _) | refine Ext.trans ?_ (by assumption))) hb; (try have hV := Ext.trans2 hV (by repeat (first | exact Ext.refl _ | exact Ext.alloc _ _ | exact Ext.drewN _ _ | assumption | refine Ext.trans ?_ (Ext.alloc _ _) | refine Ext.trans ?_ (Ext.drew _) | refine Ext.trans ?_ (by assumption))) hb); clear hb) | (go_at_call 20; refine (alive_any _).mono ?_; rintro e w' ⟨rfl, hb⟩; have hW := Ext.trans2 hW (by repeat (first | exact Ext.refl _ | exact Ext.alloc _ _ | exact Ext.drewN _ _ | assumption | refine Ext.trans ?_ (Ext.alloc _ _) | refine Ext.trans ?_ (Ext.drew _) | refine Ext.trans ?_ (by assumption))) hb; (try have hV := Ext.trans2 hV (by repeat (first | exact Ext.refl _ | exact Ext.alloc _ _ | exact Ext.drewN _ _ | assumption | refine Ext.trans ?_ (Ext.alloc _ _) | refine Ext.trans ?_ (Ext.drew _) | refine Ext.trans ?_ (by assumption))) hb); clear hb))
      go_ret
      exact ⟨rfl, (hX0.trans (hW.trans (by repeat (first | exact Ext.refl _ | exact Ext.alloc _ _ | exact Ext.drewN _ _ | assumption | refine Ext.trans ?_ (Ext.alloc _ _) | refine Ext.trans ?_ (Ext.drew _) | refine Ext.trans ?_ (by assumption)))))⟩
    · have e1 : (getI a d (putI a d u v) != bits .and .u64 v (mostI a d)) = false := by rw [stays_get ha hd hm hu hv]; simp
      have e2 : (putI a d (putI a d u v) (getI a d u) != u) = false := by rw [stays_back ha hd hm hu hv]; simp
      go_wp2_with (first | (go_at_call 21; refine (put_any _ _ _ _ _ ha ha' hd hd').mono ?_; rintro e w' ⟨rfl, hb⟩; have hW := Ext.trans2 hW (by repeat (first | exact Ext.refl _ | exact Ext.alloc _ _ | exact Ext.drewN _ _ | assumption | refine Ext.trans ?_ (Ext.alloc _ _) | refine Ext.trans ?_ (Ext.drew _) | refine Ext.trans ?_ (by assumption))) hb; (try have hV := Ext.trans2 hV (by repeat (first | exact Ext.refl _ | exact Ext.alloc _ _ | exact Ext.drewN _ _ | assumption | refine Ext.trans ?_ (Ext.alloc _ _) | refine Ext.trans ?_ (Ext.drew _) | refine Ext.trans ?_ (by assumption))) hb); clear hb) | (go_at_call 8; refine (may_any _ _ _ ha ha' hd hd').mono ?_; rintro e w' ⟨rfl, hb⟩; have hW := Ext.trans2 hW (by repeat (first | exact Ext.refl _ | exact Ext.alloc _ _ | exact Ext.drewN _ _ | assumption | refine Ext.trans ?_ (Ext.alloc _ _) | refine Ext.trans ?_ (Ext.drew _) | refine Ext.trans ?_ (by assumption))) hb; (try have hV := Ext.trans2 hV (by repeat (first | exact Ext.refl _ | exact Ext.alloc _ _ | exact Ext.drewN _ _ | assumption | refine Ext.trans ?_ (Ext.alloc _ _) | refine Ext.trans ?_ (Ext.drew _) | refine Ext.trans ?_ (by assumption))) hb); clear hb))
      refine wp_region_ext (by kernel_rfl) (by kernel_rfl) ?_
      repeat
        with_reducible refine wpQuiet_step (fun K hK => ?_)
        go_simp
        first
        | (refine hK _ ?_; clear hK K)
        | (apply Exists.intro
           refine ⟨fun w1 h1 => ?_, hK _ ?_⟩
           (have hW := Ext.trans2 hW (by repeat (first | exact Ext.refl _ | exact Ext.alloc _ _ | exact Ext.drewN _ _ | assumption | refine Ext.trans ?_ (Ext.alloc _ _) | refine Ext.trans ?_ (Ext.drew _) | refine Ext.trans ?_ (by assumption))) h1; (try have hV := Ext.trans2 hV (by repeat (first | exact Ext.refl _ | exact Ext.alloc _ _ | exact Ext.drewN _ _ | assumption | refine Ext.trans ?_ (Ext.alloc _ _) | refine Ext.trans ?_ (Ext.drew _) | refine Ext.trans ?_ (by assumption))) h1); (first | rfl | (go_simp; done) | (go_simp; rfl) | (first | (go_at_call 21; refine (put_any _ _ _ _ _ ha ha' hd hd').mono ?_; rintro e w2 ⟨rfl, hb⟩; exact ⟨rfl, h1.trans hb⟩) | (go_at_call 14; refine (get_any _ _ _ _ ha ha' hd hd').mono ?_; rintro e w2 ⟨rfl, hb⟩; exact ⟨rfl, h1.trans hb⟩) | (go_at_call 10; refine (most_any _ _ _ ha ha' hd hd').mono ?_; rintro e w2 ⟨rfl, hb⟩; exact ⟨rfl, h1.trans hb⟩))))
           clear hK K)
      refine wpQuiet_nil (fun w' hw' => ?_)
      have hW := Ext.trans2 hW (by repeat (first | exact Ext.refl _ | exact Ext.alloc _ _ | exact Ext.drewN _ _ | assumption | refine Ext.trans ?_ (Ext.alloc _ _) | refine Ext.trans ?_ (Ext.drew _) | refine Ext.trans ?_ (by assumption))) hw'
      try have hV := Ext.trans2 hV (by repeat (first | exact Ext.refl _ | exact Ext.alloc _ _ | exact Ext.drewN _ _ | assumption | refine Ext.trans ?_ (Ext.alloc _ _) | refine Ext.trans ?_ (Ext.drew _) | refine Ext.trans ?_ (by assumption))) hw'
      clear hw'
      go_wp2_with fail
      clear e1 e2
      have okf : Okf [(a, d), (a', d')] := by
        intro p hp
        simp only [List.mem_cons, List.not_mem_nil, or_false] at hp
        rcases hp with rfl | rfl
        · exact ⟨ha, ha', hd, hd'⟩
        · exact ⟨hb, hb', he, he'⟩
      have OKF := hide okf
      clear okf
      have e3 : apartB [(a, d), (a', d')] = true → (getI a' d' (putI a d u v) == getI a' d' u) = true := fun hap => by rw [stays_far ⟨ha, ha', hd, hd'⟩ ⟨hb, hb', he, he'⟩ hap hu hv]; simp
      refine wp_region_any' (by kernel_rfl) ?_
      have hW := Ext.trans2 hW (Ext.refl _) (Ext.drew _)
      refine any_quiet 0 2 17 rfl (by kernel_rfl) rfl ?_
      simp only [List.drop, List.take]
      repeat
        with_reducible refine wpQuiet_step (fun K hK => ?_)
        go_simp
        first
        | (refine hK _ ?_; clear hK K)
        | (apply Exists.intro
           refine ⟨fun w1 h1 => ?_, hK _ ?_⟩
           (have hW := Ext.trans2 hW (by repeat (first | exact Ext.refl _ | exact Ext.alloc _ _ | exact Ext.drewN _ _ | assumption | refine Ext.trans ?_ (Ext.alloc _ _) | refine Ext.trans ?_ (Ext.drew _) | refine Ext.trans ?_ (by assumption))) h1; (try have hV := Ext.trans2 hV (by repeat (first | exact Ext.refl _ | exact Ext.alloc _ _ | exact Ext.drewN _ _ | assumption | refine Ext.trans ?_ (Ext.alloc _ _) | refine Ext.trans ?_ (Ext.drew _) | refine Ext.trans ?_ (by assumption))) h1); (first | rfl | (go_simp; done) | (go_simp; rfl) | fail))
           clear hK K)
      refine wpQuiet_nil (fun w' hw' => ?_)
      have hW := Ext.trans2 hW (by repeat (first | exact Ext.refl _ | exact Ext.alloc _ _ | exact Ext.drewN _ _ | assumption | refine Ext.trans ?_ (Ext.alloc _ _) | refine Ext.trans ?_ (Ext.drew _) | refine Ext.trans ?_ (by assumption))) hw'
      try have hV := Ext.trans2 hV (by repeat (first | exact Ext.refl _ | exact Ext.alloc _ _ | exact Ext.drewN _ _ | assumption | refine Ext.trans ?_ (Ext.alloc _ _) | refine Ext.trans ?_ (Ext.drew _) | refine Ext.trans ?_ (by assumption))) hw'
      clear hw'
      refine any_one 2 16 rfl (by kernel_rfl) rfl (fun K hK => ?_)
      go_simp
      have hW := hW.trans (Ext.alloc _ (Obj.cells #[.int .u8 a, .int .u8 d, .int .u8 a', .int .u8 d'] 25))
      have hS := two_fields w' a d a' d' 25
      refine hK _ _ ?_
      clear hK K
      cases hap : apartB [(a, d), (a', d')]
      · refine any_quiet 3 16 0 rfl (by kernel_rfl) rfl ?_
        simp only [List.drop, List.take]
        repeat
          with_reducible refine wpQuiet_step (fun K hK => ?_)
          go_simp
          first
          | (refine hK _ ?_; clear hK K)
          | (apply Exists.intro
             refine ⟨fun w1 h1 => ?_, hK _ ?_⟩
             (have hW := Ext.trans2 hW (by repeat (first | exact Ext.refl _ | exact Ext.alloc _ _ | exact Ext.drewN _ _ | assumption | refine Ext.trans ?_ (Ext.alloc _ _) | refine Ext.trans ?_ (Ext.drew _) | refine Ext.trans ?_ (by assumption))) h1; (try have hV := Ext.trans2 hV (by repeat (first | exact Ext.refl _ | exact Ext.alloc _ _ | exact Ext.drewN _ _ | assumption | refine Ext.trans ?_ (Ext.alloc _ _) | refine Ext.trans ?_ (Ext.drew _) | refine Ext.trans ?_ (by assumption))) h1); (first | rfl | (go_simp; done) | (go_simp; rfl) | (first | (go_at_call 29; refine (apart_any _ _ [(a, d), (a', d')] _ _ (by have := h1.size; simp at this; omega) (hS.ext h1 (by simp)) OKF.out (by simp)).mono ?_; rintro e w2 ⟨rfl, hq⟩; exact ⟨rfl, h1.trans hq⟩) | (go_at_call 14; refine (get_any _ _ _ _ hb hb' he he').mono ?_; rintro e w2 ⟨rfl, hb⟩; exact ⟨rfl, h1.trans hb⟩) | (go_at_call 20; refine (alive_any _).mono ?_; rintro e w2 ⟨rfl, hb⟩; exact ⟨rfl, h1.trans hb⟩))))
             clear hK K)
        refine wpQuiet_nil (fun w' hw' => ?_)
        have hW := Ext.trans2 hW (by repeat (first | exact Ext.refl _ | exact Ext.alloc _ _ | exact Ext.drewN _ _ | assumption | refine Ext.trans ?_ (Ext.alloc _ _) | refine Ext.trans ?_ (Ext.drew _) | refine Ext.trans ?_ (by assumption))) hw'
        try have hV := Ext.trans2 hV (by repeat (first | exact Ext.refl _ | exact Ext.alloc _ _ | exact Ext.drewN _ _ | assumption | refine Ext.trans ?_ (Ext.alloc _ _) | refine Ext.trans ?_ (Ext.drew _) | refine Ext.trans ?_ (by assumption))) hw'
        clear hw'
        refine wpAny_done (by kernel_rfl) ?_ _
        go_wp2
        go_ret
        exact ⟨rfl, (hX0.trans (hW.trans (by repeat (first | exact Ext.refl _ | exact Ext.alloc _ _ | exact Ext.drewN _ _ | assumption | refine Ext.trans ?_ (Ext.alloc _ _) | refine Ext.trans ?_ (Ext.drew _) | refine Ext.trans ?_ (by assumption)))))⟩
      · have e4 := e3 hap
        refine any_quiet 3 16 0 rfl (by kernel_rfl) rfl ?_
        simp only [List.drop, List.take]
        repeat
          with_reducible refine wpQuiet_step (fun K hK => ?_)
          go_simp
          first
          | (refine hK _ ?_; clear hK K)
          | (apply Exists.intro
             refine ⟨fun w1 h1 => ?_, hK _ ?_⟩
             (have hW := Ext.trans2 hW (by repeat (first | exact Ext.refl _ | exact Ext.alloc _ _ | exact Ext.drewN _ _ | assumption | refine Ext.trans ?_ (Ext.alloc _ _) | refine Ext.trans ?_ (Ext.drew _) | refine Ext.trans ?_ (by assumption))) h1; (try have hV := Ext.trans2 hV (by repeat (first | exact Ext.refl _ | exact Ext.alloc _ _ | exact Ext.drewN _ _ | assumption | refine Ext.trans ?_ (Ext.alloc _ _) | refine Ext.trans ?_ (Ext.drew _) | refine Ext.trans ?_ (by assumption))) h1); (first | rfl | (go_simp; done) | (go_simp; rfl) | (first | (go_at_call 29; refine (apart_any _ _ [(a, d), (a', d')] _ _ (by have := h1.size; simp at this; omega) (hS.ext h1 (by simp)) OKF.out (by simp)).mono ?_; rintro e w2 ⟨rfl, hq⟩; exact ⟨rfl, h1.trans hq⟩) | (go_at_call 14; refine (get_any _ _ _ _ hb hb' he he').mono ?_; rintro e w2 ⟨rfl, hb⟩; exact ⟨rfl, h1.trans hb⟩) | (go_at_call 20; refine (alive_any _).mono ?_; rintro e w2 ⟨rfl, hb⟩; exact ⟨rfl, h1.trans hb⟩))))
             clear hK K)
        refine wpQuiet_nil (fun w' hw' => ?_)
        have hW := Ext.trans2 hW (by repeat (first | exact Ext.refl _ | exact Ext.alloc _ _ | exact Ext.drewN _ _ | assumption | refine Ext.trans ?_ (Ext.alloc _ _) | refine Ext.trans ?_ (Ext.drew _) | refine Ext.trans ?_ (by assumption))) hw'
        try have hV := Ext.trans2 hV (by repeat (first | exact Ext.refl _ | exact Ext.alloc _ _ | exact Ext.drewN _ _ | assumption | refine Ext.trans ?_ (Ext.alloc _ _) | refine Ext.trans ?_ (Ext.drew _) | refine Ext.trans ?_ (by assumption))) hw'
        clear hw'
        refine wpAny_done (by kernel_rfl) ?_ _
        go_wp2
        go_ret
        exact ⟨rfl, (hX0.trans (hW.trans (by repeat (first | exact Ext.refl _ | exact Ext.alloc _ _ | exact Ext.drewN _ _ | assumption | refine Ext.trans ?_ (Ext.alloc _ _) | refine Ext.trans ?_ (Ext.drew _) | refine Ext.trans ?_ (by assumption)))))⟩

theorem okWide_array {w : World} {base : Nat} {n : Nat} {t e : TypeId} {v : Value} (ht : Try.prog.underlying t = some (.array n e)) (h : Value.okWide Try.prog w .any base t v) : ∃ cs, v = .agg cs ∧ cs.size = Try.prog.cellsOf t := by
  simp only [Value.okWide, ht] at h
  cases v <;> simp_all

section
variable {H : Type} {enc : TypeId × Value → H} {W : World} {base : Nat}
theorem open_field' {v : Value} {d : DataW H} {p : List MemPlace} (hv : Value.okWide Try.prog W .any base 23 v) (h : DataW.Trod enc Try.prog W 0 (fun _ => true) true 23 v d p) :
    ∃ a d : Int, v = .agg #[.int .u8 a, .int .u8 d] ∧ 0 ≤ a ∧ a ≤ 255 ∧ 0 ≤ d ∧ d ≤ 255 := by
  obtain ⟨c0, c1, y0, y1, m, rfl, rfl, rfl, hy0, hy1⟩ := open_agg2 Try.underlying23 (by kernel_rfl) (by kernel_rfl) hv h
  obtain ⟨a, e0, _, wa⟩ := DataW.trod_int Try.underlying5 hy0
  obtain ⟨b, e1, _, wb⟩ := DataW.trod_int Try.underlying5 hy1
  simp at e0 e1
  subst e0 e1
  obtain ⟨h1, h2⟩ := in_u8 wa
  obtain ⟨h3, h4⟩ := in_u8 wb
  exact ⟨a, b, rfl, h1, h2, h3, h4⟩
theorem open_pair {v : Value} {d : DataW H} {p : List MemPlace} (hv : Value.okWide Try.prog W .any base 51 v) (h : DataW.Trod enc Try.prog W 0 (fun _ => true) true 51 v d p) :
    ∃ a b : Int, v = .agg #[.int .u64 a, .int .u64 b] ∧ InW a ∧ InW b := by
  obtain ⟨cs, rfl, hsz⟩ := okWide_array Try.underlying51 hv
  have hsz2 : cs.size = 2 := hsz.trans (by kernel_rfl)
  obtain ⟨c0, c1, rfl⟩ := array2 hsz2
  obtain ⟨fuel, hf⟩ := h
  obtain ⟨xs, m, _, _, _, hl, hel⟩ := DataW.trod_array Try.underlying51 hf
  have hc : Try.prog.cellsOf 24 = 1 := by kernel_rfl
  rw [hc] at hel
  have g0 := hel 0 (by omega)
  have g1 := hel 1 (by omega)
  rw [List.getElem?_eq_getElem (by omega)] at g0 g1
  obtain ⟨a, e0, _, wa⟩ := DataW.trod_int Try.underlying24 g0
  obtain ⟨b, e1, _, wb⟩ := DataW.trod_int Try.underlying24 g1
  simp [Value.cells] at e0 e1
  subst e0 e1
  exact ⟨a, b, rfl, in_u64 wa, in_u64 wb⟩
end

theorem fieldStays_walk {H : Type} {enc : TypeId × Value → H} (W : World) (base : Nat) (args : Array Value) (ds : List (DataW H)) (p : List MemPlace)
    (hval0 : ∀ (j : Nat) t v, Try.f6.params[j]? = some t → args[j]? = some v → Value.okWide Try.prog W .any base t v)
    (hA0 : DataW.TrodAll enc Try.prog W 0 (fun _ => true) true Try.f6.params.toList args.toList ds p) (_hlt : ∀ x ∈ p, x.block < W.heap.size) :
    Calls Try.prog 6 args W fun e W' => e = .returned (.bool true) ∧ Ext W W' := by
  have hval := hval0
  have hA := hA0
  rw [Try.params6] at hA hval
  clear hval0 hA0
  obtain ⟨v0, v1, v2, d0, d1, d2, p0, p1, p2, hargs, rfl, rfl, h0, h1, h2⟩ := trodAll_three hA
  obtain rfl : args = #[v0, v1, v2] := by cases args; simp_all
  obtain ⟨a, d, rfl, ha, ha', hd, hd'⟩ := open_field' (hval 0 23 v0 rfl rfl) h0
  obtain ⟨a', d', rfl, hb, hb', he, he'⟩ := open_field' (hval 1 23 v1 rfl rfl) h1
  obtain ⟨x, y, rfl, hx, hy⟩ := open_pair (hval 2 51 v2 rfl rfl) h2
  exact lstays_any a d a' d' x y W ha ha' hd hd' hb hb' he he' hx hy
set_option maxRecDepth 100000 in
theorem fieldStays_lifted (os : Os) (started : os.Started) (H : Type) (enc : TypeId × Value → H) :
    ReturnsInHanded {} Try.checked os 6 .any (Rows.fieldStaysSpec.pre6 enc Try.prog Try.f6 Rows.fieldStaysRow.domain false) (Rows.fieldStaysSpec.post enc Try.prog Try.f6 false true false false) :=
  law_lifted (fn := Try.f6) 4 os started (by kernel_rfl) Try.func6 rfl rfl Try.underlying4 (hread_of (by kernel_rfl))
    (fun l hl => by
      have hl2 : l.length = 3 := hl
      clear hl
      match l, hl2 with
      | [_, _, _], _ => rfl)
    (ChangeSpec.witness6 (enc := enc) (C := Try.checked) false ⟨#[], #[.agg #[.int .u8 0, .int .u8 0], .agg #[.int .u8 0, .int .u8 0], .agg #[.int .u64 0, .int .u64 0]], []⟩ 8 (by kernel_rfl) (by kernel_rfl) (by kernel_rfl) (by kernel_rfl))
    (fun W base args ds p hval hA hlt => fieldStays_walk W base args ds p hval hA hlt)
theorem fieldStays_holds : Rows.FieldStaysSaid :=
  OpenClaim.holds_of_wide 6 Try.f6 rfl rfl rfl rfl rfl rfl rfl ⟨rfl, rfl, rfl, rfl, rfl⟩ rfl rfl rfl rfl rfl (by kernel_rfl) Try.func6 (by kernel_rfl)
    (of_decide_eq_true (by kernel_rfl)) (by unfold Func.isWrapper; rw [if_neg (of_decide_eq_false (by kernel_rfl))]; exact ⟨rfl, rfl⟩)
    (fun os started H enc _ => fieldStays_lifted os started H enc)
end Go.Proofs.Ytcofnmkemnmhaaa
