/-
  A law of layer 14 holds of every input: ModelErrors. No condition.
-/
import Derived.Test.YtfphibmpbfgliaaS1
import Derived.Test.YtfphibmpbfgliaaE2
namespace Go.Proofs.Ytfphibmpbfgliaa
open Go.ChangeShapes Go.WideShapes Go.ChangeAt Go.RowKit Go.Deep Go.Joins
set_option linter.unusedVariables false
set_option linter.unusedSimpArgs false
set_option maxRecDepth 100000
set_option maxHeartbeats 8000000


theorem ap_still {S : St} (ok : Ok S) (k t o a r : Int) (h : apE S k t o a r ≠ 0 ∨ r = 9 ∨ r = 10 ∨ r = 14 ∨ r = 11) : apS S k t o a r = S := by
  unfold apS
  split
  · rename_i hb
    have he : apE S k t o a r = 0 := by unfold apE; rw [if_pos hb]
    have hr : r = 9 ∨ r = 10 ∨ r = 14 ∨ r = 11 := by rcases h with h | h; exact absurd he h; exact h
    have hm : mayB S k t.toNat o.toNat a r = true := by
      unfold apB at hb
      simp only [Bool.and_eq_true] at hb
      exact hb.2
    unfold doS
    by_cases k5 : k = 5
    · subst k5
      exfalso
      simp [mayB, mcbB] at hm
      omega
    rw [if_neg k5]
    by_cases k6 : k = 6
    · subst k6
      exfalso
      simp [mayB, mcbB] at hm
      obtain ⟨_, ⟨h1, h2⟩, _⟩ := hm
      obtain ⟨p, hp⟩ := Option.isSome_iff_exists.1 h1
      rw [hp] at h2
      have := (ok.lf _ _ _ hp).2.2.2.2.2.2
      simp at h2
      omega
    rw [if_neg k6, if_neg (by omega), if_neg (by omega)]
  · rfl
theorem ap_begin {S : St} (t o a : Int) (h : apE S 4 t o a 12 = 0) : 0 ≤ t ∧ 0 ≤ o ∧ isT S t = true ∧ isO S o = true ∧ S.flg t.toNat = true ∧ apS S 4 t o a 12 = flS S t.toNat false := by
  have hb : apB S 4 t o a 12 = true := by
    unfold apE at h
    split at h
    · assumption
    · cases h
  have hb2 := hb
  unfold apB at hb2
  simp only [Bool.and_eq_true] at hb2
  obtain ⟨⟨h1, h2⟩, h3⟩ := hb2
  refine ⟨(isT_iff.1 h1).1, (isO_iff.1 h2).1, h1, h2, ?_, ?_⟩
  · unfold mayB at h3
    rw [if_neg (by omega)] at h3
    split at h3
    · cases h3
    · simp [mwoB, refB, begB] at h3
      exact h3.2.2
  · unfold apS
    rw [if_pos hb]
    rfl
theorem lerrors_any (A : Option Addr) (n c : Nat) (f : Nat → Evt) (w : World) (hn : n ≤ c) (hc' : c ≤ maxLen) (hs : Stps w w.heap.size A n f) (hf : ∀ k, k < n → Okst (f k)) :
    Calls Try.prog 5 #[.slice A n c] w fun e w' => e = .returned (.bool true) ∧ Ext w w' := by
  have HF := hide hf
  clear hf
  have hnw := new_ok (n := 4) (m := 3) (k := 3) (by decide) w
  go_enter Try.func5, Try.ntmps5
  go_wp2_with fail
  refine hnw.mono ?_
  rintro e w1 ⟨B, W, L, rfl, hm0, hB, hW, hL, hX0⟩
  clear hnw
  have lo : ∀ t, t ∈ [B, W, L] → w.heap.size ≤ t := by simp; omega
  go_wp2_with fail
  refine (short_any A n c _ hn hc').mono ?_
  rintro e w2 ⟨rfl, rfl⟩
  go_wp2_with fail
  go_loopw [23] (fun i wr => ∃ (j : Nat) (S : St), j ≤ min n 200 ∧ i = .int .i64 (j : Int) ∧ ModT wr B W L S ∧ Ext w wr) (fun i _ => min n 200 - (intOf i).toNat)
  case atStart => exact ⟨0, st0 4 3 3, by omega, rfl, hm0, hX0⟩
  case round =>
    clear hm0 hX0
    obtain ⟨j, S, hj, rfl, hm, hX⟩ := hrel
    by_cases hlt : j < min n 200
    · have hj2 : j < n := by omega
      obtain ⟨b, off, rfl, hb, r0, r1, r2, r3, r4⟩ := (hs.chg hX (Nat.le_refl _)).rules hj2
      have hok := HF.out j hj2
      have hx := Ext.alloc wr (.cells #[Value.int .i64 (f j).k, .int .i64 (f j).t, .int .i64 (f j).o, .int .i64 (f j).a, .int .i64 (f j).r] 41)
      have HE0 := hide (Blk.new wr #[Value.int .i64 (f j).k, .int .i64 (f j).t, .int .i64 (f j).o, .int .i64 (f j).a, .int .i64 (f j).r] 41)
      have ct := fun w' => theirs_any (f j) w'
      unfold sc at ct
      have he : apE S (f j).k (f j).t (f j).o (f j).a (f j).r = 0 ∨ apE S (f j).k (f j).t (f j).o (f j).a (f j).r = 15 := by unfold apE; split; exact .inl rfl; exact .inr rfl
      have hst := ap_still hm.ok (f j).k (f j).t (f j).o (f j).a (f j).r
      have hbg := ap_begin (S := S) (f j).t (f j).o (f j).a
      go_wp2_with fail
      refine (clone_any (hm.ext hx)).mono ?_
      rintro e w2 ⟨B2, W2, L2, rfl, hm2, hB2, hW2, hL2, hx2⟩
      rw [World.size_alloc] at hB2 hW2 hL2
      have rc2 := (HE0.out.ext hx2).cell
      go_wp2_with fail
      refine (ct _).mono ?_
      rintro e w3 ⟨rfl, hx3⟩
      go_wp2_with fail
      have lt0 := hm.lt
      have l2 := hm2.lt
      have hxx := hx2.trans hx3
      have ca := apply_any (hm.ext (hx.trans hxx)) (f j).k (f j).t (f j).o (f j).a (f j).r hok.a
      refine ca.mono ?_
      rintro e w4 ⟨rfl, hm4, hc4⟩
      have hX4 := (hX.trans (hx.trans hxx)).turn hc4 lo
      have hmc := (hm2.ext hx3).chg hc4 (by simp; omega) (by simp; omega) (by simp; omega)
      have he4 := (HE0.out.ext hxx).chg hc4 (by simp; omega)
      have HM4 := hide hm4
      have HMC := hide hmc
      have HX4 := hide hX4
      have HE4 := hide he4
      have re4 := he4.cell
      clear rc2 ca ct hx hx2 hx3 hxx hc4 r0 r1 r2 r3 r4 hX hs hm2 hmc he4 hX4 hm4 HE0
      clear hm
      generalize hS' : apS S (f j).k (f j).t (f j).o (f j).a (f j).r = S' at *
      rcases he with he | he
      · rw [he]
        cases q9 : ((f j).r == 9)
        · cases q10 : ((f j).r == 10)
          · cases q14 : ((f j).r == 14)
            · cases q11 : ((f j).r == 11)
              · clear hst
                cases q4 : ((f j).k == 4)
                · clear hbg he hS'
                  go_wp2_with fail
                  have hW := Ext.refl w4
                  clear re4
                  have rq := fun w' (x : Ext w4 w') => (HE4.out.ext x).cell
                  refine wp_region_ext (by kernel_rfl) (by kernel_rfl) ?_
                  repeat
                    with_reducible refine wpQuiet_step (fun K hK => ?_)
                    go_simp
                    first
                    | (refine hK _ ?_; clear hK K)
                    | (apply Exists.intro
                       refine ⟨fun w1 h1 => ?_, hK _ ?_⟩
                       (have hW := Ext.trans2 hW (by repeat (first | exact Ext.refl _ | exact Ext.alloc _ _ | exact Ext.drewN _ _ | assumption | refine Ext.trans ?_ (Ext.alloc _ _) | refine Ext.trans ?_ (Ext.drew _) | refine Ext.trans ?_ (by assumption))) h1; (try have hV := Ext.trans2 hV (by repeat (first | exact Ext.refl _ | exact Ext.alloc _ _ | exact Ext.drewN _ _ | assumption | refine Ext.trans ?_ (Ext.alloc _ _) | refine Ext.trans ?_ (Ext.drew _) | refine Ext.trans ?_ (by assumption))) h1); (first | rfl | (go_simp; done) | (go_simp; rfl) | fail))
                       clear hK K)
                  refine wpQuiet_nil (fun w' hw' => ?_)
                  have hW := Ext.trans2 hW (by repeat (first | exact Ext.refl _ | exact Ext.alloc _ _ | exact Ext.drewN _ _ | assumption | refine Ext.trans ?_ (Ext.alloc _ _) | refine Ext.trans ?_ (Ext.drew _) | refine Ext.trans ?_ (by assumption))) hw'
                  try have hV := Ext.trans2 hV (by repeat (first | exact Ext.refl _ | exact Ext.alloc _ _ | exact Ext.drewN _ _ | assumption | refine Ext.trans ?_ (Ext.alloc _ _) | refine Ext.trans ?_ (Ext.drew _) | refine Ext.trans ?_ (by assumption))) hw'
                  clear hw'
                  go_wp2_with fail
                  go_roundw
                  case rel => exact ⟨j + 1, S', by omega, by go_num, HM4.out.ext hW, HX4.out.trans hW⟩
                  case measure => simp [intOf]; omega
                · cases q12 : ((f j).r == 12)
                  · clear hbg he hS'
                    go_wp2_with fail
                    have hW := Ext.refl w4
                    clear re4
                    have rq := fun w' (x : Ext w4 w') => (HE4.out.ext x).cell
                    refine wp_region_ext (by kernel_rfl) (by kernel_rfl) ?_
                    repeat
                      with_reducible refine wpQuiet_step (fun K hK => ?_)
                      go_simp
                      first
                      | (refine hK _ ?_; clear hK K)
                      | (apply Exists.intro
                         refine ⟨fun w1 h1 => ?_, hK _ ?_⟩
                         (have hW := Ext.trans2 hW (by repeat (first | exact Ext.refl _ | exact Ext.alloc _ _ | exact Ext.drewN _ _ | assumption | refine Ext.trans ?_ (Ext.alloc _ _) | refine Ext.trans ?_ (Ext.drew _) | refine Ext.trans ?_ (by assumption))) h1; (try have hV := Ext.trans2 hV (by repeat (first | exact Ext.refl _ | exact Ext.alloc _ _ | exact Ext.drewN _ _ | assumption | refine Ext.trans ?_ (Ext.alloc _ _) | refine Ext.trans ?_ (Ext.drew _) | refine Ext.trans ?_ (by assumption))) h1); (first | rfl | (go_simp; done) | (go_simp; rfl) | fail))
                         clear hK K)
                    refine wpQuiet_nil (fun w' hw' => ?_)
                    have hW := Ext.trans2 hW (by repeat (first | exact Ext.refl _ | exact Ext.alloc _ _ | exact Ext.drewN _ _ | assumption | refine Ext.trans ?_ (Ext.alloc _ _) | refine Ext.trans ?_ (Ext.drew _) | refine Ext.trans ?_ (by assumption))) hw'
                    try have hV := Ext.trans2 hV (by repeat (first | exact Ext.refl _ | exact Ext.alloc _ _ | exact Ext.drewN _ _ | assumption | refine Ext.trans ?_ (Ext.alloc _ _) | refine Ext.trans ?_ (Ext.drew _) | refine Ext.trans ?_ (by assumption))) hw'
                    clear hw'
                    go_wp2_with fail
                    go_roundw
                    case rel => exact ⟨j + 1, S', by omega, by go_num, HM4.out.ext hW, HX4.out.trans hW⟩
                    case measure => simp [intOf]; omega
                  · have k4 : (f j).k = 4 := by simpa using q4
                    have r12 : (f j).r = 12 := by simpa using q12
                    rw [k4, r12] at he hS'
                    obtain ⟨t0, o0, ht, ho, hfl, hap⟩ := hbg he
                    rw [hS'] at hap
                    have f1 := fun w' (x : Ext w4 w') => flag_any (HMC.out.ext x).any (f j).t
                    have f2 := fun w' (x : Ext w4 w') => flag_any (HM4.out.ext x).any (f j).t
                    have f3 := fun w' (x : Ext w4 w') => owner_any (HM4.out.ext x).any (f j).o
                    have f4 := fun w' (x : Ext w4 w') => owner_any (HMC.out.ext x).any (f j).o
                    have f5 := fun w' (x : Ext w4 w') => count_any (HM4.out.ext x).any (f j).o
                    have f6 := fun w' (x : Ext w4 w') => count_any (HMC.out.ext x).any (f j).o
                    rw [show flgA true S (f j).t = true by unfold flgA; rw [ht, hfl]; rfl] at f1
                    rw [show flgA true S' (f j).t = false by rw [hap]; unfold flgA flS; simp [upd_same]] at f2
                    rw [show ownA true S' (f j).o = ownA true S (f j).o by rw [hap]; rfl] at f3
                    rw [show cntA true S' (f j).o = cntA true S (f j).o by rw [hap]; rfl] at f5
                    generalize ownA true S (f j).o = oo at *
                    generalize cntA true S (f j).o = cc at *
                    clear hbg he hS' hap k4 r12 ht ho hfl t0 o0
                    go_wp2_with fail
                    have hW := Ext.refl w4
                    clear re4
                    have rq := fun w' (x : Ext w4 w') => (HE4.out.ext x).cell
                    refine wp_region_ext (by kernel_rfl) (by kernel_rfl) ?_
                    repeat
                      with_reducible refine wpQuiet_step (fun K hK => ?_)
                      go_simp
                      first
                      | (refine hK _ ?_; clear hK K)
                      | (apply Exists.intro
                         refine ⟨fun w1 h1 => ?_, hK _ ?_⟩
                         (have hW := Ext.trans2 hW (by repeat (first | exact Ext.refl _ | exact Ext.alloc _ _ | exact Ext.drewN _ _ | assumption | refine Ext.trans ?_ (Ext.alloc _ _) | refine Ext.trans ?_ (Ext.drew _) | refine Ext.trans ?_ (by assumption))) h1; (try have hV := Ext.trans2 hV (by repeat (first | exact Ext.refl _ | exact Ext.alloc _ _ | exact Ext.drewN _ _ | assumption | refine Ext.trans ?_ (Ext.alloc _ _) | refine Ext.trans ?_ (Ext.drew _) | refine Ext.trans ?_ (by assumption))) h1); (first | rfl | (go_simp; done) | (go_simp; rfl) | first | (go_at_call 22; (with_reducible refine (f1 _ (hW.trans (by repeat (first | exact Ext.refl _ | exact Ext.alloc _ _ | exact Ext.drewN _ _ | assumption | refine Ext.trans ?_ (Ext.alloc _ _) | refine Ext.trans ?_ (Ext.drew _) | refine Ext.trans ?_ (by assumption))))).mono ?_); rintro e w2 ⟨rfl, rfl⟩; exact ⟨rfl, h1⟩) | (go_at_call 22; (with_reducible refine (f2 _ (hW.trans (by repeat (first | exact Ext.refl _ | exact Ext.alloc _ _ | exact Ext.drewN _ _ | assumption | refine Ext.trans ?_ (Ext.alloc _ _) | refine Ext.trans ?_ (Ext.drew _) | refine Ext.trans ?_ (by assumption))))).mono ?_); rintro e w2 ⟨rfl, rfl⟩; exact ⟨rfl, h1⟩) | (go_at_call 15; (with_reducible refine (f3 _ (hW.trans (by repeat (first | exact Ext.refl _ | exact Ext.alloc _ _ | exact Ext.drewN _ _ | assumption | refine Ext.trans ?_ (Ext.alloc _ _) | refine Ext.trans ?_ (Ext.drew _) | refine Ext.trans ?_ (by assumption))))).mono ?_); rintro e w2 ⟨rfl, hb⟩; exact ⟨rfl, h1.trans hb⟩) | (go_at_call 15; (with_reducible refine (f4 _ (hW.trans (by repeat (first | exact Ext.refl _ | exact Ext.alloc _ _ | exact Ext.drewN _ _ | assumption | refine Ext.trans ?_ (Ext.alloc _ _) | refine Ext.trans ?_ (Ext.drew _) | refine Ext.trans ?_ (by assumption))))).mono ?_); rintro e w2 ⟨rfl, hb⟩; exact ⟨rfl, h1.trans hb⟩) | (go_at_call 16; (with_reducible refine (f5 _ (hW.trans (by repeat (first | exact Ext.refl _ | exact Ext.alloc _ _ | exact Ext.drewN _ _ | assumption | refine Ext.trans ?_ (Ext.alloc _ _) | refine Ext.trans ?_ (Ext.drew _) | refine Ext.trans ?_ (by assumption))))).mono ?_); rintro e w2 ⟨rfl, hb⟩; exact ⟨rfl, h1.trans hb⟩) | (go_at_call 16; (with_reducible refine (f6 _ (hW.trans (by repeat (first | exact Ext.refl _ | exact Ext.alloc _ _ | exact Ext.drewN _ _ | assumption | refine Ext.trans ?_ (Ext.alloc _ _) | refine Ext.trans ?_ (Ext.drew _) | refine Ext.trans ?_ (by assumption))))).mono ?_); rintro e w2 ⟨rfl, hb⟩; exact ⟨rfl, h1.trans hb⟩)))
                         clear hK K)
                    refine wpQuiet_nil (fun w' hw' => ?_)
                    have hW := Ext.trans2 hW (by repeat (first | exact Ext.refl _ | exact Ext.alloc _ _ | exact Ext.drewN _ _ | assumption | refine Ext.trans ?_ (Ext.alloc _ _) | refine Ext.trans ?_ (Ext.drew _) | refine Ext.trans ?_ (by assumption))) hw'
                    try have hV := Ext.trans2 hV (by repeat (first | exact Ext.refl _ | exact Ext.alloc _ _ | exact Ext.drewN _ _ | assumption | refine Ext.trans ?_ (Ext.alloc _ _) | refine Ext.trans ?_ (Ext.drew _) | refine Ext.trans ?_ (by assumption))) hw'
                    clear hw'
                    go_wp2_with fail
                    go_roundw
                    case rel => exact ⟨j + 1, S', by omega, by go_num, HM4.out.ext hW, HX4.out.trans hW⟩
                    case measure => simp [intOf]; omega
              · have e1 := hst (.inr (.inr (.inr (.inr (by simpa using q11)))))
                have q12 : ((f j).r == 12) = false := by simp at *; omega
                subst e1
                have cs := msame_any HM4.out HMC.out
                clear hst hbg he hS'
                cases q4 : ((f j).k == 4)
                · go_wp2_with fail
                  refine cs.mono ?_
                  rintro e w5 ⟨rfl, hx5⟩
                  have re5 := (HE4.out.ext hx5).cell
                  go_wp2_with fail
                  have hW := Ext.refl w5
                  clear re4 re5
                  have rq := fun w' (x : Ext w5 w') => (HE4.out.ext (hx5.trans x)).cell
                  refine wp_region_ext (by kernel_rfl) (by kernel_rfl) ?_
                  repeat
                    with_reducible refine wpQuiet_step (fun K hK => ?_)
                    go_simp
                    first
                    | (refine hK _ ?_; clear hK K)
                    | (apply Exists.intro
                       refine ⟨fun w1 h1 => ?_, hK _ ?_⟩
                       (have hW := Ext.trans2 hW (by repeat (first | exact Ext.refl _ | exact Ext.alloc _ _ | exact Ext.drewN _ _ | assumption | refine Ext.trans ?_ (Ext.alloc _ _) | refine Ext.trans ?_ (Ext.drew _) | refine Ext.trans ?_ (by assumption))) h1; (try have hV := Ext.trans2 hV (by repeat (first | exact Ext.refl _ | exact Ext.alloc _ _ | exact Ext.drewN _ _ | assumption | refine Ext.trans ?_ (Ext.alloc _ _) | refine Ext.trans ?_ (Ext.drew _) | refine Ext.trans ?_ (by assumption))) h1); (first | rfl | (go_simp; done) | (go_simp; rfl) | fail))
                       clear hK K)
                  refine wpQuiet_nil (fun w' hw' => ?_)
                  have hW := Ext.trans2 hW (by repeat (first | exact Ext.refl _ | exact Ext.alloc _ _ | exact Ext.drewN _ _ | assumption | refine Ext.trans ?_ (Ext.alloc _ _) | refine Ext.trans ?_ (Ext.drew _) | refine Ext.trans ?_ (by assumption))) hw'
                  try have hV := Ext.trans2 hV (by repeat (first | exact Ext.refl _ | exact Ext.alloc _ _ | exact Ext.drewN _ _ | assumption | refine Ext.trans ?_ (Ext.alloc _ _) | refine Ext.trans ?_ (Ext.drew _) | refine Ext.trans ?_ (by assumption))) hw'
                  clear hw'
                  go_wp2_with fail
                  go_roundw
                  case rel => exact ⟨j + 1, _, by omega, by go_num, (HM4.out.ext hx5).ext hW, (HX4.out.trans hx5).trans hW⟩
                  case measure => simp [intOf]; omega
                · go_wp2_with fail
                  refine cs.mono ?_
                  rintro e w5 ⟨rfl, hx5⟩
                  have re5 := (HE4.out.ext hx5).cell
                  go_wp2_with fail
                  have hW := Ext.refl w5
                  clear re4 re5
                  have rq := fun w' (x : Ext w5 w') => (HE4.out.ext (hx5.trans x)).cell
                  refine wp_region_ext (by kernel_rfl) (by kernel_rfl) ?_
                  repeat
                    with_reducible refine wpQuiet_step (fun K hK => ?_)
                    go_simp
                    first
                    | (refine hK _ ?_; clear hK K)
                    | (apply Exists.intro
                       refine ⟨fun w1 h1 => ?_, hK _ ?_⟩
                       (have hW := Ext.trans2 hW (by repeat (first | exact Ext.refl _ | exact Ext.alloc _ _ | exact Ext.drewN _ _ | assumption | refine Ext.trans ?_ (Ext.alloc _ _) | refine Ext.trans ?_ (Ext.drew _) | refine Ext.trans ?_ (by assumption))) h1; (try have hV := Ext.trans2 hV (by repeat (first | exact Ext.refl _ | exact Ext.alloc _ _ | exact Ext.drewN _ _ | assumption | refine Ext.trans ?_ (Ext.alloc _ _) | refine Ext.trans ?_ (Ext.drew _) | refine Ext.trans ?_ (by assumption))) h1); (first | rfl | (go_simp; done) | (go_simp; rfl) | fail))
                       clear hK K)
                  refine wpQuiet_nil (fun w' hw' => ?_)
                  have hW := Ext.trans2 hW (by repeat (first | exact Ext.refl _ | exact Ext.alloc _ _ | exact Ext.drewN _ _ | assumption | refine Ext.trans ?_ (Ext.alloc _ _) | refine Ext.trans ?_ (Ext.drew _) | refine Ext.trans ?_ (by assumption))) hw'
                  try have hV := Ext.trans2 hV (by repeat (first | exact Ext.refl _ | exact Ext.alloc _ _ | exact Ext.drewN _ _ | assumption | refine Ext.trans ?_ (Ext.alloc _ _) | refine Ext.trans ?_ (Ext.drew _) | refine Ext.trans ?_ (by assumption))) hw'
                  clear hw'
                  go_wp2_with fail
                  go_roundw
                  case rel => exact ⟨j + 1, _, by omega, by go_num, (HM4.out.ext hx5).ext hW, (HX4.out.trans hx5).trans hW⟩
                  case measure => simp [intOf]; omega
            · have e1 := hst (.inr (.inr (.inr (.inl (by simpa using q14)))))
              have q12 : ((f j).r == 12) = false := by simp at *; omega
              subst e1
              have cs := msame_any HM4.out HMC.out
              clear hst hbg he hS'
              cases q4 : ((f j).k == 4)
              · go_wp2_with fail
                refine cs.mono ?_
                rintro e w5 ⟨rfl, hx5⟩
                have re5 := (HE4.out.ext hx5).cell
                go_wp2_with fail
                have hW := Ext.refl w5
                clear re4 re5
                have rq := fun w' (x : Ext w5 w') => (HE4.out.ext (hx5.trans x)).cell
                refine wp_region_ext (by kernel_rfl) (by kernel_rfl) ?_
                repeat
                  with_reducible refine wpQuiet_step (fun K hK => ?_)
                  go_simp
                  first
                  | (refine hK _ ?_; clear hK K)
                  | (apply Exists.intro
                     refine ⟨fun w1 h1 => ?_, hK _ ?_⟩
                     (have hW := Ext.trans2 hW (by repeat (first | exact Ext.refl _ | exact Ext.alloc _ _ | exact Ext.drewN _ _ | assumption | refine Ext.trans ?_ (Ext.alloc _ _) | refine Ext.trans ?_ (Ext.drew _) | refine Ext.trans ?_ (by assumption))) h1; (try have hV := Ext.trans2 hV (by repeat (first | exact Ext.refl _ | exact Ext.alloc _ _ | exact Ext.drewN _ _ | assumption | refine Ext.trans ?_ (Ext.alloc _ _) | refine Ext.trans ?_ (Ext.drew _) | refine Ext.trans ?_ (by assumption))) h1); (first | rfl | (go_simp; done) | (go_simp; rfl) | fail))
                     clear hK K)
                refine wpQuiet_nil (fun w' hw' => ?_)
                have hW := Ext.trans2 hW (by repeat (first | exact Ext.refl _ | exact Ext.alloc _ _ | exact Ext.drewN _ _ | assumption | refine Ext.trans ?_ (Ext.alloc _ _) | refine Ext.trans ?_ (Ext.drew _) | refine Ext.trans ?_ (by assumption))) hw'
                try have hV := Ext.trans2 hV (by repeat (first | exact Ext.refl _ | exact Ext.alloc _ _ | exact Ext.drewN _ _ | assumption | refine Ext.trans ?_ (Ext.alloc _ _) | refine Ext.trans ?_ (Ext.drew _) | refine Ext.trans ?_ (by assumption))) hw'
                clear hw'
                go_wp2_with fail
                go_roundw
                case rel => exact ⟨j + 1, _, by omega, by go_num, (HM4.out.ext hx5).ext hW, (HX4.out.trans hx5).trans hW⟩
                case measure => simp [intOf]; omega
              · go_wp2_with fail
                refine cs.mono ?_
                rintro e w5 ⟨rfl, hx5⟩
                have re5 := (HE4.out.ext hx5).cell
                go_wp2_with fail
                have hW := Ext.refl w5
                clear re4 re5
                have rq := fun w' (x : Ext w5 w') => (HE4.out.ext (hx5.trans x)).cell
                refine wp_region_ext (by kernel_rfl) (by kernel_rfl) ?_
                repeat
                  with_reducible refine wpQuiet_step (fun K hK => ?_)
                  go_simp
                  first
                  | (refine hK _ ?_; clear hK K)
                  | (apply Exists.intro
                     refine ⟨fun w1 h1 => ?_, hK _ ?_⟩
                     (have hW := Ext.trans2 hW (by repeat (first | exact Ext.refl _ | exact Ext.alloc _ _ | exact Ext.drewN _ _ | assumption | refine Ext.trans ?_ (Ext.alloc _ _) | refine Ext.trans ?_ (Ext.drew _) | refine Ext.trans ?_ (by assumption))) h1; (try have hV := Ext.trans2 hV (by repeat (first | exact Ext.refl _ | exact Ext.alloc _ _ | exact Ext.drewN _ _ | assumption | refine Ext.trans ?_ (Ext.alloc _ _) | refine Ext.trans ?_ (Ext.drew _) | refine Ext.trans ?_ (by assumption))) h1); (first | rfl | (go_simp; done) | (go_simp; rfl) | fail))
                     clear hK K)
                refine wpQuiet_nil (fun w' hw' => ?_)
                have hW := Ext.trans2 hW (by repeat (first | exact Ext.refl _ | exact Ext.alloc _ _ | exact Ext.drewN _ _ | assumption | refine Ext.trans ?_ (Ext.alloc _ _) | refine Ext.trans ?_ (Ext.drew _) | refine Ext.trans ?_ (by assumption))) hw'
                try have hV := Ext.trans2 hV (by repeat (first | exact Ext.refl _ | exact Ext.alloc _ _ | exact Ext.drewN _ _ | assumption | refine Ext.trans ?_ (Ext.alloc _ _) | refine Ext.trans ?_ (Ext.drew _) | refine Ext.trans ?_ (by assumption))) hw'
                clear hw'
                go_wp2_with fail
                go_roundw
                case rel => exact ⟨j + 1, _, by omega, by go_num, (HM4.out.ext hx5).ext hW, (HX4.out.trans hx5).trans hW⟩
                case measure => simp [intOf]; omega
          · have e1 := hst (.inr (.inr (.inl (by simpa using q10))))
            have q12 : ((f j).r == 12) = false := by simp at *; omega
            subst e1
            have cs := msame_any HM4.out HMC.out
            clear hst hbg he hS'
            cases q4 : ((f j).k == 4)
            · go_wp2_with fail
              refine cs.mono ?_
              rintro e w5 ⟨rfl, hx5⟩
              have re5 := (HE4.out.ext hx5).cell
              go_wp2_with fail
              have hW := Ext.refl w5
              clear re4 re5
              have rq := fun w' (x : Ext w5 w') => (HE4.out.ext (hx5.trans x)).cell
              refine wp_region_ext (by kernel_rfl) (by kernel_rfl) ?_
              repeat
                with_reducible refine wpQuiet_step (fun K hK => ?_)
                go_simp
                first
                | (refine hK _ ?_; clear hK K)
                | (apply Exists.intro
                   refine ⟨fun w1 h1 => ?_, hK _ ?_⟩
                   (have hW := Ext.trans2 hW (by repeat (first | exact Ext.refl _ | exact Ext.alloc _ _ | exact Ext.drewN _ _ | assumption | refine Ext.trans ?_ (Ext.alloc _ _) | refine Ext.trans ?_ (Ext.drew _) | refine Ext.trans ?_ (by assumption))) h1; (try have hV := Ext.trans2 hV (by repeat (first | exact Ext.refl _ | exact Ext.alloc _ _ | exact Ext.drewN _ _ | assumption | refine Ext.trans ?_ (Ext.alloc _ _) | refine Ext.trans ?_ (Ext.drew _) | refine Ext.trans ?_ (by assumption))) h1); (first | rfl | (go_simp; done) | (go_simp; rfl) | fail))
                   clear hK K)
              refine wpQuiet_nil (fun w' hw' => ?_)
              have hW := Ext.trans2 hW (by repeat (first | exact Ext.refl _ | exact Ext.alloc _ _ | exact Ext.drewN _ _ | assumption | refine Ext.trans ?_ (Ext.alloc _ _) | refine Ext.trans ?_ (Ext.drew _) | refine Ext.trans ?_ (by assumption))) hw'
              try have hV := Ext.trans2 hV (by repeat (first | exact Ext.refl _ | exact Ext.alloc _ _ | exact Ext.drewN _ _ | assumption | refine Ext.trans ?_ (Ext.alloc _ _) | refine Ext.trans ?_ (Ext.drew _) | refine Ext.trans ?_ (by assumption))) hw'
              clear hw'
              go_wp2_with fail
              go_roundw
              case rel => exact ⟨j + 1, _, by omega, by go_num, (HM4.out.ext hx5).ext hW, (HX4.out.trans hx5).trans hW⟩
              case measure => simp [intOf]; omega
            · go_wp2_with fail
              refine cs.mono ?_
              rintro e w5 ⟨rfl, hx5⟩
              have re5 := (HE4.out.ext hx5).cell
              go_wp2_with fail
              have hW := Ext.refl w5
              clear re4 re5
              have rq := fun w' (x : Ext w5 w') => (HE4.out.ext (hx5.trans x)).cell
              refine wp_region_ext (by kernel_rfl) (by kernel_rfl) ?_
              repeat
                with_reducible refine wpQuiet_step (fun K hK => ?_)
                go_simp
                first
                | (refine hK _ ?_; clear hK K)
                | (apply Exists.intro
                   refine ⟨fun w1 h1 => ?_, hK _ ?_⟩
                   (have hW := Ext.trans2 hW (by repeat (first | exact Ext.refl _ | exact Ext.alloc _ _ | exact Ext.drewN _ _ | assumption | refine Ext.trans ?_ (Ext.alloc _ _) | refine Ext.trans ?_ (Ext.drew _) | refine Ext.trans ?_ (by assumption))) h1; (try have hV := Ext.trans2 hV (by repeat (first | exact Ext.refl _ | exact Ext.alloc _ _ | exact Ext.drewN _ _ | assumption | refine Ext.trans ?_ (Ext.alloc _ _) | refine Ext.trans ?_ (Ext.drew _) | refine Ext.trans ?_ (by assumption))) h1); (first | rfl | (go_simp; done) | (go_simp; rfl) | fail))
                   clear hK K)
              refine wpQuiet_nil (fun w' hw' => ?_)
              have hW := Ext.trans2 hW (by repeat (first | exact Ext.refl _ | exact Ext.alloc _ _ | exact Ext.drewN _ _ | assumption | refine Ext.trans ?_ (Ext.alloc _ _) | refine Ext.trans ?_ (Ext.drew _) | refine Ext.trans ?_ (by assumption))) hw'
              try have hV := Ext.trans2 hV (by repeat (first | exact Ext.refl _ | exact Ext.alloc _ _ | exact Ext.drewN _ _ | assumption | refine Ext.trans ?_ (Ext.alloc _ _) | refine Ext.trans ?_ (Ext.drew _) | refine Ext.trans ?_ (by assumption))) hw'
              clear hw'
              go_wp2_with fail
              go_roundw
              case rel => exact ⟨j + 1, _, by omega, by go_num, (HM4.out.ext hx5).ext hW, (HX4.out.trans hx5).trans hW⟩
              case measure => simp [intOf]; omega
        · have e1 := hst (.inr (.inl (by simpa using q9)))
          have q12 : ((f j).r == 12) = false := by simp at *; omega
          subst e1
          have cs := msame_any HM4.out HMC.out
          clear hst hbg he hS'
          cases q4 : ((f j).k == 4)
          · go_wp2_with fail
            refine cs.mono ?_
            rintro e w5 ⟨rfl, hx5⟩
            have re5 := (HE4.out.ext hx5).cell
            go_wp2_with fail
            have hW := Ext.refl w5
            clear re4 re5
            have rq := fun w' (x : Ext w5 w') => (HE4.out.ext (hx5.trans x)).cell
            refine wp_region_ext (by kernel_rfl) (by kernel_rfl) ?_
            repeat
              with_reducible refine wpQuiet_step (fun K hK => ?_)
              go_simp
              first
              | (refine hK _ ?_; clear hK K)
              | (apply Exists.intro
                 refine ⟨fun w1 h1 => ?_, hK _ ?_⟩
                 (have hW := Ext.trans2 hW (by repeat (first | exact Ext.refl _ | exact Ext.alloc _ _ | exact Ext.drewN _ _ | assumption | refine Ext.trans ?_ (Ext.alloc _ _) | refine Ext.trans ?_ (Ext.drew _) | refine Ext.trans ?_ (by assumption))) h1; (try have hV := Ext.trans2 hV (by repeat (first | exact Ext.refl _ | exact Ext.alloc _ _ | exact Ext.drewN _ _ | assumption | refine Ext.trans ?_ (Ext.alloc _ _) | refine Ext.trans ?_ (Ext.drew _) | refine Ext.trans ?_ (by assumption))) h1); (first | rfl | (go_simp; done) | (go_simp; rfl) | fail))
                 clear hK K)
            refine wpQuiet_nil (fun w' hw' => ?_)
            have hW := Ext.trans2 hW (by repeat (first | exact Ext.refl _ | exact Ext.alloc _ _ | exact Ext.drewN _ _ | assumption | refine Ext.trans ?_ (Ext.alloc _ _) | refine Ext.trans ?_ (Ext.drew _) | refine Ext.trans ?_ (by assumption))) hw'
            try have hV := Ext.trans2 hV (by repeat (first | exact Ext.refl _ | exact Ext.alloc _ _ | exact Ext.drewN _ _ | assumption | refine Ext.trans ?_ (Ext.alloc _ _) | refine Ext.trans ?_ (Ext.drew _) | refine Ext.trans ?_ (by assumption))) hw'
            clear hw'
            go_wp2_with fail
            go_roundw
            case rel => exact ⟨j + 1, _, by omega, by go_num, (HM4.out.ext hx5).ext hW, (HX4.out.trans hx5).trans hW⟩
            case measure => simp [intOf]; omega
          · go_wp2_with fail
            refine cs.mono ?_
            rintro e w5 ⟨rfl, hx5⟩
            have re5 := (HE4.out.ext hx5).cell
            go_wp2_with fail
            have hW := Ext.refl w5
            clear re4 re5
            have rq := fun w' (x : Ext w5 w') => (HE4.out.ext (hx5.trans x)).cell
            refine wp_region_ext (by kernel_rfl) (by kernel_rfl) ?_
            repeat
              with_reducible refine wpQuiet_step (fun K hK => ?_)
              go_simp
              first
              | (refine hK _ ?_; clear hK K)
              | (apply Exists.intro
                 refine ⟨fun w1 h1 => ?_, hK _ ?_⟩
                 (have hW := Ext.trans2 hW (by repeat (first | exact Ext.refl _ | exact Ext.alloc _ _ | exact Ext.drewN _ _ | assumption | refine Ext.trans ?_ (Ext.alloc _ _) | refine Ext.trans ?_ (Ext.drew _) | refine Ext.trans ?_ (by assumption))) h1; (try have hV := Ext.trans2 hV (by repeat (first | exact Ext.refl _ | exact Ext.alloc _ _ | exact Ext.drewN _ _ | assumption | refine Ext.trans ?_ (Ext.alloc _ _) | refine Ext.trans ?_ (Ext.drew _) | refine Ext.trans ?_ (by assumption))) h1); (first | rfl | (go_simp; done) | (go_simp; rfl) | fail))
                 clear hK K)
            refine wpQuiet_nil (fun w' hw' => ?_)
            have hW := Ext.trans2 hW (by repeat (first | exact Ext.refl _ | exact Ext.alloc _ _ | exact Ext.drewN _ _ | assumption | refine Ext.trans ?_ (Ext.alloc _ _) | refine Ext.trans ?_ (Ext.drew _) | refine Ext.trans ?_ (by assumption))) hw'
            try have hV := Ext.trans2 hV (by repeat (first | exact Ext.refl _ | exact Ext.alloc _ _ | exact Ext.drewN _ _ | assumption | refine Ext.trans ?_ (Ext.alloc _ _) | refine Ext.trans ?_ (Ext.drew _) | refine Ext.trans ?_ (by assumption))) hw'
            clear hw'
            go_wp2_with fail
            go_roundw
            case rel => exact ⟨j + 1, _, by omega, by go_num, (HM4.out.ext hx5).ext hW, (HX4.out.trans hx5).trans hW⟩
            case measure => simp [intOf]; omega
      · have e1 := hst (.inl (by rw [he]; omega))
        subst e1
        rw [he]
        have cs := msame_any HM4.out HMC.out
        clear hst hbg he hS'
        cases q9 : ((f j).r == 9)
        · cases q10 : ((f j).r == 10)
          · cases q14 : ((f j).r == 14)
            · cases q11 : ((f j).r == 11)
              · go_wp2_with fail
                refine cs.mono ?_
                rintro e w5 ⟨rfl, hx5⟩
                have re5 := (HE4.out.ext hx5).cell
                go_wp2_with fail
                have hW := Ext.refl w5
                clear re4 re5
                have rq := fun w' (x : Ext w5 w') => (HE4.out.ext (hx5.trans x)).cell
                refine wp_region_ext (by kernel_rfl) (by kernel_rfl) ?_
                repeat
                  with_reducible refine wpQuiet_step (fun K hK => ?_)
                  go_simp
                  first
                  | (refine hK _ ?_; clear hK K)
                  | (apply Exists.intro
                     refine ⟨fun w1 h1 => ?_, hK _ ?_⟩
                     (have hW := Ext.trans2 hW (by repeat (first | exact Ext.refl _ | exact Ext.alloc _ _ | exact Ext.drewN _ _ | assumption | refine Ext.trans ?_ (Ext.alloc _ _) | refine Ext.trans ?_ (Ext.drew _) | refine Ext.trans ?_ (by assumption))) h1; (try have hV := Ext.trans2 hV (by repeat (first | exact Ext.refl _ | exact Ext.alloc _ _ | exact Ext.drewN _ _ | assumption | refine Ext.trans ?_ (Ext.alloc _ _) | refine Ext.trans ?_ (Ext.drew _) | refine Ext.trans ?_ (by assumption))) h1); (first | rfl | (go_simp; done) | (go_simp; rfl) | fail))
                     clear hK K)
                refine wpQuiet_nil (fun w' hw' => ?_)
                have hW := Ext.trans2 hW (by repeat (first | exact Ext.refl _ | exact Ext.alloc _ _ | exact Ext.drewN _ _ | assumption | refine Ext.trans ?_ (Ext.alloc _ _) | refine Ext.trans ?_ (Ext.drew _) | refine Ext.trans ?_ (by assumption))) hw'
                try have hV := Ext.trans2 hV (by repeat (first | exact Ext.refl _ | exact Ext.alloc _ _ | exact Ext.drewN _ _ | assumption | refine Ext.trans ?_ (Ext.alloc _ _) | refine Ext.trans ?_ (Ext.drew _) | refine Ext.trans ?_ (by assumption))) hw'
                clear hw'
                go_wp2_with fail
                go_roundw
                case rel => exact ⟨j + 1, _, by omega, by go_num, (HM4.out.ext hx5).ext hW, (HX4.out.trans hx5).trans hW⟩
                case measure => simp [intOf]; omega
              · go_wp2_with fail
                refine cs.mono ?_
                rintro e w5 ⟨rfl, hx5⟩
                have re5 := (HE4.out.ext hx5).cell
                go_wp2_with fail
                have hW := Ext.refl w5
                clear re4 re5
                have rq := fun w' (x : Ext w5 w') => (HE4.out.ext (hx5.trans x)).cell
                refine wp_region_ext (by kernel_rfl) (by kernel_rfl) ?_
                repeat
                  with_reducible refine wpQuiet_step (fun K hK => ?_)
                  go_simp
                  first
                  | (refine hK _ ?_; clear hK K)
                  | (apply Exists.intro
                     refine ⟨fun w1 h1 => ?_, hK _ ?_⟩
                     (have hW := Ext.trans2 hW (by repeat (first | exact Ext.refl _ | exact Ext.alloc _ _ | exact Ext.drewN _ _ | assumption | refine Ext.trans ?_ (Ext.alloc _ _) | refine Ext.trans ?_ (Ext.drew _) | refine Ext.trans ?_ (by assumption))) h1; (try have hV := Ext.trans2 hV (by repeat (first | exact Ext.refl _ | exact Ext.alloc _ _ | exact Ext.drewN _ _ | assumption | refine Ext.trans ?_ (Ext.alloc _ _) | refine Ext.trans ?_ (Ext.drew _) | refine Ext.trans ?_ (by assumption))) h1); (first | rfl | (go_simp; done) | (go_simp; rfl) | fail))
                     clear hK K)
                refine wpQuiet_nil (fun w' hw' => ?_)
                have hW := Ext.trans2 hW (by repeat (first | exact Ext.refl _ | exact Ext.alloc _ _ | exact Ext.drewN _ _ | assumption | refine Ext.trans ?_ (Ext.alloc _ _) | refine Ext.trans ?_ (Ext.drew _) | refine Ext.trans ?_ (by assumption))) hw'
                try have hV := Ext.trans2 hV (by repeat (first | exact Ext.refl _ | exact Ext.alloc _ _ | exact Ext.drewN _ _ | assumption | refine Ext.trans ?_ (Ext.alloc _ _) | refine Ext.trans ?_ (Ext.drew _) | refine Ext.trans ?_ (by assumption))) hw'
                clear hw'
                go_wp2_with fail
                go_roundw
                case rel => exact ⟨j + 1, _, by omega, by go_num, (HM4.out.ext hx5).ext hW, (HX4.out.trans hx5).trans hW⟩
                case measure => simp [intOf]; omega
            · go_wp2_with fail
              refine cs.mono ?_
              rintro e w5 ⟨rfl, hx5⟩
              have re5 := (HE4.out.ext hx5).cell
              go_wp2_with fail
              have hW := Ext.refl w5
              clear re4 re5
              have rq := fun w' (x : Ext w5 w') => (HE4.out.ext (hx5.trans x)).cell
              refine wp_region_ext (by kernel_rfl) (by kernel_rfl) ?_
              repeat
                with_reducible refine wpQuiet_step (fun K hK => ?_)
                go_simp
                first
                | (refine hK _ ?_; clear hK K)
                | (apply Exists.intro
                   refine ⟨fun w1 h1 => ?_, hK _ ?_⟩
                   (have hW := Ext.trans2 hW (by repeat (first | exact Ext.refl _ | exact Ext.alloc _ _ | exact Ext.drewN _ _ | assumption | refine Ext.trans ?_ (Ext.alloc _ _) | refine Ext.trans ?_ (Ext.drew _) | refine Ext.trans ?_ (by assumption))) h1; (try have hV := Ext.trans2 hV (by repeat (first | exact Ext.refl _ | exact Ext.alloc _ _ | exact Ext.drewN _ _ | assumption | refine Ext.trans ?_ (Ext.alloc _ _) | refine Ext.trans ?_ (Ext.drew _) | refine Ext.trans ?_ (by assumption))) h1); (first | rfl | (go_simp; done) | (go_simp; rfl) | fail))
                   clear hK K)
              refine wpQuiet_nil (fun w' hw' => ?_)
              have hW := Ext.trans2 hW (by repeat (first | exact Ext.refl _ | exact Ext.alloc _ _ | exact Ext.drewN _ _ | assumption | refine Ext.trans ?_ (Ext.alloc _ _) | refine Ext.trans ?_ (Ext.drew _) | refine Ext.trans ?_ (by assumption))) hw'
              try have hV := Ext.trans2 hV (by repeat (first | exact Ext.refl _ | exact Ext.alloc _ _ | exact Ext.drewN _ _ | assumption | refine Ext.trans ?_ (Ext.alloc _ _) | refine Ext.trans ?_ (Ext.drew _) | refine Ext.trans ?_ (by assumption))) hw'
              clear hw'
              go_wp2_with fail
              go_roundw
              case rel => exact ⟨j + 1, _, by omega, by go_num, (HM4.out.ext hx5).ext hW, (HX4.out.trans hx5).trans hW⟩
              case measure => simp [intOf]; omega
          · go_wp2_with fail
            refine cs.mono ?_
            rintro e w5 ⟨rfl, hx5⟩
            have re5 := (HE4.out.ext hx5).cell
            go_wp2_with fail
            have hW := Ext.refl w5
            clear re4 re5
            have rq := fun w' (x : Ext w5 w') => (HE4.out.ext (hx5.trans x)).cell
            refine wp_region_ext (by kernel_rfl) (by kernel_rfl) ?_
            repeat
              with_reducible refine wpQuiet_step (fun K hK => ?_)
              go_simp
              first
              | (refine hK _ ?_; clear hK K)
              | (apply Exists.intro
                 refine ⟨fun w1 h1 => ?_, hK _ ?_⟩
                 (have hW := Ext.trans2 hW (by repeat (first | exact Ext.refl _ | exact Ext.alloc _ _ | exact Ext.drewN _ _ | assumption | refine Ext.trans ?_ (Ext.alloc _ _) | refine Ext.trans ?_ (Ext.drew _) | refine Ext.trans ?_ (by assumption))) h1; (try have hV := Ext.trans2 hV (by repeat (first | exact Ext.refl _ | exact Ext.alloc _ _ | exact Ext.drewN _ _ | assumption | refine Ext.trans ?_ (Ext.alloc _ _) | refine Ext.trans ?_ (Ext.drew _) | refine Ext.trans ?_ (by assumption))) h1); (first | rfl | (go_simp; done) | (go_simp; rfl) | fail))
                 clear hK K)
            refine wpQuiet_nil (fun w' hw' => ?_)
            have hW := Ext.trans2 hW (by repeat (first | exact Ext.refl _ | exact Ext.alloc _ _ | exact Ext.drewN _ _ | assumption | refine Ext.trans ?_ (Ext.alloc _ _) | refine Ext.trans ?_ (Ext.drew _) | refine Ext.trans ?_ (by assumption))) hw'
            try have hV := Ext.trans2 hV (by repeat (first | exact Ext.refl _ | exact Ext.alloc _ _ | exact Ext.drewN _ _ | assumption | refine Ext.trans ?_ (Ext.alloc _ _) | refine Ext.trans ?_ (Ext.drew _) | refine Ext.trans ?_ (by assumption))) hw'
            clear hw'
            go_wp2_with fail
            go_roundw
            case rel => exact ⟨j + 1, _, by omega, by go_num, (HM4.out.ext hx5).ext hW, (HX4.out.trans hx5).trans hW⟩
            case measure => simp [intOf]; omega
        · go_wp2_with fail
          refine cs.mono ?_
          rintro e w5 ⟨rfl, hx5⟩
          have re5 := (HE4.out.ext hx5).cell
          go_wp2_with fail
          have hW := Ext.refl w5
          clear re4 re5
          have rq := fun w' (x : Ext w5 w') => (HE4.out.ext (hx5.trans x)).cell
          refine wp_region_ext (by kernel_rfl) (by kernel_rfl) ?_
          repeat
            with_reducible refine wpQuiet_step (fun K hK => ?_)
            go_simp
            first
            | (refine hK _ ?_; clear hK K)
            | (apply Exists.intro
               refine ⟨fun w1 h1 => ?_, hK _ ?_⟩
               (have hW := Ext.trans2 hW (by repeat (first | exact Ext.refl _ | exact Ext.alloc _ _ | exact Ext.drewN _ _ | assumption | refine Ext.trans ?_ (Ext.alloc _ _) | refine Ext.trans ?_ (Ext.drew _) | refine Ext.trans ?_ (by assumption))) h1; (try have hV := Ext.trans2 hV (by repeat (first | exact Ext.refl _ | exact Ext.alloc _ _ | exact Ext.drewN _ _ | assumption | refine Ext.trans ?_ (Ext.alloc _ _) | refine Ext.trans ?_ (Ext.drew _) | refine Ext.trans ?_ (by assumption))) h1); (first | rfl | (go_simp; done) | (go_simp; rfl) | fail))
               clear hK K)
          refine wpQuiet_nil (fun w' hw' => ?_)
          have hW := Ext.trans2 hW (by repeat (first | exact Ext.refl _ | exact Ext.alloc _ _ | exact Ext.drewN _ _ | assumption | refine Ext.trans ?_ (Ext.alloc _ _) | refine Ext.trans ?_ (Ext.drew _) | refine Ext.trans ?_ (by assumption))) hw'
          try have hV := Ext.trans2 hV (by repeat (first | exact Ext.refl _ | exact Ext.alloc _ _ | exact Ext.drewN _ _ | assumption | refine Ext.trans ?_ (Ext.alloc _ _) | refine Ext.trans ?_ (Ext.drew _) | refine Ext.trans ?_ (by assumption))) hw'
          clear hw'
          go_wp2_with fail
          go_roundw
          case rel => exact ⟨j + 1, _, by omega, by go_num, (HM4.out.ext hx5).ext hW, (HX4.out.trans hx5).trans hW⟩
          case measure => simp [intOf]; omega
    · clear hm hs
      go_wp2_with fail
      refine (alive_any _).mono ?_
      rintro e w2 ⟨rfl, hx⟩
      go_wp2_with fail
      go_ret
      exact ⟨rfl, hX.trans hx⟩

set_option maxRecDepth 100000 in
theorem modelErrors_walk {H : Type} {enc : TypeId × Value → H} (W : World) (base : Nat) (args : Array Value) (ds : List (DataW H)) (p : List MemPlace)
    (hval0 : ∀ (j : Nat) t v, Try.f5.params[j]? = some t → args[j]? = some v → Value.okWide Try.prog W .any base t v)
    (hA0 : DataW.TrodAll enc Try.prog W 0 (fun _ => true) true Try.f5.params.toList args.toList ds p) (_hlt : ∀ x ∈ p, x.block < W.heap.size) :
    Calls Try.prog 5 args W fun e W' => e = .returned (.bool true) ∧ Ext W W' := by
  have hval := hval0
  have hA := hA0
  rw [Try.params5] at hA hval
  clear hval0 hA0
  obtain ⟨v0, d0, rfl, rfl, h0⟩ := trodAll_one hA
  obtain ⟨A, n, c, f, rfl, hn, hc, hs, hf⟩ := open_steps (hval 0 23 v0 rfl rfl) h0
  exact lerrors_any A n c f W hn hc hs hf
set_option maxRecDepth 100000 in
theorem modelErrors_lifted (os : Os) (started : os.Started) (H : Type) (enc : TypeId × Value → H) :
    ReturnsInHanded {} Try.checked os 5 .any (Rows.modelErrorsSpec.pre6 enc Try.prog Try.f5 Rows.modelErrorsRow.domain false) (Rows.modelErrorsSpec.post enc Try.prog Try.f5 false true false false) :=
  law_lifted (fn := Try.f5) 4 os started (by kernel_rfl) Try.func5 rfl rfl Try.underlying4 (hread_of (by kernel_rfl))
    (fun l hl => by
      have hl2 : l.length = 1 := hl
      clear hl
      match l, hl2 with
      | [_], _ => rfl)
    (ChangeSpec.witness6 (enc := enc) (C := Try.checked) false ⟨#[], #[.slice none 0 0], []⟩ 8 (by kernel_rfl) (by kernel_rfl) (by kernel_rfl) (by kernel_rfl))
    (fun W base args ds p hval hA hlt => modelErrors_walk W base args ds p hval hA hlt)
theorem modelErrors_holds : Rows.ModelErrorsSaid :=
  OpenClaim.holds_of_wide 5 Try.f5 rfl rfl rfl rfl rfl rfl rfl ⟨rfl, rfl, rfl, rfl, rfl⟩ rfl rfl rfl rfl rfl (by kernel_rfl) Try.func5 (by kernel_rfl)
    (of_decide_eq_true (by kernel_rfl)) (by unfold Func.isWrapper; rw [if_neg (of_decide_eq_false (by kernel_rfl))]; exact ⟨rfl, rfl⟩)
    (fun os started H enc _ => modelErrors_lifted os started H enc)
end Go.Proofs.Ytfphibmpbfgliaa
