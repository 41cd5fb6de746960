/- The laws of layer 4, walked: what may come of a word, and a word's parts. -/
import Derived.Test.YtpbjlelbdjopaaaDoorL1
namespace Go.Proofs.YtpbjlelbdjopaaaDoor
open Go.RowKit
set_option linter.unusedSimpArgs false
set_option linter.unusedVariables false

theorem lparts_any (v : Int) (w : World) (hG : Glob w) (hv : InW v) :
    Calls Tryd.prog 5 #[.int .u64 v] w fun e w' => e = .returned (.bool true) ∧ Ext w w' := by
  have hX0 := Ext.refl w
  have hW := Ext.refl w
  have a1 := inI_ms (ms_o hv)
  have a2 := inI_ms (ms_h hv)
  have j0 := hv.1
  have m := mkB_of (ms_o hv) (ms_h hv)
  cases i : isB v
  · have j : ¬ v < 4294967296 := by rw [← isB_iff, i]; decide
    have j2 : (4294967296 : Int) ≤ v := by omega
    have f : freeB v = false := by simp [freeB, i]
    have e : mkW (oW v) (hW' v) = 0 := by
      have i2 : ¬ isB v = true := by rw [i]; decide
      rw [show oW v = -1 by unfold oW; rw [if_neg i2], show hW' v = -1 by unfold hW'; rw [if_neg i2]]
      exact mk_none
    go_enter Tryd.func5, Tryd.ntmps5
    go_wp2_with (first | (go_at_call 7; (with_reducible refine (make_any _ _ _ (hG.ext (hX0.trans hW)) a1 a2).mono ?_); rintro e w' ⟨rfl, hb⟩; have hW := Ext.trans2 hW (by repeat (first | exact Ext.refl _ | exact Ext.alloc _ _ | exact Ext.drewN _ _ | assumption | refine Ext.trans ?_ (Ext.alloc _ _) | refine Ext.trans ?_ (Ext.drew _) | refine Ext.trans ?_ (by assumption))) hb; (try have hV := Ext.trans2 hV (by repeat (first | exact Ext.refl _ | exact Ext.alloc _ _ | exact Ext.drewN _ _ | assumption | refine Ext.trans ?_ (Ext.alloc _ _) | refine Ext.trans ?_ (Ext.drew _) | refine Ext.trans ?_ (by assumption))) hb); clear hb) | (go_at_call 10; (with_reducible refine (owner_any _ _ (hG.ext (hX0.trans hW)) hv).mono ?_); rintro e w' ⟨rfl, hb⟩; have hW := Ext.trans2 hW (by repeat (first | exact Ext.refl _ | exact Ext.alloc _ _ | exact Ext.drewN _ _ | assumption | refine Ext.trans ?_ (Ext.alloc _ _) | refine Ext.trans ?_ (Ext.drew _) | refine Ext.trans ?_ (by assumption))) hb; (try have hV := Ext.trans2 hV (by repeat (first | exact Ext.refl _ | exact Ext.alloc _ _ | exact Ext.drewN _ _ | assumption | refine Ext.trans ?_ (Ext.alloc _ _) | refine Ext.trans ?_ (Ext.drew _) | refine Ext.trans ?_ (by assumption))) hb); clear hb) | (go_at_call 11; (with_reducible refine (head_any _ _ (hG.ext (hX0.trans hW)) hv).mono ?_); rintro e w' ⟨rfl, hb⟩; have hW := Ext.trans2 hW (by repeat (first | exact Ext.refl _ | exact Ext.alloc _ _ | exact Ext.drewN _ _ | assumption | refine Ext.trans ?_ (Ext.alloc _ _) | refine Ext.trans ?_ (Ext.drew _) | refine Ext.trans ?_ (by assumption))) hb; (try have hV := Ext.trans2 hV (by repeat (first | exact Ext.refl _ | exact Ext.alloc _ _ | exact Ext.drewN _ _ | assumption | refine Ext.trans ?_ (Ext.alloc _ _) | refine Ext.trans ?_ (Ext.drew _) | refine Ext.trans ?_ (by assumption))) hb); clear hb) | (go_at_call 12; (with_reducible refine (free_any _ _ (hG.ext (hX0.trans hW)) hv).mono ?_); rintro e w' ⟨rfl, hb⟩; have hW := Ext.trans2 hW (by repeat (first | exact Ext.refl _ | exact Ext.alloc _ _ | exact Ext.drewN _ _ | assumption | refine Ext.trans ?_ (Ext.alloc _ _) | refine Ext.trans ?_ (Ext.drew _) | refine Ext.trans ?_ (by assumption))) hb; (try have hV := Ext.trans2 hV (by repeat (first | exact Ext.refl _ | exact Ext.alloc _ _ | exact Ext.drewN _ _ | assumption | refine Ext.trans ?_ (Ext.alloc _ _) | refine Ext.trans ?_ (Ext.drew _) | refine Ext.trans ?_ (by assumption))) hb); clear hb) | (go_at_call 13; (with_reducible refine (alive_any _ (hG.ext (hX0.trans hW))).mono ?_); rintro e w' ⟨rfl, hb⟩; have hW := Ext.trans2 hW (by repeat (first | exact Ext.refl _ | exact Ext.alloc _ _ | exact Ext.drewN _ _ | assumption | refine Ext.trans ?_ (Ext.alloc _ _) | refine Ext.trans ?_ (Ext.drew _) | refine Ext.trans ?_ (by assumption))) hb; (try have hV := Ext.trans2 hV (by repeat (first | exact Ext.refl _ | exact Ext.alloc _ _ | exact Ext.drewN _ _ | assumption | refine Ext.trans ?_ (Ext.alloc _ _) | refine Ext.trans ?_ (Ext.drew _) | refine Ext.trans ?_ (by assumption))) hb); clear hb))
    go_ret
    exact ⟨rfl, (hX0.trans (hW.trans (by repeat (first | exact Ext.refl _ | exact Ext.alloc _ _ | exact Ext.drewN _ _ | assumption | refine Ext.trans ?_ (Ext.alloc _ _) | refine Ext.trans ?_ (Ext.drew _) | refine Ext.trans ?_ (by assumption)))))⟩
  · have j := (isB_iff v).1 i
    have j2 : ¬ (4294967296 : Int) ≤ v := by omega
    have e := mk_back hv i
    go_enter Tryd.func5, Tryd.ntmps5
    go_wp2_with (first | (go_at_call 7; (with_reducible refine (make_any _ _ _ (hG.ext (hX0.trans hW)) a1 a2).mono ?_); rintro e w' ⟨rfl, hb⟩; have hW := Ext.trans2 hW (by repeat (first | exact Ext.refl _ | exact Ext.alloc _ _ | exact Ext.drewN _ _ | assumption | refine Ext.trans ?_ (Ext.alloc _ _) | refine Ext.trans ?_ (Ext.drew _) | refine Ext.trans ?_ (by assumption))) hb; (try have hV := Ext.trans2 hV (by repeat (first | exact Ext.refl _ | exact Ext.alloc _ _ | exact Ext.drewN _ _ | assumption | refine Ext.trans ?_ (Ext.alloc _ _) | refine Ext.trans ?_ (Ext.drew _) | refine Ext.trans ?_ (by assumption))) hb); clear hb) | (go_at_call 10; (with_reducible refine (owner_any _ _ (hG.ext (hX0.trans hW)) hv).mono ?_); rintro e w' ⟨rfl, hb⟩; have hW := Ext.trans2 hW (by repeat (first | exact Ext.refl _ | exact Ext.alloc _ _ | exact Ext.drewN _ _ | assumption | refine Ext.trans ?_ (Ext.alloc _ _) | refine Ext.trans ?_ (Ext.drew _) | refine Ext.trans ?_ (by assumption))) hb; (try have hV := Ext.trans2 hV (by repeat (first | exact Ext.refl _ | exact Ext.alloc _ _ | exact Ext.drewN _ _ | assumption | refine Ext.trans ?_ (Ext.alloc _ _) | refine Ext.trans ?_ (Ext.drew _) | refine Ext.trans ?_ (by assumption))) hb); clear hb) | (go_at_call 11; (with_reducible refine (head_any _ _ (hG.ext (hX0.trans hW)) hv).mono ?_); rintro e w' ⟨rfl, hb⟩; have hW := Ext.trans2 hW (by repeat (first | exact Ext.refl _ | exact Ext.alloc _ _ | exact Ext.drewN _ _ | assumption | refine Ext.trans ?_ (Ext.alloc _ _) | refine Ext.trans ?_ (Ext.drew _) | refine Ext.trans ?_ (by assumption))) hb; (try have hV := Ext.trans2 hV (by repeat (first | exact Ext.refl _ | exact Ext.alloc _ _ | exact Ext.drewN _ _ | assumption | refine Ext.trans ?_ (Ext.alloc _ _) | refine Ext.trans ?_ (Ext.drew _) | refine Ext.trans ?_ (by assumption))) hb); clear hb) | (go_at_call 12; (with_reducible refine (free_any _ _ (hG.ext (hX0.trans hW)) hv).mono ?_); rintro e w' ⟨rfl, hb⟩; have hW := Ext.trans2 hW (by repeat (first | exact Ext.refl _ | exact Ext.alloc _ _ | exact Ext.drewN _ _ | assumption | refine Ext.trans ?_ (Ext.alloc _ _) | refine Ext.trans ?_ (Ext.drew _) | refine Ext.trans ?_ (by assumption))) hb; (try have hV := Ext.trans2 hV (by repeat (first | exact Ext.refl _ | exact Ext.alloc _ _ | exact Ext.drewN _ _ | assumption | refine Ext.trans ?_ (Ext.alloc _ _) | refine Ext.trans ?_ (Ext.drew _) | refine Ext.trans ?_ (by assumption))) hb); clear hb) | (go_at_call 13; (with_reducible refine (alive_any _ (hG.ext (hX0.trans hW))).mono ?_); rintro e w' ⟨rfl, hb⟩; have hW := Ext.trans2 hW (by repeat (first | exact Ext.refl _ | exact Ext.alloc _ _ | exact Ext.drewN _ _ | assumption | refine Ext.trans ?_ (Ext.alloc _ _) | refine Ext.trans ?_ (Ext.drew _) | refine Ext.trans ?_ (by assumption))) hb; (try have hV := Ext.trans2 hV (by repeat (first | exact Ext.refl _ | exact Ext.alloc _ _ | exact Ext.drewN _ _ | assumption | refine Ext.trans ?_ (Ext.alloc _ _) | refine Ext.trans ?_ (Ext.drew _) | refine Ext.trans ?_ (by assumption))) hb); clear hb))
    go_ret
    exact ⟨rfl, (hX0.trans (hW.trans (by repeat (first | exact Ext.refl _ | exact Ext.alloc _ _ | exact Ext.drewN _ _ | assumption | refine Ext.trans ?_ (Ext.alloc _ _) | refine Ext.trans ?_ (Ext.drew _) | refine Ext.trans ?_ (by assumption)))))⟩
set_option maxHeartbeats 1000000 in
theorem lturns_any (v t u : Int) (w : World) (hG : Glob w) (hv : InW v) (ht : InI t) (hu : InI u) :
    Calls Tryd.prog 4 #[.int .u64 v, .int .i64 t, .int .i64 u] w fun e w' => e = .returned (.bool true) ∧ Ext w w' := by
  have hX0 := Ext.refl w
  have hW := Ext.refl w
  go_enter Tryd.func4, Tryd.ntmps4
  go_wp2_with (first | (go_at_call 14; (with_reducible refine (take_any _ _ _ (hG.ext (hX0.trans hW)) hv ht).mono ?_); rintro e w' ⟨rfl, hb⟩; have hW := Ext.trans2 hW (by repeat (first | exact Ext.refl _ | exact Ext.alloc _ _ | exact Ext.drewN _ _ | assumption | refine Ext.trans ?_ (Ext.alloc _ _) | refine Ext.trans ?_ (Ext.drew _) | refine Ext.trans ?_ (by assumption))) hb; (try have hV := Ext.trans2 hV (by repeat (first | exact Ext.refl _ | exact Ext.alloc _ _ | exact Ext.drewN _ _ | assumption | refine Ext.trans ?_ (Ext.alloc _ _) | refine Ext.trans ?_ (Ext.drew _) | refine Ext.trans ?_ (by assumption))) hb); clear hb) | (go_at_call 15; (with_reducible refine (rtake_any _ _ _ hv ht).mono ?_); rintro e w' ⟨rfl, hb⟩; have hW := Ext.trans2 hW (by repeat (first | exact Ext.refl _ | exact Ext.alloc _ _ | exact Ext.drewN _ _ | assumption | refine Ext.trans ?_ (Ext.alloc _ _) | refine Ext.trans ?_ (Ext.drew _) | refine Ext.trans ?_ (by assumption))) hb; (try have hV := Ext.trans2 hV (by repeat (first | exact Ext.refl _ | exact Ext.alloc _ _ | exact Ext.drewN _ _ | assumption | refine Ext.trans ?_ (Ext.alloc _ _) | refine Ext.trans ?_ (Ext.drew _) | refine Ext.trans ?_ (by assumption))) hb); clear hb) | (go_at_call 16; (with_reducible refine (push_any _ _ _ (hG.ext (hX0.trans hW)) hv ht).mono ?_); rintro e w' ⟨rfl, hb⟩; have hW := Ext.trans2 hW (by repeat (first | exact Ext.refl _ | exact Ext.alloc _ _ | exact Ext.drewN _ _ | assumption | refine Ext.trans ?_ (Ext.alloc _ _) | refine Ext.trans ?_ (Ext.drew _) | refine Ext.trans ?_ (by assumption))) hb; (try have hV := Ext.trans2 hV (by repeat (first | exact Ext.refl _ | exact Ext.alloc _ _ | exact Ext.drewN _ _ | assumption | refine Ext.trans ?_ (Ext.alloc _ _) | refine Ext.trans ?_ (Ext.drew _) | refine Ext.trans ?_ (by assumption))) hb); clear hb) | (go_at_call 17; (with_reducible refine (rpush_any _ _ _ hv ht).mono ?_); rintro e w' ⟨rfl, hb⟩; have hW := Ext.trans2 hW (by repeat (first | exact Ext.refl _ | exact Ext.alloc _ _ | exact Ext.drewN _ _ | assumption | refine Ext.trans ?_ (Ext.alloc _ _) | refine Ext.trans ?_ (Ext.drew _) | refine Ext.trans ?_ (by assumption))) hb; (try have hV := Ext.trans2 hV (by repeat (first | exact Ext.refl _ | exact Ext.alloc _ _ | exact Ext.drewN _ _ | assumption | refine Ext.trans ?_ (Ext.alloc _ _) | refine Ext.trans ?_ (Ext.drew _) | refine Ext.trans ?_ (by assumption))) hb); clear hb) | (go_at_call 18; (with_reducible refine (drain_any _ _ _ (hG.ext (hX0.trans hW)) hv ht).mono ?_); rintro e w' ⟨rfl, hb⟩; have hW := Ext.trans2 hW (by repeat (first | exact Ext.refl _ | exact Ext.alloc _ _ | exact Ext.drewN _ _ | assumption | refine Ext.trans ?_ (Ext.alloc _ _) | refine Ext.trans ?_ (Ext.drew _) | refine Ext.trans ?_ (by assumption))) hb; (try have hV := Ext.trans2 hV (by repeat (first | exact Ext.refl _ | exact Ext.alloc _ _ | exact Ext.drewN _ _ | assumption | refine Ext.trans ?_ (Ext.alloc _ _) | refine Ext.trans ?_ (Ext.drew _) | refine Ext.trans ?_ (by assumption))) hb); clear hb) | (go_at_call 19; (with_reducible refine (rdrain_any _ _ _ hv ht).mono ?_); rintro e w' ⟨rfl, hb⟩; have hW := Ext.trans2 hW (by repeat (first | exact Ext.refl _ | exact Ext.alloc _ _ | exact Ext.drewN _ _ | assumption | refine Ext.trans ?_ (Ext.alloc _ _) | refine Ext.trans ?_ (Ext.drew _) | refine Ext.trans ?_ (by assumption))) hb; (try have hV := Ext.trans2 hV (by repeat (first | exact Ext.refl _ | exact Ext.alloc _ _ | exact Ext.drewN _ _ | assumption | refine Ext.trans ?_ (Ext.alloc _ _) | refine Ext.trans ?_ (Ext.drew _) | refine Ext.trans ?_ (by assumption))) hb); clear hb) | (go_at_call 20; (with_reducible refine (hand_any _ _ _ _ (hG.ext (hX0.trans hW)) hv ht hu).mono ?_); rintro e w' ⟨rfl, hb⟩; have hW := Ext.trans2 hW (by repeat (first | exact Ext.refl _ | exact Ext.alloc _ _ | exact Ext.drewN _ _ | assumption | refine Ext.trans ?_ (Ext.alloc _ _) | refine Ext.trans ?_ (Ext.drew _) | refine Ext.trans ?_ (by assumption))) hb; (try have hV := Ext.trans2 hV (by repeat (first | exact Ext.refl _ | exact Ext.alloc _ _ | exact Ext.drewN _ _ | assumption | refine Ext.trans ?_ (Ext.alloc _ _) | refine Ext.trans ?_ (Ext.drew _) | refine Ext.trans ?_ (by assumption))) hb); clear hb) | (go_at_call 21; (with_reducible refine (rhand_any _ _ _ _ hv ht hu).mono ?_); rintro e w' ⟨rfl, hb⟩; have hW := Ext.trans2 hW (by repeat (first | exact Ext.refl _ | exact Ext.alloc _ _ | exact Ext.drewN _ _ | assumption | refine Ext.trans ?_ (Ext.alloc _ _) | refine Ext.trans ?_ (Ext.drew _) | refine Ext.trans ?_ (by assumption))) hb; (try have hV := Ext.trans2 hV (by repeat (first | exact Ext.refl _ | exact Ext.alloc _ _ | exact Ext.drewN _ _ | assumption | refine Ext.trans ?_ (Ext.alloc _ _) | refine Ext.trans ?_ (Ext.drew _) | refine Ext.trans ?_ (by assumption))) hb); clear hb) | (go_at_call 22; (with_reducible refine (release_any _ _ _ (hG.ext (hX0.trans hW)) hv ht).mono ?_); rintro e w' ⟨rfl, hb⟩; have hW := Ext.trans2 hW (by repeat (first | exact Ext.refl _ | exact Ext.alloc _ _ | exact Ext.drewN _ _ | assumption | refine Ext.trans ?_ (Ext.alloc _ _) | refine Ext.trans ?_ (Ext.drew _) | refine Ext.trans ?_ (by assumption))) hb; (try have hV := Ext.trans2 hV (by repeat (first | exact Ext.refl _ | exact Ext.alloc _ _ | exact Ext.drewN _ _ | assumption | refine Ext.trans ?_ (Ext.alloc _ _) | refine Ext.trans ?_ (Ext.drew _) | refine Ext.trans ?_ (by assumption))) hb); clear hb) | (go_at_call 23; (with_reducible refine (rrelease_any _ _ _ hv ht).mono ?_); rintro e w' ⟨rfl, hb⟩; have hW := Ext.trans2 hW (by repeat (first | exact Ext.refl _ | exact Ext.alloc _ _ | exact Ext.drewN _ _ | assumption | refine Ext.trans ?_ (Ext.alloc _ _) | refine Ext.trans ?_ (Ext.drew _) | refine Ext.trans ?_ (by assumption))) hb; (try have hV := Ext.trans2 hV (by repeat (first | exact Ext.refl _ | exact Ext.alloc _ _ | exact Ext.drewN _ _ | assumption | refine Ext.trans ?_ (Ext.alloc _ _) | refine Ext.trans ?_ (Ext.drew _) | refine Ext.trans ?_ (by assumption))) hb); clear hb) | (go_at_call 13; (with_reducible refine (alive_any _ (hG.ext (hX0.trans hW))).mono ?_); rintro e w' ⟨rfl, hb⟩; have hW := Ext.trans2 hW (by repeat (first | exact Ext.refl _ | exact Ext.alloc _ _ | exact Ext.drewN _ _ | assumption | refine Ext.trans ?_ (Ext.alloc _ _) | refine Ext.trans ?_ (Ext.drew _) | refine Ext.trans ?_ (by assumption))) hb; (try have hV := Ext.trans2 hV (by repeat (first | exact Ext.refl _ | exact Ext.alloc _ _ | exact Ext.drewN _ _ | assumption | refine Ext.trans ?_ (Ext.alloc _ _) | refine Ext.trans ?_ (Ext.drew _) | refine Ext.trans ?_ (by assumption))) hb); clear hb))
  go_ret
  exact ⟨rfl, (hX0.trans (hW.trans (by repeat (first | exact Ext.refl _ | exact Ext.alloc _ _ | exact Ext.drewN _ _ | assumption | refine Ext.trans ?_ (Ext.alloc _ _) | refine Ext.trans ?_ (Ext.drew _) | refine Ext.trans ?_ (by assumption)))))⟩

/-- What the calls that are true leave. -/
theorem take_facts {v t : Int} (hv : InW v) (h : takeB v t = true) : InW (takeW v t) ∧ oW (takeW v t) = t ∧ hW' (takeW v t) = hW' v ∧ oW v = -1 ∧ isB v = true := by
  have k := h
  simp only [takeB, Bool.and_eq_true, beq_iff_eq] at k
  obtain ⟨⟨i, j⟩, c⟩ := k
  have m := mkW_in (ms_of_th j) (ms_h hv)
  rw [show takeW v t = mkW t (hW' v) by unfold takeW; rw [if_pos h]]
  exact ⟨m.1, m.2.2.1, m.2.2.2, c, i⟩
theorem push_facts {v t : Int} (hv : InW v) (h : pushB v t = true) : InW (pushW v t) ∧ oW (pushW v t) = oW v ∧ hW' (pushW v t) = t ∧ ¬ oW v = -1 ∧ ¬ oW v = t := by
  have k := h
  simp only [pushB, Bool.and_eq_true, bne_iff_ne] at k
  obtain ⟨⟨i, j⟩, ⟨c, d⟩, e⟩ := k
  have m := mkW_in (ms_o hv) (ms_of_th j)
  rw [show pushW v t = mkW (oW v) t by unfold pushW; rw [if_pos h]]
  exact ⟨m.1, m.2.2.1, m.2.2.2, c, d⟩
theorem drain_facts {v t : Int} (hv : InW v) (h : drainB v t = true) : InW (drainW v t) ∧ oW (drainW v t) = t ∧ hW' (drainW v t) = -1 ∧ oW v = t ∧ ¬ hW' v = -1 ∧ ¬ t = -1 := by
  have k := h
  simp only [drainB, Bool.and_eq_true, bne_iff_ne, beq_iff_eq] at k
  obtain ⟨⟨i, j⟩, c, d⟩ := k
  have m := mkW_in (ms_of_th j) ms_none
  rw [show drainW v t = mkW t (-1) by unfold drainW; rw [if_pos h]]
  exact ⟨m.1, m.2.2.1, m.2.2.2, c, d, by have := (thB_iff t).1 j; omega⟩
theorem hand_facts {v t u : Int} (hv : InW v) (h : handB v t u = true) : InW (handW v t u) ∧ oW (handW v t u) = u ∧ hW' (handW v t u) = hW' v ∧ oW v = t ∧ ¬ t = -1 := by
  have k := h
  simp only [handB, Bool.and_eq_true, bne_iff_ne, beq_iff_eq] at k
  obtain ⟨⟨i, j⟩, c, l, d⟩ := k
  have m := mkW_in (ms_of_th l) (ms_h hv)
  rw [show handW v t u = mkW u (hW' v) by unfold handW; rw [if_pos h]]
  exact ⟨m.1, m.2.2.1, m.2.2.2, c, by have := (thB_iff t).1 j; omega⟩
theorem release_facts {v t : Int} (h : releaseB v t = true) : oW v = t ∧ hW' v = -1 ∧ ¬ t = -1 := by
  have k := h
  simp only [releaseB, Bool.and_eq_true, beq_iff_eq] at k
  obtain ⟨⟨i, j⟩, c, d⟩ := k
  exact ⟨c, d, by have := (thB_iff t).1 j; omega⟩

/-- Which of them may be true beside each other. -/
theorem edges (v t u : Int) (hv : InW v) :
    (takeB v t = true ∧ pushB v t = false ∧ drainB v t = false ∧ handB v t u = false ∧ releaseB v t = false) ∨
    (takeB v t = false ∧ pushB v t = true ∧ drainB v t = false ∧ handB v t u = false ∧ releaseB v t = false) ∨
    (takeB v t = false ∧ pushB v t = false ∧ drainB v t = true ∧ releaseB v t = false) ∨
    (takeB v t = false ∧ pushB v t = false ∧ drainB v t = false ∧ releaseB v t = true) ∨
    (takeB v t = false ∧ pushB v t = false ∧ drainB v t = false ∧ releaseB v t = false) := by
  cases a : takeB v t
  · cases b : pushB v t
    · cases c : drainB v t
      · cases d : releaseB v t <;> simp
      · cases d : releaseB v t
        · simp
        · have := (release_facts d).2.1
          have := (drain_facts hv c).2.2.2.2.1
          omega
    · have f := push_facts hv b
      cases c : drainB v t
      · cases d : releaseB v t
        · cases e : handB v t u
          · simp
          · have := (hand_facts hv e).2.2.2.1; omega
        · have := (release_facts d).1; omega
      · have := (drain_facts hv c).2.2.2.1; omega
  · have f := take_facts hv a
    cases b : pushB v t
    · cases c : drainB v t
      · cases d : releaseB v t
        · cases e : handB v t u
          · simp
          · have := (hand_facts hv e).2.2.2; omega
        · have := release_facts d; omega
      · have := (drain_facts hv c).2.2.2; omega
    · have := push_facts hv b; omega
end Go.Proofs.YtpbjlelbdjopaaaDoor
