/- The document's What: three loops. -/
import Derived.Test.YtdcdjjdjgpfmdaaR1
namespace Go.Proofs.Ytdcdjjdjgpfmdaa
open Go.RowKit
set_option linter.unusedSimpArgs false
set_option linter.unusedVariables false
set_option maxRecDepth 100000
set_option maxHeartbeats 8000000

/-- What the loops have found so far: nothing ahead of this place. -/
def Fk (a : Int) (k : Nat) : Prop := 1 ≤ k ∧ k ≤ 8 ∧ (kN a = 0 ∨ (k : Int) ≤ kN a)
def Fi (a : Int) (k i : Nat) : Prop := 1 ≤ k ∧ k ≤ 7 ∧ (i : Int) ≤ mostI k ∧ (kN a = 0 ∨ (k : Int) < kN a ∨ (kN a = k ∧ (i : Int) ≤ iN a))
def Fj (a : Int) (k i j : Nat) : Prop := 1 ≤ k ∧ k ≤ 7 ∧ (i : Int) < mostI k ∧ j ≤ 8 ∧ (kN a = 0 ∨ (k : Int) < kN a ∨ (kN a = k ∧ (i : Int) < iN a) ∨ (kN a = k ∧ iN a = i ∧ (j : Int) ≤ jN a))
section
variable {a : Int} {k i j : Nat}
theorem mostI_rng {k : Int} (h : ¬ (k < 1 ∨ 7 < k)) : 4 ≤ mostI k ∧ mostI k ≤ 16 := by
  rcases kinds h with rfl | rfl | rfl | rfl | rfl | rfl | rfl <;> decide
theorem begI_rng {k : Int} (h : ¬ (k < 1 ∨ 7 < k)) : 0 ≤ begI k ∧ begI k ≤ 64 := by
  rcases kinds h with rfl | rfl | rfl | rfl | rfl | rfl | rfl <;> decide
theorem at_valid {k i j : Int} (h : ¬ (k < 1 ∨ 7 < k)) (h1 : 0 ≤ i) (h2 : i < mostI k) (h3 : 0 ≤ j) (h4 : j ≤ 7) : ¬ atS k i j = -1 := by
  have := begI_rng h
  unfold atS
  rw [if_neg (by omega)]
  split
  · rw [if_neg (by omega)]; omega
  · omega
theorem Fk.start : Fk a 1 := ⟨by omega, by omega, by have := kN_rng a; omega⟩
theorem Fk.inn (h : Fk a k) (hk : k ≤ 7) : Fi a k 0 := by
  obtain ⟨h1, h2, h3⟩ := h
  have := mostI_rng (k := k) (by omega)
  have := iN_rng a
  exact ⟨h1, hk, by omega, by omega⟩
theorem Fi.out (h : Fi a k i) (hi : ¬ (i : Int) < mostI k) : Fk a (k + 1) := by
  obtain ⟨h1, h2, h3, h4⟩ := h
  have hr := iN_rng a
  refine ⟨by omega, by omega, ?_⟩
  rcases h4 with h | h | ⟨h, h'⟩
  · exact .inl h
  · right; omega
  · rw [h] at hr; omega
theorem Fi.inn (h : Fi a k i) (hi : (i : Int) < mostI k) : Fj a k i 0 := by
  obtain ⟨h1, h2, h3, h4⟩ := h
  have := jN_rng a
  exact ⟨h1, h2, hi, by omega, by omega⟩
theorem Fj.out (h : Fj a k i j) (hj : ¬ j < 8) : Fi a k (i + 1) := by
  obtain ⟨h1, h2, h3, h4, h5⟩ := h
  have := jN_rng a
  exact ⟨h1, h2, by omega, by omega⟩
theorem Fj.no (h : Fj a k i j) (hj : j < 8) (hx : ¬ a = atS k i j) : Fj a k i (j + 1) := by
  obtain ⟨h1, h2, h3, h4, h5⟩ := h
  refine ⟨h1, h2, h3, by omega, ?_⟩
  rcases h5 with h | h | h | ⟨e1, e2, e3⟩
  · exact .inl h
  · exact .inr (.inl h)
  · exact .inr (.inr (.inl h))
  · refine .inr (.inr (.inr ⟨e1, e2, ?_⟩))
    have hne : ¬ (j : Int) = jN a := fun e => hx (by
      have := at_what (a := a) (by omega)
      rw [e1, e2, ← e] at this
      exact this.symm)
    omega
theorem Fj.yes (h : Fj a k i j) (hj : j < 8) (hx : a = atS k i j) : kN a = k ∧ iN a = i ∧ jN a = j := by
  obtain ⟨h1, h2, h3, h4, h5⟩ := h
  have hv := at_valid (k := k) (i := i) (j := j) (by omega) (by omega) h3 (by omega) (by omega)
  obtain ⟨w1, w2, w3, _⟩ := what_at hv
  rw [← hx] at w1 w2 w3
  refine ⟨w1, w2, ?_⟩
  have := jN_rng a
  split at w3
  · exact w3
  · omega
theorem Fk.none (h : Fk a k) (hk : ¬ k ≤ 7) : kN a = 0 ∧ iN a = 0 ∧ jN a = 0 := by
  obtain ⟨h1, h2, h3⟩ := h
  have := kN_rng a
  have e : kN a = 0 := by omega
  exact ⟨e, iN_0 e, jN_0 (by omega)⟩
end
theorem rwhat_any (a : Int) (w : World) : Calls Try.prog 8 #[.int .i64 a] w fun e w' => e = .returned (.tuple #[.int .i64 (kN a), .int .i64 (iN a), .int .i64 (jN a)]) ∧ Ext w w' := by
  have hX0 := Ext.refl w
  go_enter Try.func8, Try.ntmps8
  go_wp2_with fail
  go_loopw [5] (fun i wr => ∃ k : Nat, Fk a k ∧ i = .int .i64 (k : Int) ∧ Ext w wr) (fun i _ => 8 - (intOf i).toNat)
  case atStart => exact ⟨1, Fk.start, rfl, hX0⟩
  case round =>
    clear hX0
    obtain ⟨k, HF, rfl, hX⟩ := hrel
    have HF := hide HF
    have HX := hide hX
    by_cases hk : k ≤ 7
    · have hk1 : 1 ≤ k := HF.out.1
      have HI := hide (HF.out.inn hk)
      have HF := HF.out.2
      go_wp2_with fail
      clear HF
      go_loopw [6] (fun i wr => ∃ z : Nat, Fi a k z ∧ i = .int .i64 (z : Int) ∧ Ext w wr) (fun i _ => 16 - (intOf i).toNat)
      case atStart => exact ⟨0, HI.out, rfl, HX.out⟩
      case round =>
        clear HX hX HI
        obtain ⟨z, HI, rfl, hX⟩ := hrel
        have HI := hide HI
        have HX := hide hX
        have hm := mostI_rng (k := k) (by omega)
        obtain ⟨M, hM⟩ : ∃ M, M = mostI k := ⟨_, rfl⟩
        have CM := hide (fun w => rmost_any (k := k) (by omega) w)
        rw [← hM] at hm CM
        by_cases hz : (z : Int) < M
        · have HJ := hide (HI.out.inn (by rw [← hM]; exact hz))
          clear hX
          go_wp2_with (go_at_call 15; (with_reducible refine (CM.out _).mono ?_); rintro e w1 ⟨rfl, hb⟩; have HX := hide (HX.out.trans hb); clear hb; go_frame)
          go_loopw [7] (fun i wr => ∃ y : Nat, Fj a k z y ∧ i = .int .i64 (y : Int) ∧ Ext w wr) (fun i _ => 8 - (intOf i).toNat)
          case atStart => exact ⟨0, HJ.out, rfl, HX.out⟩
          case round =>
            clear HX HJ
            obtain ⟨y, HJ, rfl, HX⟩ := hrel
            have HJ := hide HJ
            have HX := hide HX
            by_cases hy : y < 8
            · have CA := hide (fun w => rat_any k z y w)
              obtain ⟨x, hx⟩ : ∃ x, x = atS k z y := ⟨_, rfl⟩
              rw [← hx] at CA
              by_cases hax : a = x
              · have E := hide (HJ.out.yes hy (hax.trans hx))
                clear HJ hx
                go_wp2_with (go_at_call 10; (with_reducible refine (CA.out _).mono ?_); rintro e w1 ⟨rfl, hb⟩; have HX := hide (HX.out.trans hb); clear hb; go_frame)
                go_ret3
                refine ⟨?_, HX.out⟩
                rw [E.out.1, E.out.2.1, E.out.2.2]
                rfl
              · have HJ := hide (HJ.out.no hy (fun e => hax (e.trans hx.symm)))
                clear hx
                go_wp2_with (go_at_call 10; (with_reducible refine (CA.out _).mono ?_); rintro e w1 ⟨rfl, hb⟩; have HX := hide (HX.out.trans hb); clear hb; go_frame)
                go_roundw
                case rel => exact ⟨y + 1, HJ.out, by go_num, HX.out⟩
                case measure => simp [intOf]; omega
            · have HI := hide (HJ.out.out hy)
              clear HJ
              go_wp2_with fail
              exact ⟨⟨z + 1, HI.out, by go_num, HX.out⟩, by simp [intOf]; omega⟩
        · have HK := hide (HI.out.out (by rw [← hM]; exact hz))
          clear hX
          go_wp2_with (go_at_call 15; (with_reducible refine (CM.out _).mono ?_); rintro e w1 ⟨rfl, hb⟩; have HX := hide (HX.out.trans hb); clear hb; go_frame)
          exact ⟨⟨k + 1, HK.out, by go_num, HX.out⟩, by simp [intOf]; omega⟩
    · obtain ⟨e1, e2, e3⟩ := HF.out.none hk
      have hk8 : k = 8 := by have := HF.out.2.1; omega
      subst hk8
      have E := hide (And.intro e1 (And.intro e2 e3))
      clear e1 e2 e3
      go_wp2_with fail
      go_ret3
      refine ⟨?_, HX.out⟩
      rw [E.out.1, E.out.2.1, E.out.2.2]
      rfl
end Go.Proofs.Ytdcdjjdjgpfmdaa
