/- The reference's clock: Next, Len. -/
import Derived.Test.YtgfhpgbklcjooaaR1
namespace Go.Proofs.Ytgfhpgbklcjooaa
open Go.RowKit Go.Maps
set_option linter.unusedSimpArgs false
set_option linter.unusedVariables false

def NxL (f : Al) (t : Nat) (b : Int) : Prop := (b = 0 ∧ ∀ s, s < t → f s = 0) ∨ (b ≠ 0 ∧ (∃ s, f s = b) ∧ ∀ s, s < t → f s ≠ 0 → b ≤ f s)
theorem NxL.skip {f : Al} {t : Nat} {b : Int} (h : NxL f t b) (h0 : f t = 0) : NxL f (t + 1) b := by
  rcases h with ⟨h1, h⟩ | ⟨h1, h2, h3⟩
  · refine .inl ⟨h1, fun s hs => ?_⟩
    by_cases e : s = t
    · rw [e]; exact h0
    · exact h s (by omega)
  · refine .inr ⟨h1, h2, fun s hs hne => ?_⟩
    by_cases e : s = t
    · rw [e] at hne; exact absurd h0 hne
    · exact h3 s (by omega) hne
theorem NxL.take {f : Al} {t : Nat} {b : Int} (h : NxL f t b) (h0 : f t ≠ 0) (hb : b = 0 ∨ f t < b) : NxL f (t + 1) (f t) := by
  refine .inr ⟨h0, ⟨t, rfl⟩, fun s hs hne => ?_⟩
  by_cases e : s = t
  · rw [e]; exact Int.le_refl _
  · rcases h with ⟨h1, h⟩ | ⟨h1, h2, h3⟩
    · exact absurd (h s (by omega)) hne
    · have := h3 s (by omega) hne; omega
theorem NxL.keep {f : Al} {t : Nat} {b : Int} (h : NxL f t b) (hb : b ≠ 0) (hlt : ¬ f t < b) : NxL f (t + 1) b := by
  rcases h with ⟨h1, h⟩ | ⟨h1, h2, h3⟩
  · exact absurd h1 hb
  · refine .inr ⟨h1, h2, fun s hs hne => ?_⟩
    by_cases e : s = t
    · rw [e]; omega
    · exact h3 s (by omega) hne
theorem NxL.fin {f : Al} {b : Int} (h : NxL f 256 b) (ok : OkA f) : NxA f b := by
  have far : ∀ s, f s ≠ 0 → s < 256 := fun s hs => by
    rcases Nat.lt_or_ge s 256 with q | q
    · exact q
    · exact absurd (ok.th s q) hs
  rcases h with ⟨h1, h⟩ | ⟨h1, h2, h3⟩
  · refine .inl ⟨h1, fun s => ?_⟩
    by_cases e : f s = 0
    · exact e
    · exact h s (far s e)
  · exact .inr ⟨h1, h2, fun s hs => h3 s (far s hs) hs⟩
set_option maxRecDepth 100000 in
theorem rnext_any {w : World} {R : Nat} {T : Int} {f : Al} (h : RefT w R T f) (ok : OkA f) :
    Calls Try.prog 18 #[.pointer (some ⟨R, 0, none⟩)] w fun e w' => ∃ v, e = .returned (.tuple #[.int .i64 v, .bool (nz v)]) ∧ NxA f v ∧ w = w' := by
  have H := hide h
  go_enter Try.func18, Try.ntmps18
  go_wp2
  go_loop [4, 5] (fun v i => ∃ (t : Nat) (b : Int), t ≤ 256 ∧ i = .int .i64 t ∧ v = .int .i64 b ∧ NxL f t b) (fun _ i => 256 - (intOf i).toNat)
  case atStart => exact ⟨0, 0, by omega, rfl, rfl, .inl ⟨rfl, fun s hs => by omega⟩⟩
  case round =>
    obtain ⟨t, b, ht, rfl, rfl, hN⟩ := hrel
    have HN := hide hN
    clear hN
    by_cases hlt : t < 256
    · have c1 := H.out.l hlt
      by_cases h0 : f t = 0
      · go_wp2
        go_round
        case rel => exact ⟨t + 1, _, by omega, by go_num, rfl, HN.out.skip h0⟩
        case measure => simp [intOf]; omega
      · by_cases hb : b = 0
        · subst hb
          go_wp2
          go_round
          case rel => exact ⟨t + 1, _, by omega, by go_num, rfl, HN.out.take h0 (.inl rfl)⟩
          case measure => simp [intOf]; omega
        · by_cases hl : f t < b
          · go_wp2
            go_round
            case rel => exact ⟨t + 1, _, by omega, by go_num, rfl, HN.out.take h0 (.inr hl)⟩
            case measure => simp [intOf]; omega
          · have q1 : (f t != 0) = true := by simpa using h0
            have q2 : (b == 0) = false := by simpa using hb
            have q3 : decide (f t < b) = false := by simpa using hl
            go_wp2
            go_round
            case rel => exact ⟨t + 1, _, by omega, by go_num, rfl, HN.out.keep hb hl⟩
            case measure => simp [intOf]; omega
    · obtain rfl : t = 256 := by omega
      have hf := HN.out.fin ok
      go_wp2
      go_ret2
      exact ⟨b, by simp [nz], hf, rfl⟩
set_option maxRecDepth 100000 in
theorem rlen_any {w : World} {R : Nat} {T : Int} {f : Al} (h : RefT w R T f) : Calls Try.prog 20 #[.pointer (some ⟨R, 0, none⟩)] w fun e w' => e = .returned (.int .i64 (cntA f)) ∧ w = w' := by
  have H := hide h
  have E := hide (show ((List.range 256).countP (isA f)) = cntA f from rfl)
  go_enter Try.func20, Try.ntmps20
  go_wp2
  go_loop [3, 4] (fun v i => ∃ (t : Nat), t ≤ 256 ∧ i = .int .i64 t ∧ v = .int .i64 (((List.range t).countP (isA f) : Nat) : Int)) (fun _ i => 256 - (intOf i).toNat)
  case atStart => exact ⟨0, by omega, rfl, rfl⟩
  case round =>
    obtain ⟨t, ht, rfl, rfl⟩ := hrel
    have S := hide (show (List.range (t + 1)).countP (isA f) = (List.range t).countP (isA f) + (if isA f t then 1 else 0) by rw [List.range_succ, List.countP_append]; simp)
    have hc : (List.range t).countP (isA f) ≤ t := by
      have := List.countP_le_length (p := isA f) (l := List.range t)
      rwa [List.length_range] at this
    by_cases hlt : t < 256
    · have c1 := H.out.l hlt
      by_cases h0 : f t = 0
      · have S2 := hide (S.out.trans (by rw [show isA f t = false by unfold isA; rw [h0]; rfl]; rfl : _ = (List.range t).countP (isA f)))
        generalize (List.range t).countP (isA f) = q at *
        go_wp2
        go_round
        case rel => exact ⟨t + 1, by omega, by go_num, by rw [S2.out]⟩
        case measure => simp [intOf]; omega
      · have S2 := hide (S.out.trans (by rw [show isA f t = true by unfold isA; simpa using h0]; rfl : _ = (List.range t).countP (isA f) + 1))
        generalize (List.range t).countP (isA f) = q at *
        go_wp2
        go_round
        case rel => exact ⟨t + 1, by omega, by go_num, by rw [S2.out]; go_num⟩
        case measure => simp [intOf]; omega
    · obtain rfl : t = 256 := by omega
      rw [E.out]
      go_wp2
      go_ret
      exact ⟨by simp, rfl⟩
end Go.Proofs.Ytgfhpgbklcjooaa
