/- What the reference's Code, Read and Older answer. -/
import Derived.Test.YtlgomkocalieeaaGreatDoorWdP4
namespace Go.Proofs.YtlgomkocalieeaaGreatDoor.Wd
set_option maxRecDepth 100000
open Go.RowKit
set_option linter.unusedSimpArgs false
set_option linter.unusedVariables false




theorem u_may {v : Int} (hv : InW v) (h : ¬ uK v = 0) : hMayB (uK v) (uA v) (uE v) (uH v) (uO v) (uR v) (uS v) (uG v) = true := by
  have hv1 := hv.1
  refine decide_eq_true ?_
  unfold hMay
  by_cases h0 : v = 0
  · subst h0; simp [uK, uA, uE, uH, uO, uR, uS, uG]
  by_cases t0 : v % 8 = 0
  · by_cases q : v / 16777216 % 65536 = 0
    · simp [uK, h0, t0, q] at h
    · simp [uK, uA, uE, uH, uO, uR, uS, uG, h0, t0, q]; omega
  by_cases t1 : v % 8 = 1
  · simp [uK, uA, uE, uH, uO, uR, uS, uG, h0, t1]; omega
  by_cases t2 : v % 8 = 2
  · simp [uK, uA, uE, uH, uO, uR, uS, uG, h0, t2]; omega
  by_cases t5 : v % 8 = 5
  · simp [uK, uA, uE, uH, uO, uR, uS, uG, h0, t5]; omega
  · simp [uK, h0, t0, t1, t2, t5] at h

theorem code_u {v : Int} (hv : InW v) (h : ¬ uK v = 0) : codeE (uK v) (uA v) (uE v) (uH v) (uO v) (uR v) (uS v) (uG v) = 0 ∧ codeW (uK v) (uA v) (uE v) (uH v) (uO v) (uR v) (uS v) (uG v) = pI (uK v) (uA v) (uH v) (uO v) (uR v) (uS v) (uG v) (uE v) := by
  unfold codeE codeW
  rw [u_may hv h]
  exact ⟨rfl, rfl⟩
theorem agg_inj {k a e h o r s g k' a' e' h' o' r' s' g' : Int} (H : Value.agg #[.int .i64 (k), .int .u8 (a), .int .u8 (e), .int .u32 (h), .int .u16 (o), .int .u16 (r), .int .u16 (s), .int .u32 (g)] = Value.agg #[.int .i64 (k'), .int .u8 (a'), .int .u8 (e'), .int .u32 (h'), .int .u16 (o'), .int .u16 (r'), .int .u16 (s'), .int .u32 (g')]) : k = k' ∧ a = a' ∧ e = e' ∧ h = h' ∧ o = o' ∧ r = r' ∧ s = s' ∧ g = g' := by simpa using H

theorem q_eq {v : Int} (hv : InW v) (a b c : Int) (ha : 0 < a) (hb : 0 < b) (hc : b ≤ c) (hb2 : b ≤ 18446744073709551616) : (IntKind.u64.wrap (v.tdiv a)).tmod b % c = v / a % b := by
  obtain ⟨h0, h1⟩ := hv
  unfold two64 at h1
  have e1 : v.tdiv a = v / a := Int.tdiv_eq_ediv_of_nonneg h0
  have p0 : 0 ≤ v / a := Int.ediv_nonneg h0 (by omega)
  have p1 : v / a ≤ v := Int.ediv_le_self _ h0
  rw [e1, w_in p0 (by omega), Int.tmod_eq_emod_of_nonneg p0]
  have m0 := Int.emod_nonneg (v / a) (show b ≠ 0 by omega)
  have m1 := Int.emod_lt_of_pos (v / a) hb
  exact Int.emod_eq_of_lt m0 (by omega)

theorem uK_at {v t : Int} (ht : v % 8 = t) (h : t = 1 ∨ t = 2 ∨ t = 5) : ¬ uK v = 0 := by
  have : ¬ v = 0 := by omega
  rcases h with rfl | rfl | rfl <;> simp [uK, this, ht]
end Go.Proofs.YtlgomkocalieeaaGreatDoor.Wd
