/- What stirring, and the reference's powers and ways back, answer. -/
import Derived.Test.YtfcnfeamfolkmaaG1
namespace Go.Proofs.Ytfcnfeamfolkmaa
open Go.RowKit
set_option linter.unusedSimpArgs false
set_option linter.unusedVariables false

theorem wrap_nat (x : Nat) : IntKind.u64.wrap (x : Int) = ((x % two64 : Nat) : Int) := by
  rw [IntKind.wrap_u64]; unfold two64; omega
theorem wrap_small {x : Nat} (h : x < two64) : IntKind.u64.wrap (x : Int) = (x : Int) := by rw [wrap_nat, Nat.mod_eq_of_lt h]
/-- Exclusive or, shifts, products and quotients, as the walk meets them. -/
theorem xor_nat {a b : Nat} (ha : a < two64) (hb : b < two64) : bits .xor .u64 (a : Int) (b : Int) = ((a ^^^ b : Nat) : Int) := u64_xor_nat a b ha hb
theorem mul_nat (k n : Nat) : IntKind.u64.wrap ((n : Int) * ((2 ^ k : Nat) : Int)) = (shl k n : Int) := by
  rw [← Int.natCast_mul, wrap_nat]; rfl
theorem div_nat (k n : Nat) : (n : Int) / ((2 ^ k : Nat) : Int) = (shr k n : Int) := by unfold shr; simp
theorem t1_int {n : Nat} (h : n < two64) : bits .xor .u64 (n : Int) (IntKind.u64.wrap ((n : Int) * 8192)) = (t1 n : Int) := by
  rw [show (8192 : Int) = ((2 ^ 13 : Nat) : Int) from rfl, mul_nat, xor_nat h (shl_lt _ _)]; rfl
theorem t3_int {n : Nat} (h : n < two64) : bits .xor .u64 (n : Int) (IntKind.u64.wrap ((n : Int) * 131072)) = (t3 n : Int) := by
  rw [show (131072 : Int) = ((2 ^ 17 : Nat) : Int) from rfl, mul_nat, xor_nat h (shl_lt _ _)]; rfl
theorem t2_int {n : Nat} (h : n < two64) : bits .xor .u64 (n : Int) ((n : Int) / 128) = (t2 n : Int) := by
  rw [show (128 : Int) = ((2 ^ 7 : Nat) : Int) from rfl, div_nat, xor_nat h (shr_lt _ h)]; rfl
theorem quo_nat (k n : Nat) (h : n < two64) : IntKind.u64.wrap ((n : Int).tdiv ((2 ^ k : Nat) : Int)) = (shr k n : Int) := by
  have e : (n : Int).tdiv ((2 ^ k : Nat) : Int) = ((n / 2 ^ k : Nat) : Int) := rfl
  rw [e]; exact wrap_small (shr_lt k h)
theorem t2_quo {n : Nat} (h : n < two64) : bits .xor .u64 (n : Int) (IntKind.u64.wrap ((n : Int).tdiv 128)) = (t2 n : Int) := by
  rw [show (128 : Int) = ((2 ^ 7 : Nat) : Int) from rfl, quo_nat _ _ h, xor_nat h (shr_lt _ h)]; rfl
/-- A number behind so many turns. -/
def stg (n : Nat) : Nat → Nat
  | 0 => n
  | 1 => t1 n
  | 2 => t2 (t1 n)
  | _ => stN n

theorem turn_any (n : Nat) (w : World) (B : Nat) (hn : n < two64) (h : Blk w B #[.int .i64 13, .int .i64 (-7), .int .i64 17] 3) :
    Calls Try.prog 17 #[.int .u64 n, .slice (some ⟨B, 0, none⟩) 3 3] w fun e w' => e = .returned (.int .u64 (stN n : Int)) ∧ Ext w w' := by
  have r := h.cell
  have E1 := hide (t1_int hn)
  have E2 := hide (t2_int (t1_lt hn))
  have E3 := hide (t3_int (t2_lt (t1_lt hn)))
  go_enter Try.func17, Try.ntmps17
  go_wp2_with fail
  go_loopw [0, 9] (fun v i wr => ∃ k : Nat, k ≤ 3 ∧ i = .int .i64 k ∧ v = .int .u64 (stg n k : Int) ∧ wr = w) (fun _ i _ => 3 - (intOf i).toNat)
  case atStart => exact ⟨0, by omega, rfl, rfl, rfl⟩
  case round =>
    obtain ⟨k, hk, rfl, rfl, rfl⟩ := hrel
    rcases (by omega : k = 0 ∨ k = 1 ∨ k = 2 ∨ k = 3) with rfl | rfl | rfl | rfl
    · rw [show stg n 0 = n from rfl]
      go_wp2_with fail
      go_roundw
      case rel => exact ⟨1, by omega, rfl, by rw [E1.out]; rfl, trivial⟩
      case measure => decide
    · rw [show stg n 1 = t1 n from rfl]
      go_wp2_with fail
      go_roundw
      case rel => exact ⟨2, by omega, rfl, by rw [E2.out]; rfl, trivial⟩
      case measure => decide
    · rw [show stg n 2 = t2 (t1 n) from rfl]
      go_wp2_with fail
      go_roundw
      case rel => exact ⟨3, by omega, rfl, by rw [E3.out]; rfl, trivial⟩
      case measure => decide
    · rw [show stg n 3 = stN n from rfl]
      go_wp2_with fail
      go_ret
      exact ⟨rfl, Ext.refl _⟩
theorem stir_any (n : Nat) (w : World) (hn : n < two64) :
    Calls Try.prog 7 #[.int .u64 n] w fun e w' => e = .returned (.int .u64 (stN n : Int)) ∧ Ext w w' := by
  go_enter Try.func7, Try.ntmps7
  go_wp2_with fail
  refine (turn_any n _ _ hn (Blk.new w _ _)).mono ?_
  rintro e w' ⟨rfl, hb⟩
  go_wp2_with fail
  go_ret
  exact ⟨rfl, (Ext.alloc _ _).trans hb⟩

def pw (k : Nat) : Int := ((2 ^ k : Nat) : Int)
theorem pw_succ (k : Nat) (h : k + 1 ≤ 63) : IntKind.u64.wrap (pw k * 2) = pw (k + 1) := by
  have h1 : (2 : Nat) ^ (k + 1) ≤ 2 ^ 63 := Nat.pow_le_pow_right (by decide) h
  have h2 : pw k * 2 = (((2 : Nat) ^ (k + 1) : Nat) : Int) := by simp [pw, Nat.pow_succ]
  rw [h2, wrap_small (by unfold two64; omega)]; rfl
theorem power_any (k : Int) (w : World) (h0 : 0 ≤ k) (h1 : k ≤ 63) :
    Calls Try.prog 18 #[.int .i64 k] w fun e w' => e = .returned (.int .u64 (pw k.toNat)) ∧ Ext w w' := by
  go_enter Try.func18, Try.ntmps18
  go_wp2
  go_loop [3, 4] (fun n i => ∃ j : Nat, (j : Int) ≤ k ∧ i = .int .i64 j ∧ n = .int .u64 (pw j)) (fun _ i => (k - intOf i).toNat)
  case atStart => exact ⟨0, by omega, rfl, rfl⟩
  case round =>
    obtain ⟨j, hj, rfl, rfl⟩ := hrel
    by_cases hlt : (j : Int) < k
    · have HS := hide (pw_succ j (by omega))
      go_wp2
      go_round
      case rel => exact ⟨j + 1, by omega, by go_num, by rw [HS.out]⟩
      case measure => simp [intOf]; omega
    · have e : k.toNat = j := by omega
      have E := hide e
      clear e
      go_wp2
      go_ret
      exact ⟨by rw [E.out]; rfl, Ext.refl _⟩
theorem power_c (k : Nat) (z r : Int) (w : World) (h1 : k ≤ 63) (hz : z = k) (hr : pw k = r) :
    Calls Try.prog 18 #[.int .i64 z] w fun e w' => e = .returned (.int .u64 r) ∧ Ext w w' := by
  subst hz hr
  have := power_any (k : Int) w (by omega) (by omega)
  rwa [Int.toNat_natCast] at this
theorem rstir_any (n : Nat) (w : World) (hn : n < two64) :
    Calls Try.prog 8 #[.int .u64 n] w fun e w' => e = .returned (.int .u64 (stN n : Int)) ∧ Ext w w' := by
  have E1 := hide (t1_int hn)
  have E2 := hide (t2_quo (t1_lt hn))
  have E3 := hide (t3_int (t2_lt (t1_lt hn)))
  have hX0 := Ext.refl w
  have hW := Ext.refl w
  go_enter Try.func8, Try.ntmps8
  go_wp2_with (first | (go_at_call 18; (with_reducible refine (power_c 13 13 8192 _ (by decide) rfl rfl).mono ?_); rintro e w' ⟨rfl, hb⟩; have hW := Ext.trans2 hW (by repeat (first | exact Ext.refl _ | exact Ext.alloc _ _ | exact Ext.drewN _ _ | assumption | refine Ext.trans ?_ (Ext.alloc _ _) | refine Ext.trans ?_ (Ext.drew _) | refine Ext.trans ?_ (by assumption))) hb; (try have hV := Ext.trans2 hV (by repeat (first | exact Ext.refl _ | exact Ext.alloc _ _ | exact Ext.drewN _ _ | assumption | refine Ext.trans ?_ (Ext.alloc _ _) | refine Ext.trans ?_ (Ext.drew _) | refine Ext.trans ?_ (by assumption))) hb); clear hb) | (go_at_call 18; (with_reducible refine (power_c 7 7 128 _ (by decide) rfl rfl).mono ?_); rintro e w' ⟨rfl, hb⟩; have hW := Ext.trans2 hW (by repeat (first | exact Ext.refl _ | exact Ext.alloc _ _ | exact Ext.drewN _ _ | assumption | refine Ext.trans ?_ (Ext.alloc _ _) | refine Ext.trans ?_ (Ext.drew _) | refine Ext.trans ?_ (by assumption))) hb; (try have hV := Ext.trans2 hV (by repeat (first | exact Ext.refl _ | exact Ext.alloc _ _ | exact Ext.drewN _ _ | assumption | refine Ext.trans ?_ (Ext.alloc _ _) | refine Ext.trans ?_ (Ext.drew _) | refine Ext.trans ?_ (by assumption))) hb); clear hb) | (go_at_call 18; (with_reducible refine (power_c 17 17 131072 _ (by decide) rfl rfl).mono ?_); rintro e w' ⟨rfl, hb⟩; have hW := Ext.trans2 hW (by repeat (first | exact Ext.refl _ | exact Ext.alloc _ _ | exact Ext.drewN _ _ | assumption | refine Ext.trans ?_ (Ext.alloc _ _) | refine Ext.trans ?_ (Ext.drew _) | refine Ext.trans ?_ (by assumption))) hb; (try have hV := Ext.trans2 hV (by repeat (first | exact Ext.refl _ | exact Ext.alloc _ _ | exact Ext.drewN _ _ | assumption | refine Ext.trans ?_ (Ext.alloc _ _) | refine Ext.trans ?_ (Ext.drew _) | refine Ext.trans ?_ (by assumption))) hb); clear hb))
  go_ret
  exact ⟨by simp only [E1.out, E2.out, E3.out, Array.getD]; rfl, (hX0.trans (hW.trans (by repeat (first | exact Ext.refl _ | exact Ext.alloc _ _ | exact Ext.drewN _ _ | assumption | refine Ext.trans ?_ (Ext.alloc _ _) | refine Ext.trans ?_ (Ext.drew _) | refine Ext.trans ?_ (by assumption)))))⟩
theorem right_step {n m : Nat} (k : Nat) (r : Int) (hn : n < two64) (hr : r = ((2 ^ k : Nat) : Int)) (hm : m < two64) : bits .xor .u64 (n : Int) (IntKind.u64.wrap ((m : Int) / r)) = ((n ^^^ shr k m : Nat) : Int) := by
  subst hr
  rw [div_nat, wrap_small (shr_lt _ hm), xor_nat hn (shr_lt _ hm)]
theorem left_step {n m : Nat} (k : Nat) (r : Int) (hn : n < two64) (hr : r = ((2 ^ k : Nat) : Int)) (hm : m < two64) : bits .xor .u64 (n : Int) (IntKind.u64.wrap ((m : Int) * r)) = ((n ^^^ shl k m : Nat) : Int) := by
  subst hr
  rw [mul_nat, xor_nat hn (shl_lt _ _)]
theorem rleft13 (n : Nat) (w : World) (hn : n < two64) :
    Calls Try.prog 21 #[.int .u64 n, .int .i64 13] w fun e w' => e = .returned (.int .u64 (lft 13 n 5 : Int)) ∧ Ext w w' := by
  go_enter Try.func21, Try.ntmps21
  go_wp2_with fail
  go_loopw [5, 6] (fun v i wr => ∃ j : Nat, j ≤ 5 ∧ i = .int .i64 ((13 * j : Nat) : Int) ∧ v = .int .u64 (lft 13 n j : Int) ∧ Ext w wr) (fun _ i _ => 100 - (intOf i).toNat)
  case atStart => exact ⟨0, by omega, rfl, rfl, Ext.refl _⟩
  case round =>
    obtain ⟨j, hj, rfl, rfl, hX0⟩ := hrel
    have hW := Ext.refl wr
    by_cases hlt : j < 5
    · have E := hide (left_step 13 8192 hn (by decide) (lft_lt 13 hn j))
      go_wp2_with (first | (go_at_call 18; (with_reducible refine (power_c 13 13 8192 _ (by decide) rfl rfl).mono ?_); rintro e w' ⟨rfl, hb⟩; have hW := Ext.trans2 hW (by repeat (first | exact Ext.refl _ | exact Ext.alloc _ _ | exact Ext.drewN _ _ | assumption | refine Ext.trans ?_ (Ext.alloc _ _) | refine Ext.trans ?_ (Ext.drew _) | refine Ext.trans ?_ (by assumption))) hb; (try have hV := Ext.trans2 hV (by repeat (first | exact Ext.refl _ | exact Ext.alloc _ _ | exact Ext.drewN _ _ | assumption | refine Ext.trans ?_ (Ext.alloc _ _) | refine Ext.trans ?_ (Ext.drew _) | refine Ext.trans ?_ (by assumption))) hb); clear hb) | (go_at_call 18; (with_reducible refine (power_c 7 7 128 _ (by decide) rfl rfl).mono ?_); rintro e w' ⟨rfl, hb⟩; have hW := Ext.trans2 hW (by repeat (first | exact Ext.refl _ | exact Ext.alloc _ _ | exact Ext.drewN _ _ | assumption | refine Ext.trans ?_ (Ext.alloc _ _) | refine Ext.trans ?_ (Ext.drew _) | refine Ext.trans ?_ (by assumption))) hb; (try have hV := Ext.trans2 hV (by repeat (first | exact Ext.refl _ | exact Ext.alloc _ _ | exact Ext.drewN _ _ | assumption | refine Ext.trans ?_ (Ext.alloc _ _) | refine Ext.trans ?_ (Ext.drew _) | refine Ext.trans ?_ (by assumption))) hb); clear hb) | (go_at_call 18; (with_reducible refine (power_c 17 17 131072 _ (by decide) rfl rfl).mono ?_); rintro e w' ⟨rfl, hb⟩; have hW := Ext.trans2 hW (by repeat (first | exact Ext.refl _ | exact Ext.alloc _ _ | exact Ext.drewN _ _ | assumption | refine Ext.trans ?_ (Ext.alloc _ _) | refine Ext.trans ?_ (Ext.drew _) | refine Ext.trans ?_ (by assumption))) hb; (try have hV := Ext.trans2 hV (by repeat (first | exact Ext.refl _ | exact Ext.alloc _ _ | exact Ext.drewN _ _ | assumption | refine Ext.trans ?_ (Ext.alloc _ _) | refine Ext.trans ?_ (Ext.drew _) | refine Ext.trans ?_ (by assumption))) hb); clear hb))
      go_roundw
      case rel => exact ⟨j + 1, by omega, by go_num, by rw [E.out]; rfl, hX0.trans hW⟩
      case measure => simp [intOf]; omega
    · have e : j = 5 := by omega
      subst e
      go_wp2_with fail
      go_ret
      exact ⟨rfl, hX0⟩
theorem rleft17 (n : Nat) (w : World) (hn : n < two64) :
    Calls Try.prog 21 #[.int .u64 n, .int .i64 17] w fun e w' => e = .returned (.int .u64 (lft 17 n 4 : Int)) ∧ Ext w w' := by
  go_enter Try.func21, Try.ntmps21
  go_wp2_with fail
  go_loopw [5, 6] (fun v i wr => ∃ j : Nat, j ≤ 4 ∧ i = .int .i64 ((17 * j : Nat) : Int) ∧ v = .int .u64 (lft 17 n j : Int) ∧ Ext w wr) (fun _ i _ => 100 - (intOf i).toNat)
  case atStart => exact ⟨0, by omega, rfl, rfl, Ext.refl _⟩
  case round =>
    obtain ⟨j, hj, rfl, rfl, hX0⟩ := hrel
    have hW := Ext.refl wr
    by_cases hlt : j < 4
    · have E := hide (left_step 17 131072 hn (by decide) (lft_lt 17 hn j))
      go_wp2_with (first | (go_at_call 18; (with_reducible refine (power_c 13 13 8192 _ (by decide) rfl rfl).mono ?_); rintro e w' ⟨rfl, hb⟩; have hW := Ext.trans2 hW (by repeat (first | exact Ext.refl _ | exact Ext.alloc _ _ | exact Ext.drewN _ _ | assumption | refine Ext.trans ?_ (Ext.alloc _ _) | refine Ext.trans ?_ (Ext.drew _) | refine Ext.trans ?_ (by assumption))) hb; (try have hV := Ext.trans2 hV (by repeat (first | exact Ext.refl _ | exact Ext.alloc _ _ | exact Ext.drewN _ _ | assumption | refine Ext.trans ?_ (Ext.alloc _ _) | refine Ext.trans ?_ (Ext.drew _) | refine Ext.trans ?_ (by assumption))) hb); clear hb) | (go_at_call 18; (with_reducible refine (power_c 7 7 128 _ (by decide) rfl rfl).mono ?_); rintro e w' ⟨rfl, hb⟩; have hW := Ext.trans2 hW (by repeat (first | exact Ext.refl _ | exact Ext.alloc _ _ | exact Ext.drewN _ _ | assumption | refine Ext.trans ?_ (Ext.alloc _ _) | refine Ext.trans ?_ (Ext.drew _) | refine Ext.trans ?_ (by assumption))) hb; (try have hV := Ext.trans2 hV (by repeat (first | exact Ext.refl _ | exact Ext.alloc _ _ | exact Ext.drewN _ _ | assumption | refine Ext.trans ?_ (Ext.alloc _ _) | refine Ext.trans ?_ (Ext.drew _) | refine Ext.trans ?_ (by assumption))) hb); clear hb) | (go_at_call 18; (with_reducible refine (power_c 17 17 131072 _ (by decide) rfl rfl).mono ?_); rintro e w' ⟨rfl, hb⟩; have hW := Ext.trans2 hW (by repeat (first | exact Ext.refl _ | exact Ext.alloc _ _ | exact Ext.drewN _ _ | assumption | refine Ext.trans ?_ (Ext.alloc _ _) | refine Ext.trans ?_ (Ext.drew _) | refine Ext.trans ?_ (by assumption))) hb; (try have hV := Ext.trans2 hV (by repeat (first | exact Ext.refl _ | exact Ext.alloc _ _ | exact Ext.drewN _ _ | assumption | refine Ext.trans ?_ (Ext.alloc _ _) | refine Ext.trans ?_ (Ext.drew _) | refine Ext.trans ?_ (by assumption))) hb); clear hb))
      go_roundw
      case rel => exact ⟨j + 1, by omega, by go_num, by rw [E.out]; rfl, hX0.trans hW⟩
      case measure => simp [intOf]; omega
    · have e : j = 4 := by omega
      subst e
      go_wp2_with fail
      go_ret
      exact ⟨rfl, hX0⟩
theorem rright7 (n : Nat) (w : World) (hn : n < two64) :
    Calls Try.prog 22 #[.int .u64 n, .int .i64 7] w fun e w' => e = .returned (.int .u64 (rgt 7 n 10 : Int)) ∧ Ext w w' := by
  go_enter Try.func22, Try.ntmps22
  go_wp2_with fail
  go_loopw [5, 6] (fun v i wr => ∃ j : Nat, j ≤ 10 ∧ i = .int .i64 ((7 * j : Nat) : Int) ∧ v = .int .u64 (rgt 7 n j : Int) ∧ Ext w wr) (fun _ i _ => 100 - (intOf i).toNat)
  case atStart => exact ⟨0, by omega, rfl, rfl, Ext.refl _⟩
  case round =>
    obtain ⟨j, hj, rfl, rfl, hX0⟩ := hrel
    have hW := Ext.refl wr
    by_cases hlt : j < 10
    · have E := hide (right_step 7 128 hn (by decide) (rgt_lt 7 hn j))
      go_wp2_with (first | (go_at_call 18; (with_reducible refine (power_c 13 13 8192 _ (by decide) rfl rfl).mono ?_); rintro e w' ⟨rfl, hb⟩; have hW := Ext.trans2 hW (by repeat (first | exact Ext.refl _ | exact Ext.alloc _ _ | exact Ext.drewN _ _ | assumption | refine Ext.trans ?_ (Ext.alloc _ _) | refine Ext.trans ?_ (Ext.drew _) | refine Ext.trans ?_ (by assumption))) hb; (try have hV := Ext.trans2 hV (by repeat (first | exact Ext.refl _ | exact Ext.alloc _ _ | exact Ext.drewN _ _ | assumption | refine Ext.trans ?_ (Ext.alloc _ _) | refine Ext.trans ?_ (Ext.drew _) | refine Ext.trans ?_ (by assumption))) hb); clear hb) | (go_at_call 18; (with_reducible refine (power_c 7 7 128 _ (by decide) rfl rfl).mono ?_); rintro e w' ⟨rfl, hb⟩; have hW := Ext.trans2 hW (by repeat (first | exact Ext.refl _ | exact Ext.alloc _ _ | exact Ext.drewN _ _ | assumption | refine Ext.trans ?_ (Ext.alloc _ _) | refine Ext.trans ?_ (Ext.drew _) | refine Ext.trans ?_ (by assumption))) hb; (try have hV := Ext.trans2 hV (by repeat (first | exact Ext.refl _ | exact Ext.alloc _ _ | exact Ext.drewN _ _ | assumption | refine Ext.trans ?_ (Ext.alloc _ _) | refine Ext.trans ?_ (Ext.drew _) | refine Ext.trans ?_ (by assumption))) hb); clear hb) | (go_at_call 18; (with_reducible refine (power_c 17 17 131072 _ (by decide) rfl rfl).mono ?_); rintro e w' ⟨rfl, hb⟩; have hW := Ext.trans2 hW (by repeat (first | exact Ext.refl _ | exact Ext.alloc _ _ | exact Ext.drewN _ _ | assumption | refine Ext.trans ?_ (Ext.alloc _ _) | refine Ext.trans ?_ (Ext.drew _) | refine Ext.trans ?_ (by assumption))) hb; (try have hV := Ext.trans2 hV (by repeat (first | exact Ext.refl _ | exact Ext.alloc _ _ | exact Ext.drewN _ _ | assumption | refine Ext.trans ?_ (Ext.alloc _ _) | refine Ext.trans ?_ (Ext.drew _) | refine Ext.trans ?_ (by assumption))) hb); clear hb))
      go_roundw
      case rel => exact ⟨j + 1, by omega, by go_num, by rw [E.out]; rfl, hX0.trans hW⟩
      case measure => simp [intOf]; omega
    · have e : j = 10 := by omega
      subst e
      go_wp2_with fail
      go_ret
      exact ⟨rfl, hX0⟩
theorem rback_any (n : Nat) (w : World) (hn : n < two64) :
    Calls Try.prog 16 #[.int .u64 n] w fun e w' => e = .returned (.int .u64 (backN n : Int)) ∧ Ext w w' := by
  have h1 := lft_lt 17 hn 4
  have h2 := rgt_lt 7 h1 10
  have hX0 := Ext.refl w
  have hW := Ext.refl w
  go_enter Try.func16, Try.ntmps16
  go_wp2_with (first | (go_at_call 21; (with_reducible refine (rleft17 _ _ hn).mono ?_); rintro e w' ⟨rfl, hb⟩; have hW := Ext.trans2 hW (by repeat (first | exact Ext.refl _ | exact Ext.alloc _ _ | exact Ext.drewN _ _ | assumption | refine Ext.trans ?_ (Ext.alloc _ _) | refine Ext.trans ?_ (Ext.drew _) | refine Ext.trans ?_ (by assumption))) hb; (try have hV := Ext.trans2 hV (by repeat (first | exact Ext.refl _ | exact Ext.alloc _ _ | exact Ext.drewN _ _ | assumption | refine Ext.trans ?_ (Ext.alloc _ _) | refine Ext.trans ?_ (Ext.drew _) | refine Ext.trans ?_ (by assumption))) hb); clear hb) | (go_at_call 22; (with_reducible refine (rright7 _ _ h1).mono ?_); rintro e w' ⟨rfl, hb⟩; have hW := Ext.trans2 hW (by repeat (first | exact Ext.refl _ | exact Ext.alloc _ _ | exact Ext.drewN _ _ | assumption | refine Ext.trans ?_ (Ext.alloc _ _) | refine Ext.trans ?_ (Ext.drew _) | refine Ext.trans ?_ (by assumption))) hb; (try have hV := Ext.trans2 hV (by repeat (first | exact Ext.refl _ | exact Ext.alloc _ _ | exact Ext.drewN _ _ | assumption | refine Ext.trans ?_ (Ext.alloc _ _) | refine Ext.trans ?_ (Ext.drew _) | refine Ext.trans ?_ (by assumption))) hb); clear hb) | (go_at_call 21; (with_reducible refine (rleft13 _ _ h2).mono ?_); rintro e w' ⟨rfl, hb⟩; have hW := Ext.trans2 hW (by repeat (first | exact Ext.refl _ | exact Ext.alloc _ _ | exact Ext.drewN _ _ | assumption | refine Ext.trans ?_ (Ext.alloc _ _) | refine Ext.trans ?_ (Ext.drew _) | refine Ext.trans ?_ (by assumption))) hb; (try have hV := Ext.trans2 hV (by repeat (first | exact Ext.refl _ | exact Ext.alloc _ _ | exact Ext.drewN _ _ | assumption | refine Ext.trans ?_ (Ext.alloc _ _) | refine Ext.trans ?_ (Ext.drew _) | refine Ext.trans ?_ (by assumption))) hb); clear hb))
  go_ret
  exact ⟨rfl, (hX0.trans (hW.trans (by repeat (first | exact Ext.refl _ | exact Ext.alloc _ _ | exact Ext.drewN _ _ | assumption | refine Ext.trans ?_ (Ext.alloc _ _) | refine Ext.trans ?_ (Ext.drew _) | refine Ext.trans ?_ (by assumption)))))⟩
end Go.Proofs.Ytfcnfeamfolkmaa
