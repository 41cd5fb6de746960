/- The library's count of bits; the program's Len. -/
import Derived.Test.YtaglpodilepioaaDoorP5
import Derived.Test.YtaglpodilepioaaDoorA5
namespace Go.Proofs.YtaglpodilepioaaDoor
open Go.RowKit
set_option linter.unusedSimpArgs false
set_option linter.unusedVariables false
set_option maxRecDepth 100000
set_option maxHeartbeats 4000000


theorem ones_core (x A B Y C D Z V T1 T2 T3 T4 K : Nat) (w : World)
    (e1 : bits .and .u64 ((x : Int) / 2) 6148914691236517205 = (A : Int)) (e2 : bits .and .u64 (x : Int) 6148914691236517205 = (B : Int)) (e3 : IntKind.u64.wrap ((A : Int) + (B : Int)) = (Y : Int))
    (e4 : bits .and .u64 ((Y : Int) / 4) 3689348814741910323 = (C : Int)) (e5 : bits .and .u64 (Y : Int) 3689348814741910323 = (D : Int)) (e6 : IntKind.u64.wrap ((C : Int) + (D : Int)) = (Z : Int))
    (e7 : IntKind.u64.wrap ((Z : Int) / 16 + (Z : Int)) = (V : Int)) (e8 : bits .and .u64 (V : Int) 1085102592571150095 = (T1 : Int))
    (e9 : IntKind.u64.wrap ((T1 : Int) + (T1 : Int) / 256) = (T2 : Int)) (e10 : IntKind.u64.wrap ((T2 : Int) + (T2 : Int) / 65536) = (T3 : Int)) (e11 : IntKind.u64.wrap ((T3 : Int) + (T3 : Int) / 4294967296) = (T4 : Int))
    (e12 : IntKind.i64.wrap (T4 : Int) = (T4 : Int)) (e13 : bits .and .i64 (T4 : Int) 127 = (K : Int)) :
    Calls Tryd.prog 27 #[.int .u64 (x : Int)] w fun e w' => e = .returned (.int .i64 (K : Int)) ∧ w = w' := by
  go_enter Tryd.func27, Tryd.ntmps27
  go_wp2_with fail
  go_ret
  exact ⟨rfl, rfl⟩
theorem u_lit (a m : Nat) (M : Int) (hM : M = (m : Int)) (ha : a < 18446744073709551616) (hm : m < 18446744073709551616) : bits .and .u64 (a : Int) M = ((a &&& m : Nat) : Int) := by
  rw [hM, bits_and_u64_nat a m ha hm]
theorem i_127 (a : Nat) (ha : a < 9223372036854775808) : bits .and .i64 (a : Int) 127 = ((a % 128 : Nat) : Int) := by
  have h1 : (BitVec.ofInt 64 (a : Int)).toNat = a := by
    rw [BitVec.ofInt_natCast, BitVec.toNat_ofNat]; exact Nat.mod_eq_of_lt (by omega)
  have h2 : (BitVec.ofInt 64 (127 : Int)).toNat = 127 := by decide
  show IntKind.i64.wrap ((BitVec.ofInt 64 (a : Int) &&& BitVec.ofInt 64 (127 : Int)).toNat : Int) = _
  rw [BitVec.toNat_and, h1, h2, show 127 = 2 ^ 7 - 1 from rfl, Nat.and_two_pow_sub_one_eq_mod, IntKind.wrap_i64]
  omega
theorem u_wrap {a : Nat} {M : Int} (h : M = (a : Int)) (ha : a < 18446744073709551616) : IntKind.u64.wrap M = (a : Int) := by
  rw [h, IntKind.wrap_u64]; omega
theorem s1_lt {x : Nat} : s1 8 x < 18446744073709551616 := by
  have h1 : x / 2 &&& rep 85 8 ≤ rep 85 8 := Nat.and_le_right
  have h2 : x &&& rep 85 8 ≤ rep 85 8 := Nat.and_le_right
  have h3 : rep 85 8 = 6148914691236517205 := by decide
  unfold s1
  omega
theorem s2_lt {x : Nat} : s2 8 x < 9000000000000000000 := by
  have h1 : x / 4 &&& rep 51 8 ≤ rep 51 8 := Nat.and_le_right
  have h2 : x &&& rep 51 8 ≤ rep 51 8 := Nat.and_le_right
  have h3 : rep 51 8 = 3689348814741910323 := by decide
  unfold s2
  omega
theorem i_wrap {a : Nat} (ha : a < 9223372036854775808) : IntKind.i64.wrap (a : Int) = (a : Int) := by rw [IntKind.wrap_i64]; omega
theorem cdiv (t n : Nat) (N : Int) (h : N = (n : Int)) : (t : Int) + (t : Int) / N = ((t + t / n : Nat) : Int) := by
  rw [h, Int.natCast_add, Int.natCast_ediv]
theorem cdiv' (t n : Nat) (N : Int) (h : N = (n : Int)) : (t : Int) / N + (t : Int) = ((t / n + t : Nat) : Int) := by
  rw [h, Int.natCast_add, Int.natCast_ediv]
theorem ones_any (f : NS) (w : World) : Calls Tryd.prog 27 #[.int .u64 (wv f : Int)] w fun e w' => e = .returned (.int .i64 (cn f 64 : Int)) ∧ w = w' := by
  have hx := wv_lt f
  have hf : cn f 64 = cn (wv f).testBit 64 := cn_congr fun j hj => by rw [wv_bit]; simp [hj]
  rw [hf]
  generalize wv f = x at *
  obtain ⟨t, ht, t1, t2, t3, t4, t5⟩ := fold_any x
  have hY := s1_lt (x := x)
  have hZ := s2_lt (x := s1 8 x)
  have hA : x / 2 &&& rep 85 8 ≤ s1 8 x := by unfold s1; omega
  have h85 : rep 85 8 = 6148914691236517205 := by decide
  have h51 : rep 51 8 = 3689348814741910323 := by decide
  have h15 : rep 15 8 = 1085102592571150095 := by decide
  unfold T at ht
  have hV : s2 8 (s1 8 x) / 16 + s2 8 (s1 8 x) < 18446744073709551616 := by clear t1 t2 t3 t4 t5; omega
  have e1 := u_lit (x / 2) (rep 85 8) 6148914691236517205 (by rw [h85]; rfl) (by omega) (by rw [h85]; omega)
  have e2 := u_lit x (rep 85 8) 6148914691236517205 (by rw [h85]; rfl) hx (by rw [h85]; omega)
  have e4 := u_lit (s1 8 x / 4) (rep 51 8) 3689348814741910323 (by rw [h51]; rfl) (by omega) (by rw [h51]; omega)
  have e5 := u_lit (s1 8 x) (rep 51 8) 3689348814741910323 (by rw [h51]; rfl) hY (by rw [h51]; omega)
  have e8 := u_lit (s2 8 (s1 8 x) / 16 + s2 8 (s1 8 x)) (rep 15 8) 1085102592571150095 (by rw [h15]; rfl) (by omega) (by rw [h15]; omega)
  rw [show s2 8 (s1 8 x) / 16 + s2 8 (s1 8 x) &&& rep 15 8 = t from ht] at e8
  have e13 := i_127 _ t4
  rw [t5] at e13
  exact ones_core x _ _ (s1 8 x) _ _ (s2 8 (s1 8 x)) _ t (t + t / 256) ((t + t / 256) + (t + t / 256) / 65536) _ _ w (by rw [← e1]; rfl) e2 (u_wrap (Int.natCast_add _ _).symm hY) (by rw [← e4]; rfl) e5 (u_wrap (Int.natCast_add _ _).symm (Nat.lt_trans hZ (by decide)))
    (u_wrap (cdiv' _ 16 16 rfl) hV) e8 (u_wrap (cdiv _ 256 256 rfl) t2) (u_wrap (cdiv _ 65536 65536 rfl) t3) (u_wrap (cdiv _ 4294967296 4294967296 rfl) (Nat.lt_trans t4 (by decide))) (i_wrap t4) e13
/-- How many edges there are. -/
def lenG (E : Gr) : Nat → Nat
  | 0 => 0
  | k + 1 => lenG E k + cn (E k) 64
theorem lenG_le (E : Gr) (k : Nat) : lenG E k ≤ k * 64 := by
  induction k with
  | zero => exact Nat.le_refl _
  | succ k ih => have := cn_le (E k) 64; unfold lenG; omega
theorem len_any (E : Gr) (w : World) : Calls Tryd.prog 16 #[.agg (gc E)] w fun e w' => e = .returned (.int .i64 (lenG E 64 : Int)) ∧ Ext w w' := by
  go_enter Tryd.func16, Tryd.ntmps16
  go_upto_region 1 with fail
  have HB := hide (Blk.new w (gc E) 27)
  have HX := hide (Ext.alloc w (.cells (gc E) 27))
  generalize (w.alloc (.cells (gc E) 27)) = W0 at *
  go_wp2_with (with_reducible refine get_a rfl _ rfl w.heap.size rfl HB.out ?_; go_frame)
  go_loopw [3, 8] (fun x i wr => wr = W0 ∧ ∃ k : Nat, k ≤ 64 ∧ i = .int .i64 (k : Int) ∧ x = .int .i64 (lenG E k : Int)) (fun _ i _ => 64 - (intOf i).toNat)
  case atStart => exact ⟨rfl, 0, by omega, rfl, rfl⟩
  case round =>
    obtain ⟨rfl, k, hk, rfl, rfl⟩ := hrel
    by_cases hlt : k < 64
    · have a1 := run_ixa E hlt
      have hl := lenG_le E k
      have hl2 := cn_le (E k) 64
      have HS := hide (show lenG E (k + 1) = lenG E k + cn (E k) 64 from rfl)
      have HO := hide (ones_any (E k))
      generalize lenG E k = m at *
      generalize cn (E k) 64 = c at *
      go_wp2_with (go_at_call 27; (with_reducible refine (HO.out _).mono ?_); rintro e w' ⟨rfl, rfl⟩; go_frame)
      go_roundw
      case rel => exact ⟨by first | rfl | trivial, k + 1, by omega, by go_num, by rw [HS.out]; go_num⟩
      case measure => simp [intOf]; omega
    · obtain rfl : k = 64 := by omega
      go_wp2_with fail
      go_ret
      exact ⟨rfl, HX.out⟩
end Go.Proofs.YtaglpodilepioaaDoor
