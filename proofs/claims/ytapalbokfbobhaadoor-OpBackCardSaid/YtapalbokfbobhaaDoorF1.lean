/- Unpack. -/
import Derived.Test.YtapalbokfbobhaaDoorE5
import Derived.Test.YtapalbokfbobhaaDoorD1
import Derived.Test.YtapalbokfbobhaaDoorTail
namespace Go.Proofs.YtapalbokfbobhaaDoor
open Go.RowKit
set_option linter.unusedSimpArgs false
set_option linter.unusedVariables false
set_option maxRecDepth 100000

theorem and_15 (x : Nat) (h : x < 256) : bits .and .u8 (x : Int) 15 = (x : Int) % 16 := by
  unfold bits
  simp only
  have e : (BitVec.ofInt IntKind.u8.bits (x : Int) &&& BitVec.ofInt IntKind.u8.bits 15).toNat = x % 16 := by
    rw [BitVec.toNat_and]
    have h1 : (BitVec.ofInt IntKind.u8.bits (x : Int)).toNat = x := by
      show (BitVec.ofInt 8 (x : Int)).toNat = x
      rw [BitVec.toNat_ofInt]; omega
    have h2 : (BitVec.ofInt IntKind.u8.bits 15).toNat = 2 ^ 4 - 1 := by decide
    rw [h1, h2, Nat.and_two_pow_sub_one_eq_mod]
  rw [e]
  show IntKind.u8.wrap ((x % 16 : Nat) : Int) = _
  rw [IntKind.wrap_u8]; omega
theorem or_8 (x y : Nat) (h : x < 256) (hy : y < 256) : bits .or .i64 (x : Int) ((y : Int) * 256) = (x : Int) + 256 * (y : Int) := by
  unfold bits
  simp only
  have e : (BitVec.ofInt IntKind.i64.bits (x : Int) ||| BitVec.ofInt IntKind.i64.bits ((y : Int) * 256)).toNat = x + 256 * y := by
    rw [BitVec.toNat_or]
    have h1 : (BitVec.ofInt IntKind.i64.bits (x : Int)).toNat = x := by
      show (BitVec.ofInt 64 (x : Int)).toNat = x
      rw [BitVec.toNat_ofInt]; omega
    have h2 : (BitVec.ofInt IntKind.i64.bits ((y : Int) * 256)).toNat = y <<< 8 := by
      show (BitVec.ofInt 64 ((y : Int) * 256)).toNat = _
      rw [BitVec.toNat_ofInt, Nat.shiftLeft_eq]; omega
    rw [h1, h2, Nat.or_comm, ← Nat.shiftLeft_add_eq_or_of_lt (by omega : x < 2 ^ 8), Nat.shiftLeft_eq]; omega
  rw [e]
  show IntKind.i64.wrap ((x + 256 * y : Nat) : Int) = _
  rw [IntKind.wrap_i64]; omega
theorem unpacked_any (b0 b1 b2 : Nat) (h0 : b0 < 256) (h1 : b1 < 256) (h2 : b2 < 256) (B off n c : Nat) (w : World) (hn : 3 ≤ n)
    (c0 : w.cell? ⟨B, off, none⟩ = some (.int .u8 (b0 : Int))) (c1 : w.cell? ⟨B, off + 1, none⟩ = some (.int .u8 (b1 : Int))) (c2 : w.cell? ⟨B, off + 2, none⟩ = some (.int .u8 (b2 : Int))) :
    Calls Tryd.prog 28 #[.slice (some ⟨B, off, none⟩) n c] w fun e w' => e = .returned (.agg #[.int .i64 ((b0 : Int) % 16), .int .i64 ((b0 : Int) / 16), .int .i64 ((b1 : Int) + 256 * (b2 : Int))]) ∧ Ext w w' := by
  have lB := World.block_lt_of_cell? w _ c0
  have q0 := fun w' (x : Ext w w') => (x.oldCell _ _ lB).trans c0
  have q1 := fun w' (x : Ext w w') => (x.oldCell _ _ lB).trans c1
  have q2 := fun w' (x : Ext w w') => (x.oldCell _ _ lB).trans c2
  have hni : (3 : Int) ≤ (n : Int) := by omega
  have hn0 : (0 : Int) < (n : Int) := by omega
  have hn1 : (1 : Int) < (n : Int) := by omega
  have hn2 : (2 : Int) < (n : Int) := by omega
  have e1 := and_15 b0 h0
  have e2 := or_8 b1 b2 h1 h2
  go_enter Tryd.func28, Tryd.ntmps28
  go_wp2_with fail
  have hX := fun w' (h : Ext (w.alloc (Obj.cells #[.int .i64 0, .int .i64 0, .int .i64 0] 24)) w') => h.boxCell
  have hXf := fun w' (h : Ext (w.alloc (Obj.cells #[.int .i64 0, .int .i64 0, .int .i64 0] 24)) w') => h.boxFree
  have hX0 : Ext w (w.alloc (Obj.cells #[.int .i64 0, .int .i64 0, .int .i64 0] 24)) := Ext.alloc _ _
  generalize w.alloc (Obj.cells #[.int .i64 0, .int .i64 0, .int .i64 0] 24) = W0 at *
  have hW := Ext.refl W0
  have q0 := fun w' (x : Ext W0 w') => q0 w' (hX0.trans x)
  have q1 := fun w' (x : Ext W0 w') => q1 w' (hX0.trans x)
  have q2 := fun w' (x : Ext W0 w') => q2 w' (hX0.trans x)
  have x0 := Ext.refl W0
  have x1 := Ext.drew W0
  go_region
  go_wp2_with fail
  have z0 := hX W0 x0 0
  have z1 := hX W0 x0 1
  have z2 := hX W0 x0 2
  refine bodyPost_ret (v := .agg #[.int .i64 ((b0 : Int) % 16), .int .i64 ((b0 : Int) / 16), .int .i64 ((b1 : Int) + 256 * (b2 : Int))]) (by simp [results, Tryd.results28, go_sem, z0, z1, z2]) rfl ⟨rfl, ?_⟩
  refine Ext.trans ?_ (Ext.drew _)
  repeat (with_reducible refine Ext.set ?_ (by simp) _)
  exact hX0
end Go.Proofs.YtapalbokfbobhaaDoor
