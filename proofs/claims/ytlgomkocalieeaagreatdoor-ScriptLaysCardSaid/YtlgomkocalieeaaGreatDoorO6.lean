/- Unpack. -/
import Derived.Test.YtlgomkocalieeaaGreatDoorO4
import Derived.Test.YtlgomkocalieeaaGreatDoorTail
namespace Go.Proofs.YtlgomkocalieeaaGreatDoor
open Go.RowKit
set_option linter.unusedSimpArgs false
set_option linter.unusedVariables false
set_option maxRecDepth 100000

theorem inf_op : (Tryz.prog.info? 53).map (fun i => (i.zero, i.size, i.bytes)) = some (some (.agg #[.int .i64 0, .int .i64 0, .int .i64 0]), 3, 24) := by kernel_rfl
theorem and_15 (x : Nat) (h : x < 256) : bits .and .u8 (x : Int) 15 = (x : Int) % 16 := by
  unfold bits
  simp only
  have e : (BitVec.ofInt IntKind.u8.bits (x : Int) &&& BitVec.ofInt IntKind.u8.bits 15).toNat = x % 16 := by
    rw [BitVec.toNat_and]
    have h1 : (BitVec.ofInt IntKind.u8.bits (x : Int)).toNat = x := by
      show (BitVec.ofInt 8 (x : Int)).toNat = x
      rw [BitVec.toNat_ofInt]; omega
    have h2 : (BitVec.ofInt IntKind.u8.bits 15).toNat = 2 ^ 4 - 1 := by decide
    rw [h1, h2, Nat.and_two_pow_sub_one_eq_mod]
  rw [e]
  show IntKind.u8.wrap ((x % 16 : Nat) : Int) = _
  rw [IntKind.wrap_u8]; omega
theorem or_8 (x y : Nat) (h : x < 256) (hy : y < 256) : bits .or .i64 (x : Int) ((y : Int) * 256) = (x : Int) + 256 * (y : Int) := by
  unfold bits
  simp only
  have e : (BitVec.ofInt IntKind.i64.bits (x : Int) ||| BitVec.ofInt IntKind.i64.bits ((y : Int) * 256)).toNat = x + 256 * y := by
    rw [BitVec.toNat_or]
    have h1 : (BitVec.ofInt IntKind.i64.bits (x : Int)).toNat = x := by
      show (BitVec.ofInt 64 (x : Int)).toNat = x
      rw [BitVec.toNat_ofInt]; omega
    have h2 : (BitVec.ofInt IntKind.i64.bits ((y : Int) * 256)).toNat = y <<< 8 := by
      show (BitVec.ofInt 64 ((y : Int) * 256)).toNat = _
      rw [BitVec.toNat_ofInt, Nat.shiftLeft_eq]; omega
    rw [h1, h2, Nat.or_comm, ← Nat.shiftLeft_add_eq_or_of_lt (by omega : x < 2 ^ 8), Nat.shiftLeft_eq]; omega
  rw [e]
  show IntKind.i64.wrap ((x + 256 * y : Nat) : Int) = _
  rw [IntKind.wrap_i64]; omega
theorem unpacked_any (b0 b1 b2 : Nat) (h0 : b0 < 256) (h1 : b1 < 256) (h2 : b2 < 256) (B off n c : Nat) (w : World) (hn : 3 ≤ n)
    (c0 : w.cell? ⟨B, off, none⟩ = some (.int .u8 (b0 : Int))) (c1 : w.cell? ⟨B, off + 1, none⟩ = some (.int .u8 (b1 : Int))) (c2 : w.cell? ⟨B, off + 2, none⟩ = some (.int .u8 (b2 : Int))) :
    Calls Tryz.prog 96 #[.slice (some ⟨B, off, none⟩) n c] w fun e w' => e = .returned (.agg #[.int .i64 ((b0 : Int) % 16), .int .i64 ((b0 : Int) / 16), .int .i64 ((b1 : Int) + 256 * (b2 : Int))]) ∧ Ext w w' := by
  have lB := World.block_lt_of_cell? w _ c0
  have q0 := fun w' (x : Ext w w') => (x.oldCell _ _ lB).trans c0
  have q1 := fun w' (x : Ext w w') => (x.oldCell _ _ lB).trans c1
  have q2 := fun w' (x : Ext w w') => (x.oldCell _ _ lB).trans c2
  have hni : (3 : Int) ≤ (n : Int) := by omega
  have hn0 : (0 : Int) < (n : Int) := by omega
  have hn1 : (1 : Int) < (n : Int) := by omega
  have hn2 : (2 : Int) < (n : Int) := by omega
  have e1 := and_15 b0 h0
  have e2 := or_8 b1 b2 h1 h2
  go_enter Tryz.func96, Tryz.ntmps96
  go_wp2_with fail
  have hX := fun w' (h : Ext (w.alloc (Obj.cells #[.int .i64 0, .int .i64 0, .int .i64 0] 53)) w') => h.boxCell
  have hXf := fun w' (h : Ext (w.alloc (Obj.cells #[.int .i64 0, .int .i64 0, .int .i64 0] 53)) w') => h.boxFree
  have hX0 : Ext w (w.alloc (Obj.cells #[.int .i64 0, .int .i64 0, .int .i64 0] 53)) := Ext.alloc _ _
  generalize w.alloc (Obj.cells #[.int .i64 0, .int .i64 0, .int .i64 0] 53) = W0 at *
  have hW := Ext.refl W0
  have q0 := fun w' (x : Ext W0 w') => q0 w' (hX0.trans x)
  have q1 := fun w' (x : Ext W0 w') => q1 w' (hX0.trans x)
  have q2 := fun w' (x : Ext W0 w') => q2 w' (hX0.trans x)
  have x0 := Ext.refl W0
  have x1 := Ext.drew W0
  go_region
  go_wp2_with fail
  have z0 := hX W0 x0 0
  have z1 := hX W0 x0 1
  have z2 := hX W0 x0 2
  refine bodyPost_ret (v := .agg #[.int .i64 ((b0 : Int) % 16), .int .i64 ((b0 : Int) / 16), .int .i64 ((b1 : Int) + 256 * (b2 : Int))]) (by simp [results, Tryz.results96, go_sem, z0, z1, z2]) rfl ⟨rfl, ?_⟩
  refine Ext.trans ?_ (Ext.drew _)
  repeat (with_reducible refine Ext.set ?_ (by simp) _)
  exact hX0
def opB (b0 b1 b2 : UInt8) : Op3 := ((b0.toNat : Int) % 16, (b0.toNat : Int) / 16, (b1.toNat : Int) + 256 * (b2.toNat : Int))
def opsB : List UInt8 → List Op3
  | b0 :: b1 :: b2 :: r => opB b0 b1 b2 :: opsB r
  | _ => []
def unpackO (l : List UInt8) : List Op3 × Int := if l.length % 3 = 0 then (if 64 < l.length / 3 then ([], 5) else if (opsB l).all mayO then (opsB l, 0) else ([], 1)) else ([], 4)
/-- What Unpack answers. -/
def UnpackR (l : List UInt8) (e : Ending) (w' : World) : Prop := ∃ A c, e = .returned (.tuple #[.slice A (unpackO l).1.length c, .int .i64 (unpackO l).2]) ∧ (unpackO l).1.length ≤ c ∧ Ch w' A (unpackO l).1
theorem By.at_ {w : World} {A : Option Addr} {l : List UInt8} (h : By w A l) (h0 : 0 < l.length) : ∃ b off, A = some ⟨b, off, none⟩ ∧ b < w.heap.size ∧ ∀ j (h : j < l.length), w.cell? ⟨b, off + j, none⟩ = some (.int .u8 (l[j].toNat : Int)) := by
  rcases h with h | h
  · omega
  · exact h
def slLen : Value → Nat
  | .slice _ n _ => n
  | _ => 0
theorem unpack_err {w : World} {A : Option Addr} {c : Nat} {l : List UInt8} (hl : l.length ≤ 1000) (h : l.length % 3 ≠ 0 ∨ 64 < l.length / 3) :
    Calls Tryz.prog 88 #[.slice A l.length c] w fun e w' => UnpackR l e w' ∧ Ext w w' := by
  by_cases h3 : l.length % 3 = 0
  · have h64 : 64 < l.length / 3 := by omega
    have q1 : (l.length : Int) % 3 = 0 := by omega
    have q2 : (64 : Int) < (l.length : Int) / 3 := by omega
    have HE := hide (show unpackO l = ([], 5) by unfold unpackO; rw [if_pos h3, if_pos h64])
    go_enter Tryz.func88, Tryz.ntmps88
    go_wp2_with fail
    go_ret2
    exact ⟨by unfold UnpackR; rw [HE.out]; exact ⟨none, 0, rfl, Nat.le_refl _, Ch.nil _ _⟩, Ext.refl _⟩
  · have q1 : ¬ (l.length : Int) % 3 = 0 := by omega
    have HE := hide (show unpackO l = ([], 4) by unfold unpackO; rw [if_neg h3])
    go_enter Tryz.func88, Tryz.ntmps88
    go_wp2_with fail
    go_ret2
    exact ⟨by unfold UnpackR; rw [HE.out]; exact ⟨none, 0, rfl, Nat.le_refl _, Ch.nil _ _⟩, Ext.refl _⟩
theorem unpack_ok {w : World} {A : Option Addr} {c : Nat} {l : List UInt8} (hl : l.length ≤ 1000) (hc : l.length ≤ c) (hcm : c ≤ maxLen) (h3 : l.length % 3 = 0) (h64 : ¬ 64 < l.length / 3) (hb : By w A l) :
    Calls Tryz.prog 88 #[.slice A l.length c] w fun e w' => UnpackR l e w' ∧ Ext w w' := by
  have q1 : (l.length : Int) % 3 = 0 := by omega
  have q2 : ¬ (64 : Int) < (l.length : Int) / 3 := by omega
  obtain ⟨w2, hmk, hown, hx⟩ := make_own 48 53 Tryz.underlying48 inf_op w (l.length / 3) (by omega) (by unfold maxLen; omega) w.heap.size (Nat.le_refl _)
  have HE := hide (show unpackO l = if (opsB l).all mayO then (opsB l, 0) else ([], 1) by unfold unpackO; rw [if_pos h3, if_neg h64])
  rw [show ((l.length / 3 : Nat) : Int) = (l.length : Int) / 3 by omega] at hmk
  go_enter Tryz.func88, Tryz.ntmps88
  go_wp2_with fail
  clear hmk
  generalize some (⟨w.heap.size, 0, none⟩ : Addr) = A9 at *
  go_loopw [0, 4] (fun b v wr => ∃ (acc : List Op3) (r : List UInt8) (A0 : Option Addr) (c0 : Nat), b = .slice A0 r.length c0 ∧ r.length ≤ c0 ∧ c0 ≤ maxLen ∧ r.length % 3 = 0 ∧ By w A0 r ∧ opsB l = acc ++ opsB r ∧ acc.length + r.length / 3 ≤ 64 ∧ acc.all mayO = true ∧ Ext w wr ∧ wr.ownsRow w.heap.size 53 3 v acc.length (rcells acc)) (fun b _ _ => slLen b)
  case atStart => exact ⟨[], l, A, c, rfl, hc, hcm, h3, hb, rfl, by simp; omega, rfl, hx, by simpa [rcells] using hown⟩
  case round =>
    clear hx hown q1 q2 hc
    obtain ⟨acc, r, A0, c0, rfl, hc0, hcm0, hr3, hby, hops, hlen, hall, hW0, hown⟩ := hrel
    obtain ⟨A3, c3, rfl⟩ := own_sl hown
    have HO := hide hown
    have HW := hide hW0
    have HA := hide hall
    have HBW := hide hb
    clear hb
    have HOP := hide hops
    clear hown hall hops
    rcases r with _ | ⟨b0, _ | ⟨b1, _ | ⟨b2, r⟩⟩⟩
    · clear hby hW0
      obtain ⟨A4, c4, e4, hle, hch⟩ := Ch.of_own HO.out
      cases e4
      go_wp2_with fail
      go_ret2
      refine ⟨?_, HW.out⟩
      have e : opsB l = acc := by rw [HOP.out]; simp [opsB]
      unfold UnpackR
      rw [HE.out, e, if_pos HA.out]
      exact ⟨A3, c3, rfl, hle, hch⟩
    · simp at hr3
    · simp at hr3
    · obtain ⟨B, off, rfl, hlt, hcell⟩ := hby.at_ (by simp)
      have k0 := (HW.out.oldCell _ _ hlt).trans (hcell 0 (by simp))
      have k1 := (HW.out.oldCell _ _ hlt).trans (hcell 1 (by simp))
      have k2 := (HW.out.oldCell _ _ hlt).trans (hcell 2 (by simp))
      have hu := unpacked_any b0.toNat b1.toNat b2.toNat b0.toNat_lt b1.toNat_lt b2.toNat_lt B off (r.length + 3) c0 wr (by omega) k0 k1 k2
      have HY3 : Hid (By w (some ⟨B, off + 3, none⟩) r) := .inr ⟨B, off + 3, rfl, hlt, fun j hj => by
        have := hcell (j + 3) (by simp; omega)
        rw [show off + 3 + j = off + (j + 3) by omega]
        exact this⟩
      have e9 : (b0 :: b1 :: b2 :: r).length = r.length + 3 := rfl
      rw [e9] at hc0 hr3 hlen ⊢
      have hops : opsB (b0 :: b1 :: b2 :: r) = opB b0 b1 b2 :: opsB r := rfl
      have hp := HOP.out
      rw [hops] at hp
      have HP := hide hp
      have hx := Ext.refl wr
      clear k0 k1 k2 hcell hops hp HOP hby
      have hop : opB b0 b1 b2 = (((b0.toNat : Int) % 16), (b0.toNat : Int) / 16, (b1.toNat : Int) + 256 * (b2.toNat : Int)) := rfl
      generalize (b0.toNat : Int) % 16 = k at *
      generalize (b0.toNat : Int) / 16 = o at *
      generalize (b1.toNat : Int) + 256 * (b2.toNat : Int) = a at *
      rw [hop] at HP
      clear hop
      cases hm : mayO (k, o, a) with
      | false =>
        go_wp2_with (first | (go_at_call 96; refine hu.mono ?_; rintro e w3 ⟨rfl, hb3⟩; have hx := (Blk.new w3 #[.int .i64 k, .int .i64 o, .int .i64 a] 53).rule) | (go_at_call 79; refine (mayBe_any (k, o, a) _).mono ?_; rw [hm]; rintro e w4 ⟨rfl, hb4⟩))
        go_ret2
        refine ⟨?_, HW.out.trans ((hb3.trans (Ext.alloc _ _)).trans hb4)⟩
        unfold UnpackR
        rw [HE.out, HP.out, if_neg (by rw [List.all_append, List.all_cons, hm]; simp)]
        exact ⟨none, 0, rfl, Nat.le_refl _, Ch.nil _ _⟩
      | true =>
        have hcd : 3 ≤ c0 := by omega
        go_wp2_with (first | (go_at_call 96; refine hu.mono ?_; rintro e w3 ⟨rfl, hb3⟩; have hx := (Blk.new w3 #[.int .i64 k, .int .i64 o, .int .i64 a] 53).rule) | (go_at_call 79; refine (mayBe_any (k, o, a) _).mono ?_; rw [hm]; rintro e w4 ⟨rfl, hb4⟩; have HX4 := hide ((hb3.trans (Ext.alloc w3 (.cells #[.int .i64 k, .int .i64 o, .int .i64 a] 53))).trans hb4); have hx5 := hx w4 hb4; have hx := hx5; have HO4 := hide (own_ext HO.out HX4.out)) | (at_builtin; refine wpList_app1 (W0 := w) rfl rfl Tryz.underlying48 inf_op rfl (by omega) rfl HO4.out (HW.out.trans HX4.out) rfl rfl rfl (by simp [Value.oneCell']) (by unfold maxLen; omega) (by omega) ?_; intro v' w5 hown' hW5; go_frame))
        go_roundw
        case rel =>
          refine ⟨acc ++ [(k, o, a)], r, if c0 = 3 then some ⟨B, off, none⟩ else some ⟨B, off + 3, none⟩, c0 - 3, rfl, by omega, by omega, by omega, ?_, by rw [HP.out]; simp, by simp; omega, by rw [List.all_append, HA.out]; simp [hm], hW5, by rw [List.length_append, rcells_app]; exact hown'⟩
          by_cases q : c0 = 3
          · exact .inl (by omega)
          · rw [if_neg q]; exact HY3.out
        case measure => simp [slLen]
theorem unpack_any {w : World} {A : Option Addr} {c : Nat} {l : List UInt8} (hl : l.length ≤ 1000) (hc : l.length ≤ c) (hcm : c ≤ maxLen) (hb : By w A l) :
    Calls Tryz.prog 88 #[.slice A l.length c] w fun e w' => UnpackR l e w' ∧ Ext w w' := by
  by_cases h : l.length % 3 ≠ 0 ∨ 64 < l.length / 3
  · exact unpack_err hl h
  · exact unpack_ok hl hc hcm (by omega) (by omega) hb
end Go.Proofs.YtlgomkocalieeaaGreatDoor
