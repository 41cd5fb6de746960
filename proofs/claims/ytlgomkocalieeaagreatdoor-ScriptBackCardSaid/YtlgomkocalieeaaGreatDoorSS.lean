/- The configuration of bytes. -/
import Derived.Test.YtlgomkocalieeaaGreatDoorS4
import Derived.Test.YtlgomkocalieeaaGreatDoorNA
import Derived.Test.YtlgomkocalieeaaGreatDoorHeld
import Derived.Test.YtlgomkocalieeaaGreatDoorO9
import Derived.Test.YtlgomkocalieeaaGreatDoorSA
namespace Go.Proofs.YtlgomkocalieeaaGreatDoor
open Go.RowKit
set_option linter.unusedSimpArgs false
set_option linter.unusedVariables false
set_option maxRecDepth 100000
set_option maxHeartbeats 4000000

def bN (l : List UInt8) (j : Nat) : Int := ((l.getD j 0).toNat : Int)
def sdN (l : List UInt8) : Nat → Int
  | 0 => 0
  | j + 1 => sdN l j + bN l (9 + j) * 2 ^ (8 * j)
def confC (l : List UInt8) : Cf := ⟨bN l 0, bN l 1, bN l 2, bN l 3, bN l 4, bN l 5, bN l 6, bN l 7, bN l 8, sdN l 8⟩
def zeroC : Cf := ⟨0, 0, 0, 0, 0, 0, 0, 0, 0, 0⟩
theorem bN_bd (l : List UInt8) (j : Nat) : 0 ≤ bN l j ∧ bN l j < 256 := by unfold bN; have := (l.getD j 0).toNat_lt; omega
theorem sd_bd (l : List UInt8) : ∀ j, 0 ≤ sdN l j ∧ sdN l j < 2 ^ (8 * j)
  | 0 => by simp [sdN]
  | j + 1 => by
    have ⟨h0, h1⟩ := sd_bd l j
    have ⟨b0, b1⟩ := bN_bd l (9 + j)
    have e : (2 : Int) ^ (8 * (j + 1)) = 256 * 2 ^ (8 * j) := by rw [show 8 * (j + 1) = 8 + 8 * j by omega, Int.pow_add]; rfl
    have p : (0 : Int) < 2 ^ (8 * j) := Int.pow_pos (by omega)
    simp only [sdN]
    rw [e]
    generalize (2 : Int) ^ (8 * j) = q at *
    generalize bN l (9 + j) = b at *
    have h2 : b * q ≤ 255 * q := Int.mul_le_mul_of_nonneg_right (by omega) (by omega)
    have h3 : 0 ≤ b * q := Int.mul_nonneg b0 (by omega)
    exact ⟨by omega, by omega⟩
theorem or_add (s p : Nat) (k : Nat) (hs : s < 2 ^ k) (hp : p * 2 ^ k < 2 ^ 64) (hs2 : s < 2 ^ 64) (ht : s + p * 2 ^ k < 2 ^ 64) : bits .or .u64 (s : Int) ((p : Int) * 2 ^ k) = (s : Int) + (p : Int) * 2 ^ k := by
  unfold bits
  simp only
  have e : (BitVec.ofInt IntKind.u64.bits (s : Int) ||| BitVec.ofInt IntKind.u64.bits ((p : Int) * 2 ^ k)).toNat = s + p * 2 ^ k := by
    rw [BitVec.toNat_or]
    have h1 : (BitVec.ofInt IntKind.u64.bits (s : Int)).toNat = s := by
      show (BitVec.ofInt 64 (s : Int)).toNat = s
      rw [BitVec.toNat_ofInt]; omega
    have e2 : ((p : Int) * 2 ^ k) = ((p * 2 ^ k : Nat) : Int) := by simp
    have h2 : (BitVec.ofInt IntKind.u64.bits ((p : Int) * 2 ^ k)).toNat = p <<< k := by
      rw [e2]
      show (BitVec.ofInt 64 ((p * 2 ^ k : Nat) : Int)).toNat = _
      rw [BitVec.toNat_ofInt, Nat.shiftLeft_eq]; omega
    rw [h1, h2, Nat.or_comm, ← Nat.shiftLeft_add_eq_or_of_lt hs, Nat.shiftLeft_eq]; omega
  rw [e]
  show IntKind.u64.wrap ((s + p * 2 ^ k : Nat) : Int) = _
  rw [IntKind.wrap_u64]
  have e3 : ((s + p * 2 ^ k : Nat) : Int) = (s : Int) + (p : Int) * 2 ^ k := by simp
  rw [← e3]; omega
theorem seed_step (s pb j : Nat) (hj : j < 8) (hp : pb < 256) (hs : s < 2 ^ (8 * j)) : bits .or .u64 (s : Int) (IntKind.u64.wrap ((pb : Int) * 2 ^ (8 * j))) = (s : Int) + (pb : Int) * 2 ^ (8 * j) := by
  have h56 : 2 ^ (8 * j) ≤ 2 ^ 56 := Nat.pow_le_pow_right (by omega) (by omega)
  have hm : pb * 2 ^ (8 * j) ≤ 255 * 2 ^ 56 := Nat.mul_le_mul (by omega) h56
  have hw : IntKind.u64.wrap ((pb : Int) * 2 ^ (8 * j)) = (pb : Int) * 2 ^ (8 * j) := by
    have e2 : ((pb : Int) * 2 ^ (8 * j)) = ((pb * 2 ^ (8 * j) : Nat) : Int) := by simp
    rw [e2, IntKind.wrap_u64]
    omega
  rw [hw]
  exact or_add s pb (8 * j) hs (by omega) (by omega) (by omega)
theorem inf_cfg (cs : Array Value) (h : cs.size = 10) : (Tryz.prog.info? 24).map (·.size) = some cs.size := by rw [h]; kernel_rfl
theorem cfg_res {cs : Array Value} (hs : cs.size = 10) {fn : Func} (h : fn.results = #[.cell 2 24, .tmp 3]) (tmps : Array Value) (w : World) {b : Nat} {u : Value} (e2 : tmps.getD 2 undef = .pointer (some ⟨b, 0, none⟩)) (e3 : tmps.getD 3 undef = u) (hb : Blk w b cs 24) :
    (results fn tmps).run Tryz.prog w = .ok (.tuple #[.agg cs, u]) w := by
  have l : (loadVar 24 ⟨b, 0, none⟩).run Tryz.prog w = .ok (.agg cs) w := by
    have := run_loadVar_mid w b 0 24 cs.toList _ (fun j v hv => by rw [Nat.zero_add]; exact (Blk.cell hb j).trans (by rw [← Array.getElem?_toList]; exact hv)) Tryz.underlying24 rfl (by rw [Array.length_toList]; exact inf_cfg cs hs)
    rwa [Array.toArray_toList] at this
  rw [results_cell_tmp h, e2, e3]
  simp only [asAddr, Sem.run_pure, Result.andThen_ok, l]
theorem Chg.newB {R T : Nat} {w w1 w2 : World} (h : Chg [R] w w1) (k : Chg [T] w1 w2) (hT : w.heap.size ≤ T) : Chg [R] w w2 :=
  ⟨k.os.trans h.os, k.tape.trans h.tape, k.output.trans h.output, Nat.le_trans h.size k.size, fun i hi hr => (k.block i (Nat.lt_of_lt_of_le hi h.size) (by simp; omega)).trans (h.block i hi hr)⟩
/-- What configOf answers. -/
def ConfR (R N : Nat) (l : List UInt8) (e : Ending) (w' : World) : Prop :=
  (l.length < 17 ∧ e = .returned (.tuple #[(.agg #[.int .i64 0, .int .i64 0, .int .i64 0, .int .i64 0, .int .i64 0, .int .i64 0, .int .u8 0, .int .i64 0, .int .i64 0, .int .u64 0]), .int .i64 4])) ∨
  (17 ≤ l.length ∧ mayC (confC l) = false ∧ e = .returned (.tuple #[(.agg #[.int .i64 0, .int .i64 0, .int .i64 0, .int .i64 0, .int .i64 0, .int .i64 0, .int .u8 0, .int .i64 0, .int .i64 0, .int .u64 0]), .int .i64 1])) ∨
  (17 ≤ l.length ∧ mayC (confC l) = true ∧ e = .returned (.tuple #[(.agg #[.int .i64 (confC l).t, .int .i64 (confC l).o, .int .i64 (confC l).c, .int .i64 (confC l).s, .int .i64 (confC l).p, .int .i64 (confC l).n, .int .u8 (confC l).b, .int .i64 (confC l).r, .int .i64 (confC l).v, .int .u64 (confC l).d]), .int .i64 0]) ∧ Rd w' R N (l.drop 17))
theorem conf_any {w : World} {R N : Nat} (hN : N ≤ w.heap.size) {l : List UInt8} (h : Rd w R N l) :
    Calls Tryz.prog 49 #[(Value.func (.func 33) #[.pointer (some ⟨R, 0, none⟩)] #[])] w fun e w' => ConfR R N l e w' ∧ Chg [R] w w' := by
  have hRlt : R < w.heap.size := by obtain ⟨A, c, h1⟩ := h.blk; exact h1.lt
  have hz := Blk.new w #[.int .i64 0, .int .i64 0, .int .i64 0, .int .i64 0, .int .i64 0, .int .i64 0, .int .u8 0, .int .i64 0, .int .i64 0, .int .u64 0] 24
  have hx := Ext.alloc w (.cells #[.int .i64 0, .int .i64 0, .int .i64 0, .int .i64 0, .int .i64 0, .int .i64 0, .int .u8 0, .int .i64 0, .int .i64 0, .int .u64 0] 24)
  have hsv := several_any 17 (by omega) (Nat.le_trans hN hx.size) (h.ext hx)
  have HX := hide hx
  clear h hx
  go_enter Tryz.func49, Tryz.ntmps49
  go_wp2_with fail
  refine hsv.mono ?_
  rintro e w1 ⟨hr, hc⟩
  have hz1 := hz.chg hc (by simp; omega)
  have HC := hide ((HX.out.chg [R]).trans hc)
  clear hsv hc hz
  unfold SevR at hr
  rcases hr with ⟨h17, ⟨A, c, rfl, hle, hmx, hby⟩, hrd⟩ | ⟨h17, rfl⟩
  · have hl0 : (l.take 17).length = 17 := by rw [List.length_take]; omega
    obtain ⟨b, off, rfl, hblt, hcell⟩ := hby.at_ (by omega)
    have hbv : ∀ j, j < 17 → w1.cell? ⟨b, off + j, none⟩ = some (.int .u8 (bN l j)) := fun j hj => by
      have := hcell j (by omega)
      rw [this]
      congr 2
      unfold bN
      rw [List.getElem_take]
      simp [List.getD, List.getElem?_eq_getElem (show j < l.length by omega)]
    have HBV := hide hbv
    have S0 : ∀ w', Ext w1 w' → w'.cell? ⟨b, off, none⟩ = some (.int .u8 (bN l 0)) ∧ w'.cell? ⟨b, off + 1, none⟩ = some (.int .u8 (bN l 1)) ∧ w'.cell? ⟨b, off + 2, none⟩ = some (.int .u8 (bN l 2)) ∧ w'.cell? ⟨b, off + 3, none⟩ = some (.int .u8 (bN l 3)) ∧ w'.cell? ⟨b, off + 4, none⟩ = some (.int .u8 (bN l 4)) ∧ w'.cell? ⟨b, off + 5, none⟩ = some (.int .u8 (bN l 5)) ∧ w'.cell? ⟨b, off + 6, none⟩ = some (.int .u8 (bN l 6)) ∧ w'.cell? ⟨b, off + 7, none⟩ = some (.int .u8 (bN l 7)) ∧ w'.cell? ⟨b, off + 8, none⟩ = some (.int .u8 (bN l 8)) := fun w' x => ⟨(x.oldCell _ _ hblt).trans (HBV.out 0 (by omega)), (x.oldCell _ _ hblt).trans (HBV.out 1 (by omega)), (x.oldCell _ _ hblt).trans (HBV.out 2 (by omega)), (x.oldCell _ _ hblt).trans (HBV.out 3 (by omega)), (x.oldCell _ _ hblt).trans (HBV.out 4 (by omega)), (x.oldCell _ _ hblt).trans (HBV.out 5 (by omega)), (x.oldCell _ _ hblt).trans (HBV.out 6 (by omega)), (x.oldCell _ _ hblt).trans (HBV.out 7 (by omega)), (x.oldCell _ _ hblt).trans (HBV.out 8 (by omega))⟩
    have hW := Ext.refl w1
    clear hcell hbv hby
    have w0 := bN_bd l 0
    have w1_ := bN_bd l 1
    have w2_ := bN_bd l 2
    have w3_ := bN_bd l 3
    have w4_ := bN_bd l 4
    have w5_ := bN_bd l 5
    have w7_ := bN_bd l 7
    have w8_ := bN_bd l 8
    go_wp2_with fail
    go_region_held3 (fun w' => w'.cell? ⟨b, off, none⟩ = some (.int .u8 (bN l 0)) ∧ w'.cell? ⟨b, off + 1, none⟩ = some (.int .u8 (bN l 1)) ∧ w'.cell? ⟨b, off + 2, none⟩ = some (.int .u8 (bN l 2)) ∧ w'.cell? ⟨b, off + 3, none⟩ = some (.int .u8 (bN l 3)) ∧ w'.cell? ⟨b, off + 4, none⟩ = some (.int .u8 (bN l 4)) ∧ w'.cell? ⟨b, off + 5, none⟩ = some (.int .u8 (bN l 5)) ∧ w'.cell? ⟨b, off + 6, none⟩ = some (.int .u8 (bN l 6)) ∧ w'.cell? ⟨b, off + 7, none⟩ = some (.int .u8 (bN l 7)) ∧ w'.cell? ⟨b, off + 8, none⟩ = some (.int .u8 (bN l 8))) (exact S0 _ (by repeat (first | exact Ext.refl _ | exact Ext.alloc _ _ | exact Ext.drew _ | with_reducible refine Ext.set ?_ (by simp) _ | refine Ext.trans ?_ (Ext.alloc _ _) | refine Ext.trans ?_ (Ext.drew _)))) (fail)
    go_wp2_with fail
    have hbT := (Blk.new w1 #[.int .i64 (bN l 0), .int .i64 (bN l 1), .int .i64 (bN l 2), .int .i64 (bN l 3), .int .i64 (bN l 4), .int .i64 (bN l 5), .int .u8 (bN l 6), .int .i64 (bN l 7), .int .i64 (bN l 8), .int .u64 0] 24).ext (Ext.drew _)
    have hxT : Ext w1 (w1.alloc (.cells #[.int .i64 (bN l 0), .int .i64 (bN l 1), .int .i64 (bN l 2), .int .i64 (bN l 3), .int .i64 (bN l 4), .int .i64 (bN l 5), .int .u8 (bN l 6), .int .i64 (bN l 7), .int .i64 (bN l 8), .int .u64 0] 24)).drew := (Ext.alloc _ _).trans (Ext.drew _)
    generalize (w1.alloc (.cells #[.int .i64 (bN l 0), .int .i64 (bN l 1), .int .i64 (bN l 2), .int .i64 (bN l 3), .int .i64 (bN l 4), .int .i64 (bN l 5), .int .u8 (bN l 6), .int .i64 (bN l 7), .int .i64 (bN l 8), .int .u64 0] 24)).drew = wT at *
    clear S0
    have HW1 := hide hW
    clear hW w0 w1_ w2_ w3_ w4_ w5_ w7_ w8_
    go_loopw [56] (fun i wr => ∃ j : Nat, j ≤ 8 ∧ i = .int .i64 (j : Int) ∧ Blk wr w1.heap.size #[.int .i64 (bN l 0), .int .i64 (bN l 1), .int .i64 (bN l 2), .int .i64 (bN l 3), .int .i64 (bN l 4), .int .i64 (bN l 5), .int .u8 (bN l 6), .int .i64 (bN l 7), .int .i64 (bN l 8), .int .u64 (sdN l j)] 24 ∧ Ext w1 wr) (fun i _ => 8 - (intOf i).toNat)
    case atStart => exact ⟨0, by omega, rfl, hbT, hxT⟩
    case round =>
      clear hbT hxT
      obtain ⟨j, hj, rfl, hbT, hxT⟩ := hrel
      by_cases hlt : j < 8
      · have hltI : (j : Int) < 8 := by omega
        have hv : wr.cell? ⟨b, off + 9 + j, none⟩ = some (.int .u8 (bN l (9 + j))) := (hxT.oldCell _ _ hblt).trans (by rw [Nat.add_assoc]; exact HBV.out (9 + j) (by omega))
        have hq := hbT.cell 9
        have hf := hbT.free 9
        have hw8 : IntKind.i64.wrap (8 * (j : Int)) = 8 * (j : Int) := by rw [IntKind.wrap_i64]; omega
        have h80 : ¬ 8 * (j : Int) < 0 := by omega
        obtain ⟨pb, hpb⟩ := Int.eq_ofNat_of_zero_le (bN_bd l (9 + j)).1
        have hpb1 := (bN_bd l (9 + j)).2
        have HSD := hide (show sdN l (j + 1) = sdN l j + bN l (9 + j) * 2 ^ (8 * j) from rfl)
        have HS0 := hide (sd_bd l j)
        have HBT := hide hbT
        have HXT := hide hxT
        rw [hpb] at hv hpb1
        have HPB := hide hpb
        clear hbT hxT hpb
        generalize sdN l j = sd at *
        obtain ⟨sn, rfl⟩ := Int.eq_ofNat_of_zero_le HS0.out.1
        have hsn : sn < 2 ^ (8 * j) := by have := HS0.out.2; exact_mod_cast this
        have HV := hide (seed_step sn pb j hlt (by omega) hsn)
        go_wp2_with fail
        go_region
        go_wp2_with fail
        have hb2 := HBT.out.set 9 (.int .u64 (bits .or .u64 (sn : Int) (IntKind.u64.wrap ((pb : Int) * 2 ^ (8 * j)))))
        have hx2 := Ext.set HXT.out (p := ⟨w1.heap.size, 9, none⟩) (Nat.le_refl _) (.int .u64 (bits .or .u64 (sn : Int) (IntKind.u64.wrap ((pb : Int) * 2 ^ (8 * j)))))
        clear hv hq hf
        go_roundw
        case rel => exact ⟨j + 1, by omega, by go_num, by rw [HSD.out, HPB.out, ← HV.out]; exact hb2.ext (Ext.drew _), hx2.trans (Ext.drew _)⟩
        case measure => simp [intOf]; omega
      · obtain rfl : j = 8 := by omega
        have hq := hbT.cell
        have HBT := hide hbT
        have HXT := hide hxT
        have hmay := cmay_any (confC l) wr
        have hzr := hz1.ext hxT
        have hrr := hrd.ext hxT
        have HRR := hide hrr
        clear hbT hxT hrr
        go_wp2_with fail
        refine hmay.mono ?_
        rintro e w3 ⟨rfl, hx3⟩
        have hz3 := hzr.ext hx3
        have HC3 := hide (HC.out.trans ((HXT.out.trans hx3).chg [R]))
        have HRR3 := hide (HRR.out.ext hx3)
        have hT3 := HBT.out.ext hx3
        clear hzr hx3 hmay hq
        cases hm : mayC (confC l) with
        | false =>
          go_wp2_with (with_reducible refine wpList_rput 24 rfl _ _ rfl w.heap.size #[.int .i64 0, .int .i64 0, .int .i64 0, .int .i64 0, .int .i64 0, .int .i64 0, .int .u8 0, .int .i64 0, .int .i64 0, .int .u64 0] rfl rfl _ hz3 (inf_cfg _ rfl) rfl (by simp [Value.oneCell']) ?_; intro w4 hb4 hc4 hs4; go_frame)
          refine bodyPost_ret (cfg_res rfl Tryz.results49 _ _ rfl rfl hb4) rfl ?_
          exact ⟨.inr (.inl ⟨h17, hm, rfl⟩), HC3.out.newB hc4 (Nat.le_refl _)⟩
        | true =>
          have hq3 := hT3.cell
          go_wp2_with (with_reducible refine wpList_rput 24 rfl _ _ rfl w.heap.size #[.int .i64 (bN l 0), .int .i64 (bN l 1), .int .i64 (bN l 2), .int .i64 (bN l 3), .int .i64 (bN l 4), .int .i64 (bN l 5), .int .u8 (bN l 6), .int .i64 (bN l 7), .int .i64 (bN l 8), .int .u64 (sdN l 8)] rfl rfl _ hz3 (inf_cfg _ rfl) rfl (by simp [Value.oneCell']) ?_; intro w4 hb4 hc4 hs4; go_frame)
          refine bodyPost_ret (cfg_res rfl Tryz.results49 _ _ rfl rfl hb4) rfl ?_
          exact ⟨.inr (.inr ⟨h17, hm, rfl, HRR3.out.kp (ts := [24]) (hc4.kp (fun k hk => by rw [List.mem_singleton.1 hk]; exact ⟨hN, fun _ => ⟨_, _, hz3, by simp⟩⟩)) (by decide)⟩), HC3.out.newB hc4 (Nat.le_refl _)⟩
  · go_wp2_with (with_reducible refine wpList_rput 24 rfl _ _ rfl w.heap.size #[.int .i64 0, .int .i64 0, .int .i64 0, .int .i64 0, .int .i64 0, .int .i64 0, .int .u8 0, .int .i64 0, .int .i64 0, .int .u64 0] rfl rfl _ hz1 (inf_cfg _ rfl) rfl (by simp [Value.oneCell']) ?_; intro w4 hb4 hc4 hs4; go_frame)
    refine bodyPost_ret (cfg_res rfl Tryz.results49 _ _ rfl rfl hb4) rfl ?_
    exact ⟨.inl ⟨h17, rfl⟩, HC.out.newB hc4 (Nat.le_refl _)⟩
end Go.Proofs.YtlgomkocalieeaaGreatDoor

namespace Go.Proofs.YtlgomkocalieeaaGreatDoor
open Go.RowKit
set_option linter.unusedSimpArgs false
set_option linter.unusedVariables false
set_option maxRecDepth 100000
set_option maxHeartbeats 4000000

/-- The program of the next bytes: what Unpack says of them, and what is left. -/
def progP : List UInt8 → Option (List Op3 × Int × List UInt8)
  | [] => none
  | n :: r => if r.length < n.toNat then none else some ((unpackO (r.take n.toNat)).1, (unpackO (r.take n.toNat)).2, r.drop n.toNat)
/-- Operations that are read, in a block of their own type. -/
def ChT (w : World) (A : Option Addr) (l : List Op3) : Prop := Ch w A l ∧ ∀ b, A = some b → ∃ cs, Blk w b.block cs 53
theorem ChT.kp {ts : List TypeId} {N : Nat} {w w' : World} {A : Option Addr} {l : List Op3} (h : ChT w A l) (k : Kp ts N w w') (hn : 53 ∉ ts) : ChT w' A l := by
  obtain ⟨h1, h2⟩ := h
  refine ⟨?_, fun b e => by obtain ⟨cs, hb⟩ := h2 b e; exact ⟨cs, k.blk hb hn⟩⟩
  rcases h1 with h1 | ⟨b, off, rfl, q2, q3⟩
  · exact .inl h1
  · obtain ⟨cs, hb⟩ := h2 _ rfl
    have e : w'.heap[b]? = w.heap[b]? := (k.blk hb hn).trans hb.symm
    have ec : ∀ i, w'.cell? ⟨b, i, none⟩ = w.cell? ⟨b, i, none⟩ := fun i => World.cell?_of_block (a := ⟨b, i, none⟩) e
    exact .inr ⟨b, off, rfl, Nat.lt_of_lt_of_le q2 k.size, fun j hj => by rw [ec, ec, ec]; exact q3 j hj⟩
def ProgR (R N : Nat) (l : List UInt8) (e : Ending) (w' : World) : Prop :=
  (progP l = none ∧ e = .returned (.tuple #[.slice none 0 0, .int .i64 4])) ∨
  (∃ p er r, progP l = some (p, er, r) ∧ (∃ A c, e = .returned (.tuple #[.slice A p.length c, .int .i64 er]) ∧ p.length ≤ c ∧ ChT w' A p) ∧ Rd w' R N r)
theorem chg_kp {R N : Nat} {w w' : World} {A : Option Addr} {n c : Nat} (h : Chg [R] w w') (hR : Blk w R #[.slice A n c] 75) (hN : N ≤ R) : Kp [75] N w w' :=
  h.kp (fun k hk => by rw [List.mem_singleton.1 hk]; exact ⟨hN, fun _ => ⟨_, _, hR, by simp⟩⟩)
theorem prog_any {w : World} {R N : Nat} (hNR : N ≤ R) {l : List UInt8} (h : Rd w R N l) :
    Calls Tryz.prog 77 #[(Value.func (.func 33) #[.pointer (some ⟨R, 0, none⟩)] #[])] w fun e w' => ProgR R N l e w' ∧ Chg [R] w w' := by
  have hRw : N ≤ w.heap.size := by obtain ⟨A, c, hb⟩ := h.blk; have := hb.lt; omega
  cases l with
  | nil =>
    have ht := take_nil h
    go_enter Tryz.func77, Tryz.ntmps77
    go_wp2_with fail
    refine ht.mono ?_
    rintro e w1 ⟨rfl, rfl⟩
    go_wp2_with fail
    go_ret2
    exact ⟨.inl ⟨rfl, rfl⟩, Chg.refl _ _⟩
  | cons n r =>
    have ht := take_cons h
    have hn := n.toNat_lt
    go_enter Tryz.func77, Tryz.ntmps77
    go_wp2_with fail
    refine ht.mono ?_
    rintro e w1 ⟨rfl, hrd, hc⟩
    have HC := hide hc
    have hs := several_any n.toNat (by omega) (Nat.le_trans hRw hc.size) hrd
    have hnw : IntKind.i64.wrap (n.toNat : Int) = (n.toNat : Int) := by rw [IntKind.wrap_i64]; omega
    clear hc ht
    go_wp2_with fail
    refine hs.mono ?_
    rintro e w2 ⟨hr, hc2⟩
    have HC2 := hide (HC.out.trans hc2)
    clear hs hc2
    unfold SevR at hr
    rcases hr with ⟨h1, ⟨A, c, rfl, hle, hmx, hby⟩, hrd2⟩ | ⟨h1, rfl⟩
    · have hE := hide (show progP (n :: r) = some ((unpackO (r.take n.toNat)).1, (unpackO (r.take n.toNat)).2, r.drop n.toNat) from if_neg (by omega))
      have hlen : (r.take n.toNat).length = n.toNat := by rw [List.length_take]; omega
      have hu := unpack_any2 (l := r.take n.toNat) (by omega) (by omega) hmx hby
      rw [hlen] at hu
      have HRD := hide hrd2
      clear hby hrd2
      go_wp2_with fail
      refine hu.mono ?_
      rintro e w3 ⟨hr3, hx3⟩
      unfold UnpackR2 at hr3
      obtain ⟨A3, c3, rfl, hl3, hch3, hty3⟩ := hr3
      have HX3 := hide hx3
      clear hx3 hu
      go_wp2_with fail
      go_ret2
      exact ⟨.inr ⟨_, _, _, hE.out, ⟨A3, c3, rfl, hl3, hch3, hty3⟩, HRD.out.ext HX3.out⟩, HC2.out.trans (HX3.out.chg _)⟩
    · have hE := hide (show progP (n :: r) = none from if_pos (by omega))
      go_wp2_with fail
      go_ret2
      exact ⟨.inl ⟨hE.out, rfl⟩, HC2.out⟩
end Go.Proofs.YtlgomkocalieeaaGreatDoor

namespace Go.Proofs.YtlgomkocalieeaaGreatDoor
open Go.RowKit
set_option linter.unusedSimpArgs false
set_option linter.unusedVariables false
set_option maxRecDepth 100000
set_option maxHeartbeats 4000000

def preP (acc : List (List Op3)) : Except Int (List (List Op3) × List UInt8) → Except Int (List (List Op3) × List UInt8)
  | .error e => .error e
  | .ok (ps, q) => .ok (acc ++ ps, q)
def progsP (t o : Int) : Nat → List UInt8 → Except Int (List (List Op3) × List UInt8)
  | 0, r => .ok ([], r)
  | k + 1, r => match progP r with
    | none => .error 4
    | some (p, er, r') => if er ≠ 0 then .error er else if p.any (isNo t o) = true then .error 3 else preP [p] (progsP t o k r')
theorem preP_pre (a b : List (List Op3)) (x : Except Int (List (List Op3) × List UInt8)) : preP a (preP b x) = preP (a ++ b) x := by
  cases x with
  | error e => rfl
  | ok y => obtain ⟨ps, q⟩ := y; simp [preP]
theorem preP_nil (x : Except Int (List (List Op3) × List UInt8)) : preP [] x = x := by
  cases x with
  | error e => rfl
  | ok y => rfl
/-- A row of programs of one's own. -/
def RowP (w : World) (B : Nat) (v : Value) (acc : List (List Op3)) : Prop :=
  ∃ xs, w.ownsRow B 48 1 v acc.length xs ∧ ∀ i (h : i < acc.length), ∃ A c, xs[i]? = some (.slice A (acc[i]).length c) ∧ (acc[i]).length ≤ 9223372036854775807 ∧ ChT w A acc[i]
theorem RowP.kp {ts : List TypeId} {B N : Nat} {w w' : World} {v : Value} {acc : List (List Op3)} (h : RowP w B v acc) (k : Kp ts N w w') (h1 : 53 ∉ ts) (h2 : 48 ∉ ts) : RowP w' B v acc := by
  obtain ⟨xs, q1, q2⟩ := h
  exact ⟨xs, k.own q1 h2, fun i hi => by obtain ⟨A, c, e1, e2, e3⟩ := q2 i hi; exact ⟨A, c, e1, e2, e3.kp k h1⟩⟩
theorem RowP.pr {B : Nat} {w : World} {v : Value} {acc : List (List Op3)} (h : RowP w B v acc) : ∃ A c, v = .slice A acc.length c ∧ Pr w A acc := by
  obtain ⟨xs, ⟨hl, hh⟩, q2⟩ := h
  rcases hh with ⟨rfl, h0⟩ | ⟨g, cap, cur, rfl, hb, hh, h3, h4, h5, h6⟩
  · exact ⟨none, 0, by rw [h0], .inl h0⟩
  · have hbk : Blk w g cur 48 := hh
    refine ⟨_, _, rfl, .inr ⟨g, 0, rfl, hbk.lt, fun j hj => ?_⟩⟩
    obtain ⟨A, c, e1, e2, e3⟩ := q2 j hj
    refine ⟨A, c, ?_, e2, e3.1⟩
    rw [Nat.zero_add, hbk.cell, ← e1, ← h6, List.getElem?_take_of_lt (by omega), Array.getElem?_toList]
theorem inf_ops : (Tryz.prog.info? 48).map (fun i => (i.zero, i.size, i.bytes)) = some (some (.slice none 0 0), 1, 24) := by kernel_rfl
theorem opsB_len : ∀ l : List UInt8, (opsB l).length * 3 ≤ l.length
  | [] => by simp [opsB]
  | [_] => by simp [opsB]
  | [_, _] => by simp [opsB]
  | _ :: _ :: _ :: r => by
    have := opsB_len r
    simp only [opsB, List.length_cons]
    omega
theorem prog_len {l : List UInt8} {p : List Op3} {er : Int} {r : List UInt8} (h : progP l = some (p, er, r)) : p.length ≤ 64 := by
  cases l with
  | nil => cases h
  | cons n q =>
    simp only [progP] at h
    split at h
    · cases h
    · simp only [Option.some.injEq, Prod.mk.injEq] at h
      obtain ⟨rfl, _, _⟩ := h
      unfold unpackO
      split
      · split
        · simp
        · split
          · have := opsB_len (q.take n.toNat)
            show (opsB (q.take n.toNat)).length ≤ 64
            omega
          · simp
      · simp
def ProgsR (R N B : Nat) (t o : Int) (k : Nat) (l : List UInt8) (e : Ending) (w' : World) : Prop :=
  (∃ er, progsP t o k l = .error er ∧ er ≠ 0 ∧ e = .returned (.tuple #[.slice none 0 0, .int .i64 er])) ∨
  (∃ ps r v, progsP t o k l = .ok (ps, r) ∧ e = .returned (.tuple #[v, .int .i64 0]) ∧ RowP w' B v ps ∧ Rd w' R N r)
theorem progs_any {w : World} {R N : Nat} (hNR : N ≤ R) {l : List UInt8} (x : Cf) (T : Nat) (hT : x.t = (T : Int)) (hT8 : T ≤ 8) (h : Rd w R N l) :
    Calls Tryz.prog 50 #[(Value.func (.func 33) #[.pointer (some ⟨R, 0, none⟩)] #[]), .agg #[.int .i64 x.t, .int .i64 x.o, .int .i64 x.c, .int .i64 x.s, .int .i64 x.p, .int .i64 x.n, .int .u8 x.b, .int .i64 x.r, .int .i64 x.v, .int .u64 x.d]] w fun e w' => ProgsR R N w.heap.size x.t x.o T l e w' ∧ Chg [R] w w' := by
  have hX0 := Ext.alloc w (.cells #[.int .i64 x.t, .int .i64 x.o, .int .i64 x.c, .int .i64 x.s, .int .i64 x.p, .int .i64 x.n, .int .u8 x.b, .int .i64 x.r, .int .i64 x.v, .int .u64 x.d] 24)
  have hb := Blk.new w #[.int .i64 x.t, .int .i64 x.o, .int .i64 x.c, .int .i64 x.s, .int .i64 x.p, .int .i64 x.n, .int .u8 x.b, .int .i64 x.r, .int .i64 x.v, .int .u64 x.d] 24
  have hRlt : R < w.heap.size := by obtain ⟨A, c, hbk⟩ := h.blk; exact hbk.lt
  have hrd0 := h.ext hX0
  have q0 := hb.cell 0
  rw [show (#[.int .i64 x.t, .int .i64 x.o, .int .i64 x.c, .int .i64 x.s, .int .i64 x.p, .int .i64 x.n, .int .u8 x.b, .int .i64 x.r, .int .i64 x.v, .int .u64 x.d] : Array Value)[0]? = some (.int .i64 x.t) from rfl, hT] at q0
  have HB := hide hb
  have HC := hide (hX0.chg [R])
  have HTX := hide hT
  clear h hb hT
  go_enter Tryz.func50, Tryz.ntmps50
  go_wp2_with fail
  clear q0
  generalize w.alloc (.cells #[.int .i64 x.t, .int .i64 x.o, .int .i64 x.c, .int .i64 x.s, .int .i64 x.p, .int .i64 x.n, .int .u8 x.b, .int .i64 x.r, .int .i64 x.v, .int .u64 x.d] 24) = w0 at *
  go_loopw [7, 13] (fun v i wr => ∃ (j : Nat) (acc : List (List Op3)) (r : List UInt8), j ≤ T ∧ i = .int .i64 (j : Int) ∧ acc.length = j ∧ progsP x.t x.o T l = preP acc (progsP x.t x.o (T - j) r) ∧ RowP wr w.heap.size v acc ∧ Rd wr R N r ∧ Chg [R] w wr ∧ Blk wr w.heap.size #[.int .i64 x.t, .int .i64 x.o, .int .i64 x.c, .int .i64 x.s, .int .i64 x.p, .int .i64 x.n, .int .u8 x.b, .int .i64 x.r, .int .i64 x.v, .int .u64 x.d] 24) (fun _ i _ => T - (intOf i).toNat)
  case atStart => exact ⟨0, [], l, by omega, rfl, rfl, by rw [preP_nil]; rfl, ⟨[], own_nil _ _ _ _, fun i hi => by simp at hi⟩, hrd0, HC.out, HB.out⟩
  case round =>
    obtain ⟨j, acc, r, hj, rfl, hacc, hp, hrow, hrd, hc, hbx⟩ := hrel
    subst hacc
    have HP := hide hp
    have HROW := hide hrow
    have HCH := hide hc
    have HBX := hide hbx
    obtain ⟨xs0, hown0, _⟩ := hrow
    obtain ⟨A1, c1, rfl⟩ := own_sl hown0
    clear hown0
    by_cases hlt : acc.length < T
    · have hltI : (acc.length : Int) < x.t := by have := HTX.out; omega
      have hpg := prog_any hNR hrd
      obtain ⟨Ar, cr, hRb⟩ := hrd.blk
      have HRB := hide hRb
      obtain ⟨k, hk⟩ : ∃ k, T - acc.length = k + 1 := ⟨T - acc.length - 1, by omega⟩
      have HK := hide hk
      clear hp hc hbx hrd hRb hk
      go_wp2_with fail
      refine hpg.mono ?_
      rintro e w2 ⟨hr, hc2⟩
      have hK2 := chg_kp hc2 HRB.out hNR
      have HROW2 := hide (HROW.out.kp hK2 (by decide) (by decide))
      have HBX2 := hide (hK2.blk HBX.out (by decide))
      have HCH2 := hide (HCH.out.trans hc2)
      clear hc2 hK2 hpg
      unfold ProgR at hr
      rcases hr with ⟨h1, rfl⟩ | ⟨p, er, r2, h1, ⟨A2, c2, rfl, hle2, hch2⟩, hrd2⟩
      · have hE : progsP x.t x.o T l = .error 4 := by rw [HP.out, HK.out]; simp only [progsP, h1]; rfl
        have HE := hide hE
        clear hE h1
        go_wp2_with fail
        go_ret2
        exact ⟨.inl ⟨4, HE.out, by decide, rfl⟩, HCH2.out⟩
      · by_cases he : er = 0
        · subst he
          have hmn : ∀ y, y ∈ p → ∀ w', Ext w2 w' → Calls Tryz.prog 76 #[.agg #[.int .i64 y.1, .int .i64 y.2.1, .int .i64 y.2.2], .pointer (some ⟨w.heap.size, 0, none⟩)] w' fun e w3 => e = .returned (.bool (isNo x.t x.o y)) ∧ Ext w' w3 :=
            fun y _ w' hx => mayNotP_any x y w.heap.size w' (HBX2.out.ext hx)
          have hcf := cfo_any 76 (fun _ _ => by kernel_rfl) (.pointer (some ⟨w.heap.size, 0, none⟩)) (isNo x.t x.o) c2 (by have := prog_len h1; omega) hch2.1 hmn
          have HCT := hide hch2
          have HPL := hide (prog_len h1)
          have HRD2 := hide hrd2
          cases hno : p.any (isNo x.t x.o) with
          | true =>
            have hE : progsP x.t x.o T l = .error 3 := by rw [HP.out, HK.out]; simp only [progsP, h1, hno]; rfl
            have HE := hide hE
            rw [hno] at hcf
            clear hE h1 hno hch2 hrd2 hmn
            go_wp2_with fail
            refine hcf.mono ?_
            rintro e w3 ⟨rfl, hx3⟩
            go_wp2_with fail
            go_ret2
            exact ⟨.inl ⟨3, HE.out, by decide, rfl⟩, HCH2.out.trans (hx3.chg _)⟩
          | false =>
            have hE : progsP x.t x.o T l = preP (acc ++ [p]) (progsP x.t x.o k r2) := by rw [HP.out, HK.out]; simp only [progsP, h1, hno]; rw [← preP_pre]; rfl
            have HE := hide hE
            rw [hno] at hcf
            clear hE h1 hno hch2 hrd2 hmn
            go_wp2_with fail
            refine hcf.mono ?_
            rintro e w3 ⟨rfl, hx3⟩
            have HX3 := hide hx3
            have HROW3 := hide (HROW2.out.kp (hx3.kp [] 0) (by simp) (by simp))
            obtain ⟨xs, hown, hel⟩ := HROW3.out
            have HOWN := hide hown
            have hs3 : w.heap.size ≤ w3.heap.size := Nat.le_trans HCH2.out.size hx3.size
            clear hx3 hcf hown
            go_wp2_with (at_builtin; refine wpList_app3 (base := w.heap.size) rfl rfl Tryz.underlying25 inf_ops rfl (by omega) rfl HOWN.out hs3 rfl rfl rfl (by simp [Value.oneCell']) (by unfold maxLen; omega) (by omega) ?_; intro v' w4 hown' hg4 hk4; go_frame)
            have hg5 : (w3.alloc (.cells #[.slice A2 p.length c2] 48)).grownBy w4 (Value.slice A1 acc.length c1).ownBlock := hg4
            have xa := Ext.alloc w3 (.cells #[.slice A2 p.length c2] 48)
            have k4 := Kp.grow (ts := [48]) hg5 (own_ext HOWN.out xa) (by simp)
            have HROW4 : RowP w4 w.heap.size v' (acc ++ [p]) := by
              refine ⟨xs ++ [.slice A2 p.length c2], by rw [List.length_append]; exact hown', fun i hi => ?_⟩
              have hxl : xs.length = acc.length := by have := HOWN.out.1; omega
              rcases Nat.lt_or_ge i acc.length with q | q
              · obtain ⟨A, c, e1, e2, e3⟩ := hel i q
                rw [List.getElem_append_left q]
                exact ⟨A, c, by rw [List.getElem?_append_left (by omega)]; exact e1, e2, (e3.kp (xa.kp [] 0) (by simp)).kp k4 (by decide)⟩
              · have hi2 : i = acc.length := by simp at hi; omega
                subst hi2
                rw [List.getElem_append_right (Nat.le_refl _)]
                simp only [Nat.sub_self, List.getElem_cons_zero]
                exact ⟨A2, c2, by rw [List.getElem?_append_right (by omega), hxl, Nat.sub_self]; rfl, by have := HPL.out; omega, ((HCT.out.kp (HX3.out.kp [] 0) (by simp)).kp (xa.kp [] 0) (by simp)).kp k4 (by decide)⟩
            have hrd4 := ((HRD2.out.ext HX3.out).ext xa).kp (k4.low (show N ≤ w.heap.size by omega)) (by decide)
            have hc4 : Chg [R] w w4 := Chg.of_row ((HCH2.out.trans (HX3.out.chg _)).trans (xa.chg _)) hg5 (fun k hk => own_row HOWN.out k hk)
            have hb4 := k4.blk ((HBX2.out.ext HX3.out).ext xa) (by decide)
            clear hg4 hg5 hk4 k4 xa
            go_roundw
            case rel => exact ⟨acc.length + 1, acc ++ [p], r2, by omega, by go_num, by simp, by rw [HE.out, show T - (acc.length + 1) = k by have := HK.out; omega], HROW4, hrd4, hc4, hb4⟩
            case measure => simp [intOf]; omega
        · have hE : progsP x.t x.o T l = .error er := by rw [HP.out, HK.out]; simp only [progsP, h1]; rw [if_pos he]; rfl
          have HE := hide hE
          clear hE h1
          go_wp2_with fail
          go_ret2
          exact ⟨.inl ⟨er, HE.out, he, rfl⟩, HCH2.out⟩
    · have hTe : acc.length = T := by omega
      have hE : progsP x.t x.o T l = .ok (acc, r) := by rw [HP.out, hTe, Nat.sub_self]; simp [progsP, preP]
      have HE := hide hE
      have HRD := hide hrd
      have h3 : ¬ (acc.length : Int) < x.t := by have := HTX.out; omega
      clear hp hE hrd hc hbx hTe
      go_wp2_with fail
      go_ret2
      exact ⟨.inr ⟨acc, r, _, HE.out, rfl, HROW.out, HRD.out⟩, HCH.out⟩
end Go.Proofs.YtlgomkocalieeaaGreatDoor

namespace Go.Proofs.YtlgomkocalieeaaGreatDoor
open Go.RowKit
set_option linter.unusedSimpArgs false
set_option linter.unusedVariables false
set_option maxRecDepth 100000
set_option maxHeartbeats 4000000

def turnP (b : UInt8) (r : List UInt8) : Except Int (Tr × List UInt8) :=
  if b.toNat < 8 then .ok ((1, (b.toNat : Int)), r) else if b = 100 then (match r with | [] => .error 4 | n :: r => .ok ((2, (n.toNat : Int)), r)) else if b = 101 then .ok ((3, 0), r) else .error 3
def turnsP (t : Int) : Nat → List UInt8 → Except Int (List Tr)
  | _, [] => .ok []
  | 0, _ :: _ => .error 5
  | m + 1, b :: r => match turnP b r with
    | .error e => .error e
    | .ok (x, r') => if isT t x = true then (match turnsP t m r' with | .error e => .error e | .ok ts => .ok (x :: ts)) else .error 1
def TurnR (R N : Nat) (b : UInt8) (l : List UInt8) (e : Ending) (w' : World) : Prop :=
  (∃ er, turnP b l = .error er ∧ er ≠ 0 ∧ e = .returned (.tuple #[.agg #[.int .i64 0, .int .i64 0], .int .i64 er])) ∨
  (∃ x r, turnP b l = .ok (x, r) ∧ e = .returned (.tuple #[.agg #[.int .i64 x.1, .int .i64 x.2], .int .i64 0]) ∧ Rd w' R N r)
theorem turn_any {w : World} {R N : Nat} (hNR : N ≤ R) (b : UInt8) {l : List UInt8} (h : Rd w R N l) :
    Calls Tryz.prog 78 #[.int .u8 (b.toNat : Int), (Value.func (.func 33) #[.pointer (some ⟨R, 0, none⟩)] #[])] w fun e w' => TurnR R N b l e w' ∧ Chg [R] w w' := by
  have hRlt : R < w.heap.size := by obtain ⟨A, c, hbk⟩ := h.blk; exact hbk.lt
  have hNw : N ≤ w.heap.size := by omega
  have hX0 := Ext.alloc w (.cells #[.int .i64 0, .int .i64 0] 55)
  have hbk := Blk.new w #[.int .i64 0, .int .i64 0] 55
  have hrd := h.ext hX0
  have HX := hide hX0
  have q0 := hbk.cell
  have f0 := hbk.free
  by_cases h8 : b.toNat < 8
  · have h8i : (b.toNat : Int) < 8 := by omega
    have hE := hide (show turnP b l = .ok ((1, (b.toNat : Int)), l) from if_pos h8)
    have hw : IntKind.i64.wrap (b.toNat : Int) = (b.toNat : Int) := by rw [IntKind.wrap_i64]; omega
    have hxr := Ext.alloc w (.cells #[.int .i64 1, .int .i64 (b.toNat : Int)] 55)
    have HRD := hide (h.ext hxr)
    have HXR := hide hxr
    have z := (Blk.new w #[.int .i64 1, .int .i64 (b.toNat : Int)] 55).cell
    have z0 := z 0
    have z1 := z 1
    clear hrd h hxr z
    go_enter Tryz.func78, Tryz.ntmps78
    go_wp2_with fail
    refine bodyPost_ret (v := .tuple #[.agg #[.int .i64 1, .int .i64 (b.toNat : Int)], .int .i64 0]) (by simp [results, Tryz.results78, go_sem, z0, z1]) rfl ?_
    exact ⟨.inr ⟨(1, (b.toNat : Int)), l, hE.out, rfl, HRD.out⟩, HXR.out.chg _⟩
  · have h8i : ¬ (b.toNat : Int) < 8 := by omega
    by_cases h100 : b = 100
    · subst h100
      cases l with
      | nil =>
        have hE := hide (show turnP 100 [] = .error 4 from rfl)
        have ht := take_nil hrd
        clear h
        go_enter Tryz.func78, Tryz.ntmps78
        go_wp2_with fail
        refine ht.mono ?_
        rintro e w1 ⟨rfl, rfl⟩
        go_wp2_with fail
        have z0 := q0 0
        have z1 := q0 1
        refine bodyPost_ret (v := .tuple #[.agg #[.int .i64 0, .int .i64 0], .int .i64 4]) (by simp [results, Tryz.results78, go_sem, z0, z1]) rfl ?_
        exact ⟨.inl ⟨4, hE.out, by decide, rfl⟩, HX.out.chg _⟩
      | cons n r =>
        have hE := hide (show turnP 100 (n :: r) = .ok ((2, (n.toNat : Int)), r) from rfl)
        have ht := take_cons hrd
        have hn := n.toNat_lt
        have hw : IntKind.i64.wrap (n.toNat : Int) = (n.toNat : Int) := by rw [IntKind.wrap_i64]; omega
        clear h
        go_enter Tryz.func78, Tryz.ntmps78
        go_wp2_with fail
        refine ht.mono ?_
        rintro e w1 ⟨rfl, hrd1, hc1⟩
        have hb1 := hbk.chg hc1 (by simp; omega)
        have q1 := hb1.cell
        have f1 := hb1.free
        have HRD := hide (hrd1.kp (ts := [55]) (((Kp.cell (j := 0) (u := .int .i64 2) hb1 hNw (by simp)).trans (Kp.cell (j := 1) (u := .int .i64 (n.toNat : Int)) (hb1.set 0 _) hNw (by simp))) : Kp [55] N _ _) (by decide))
        have HB2 := hide ((hb1.set 0 (.int .i64 2)).set 1 (.int .i64 (n.toNat : Int)))
        have HCC := hide (((HX.out.chg [R]).trans hc1).newB (((Chg.refl [w.heap.size] w1).set (p := ⟨w.heap.size, 0, none⟩) (.inl (by simp)) (.int .i64 2)).set (p := ⟨w.heap.size, 1, none⟩) (.inl (by simp)) (.int .i64 (n.toNat : Int))) (Nat.le_refl _))
        clear hrd1 hc1 hbk hrd ht q0 f0
        go_wp2_with fail
        have z0 := HB2.out.cell 0
        have z1 := HB2.out.cell 1
        refine bodyPost_ret (v := .tuple #[.agg #[.int .i64 2, .int .i64 (n.toNat : Int)], .int .i64 0]) (by simp [results, Tryz.results78, go_sem, z0, z1]) rfl ?_
        exact ⟨.inr ⟨(2, (n.toNat : Int)), r, hE.out, rfl, HRD.out⟩, HCC.out⟩
    · have h100i : ¬ (b.toNat : Int) = 100 := by
        intro e
        exact h100 (by rw [← UInt8.toNat_inj]; show b.toNat = 100; omega)
      by_cases h101 : b = 101
      · subst h101
        have hE := hide (show turnP 101 l = .ok ((3, 0), l) from rfl)
        have hxr := Ext.alloc w (.cells #[.int .i64 3, .int .i64 0] 55)
        have HRD := hide (h.ext hxr)
        have HXR := hide hxr
        have z := (Blk.new w #[.int .i64 3, .int .i64 0] 55).cell
        have z0 := z 0
        have z1 := z 1
        clear hrd h hxr z
        go_enter Tryz.func78, Tryz.ntmps78
        go_wp2_with fail
        refine bodyPost_ret (v := .tuple #[.agg #[.int .i64 3, .int .i64 0], .int .i64 0]) (by simp [results, Tryz.results78, go_sem, z0, z1]) rfl ?_
        exact ⟨.inr ⟨(3, 0), l, hE.out, rfl, HRD.out⟩, HXR.out.chg _⟩
      · have h101i : ¬ (b.toNat : Int) = 101 := by
          intro e
          exact h101 (by rw [← UInt8.toNat_inj]; show b.toNat = 101; omega)
        have hE := hide (show turnP b l = .error 3 by unfold turnP; rw [if_neg h8, if_neg h100, if_neg h101])
        clear h
        go_enter Tryz.func78, Tryz.ntmps78
        go_wp2_with fail
        have z0 := q0 0
        have z1 := q0 1
        refine bodyPost_ret (v := .tuple #[.agg #[.int .i64 0, .int .i64 0], .int .i64 3]) (by simp [results, Tryz.results78, go_sem, z0, z1]) rfl ?_
        exact ⟨.inl ⟨3, hE.out, by decide, rfl⟩, HX.out.chg _⟩
theorem inf_turn : (Tryz.prog.info? 55).map (fun i => (i.zero, i.size, i.bytes)) = some (some (.agg #[.int .i64 0, .int .i64 0]), 2, 16) := by kernel_rfl
def preT (acc : List Tr) : Except Int (List Tr) → Except Int (List Tr)
  | .error e => .error e
  | .ok ts => .ok (acc ++ ts)
theorem preT_nil (x : Except Int (List Tr)) : preT [] x = x := by cases x <;> rfl
theorem turns_cons {t : Int} {m : Nat} {b : UInt8} {r r' : List UInt8} {x : Tr} (h : turnP b r = .ok (x, r')) (hx : isT t x = true) : turnsP t (m + 1) (b :: r) = preT [x] (turnsP t m r') := by
  simp only [turnsP, h, hx, if_true]
  cases turnsP t m r' <;> rfl
theorem preT_pre (a b : List Tr) (x : Except Int (List Tr)) : preT a (preT b x) = preT (a ++ b) x := by cases x <;> simp [preT]
theorem turns_nil (t : Int) (m : Nat) : turnsP t m [] = .ok [] := by cases m <;> rfl
def TurnsR (B : Nat) (t : Int) (l : List UInt8) (e : Ending) (w' : World) : Prop :=
  (∃ er, turnsP t 4096 l = .error er ∧ er ≠ 0 ∧ e = .returned (.tuple #[.slice none 0 0, .int .i64 er])) ∨
  (∃ ts v, turnsP t 4096 l = .ok ts ∧ e = .returned (.tuple #[v, .int .i64 0]) ∧ w'.ownsRow B 55 2 v ts.length (tcells ts))
theorem turns_any {w : World} {R N : Nat} (hNR : N ≤ R) {l : List UInt8} (t : Int) (h : Rd w R N l) :
    Calls Tryz.prog 51 #[(Value.func (.func 33) #[.pointer (some ⟨R, 0, none⟩)] #[]), .int .i64 t] w fun e w' => TurnsR w.heap.size t l e w' ∧ Chg [R] w w' := by
  have hRlt : R < w.heap.size := by obtain ⟨A, c, hbk⟩ := h.blk; exact hbk.lt
  go_enter Tryz.func51, Tryz.ntmps51
  go_wp2_with fail
  go_loopw [6] (fun v wr => ∃ (acc : List Tr) (r : List UInt8), wr.ownsRow w.heap.size 55 2 v acc.length (tcells acc) ∧ acc.length ≤ 4096 ∧ turnsP t 4096 l = preT acc (turnsP t (4096 - acc.length) r) ∧ Rd wr R N r ∧ Chg [R] w wr) (fun v _ => 4097 - slLen v)
  case atStart => exact ⟨[], l, own_nil _ _ _ _, by simp, by rw [preT_nil]; rfl, h, Chg.refl _ _⟩
  case round =>
    obtain ⟨acc, r, hown, hacc, hp, hrd, hc⟩ := hrel
    obtain ⟨A1, c1, rfl⟩ := own_sl hown
    have HP := hide hp
    have HO := hide hown
    have HC := hide hc
    obtain ⟨Ar, cr, hRb⟩ := hrd.blk
    cases r with
    | nil =>
      have ht := take_nil hrd
      have hE := hide (show turnsP t 4096 l = .ok acc by rw [HP.out, turns_nil]; simp [preT])
      clear hp hown hc hrd hRb h
      go_wp2_with fail
      refine ht.mono ?_
      rintro e w1 ⟨rfl, rfl⟩
      go_wp2_with fail
      go_ret2
      exact ⟨.inr ⟨acc, _, hE.out, rfl, HO.out⟩, HC.out⟩
    | cons b r =>
      have ht := take_cons hrd
      have HRB := hide hRb
      clear hp hown hc hrd hRb h
      by_cases h4 : acc.length = 4096
      · have h4i : (acc.length : Int) = 4096 := by omega
        have hE := hide (show turnsP t 4096 l = .error 5 by rw [HP.out, h4]; rfl)
        have HC2 := HC
        clear h4
        go_wp2_with fail
        refine ht.mono ?_
        rintro e w1 ⟨rfl, hrd1, hc1⟩
        go_wp2_with fail
        go_ret2
        exact ⟨.inl ⟨5, hE.out, by decide, rfl⟩, HC2.out.trans hc1⟩
      · have h4i : ¬ (acc.length : Int) = 4096 := by omega
        obtain ⟨m, hm⟩ : ∃ m, 4096 - acc.length = m + 1 := ⟨4096 - acc.length - 1, by omega⟩
        have HM := hide hm
        clear hm h4
        go_wp2_with fail
        refine ht.mono ?_
        rintro e w1 ⟨rfl, hrd1, hc1⟩
        have HO1 := hide ((chg_kp hc1 HRB.out hNR).own HO.out (by decide))
        have HC1 := hide (HC.out.trans hc1)
        have htu := turn_any hNR b hrd1
        obtain ⟨Ar1, cr1, hRb1⟩ := hrd1.blk
        have HRB1 := hide hRb1
        clear hc1 hrd1 hRb1 ht
        go_wp2_with fail
        refine htu.mono ?_
        rintro e w2 ⟨hr, hc2⟩
        have HO2 := hide ((chg_kp hc2 HRB1.out hNR).own HO1.out (by decide))
        have HC2 := hide (HC1.out.trans hc2)
        clear hc2 htu
        unfold TurnR at hr
        rcases hr with ⟨er, h1, hne, rfl⟩ | ⟨⟨k, n⟩, r2, h1, rfl, hrd2⟩
        · have hE := hide (show turnsP t 4096 l = .error er by rw [HP.out, HM.out]; simp only [turnsP, h1]; rfl)
          clear h1
          go_wp2_with fail
          go_ret2
          exact ⟨.inl ⟨er, hE.out, hne, rfl⟩, HC2.out.trans ((Ext.alloc _ _).chg _)⟩
        · have hxt := Ext.alloc w2 (.cells #[.int .i64 k, .int .i64 n] 55)
          have HXT := hide hxt
          have HRD2 := hide (hrd2.ext hxt)
          have HO3 := hide (own_ext HO2.out hxt)
          have qt := (Blk.new w2 #[.int .i64 k, .int .i64 n] 55).cell
          have hit := isTurn_any (k, n) t (w2.alloc (.cells #[.int .i64 k, .int .i64 n] 55))
          have hbt := Blk.new w2 #[.int .i64 k, .int .i64 n] 55
          clear hrd2 hxt
          cases hi : isT t (k, n) with
          | false =>
            rw [hi] at hit
            have hE := hide (show turnsP t 4096 l = .error 1 by rw [HP.out, HM.out]; simp only [turnsP, h1, hi]; rfl)
            clear h1 hi
            go_wp2_with fail
            refine hit.mono ?_
            rintro e w3 ⟨rfl, hx3⟩
            go_wp2_with fail
            go_ret2
            exact ⟨.inl ⟨1, hE.out, by decide, rfl⟩, HC2.out.trans ((HXT.out.trans hx3).chg _)⟩
          | true =>
            rw [hi] at hit
            have hE := hide (show turnsP t 4096 l = preT (acc ++ [(k, n)]) (turnsP t m r2) by rw [HP.out, HM.out, turns_cons h1 hi, preT_pre])
            clear h1 hi
            go_wp2_with fail
            refine hit.mono ?_
            rintro e w3 ⟨rfl, hx3⟩
            have HO4 := hide (own_ext HO3.out hx3)
            have HRD3 := hide (HRD2.out.ext hx3)
            have HC3 := hide (HC2.out.trans ((HXT.out.trans hx3).chg _))
            have q3 := (hbt.ext hx3).cell
            have hs3 : w.heap.size ≤ w3.heap.size := HC3.out.size
            clear hx3 hit qt hbt
            go_wp2_with (at_builtin; refine wpList_app3 (base := w.heap.size) rfl rfl Tryz.underlying35 inf_turn rfl (by omega) rfl HO4.out hs3 rfl rfl rfl (by simp [Value.oneCell']) (by unfold maxLen; omega) (by omega) ?_; intro v' w4 hown' hg4 hk4; go_frame)
            have hg5 : (w3.alloc (.cells #[.int .i64 k, .int .i64 n] 55)).grownBy w4 (Value.slice A1 acc.length c1).ownBlock := hg4
            have xa := Ext.alloc w3 (.cells #[.int .i64 k, .int .i64 n] 55)
            have k4 := Kp.grow (ts := [55]) hg5 (own_ext HO4.out xa) (by simp)
            have hrd4 := (HRD3.out.ext xa).kp (k4.low (show N ≤ w.heap.size by omega)) (by decide)
            have hc4 : Chg [R] w w4 := Chg.of_row (HC3.out.trans (xa.chg _)) hg5 (fun k hk => own_row HO4.out k hk)
            obtain ⟨A5, c5, rfl⟩ := own_sl hown'
            clear hg4 hg5 hk4 k4 xa q3
            go_roundw
            case rel => exact ⟨acc ++ [(k, n)], r2, by rw [List.length_append, tcells_app]; exact hown', by simp; omega, by rw [hE.out, List.length_append, show 4096 - (acc.length + [(k, n)].length) = m by have := HM.out; simp; omega], hrd4, hc4⟩
            case measure => simp [slLen]; omega
end Go.Proofs.YtlgomkocalieeaaGreatDoor

namespace Go.Proofs.YtlgomkocalieeaaGreatDoor
open Go.RowKit
set_option linter.unusedSimpArgs false
set_option linter.unusedVariables false
set_option maxRecDepth 100000
set_option maxHeartbeats 8000000

def readS : List UInt8 → Except Int (Cf × List (List Op3) × List Tr)
  | [] => .error 4
  | b :: r => if b = 77 then (if r.length < 17 then .error 4 else if mayC (confC r) = true then
      (match progsP (confC r).t (confC r).o (confC r).t.toNat (r.drop 17) with
        | .error e => .error e
        | .ok (ps, q) => match turnsP (confC r).t 4096 q with
          | .error e => .error e
          | .ok ts => .ok (confC r, ps, ts)) else .error 1) else .error 3
/-- What Read answers. -/
def ReadR (l : List UInt8) (e : Ending) (w' : World) : Prop :=
  (∃ er, readS l = .error er ∧ er ≠ 0 ∧ e = .returned (.tuple #[.agg #[.int .i64 0, .int .i64 0, .int .i64 0, .int .i64 0, .int .i64 0, .int .i64 0, .int .u8 0, .int .i64 0, .int .i64 0, .int .u64 0, .slice none 0 0, .slice none 0 0], .int .i64 er])) ∨
  (∃ x ps ts A c B d, readS l = .ok (x, ps, ts) ∧ e = .returned (.tuple #[.agg #[.int .i64 x.t, .int .i64 x.o, .int .i64 x.c, .int .i64 x.s, .int .i64 x.p, .int .i64 x.n, .int .u8 x.b, .int .i64 x.r, .int .i64 x.v, .int .u64 x.d, .slice A ps.length c, .slice B ts.length d], .int .i64 0]) ∧ Pr w' A ps ∧ Tn w' B ts)
/-- .. with its rows in blocks of their own types. -/
def ReadT (B : Nat) (l : List UInt8) (e : Ending) (w' : World) : Prop :=
  (∃ er, readS l = .error er ∧ er ≠ 0 ∧ e = .returned (.tuple #[.agg #[.int .i64 0, .int .i64 0, .int .i64 0, .int .i64 0, .int .i64 0, .int .i64 0, .int .u8 0, .int .i64 0, .int .i64 0, .int .u64 0, .slice none 0 0, .slice none 0 0], .int .i64 er])) ∨
  (∃ x ps ts v1 v2, readS l = .ok (x, ps, ts) ∧ e = .returned (.tuple #[.agg #[.int .i64 x.t, .int .i64 x.o, .int .i64 x.c, .int .i64 x.s, .int .i64 x.p, .int .i64 x.n, .int .u8 x.b, .int .i64 x.r, .int .i64 x.v, .int .u64 x.d, v1, v2], .int .i64 0]) ∧ RowP w' B v1 ps ∧ w'.ownsRow B 55 2 v2 ts.length (tcells ts))
theorem RowP.low {w : World} {B N : Nat} {v : Value} {acc : List (List Op3)} (h : RowP w B v acc) (hN : N ≤ B) : RowP w N v acc := by
  obtain ⟨xs, q1, q2⟩ := h
  exact ⟨xs, own_low q1 hN, q2⟩
theorem inf_scr (cs : Array Value) (h : cs.size = 12) : (Tryz.prog.info? 37).map (·.size) = some cs.size := by rw [h]; kernel_rfl
theorem scr_res {cs : Array Value} (hs : cs.size = 12) {fn : Func} (h : fn.results = #[.cell 2 37, .tmp 3]) (tmps : Array Value) (w : World) {b : Nat} {u : Value} (e2 : tmps.getD 2 undef = .pointer (some ⟨b, 0, none⟩)) (e3 : tmps.getD 3 undef = u) (hb : Blk w b cs 37) :
    (results fn tmps).run Tryz.prog w = .ok (.tuple #[.agg cs, u]) w := by
  have l : (loadVar 37 ⟨b, 0, none⟩).run Tryz.prog w = .ok (.agg cs) w := by
    have := run_loadVar_mid w b 0 37 cs.toList _ (fun j v hv => by rw [Nat.zero_add]; exact (Blk.cell hb j).trans (by rw [← Array.getElem?_toList]; exact hv)) Tryz.underlying37 rfl (by rw [Array.length_toList]; exact inf_scr cs hs)
    rwa [Array.toArray_toList] at this
  rw [results_cell_tmp h, e2, e3]
  simp only [asAddr, Sem.run_pure, Result.andThen_ok, l]
theorem scrOf_any {w : World} {R N : Nat} (hNR : N ≤ R) {l : List UInt8} (h : Rd w R N l) :
    Calls Tryz.prog 32 #[(Value.func (.func 33) #[.pointer (some ⟨R, 0, none⟩)] #[])] w fun e w' => ReadT w.heap.size l e w' ∧ Chg [R] w w' := by
  have hRlt : R < w.heap.size := by obtain ⟨A, c, hbk⟩ := h.blk; exact hbk.lt
  have hX0 := Ext.alloc w (.cells #[.int .i64 0, .int .i64 0, .int .i64 0, .int .i64 0, .int .i64 0, .int .i64 0, .int .u8 0, .int .i64 0, .int .i64 0, .int .u64 0, .slice none 0 0, .slice none 0 0] 37)
  have hz := Blk.new w #[.int .i64 0, .int .i64 0, .int .i64 0, .int .i64 0, .int .i64 0, .int .i64 0, .int .u8 0, .int .i64 0, .int .i64 0, .int .u64 0, .slice none 0 0, .slice none 0 0] 37
  have hrd := h.ext hX0
  have HX := hide hX0
  clear h hX0
  cases l with
  | nil =>
    have ht := take_nil hrd
    go_enter Tryz.func32, Tryz.ntmps32
    go_wp2_with fail
    refine ht.mono ?_
    rintro e w1 ⟨rfl, rfl⟩
    have HBZ := hide (hz)
    go_wp2_with (with_reducible refine wpList_rput 37 rfl _ _ rfl w.heap.size #[.int .i64 0, .int .i64 0, .int .i64 0, .int .i64 0, .int .i64 0, .int .i64 0, .int .u8 0, .int .i64 0, .int .i64 0, .int .u64 0, .slice none 0 0, .slice none 0 0] rfl rfl _ HBZ.out (inf_scr _ rfl) rfl (by simp [Value.oneCell']) ?_; intro w9 hb9 hc9 hs9; go_frame)
    refine bodyPost_ret (scr_res rfl Tryz.results32 _ _ rfl rfl hb9) rfl ?_
    exact ⟨.inl ⟨4, rfl, by decide, rfl⟩, (HX.out.chg [R]).newB hc9 (Nat.le_refl _)⟩
  | cons b r =>
    have ht := take_cons hrd
    have hRN : N ≤ w.heap.size := by omega
    by_cases h77 : b = 77
    · subst h77
      go_enter Tryz.func32, Tryz.ntmps32
      go_wp2_with fail
      refine ht.mono ?_
      rintro e w1 ⟨rfl, hrd1, hc1⟩
      have hz1 := hz.chg hc1 (by simp; omega)
      have HC1 := hide ((HX.out.chg [R]).trans hc1)
      have hcf := conf_any (Nat.le_trans hRN HC1.out.size) hrd1
      clear hc1 hz ht hrd hrd1
      go_wp2_with fail
      refine hcf.mono ?_
      rintro e w2 ⟨hr, hc2⟩
      have hz2 := hz1.chg hc2 (by simp; omega)
      have HC2 := hide (HC1.out.trans hc2)
      clear hc2 hz1 hcf
      unfold ConfR at hr
      rcases hr with ⟨h17, rfl⟩ | ⟨h17, hm, rfl⟩ | ⟨h17, hm, rfl, hrd2⟩
      · have hE := hide (show readS (77 :: r) = .error 4 by simp only [readS, if_true]; rw [if_pos h17])
        have hxa := Ext.alloc w2 (.cells #[.int .i64 0, .int .i64 0, .int .i64 0, .int .i64 0, .int .i64 0, .int .i64 0, .int .u8 0, .int .i64 0, .int .i64 0, .int .u64 0] 24)
        have HBZ := hide (hz2.ext hxa)
        go_wp2_with (with_reducible refine wpList_rput 37 rfl _ _ rfl w.heap.size #[.int .i64 0, .int .i64 0, .int .i64 0, .int .i64 0, .int .i64 0, .int .i64 0, .int .u8 0, .int .i64 0, .int .i64 0, .int .u64 0, .slice none 0 0, .slice none 0 0] rfl rfl _ HBZ.out (inf_scr _ rfl) rfl (by simp [Value.oneCell']) ?_; intro w9 hb9 hc9 hs9; go_frame)
        refine bodyPost_ret (scr_res rfl Tryz.results32 _ _ rfl rfl hb9) rfl ?_
        exact ⟨.inl ⟨4, hE.out, by decide, rfl⟩, (HC2.out.trans (hxa.chg _)).newB hc9 (Nat.le_refl _)⟩
      · have hE := hide (show readS (77 :: r) = .error 1 by simp only [readS, if_true]; rw [if_neg (by omega), hm]; rfl)
        have hxa := Ext.alloc w2 (.cells #[.int .i64 0, .int .i64 0, .int .i64 0, .int .i64 0, .int .i64 0, .int .i64 0, .int .u8 0, .int .i64 0, .int .i64 0, .int .u64 0] 24)
        have HBZ := hide (hz2.ext hxa)
        go_wp2_with (with_reducible refine wpList_rput 37 rfl _ _ rfl w.heap.size #[.int .i64 0, .int .i64 0, .int .i64 0, .int .i64 0, .int .i64 0, .int .i64 0, .int .u8 0, .int .i64 0, .int .i64 0, .int .u64 0, .slice none 0 0, .slice none 0 0] rfl rfl _ HBZ.out (inf_scr _ rfl) rfl (by simp [Value.oneCell']) ?_; intro w9 hb9 hc9 hs9; go_frame)
        refine bodyPost_ret (scr_res rfl Tryz.results32 _ _ rfl rfl hb9) rfl ?_
        exact ⟨.inl ⟨1, hE.out, by decide, rfl⟩, (HC2.out.trans (hxa.chg _)).newB hc9 (Nat.le_refl _)⟩
      · have hE0 : readS (77 :: r) = (match progsP (confC r).t (confC r).o (confC r).t.toNat (r.drop 17) with
            | .error e => .error e
            | .ok (ps, q) => match turnsP (confC r).t 4096 q with
              | .error e => .error e
              | .ok ts => .ok (confC r, ps, ts)) := by simp only [readS, if_true]; rw [if_neg (by omega), if_pos hm]
        have HE0 := hide hE0
        have hmn := may_n hm
        clear hE0 hm
        generalize confC r = x at *
        obtain ⟨T, hT⟩ := Int.eq_ofNat_of_zero_le (show 0 ≤ x.t by omega)
        have HT := hide hT
        have hTn : x.t.toNat = T := by omega
        rw [hTn] at HE0
        have hxa := Ext.alloc w2 (.cells #[.int .i64 x.t, .int .i64 x.o, .int .i64 x.c, .int .i64 x.s, .int .i64 x.p, .int .i64 x.n, .int .u8 x.b, .int .i64 x.r, .int .i64 x.v, .int .u64 x.d] 24)
        have hz3 := hz2.ext hxa
        have hpa := progs_any hNR x T hT (by omega) (hrd2.ext hxa)
        have qx := (Blk.new w2 #[.int .i64 x.t, .int .i64 x.o, .int .i64 x.c, .int .i64 x.s, .int .i64 x.p, .int .i64 x.n, .int .u8 x.b, .int .i64 x.r, .int .i64 x.v, .int .u64 x.d] 24)
        have qc := qx.cell
        have HC3 := hide (HC2.out.trans (hxa.chg _))
        have hws : w.heap.size ≤ (w2.alloc (.cells #[.int .i64 x.t, .int .i64 x.o, .int .i64 x.c, .int .i64 x.s, .int .i64 x.p, .int .i64 x.n, .int .u8 x.b, .int .i64 x.r, .int .i64 x.v, .int .u64 x.d] 24)).heap.size := HC3.out.size
        clear hT hTn hmn hrd2 hz2 hxa
        generalize r.drop 17 = r17 at *
        go_wp2_with fail
        generalize w2.alloc (.cells #[.int .i64 x.t, .int .i64 x.o, .int .i64 x.c, .int .i64 x.s, .int .i64 x.p, .int .i64 x.n, .int .u8 x.b, .int .i64 x.r, .int .i64 x.v, .int .u64 x.d] 24) = wa at *
        refine hpa.mono ?_
        rintro e w3 ⟨hr, hc3⟩
        have hz4 := hz3.chg hc3 (by simp; omega)
        have HC4 := hide (HC3.out.trans hc3)
        have HC4s := hide hc3.size
        have hqx3 := qx.chg hc3 (by simp; have := HC2.out.size; omega)
        clear hz3 hpa qx qc
        unfold ProgsR at hr
        rcases hr with ⟨er, h1, hne, rfl⟩ | ⟨ps, r2, v, h1, rfl, hrow, hrd3⟩
        · have hE := hide (show readS (77 :: r) = .error er by rw [HE0.out, h1])
          clear hc3 h1
          have HBZ := hide (hz4)
          go_wp2_with (with_reducible refine wpList_rput 37 rfl _ _ rfl w.heap.size #[.int .i64 0, .int .i64 0, .int .i64 0, .int .i64 0, .int .i64 0, .int .i64 0, .int .u8 0, .int .i64 0, .int .i64 0, .int .u64 0, .slice none 0 0, .slice none 0 0] rfl rfl _ HBZ.out (inf_scr _ rfl) rfl (by simp [Value.oneCell']) ?_; intro w9 hb9 hc9 hs9; go_frame)
          refine bodyPost_ret (scr_res rfl Tryz.results32 _ _ rfl rfl hb9) rfl ?_
          exact ⟨.inl ⟨er, hE.out, hne, rfl⟩, HC4.out.newB hc9 (Nat.le_refl _)⟩
        · have hta := turns_any hNR x.t hrd3
          obtain ⟨Ar, cr, hRb⟩ := hrd3.blk
          have HRB := hide hRb
          have qc := hqx3.cell
          have HROW := hide hrow
          have H1 := hide h1
          obtain ⟨xs, hown, _⟩ := hrow
          obtain ⟨Ap, cp, rfl⟩ := own_sl hown
          clear hc3 hrd3 hRb hown h1
          go_wp2_with fail
          refine hta.mono ?_
          rintro e w4 ⟨hr, hc4⟩
          have hz5 := hz4.chg hc4 (by simp; omega)
          have HC5 := hide (HC4.out.trans hc4)
          have hqx4 := hqx3.chg hc4 (by simp; have := HC2.out.size; omega)
          have HROW4 := hide (HROW.out.kp (chg_kp hc4 HRB.out hNR) (by decide) (by decide))
          clear hc4 hta hz4 hqx3 qc
          unfold TurnsR at hr
          rcases hr with ⟨er, h2, hne, rfl⟩ | ⟨ts, v2, h2, rfl, hown2⟩
          · have hE := hide (show readS (77 :: r) = .error er by rw [HE0.out, H1.out]; simp only [h2])
            clear h2
            have HBZ := hide (hz5)
            go_wp2_with (with_reducible refine wpList_rput 37 rfl _ _ rfl w.heap.size #[.int .i64 0, .int .i64 0, .int .i64 0, .int .i64 0, .int .i64 0, .int .i64 0, .int .u8 0, .int .i64 0, .int .i64 0, .int .u64 0, .slice none 0 0, .slice none 0 0] rfl rfl _ HBZ.out (inf_scr _ rfl) rfl (by simp [Value.oneCell']) ?_; intro w9 hb9 hc9 hs9; go_frame)
            refine bodyPost_ret (scr_res rfl Tryz.results32 _ _ rfl rfl hb9) rfl ?_
            exact ⟨.inl ⟨er, hE.out, hne, rfl⟩, HC5.out.newB hc9 (Nat.le_refl _)⟩
          · have hE := hide (show readS (77 :: r) = .ok (x, ps, ts) by rw [HE0.out, H1.out]; simp only [h2])
            have qc := hqx4.cell
            have HBZ := hide hz5
            have HOW := hide hown2
            obtain ⟨Bt, ct, rfl⟩ := own_sl hown2
            clear h2 hown2
            go_wp2_with (with_reducible refine wpList_rput 37 rfl _ _ rfl w.heap.size #[.int .i64 x.t, .int .i64 x.o, .int .i64 x.c, .int .i64 x.s, .int .i64 x.p, .int .i64 x.n, .int .u8 x.b, .int .i64 x.r, .int .i64 x.v, .int .u64 x.d, .slice Ap ps.length cp, .slice Bt ts.length ct] rfl rfl _ HBZ.out (inf_scr _ rfl) rfl (by simp [Value.oneCell']) ?_; intro w9 hb9 hc9 hs9; go_frame)
            refine bodyPost_ret (scr_res rfl Tryz.results32 _ _ rfl rfl hb9) rfl ?_
            have hk9 : Kp [37] 0 w4 w9 := hc9.kp (fun k hk => by rw [List.mem_singleton.1 hk]; exact ⟨Nat.zero_le _, fun _ => ⟨_, _, HBZ.out, by simp⟩⟩)
            exact ⟨.inr ⟨x, ps, ts, _, _, hE.out, rfl, (HROW4.out.kp hk9 (by decide) (by decide)).low hws, own_low (hk9.own HOW.out (by decide)) (Nat.le_trans HC3.out.size HC4s.out)⟩, HC5.out.newB hc9 (Nat.le_refl _)⟩
    · have h77i : ¬ (b.toNat : Int) = 77 := by
        intro e
        exact h77 (by rw [← UInt8.toNat_inj]; show b.toNat = 77; omega)
      have hE := hide (show readS (b :: r) = .error 3 by simp only [readS]; rw [if_neg h77])
      go_enter Tryz.func32, Tryz.ntmps32
      go_wp2_with fail
      refine ht.mono ?_
      rintro e w1 ⟨rfl, hrd1, hc1⟩
      have hz1 := hz.chg hc1 (by simp; omega)
      have HC1 := hide ((HX.out.chg [R]).trans hc1)
      clear hc1 hz ht hrd hrd1
      have HBZ := hide (hz1)
      go_wp2_with (with_reducible refine wpList_rput 37 rfl _ _ rfl w.heap.size #[.int .i64 0, .int .i64 0, .int .i64 0, .int .i64 0, .int .i64 0, .int .i64 0, .int .u8 0, .int .i64 0, .int .i64 0, .int .u64 0, .slice none 0 0, .slice none 0 0] rfl rfl _ HBZ.out (inf_scr _ rfl) rfl (by simp [Value.oneCell']) ?_; intro w9 hb9 hc9 hs9; go_frame)
      refine bodyPost_ret (scr_res rfl Tryz.results32 _ _ rfl rfl hb9) rfl ?_
      exact ⟨.inl ⟨3, hE.out, by decide, rfl⟩, HC1.out.newB hc9 (Nat.le_refl _)⟩
theorem read_any {w : World} {A : Option Addr} {c : Nat} {l : List UInt8} (hc : l.length ≤ c) (hcm : c ≤ maxLen) (h : By w A l) (hA : l.length = 0 ∨ ∀ b, A = some b → b.block < w.heap.size) :
    Calls Tryz.prog 15 #[.slice A l.length c] w fun e w' => ReadR l e w' ∧ Ext w w' := by
  have hX0 := Ext.alloc w (.cells #[.int .i64 0, .int .i64 0, .int .i64 0, .int .i64 0, .int .i64 0, .int .i64 0, .int .u8 0, .int .i64 0, .int .i64 0, .int .u64 0, .slice none 0 0, .slice none 0 0] 37)
  have hz := Blk.new w #[.int .i64 0, .int .i64 0, .int .i64 0, .int .i64 0, .int .i64 0, .int .i64 0, .int .u8 0, .int .i64 0, .int .i64 0, .int .u64 0, .slice none 0 0, .slice none 0 0] 37
  have hxb := Ext.alloc (w.alloc (.cells #[.int .i64 0, .int .i64 0, .int .i64 0, .int .i64 0, .int .i64 0, .int .i64 0, .int .u8 0, .int .i64 0, .int .i64 0, .int .u64 0, .slice none 0 0, .slice none 0 0] 37)) (.cells #[.slice A l.length c] 75)
  have hrb := Blk.new (w.alloc (.cells #[.int .i64 0, .int .i64 0, .int .i64 0, .int .i64 0, .int .i64 0, .int .i64 0, .int .u8 0, .int .i64 0, .int .i64 0, .int .u64 0, .slice none 0 0, .slice none 0 0] 37)) #[.slice A l.length c] 75
  have hX := hX0.trans hxb
  simp only [World.size_alloc] at hrb
  have hrd : Rd ((w.alloc (.cells #[.int .i64 0, .int .i64 0, .int .i64 0, .int .i64 0, .int .i64 0, .int .i64 0, .int .u8 0, .int .i64 0, .int .i64 0, .int .u64 0, .slice none 0 0, .slice none 0 0] 37)).alloc (.cells #[.slice A l.length c] 75)) (w.heap.size + 1) w.heap.size l := ⟨A, c, hrb, hc, hcm, h.ext hX, hA⟩
  have hso := scrOf_any (show w.heap.size ≤ w.heap.size + 1 by omega) hrd
  have hz1 := hz.ext hxb
  have HX := hide hX
  clear hrd hrb hxb hX0 hX hz h
  go_enter Tryz.func15, Tryz.ntmps15
  go_wp2_with fail
  generalize (w.alloc (.cells #[.int .i64 0, .int .i64 0, .int .i64 0, .int .i64 0, .int .i64 0, .int .i64 0, .int .u8 0, .int .i64 0, .int .i64 0, .int .u64 0, .slice none 0 0, .slice none 0 0] 37)).alloc (.cells #[.slice A l.length c] 75) = w0 at *
  refine hso.mono ?_
  rintro e w1 ⟨hr, hc1⟩
  have hz2 := hz1.chg hc1 (by simp)
  have HX1 := hide (HX.out.turn hc1 (fun t ht => by rw [List.mem_singleton.1 ht]; omega))
  have h0s := HX.out.size
  clear hso hc1 hz1
  unfold ReadT at hr
  rcases hr with ⟨er, h1, hne, rfl⟩ | ⟨x, ps, ts, v1, v2, h1, rfl, hrow, hown⟩
  · have HBZ := hide hz2
    go_wp2_with (with_reducible refine wpList_rput 37 rfl _ _ rfl w.heap.size #[.int .i64 0, .int .i64 0, .int .i64 0, .int .i64 0, .int .i64 0, .int .i64 0, .int .u8 0, .int .i64 0, .int .i64 0, .int .u64 0, .slice none 0 0, .slice none 0 0] rfl rfl _ HBZ.out (inf_scr _ rfl) rfl (by simp [Value.oneCell']) ?_; intro w9 hb9 hc9 hs9; go_frame)
    refine bodyPost_ret (scr_res rfl Tryz.results15 _ _ rfl rfl hb9) rfl ?_
    exact ⟨.inl ⟨er, h1, hne, rfl⟩, HX1.out.turn hc9 (fun t ht => by rw [List.mem_singleton.1 ht]; exact Nat.le_refl _)⟩
  · have HBZ := hide hz2
    have HROW := hide hrow
    have HOW := hide hown
    have H1 := hide h1
    obtain ⟨xs, hown1, _⟩ := hrow
    obtain ⟨A1, c1, rfl⟩ := own_sl hown1
    obtain ⟨B1, d1, rfl⟩ := own_sl hown
    clear hown hown1 h1
    go_wp2_with (with_reducible refine wpList_rput 37 rfl _ _ rfl w.heap.size #[.int .i64 x.t, .int .i64 x.o, .int .i64 x.c, .int .i64 x.s, .int .i64 x.p, .int .i64 x.n, .int .u8 x.b, .int .i64 x.r, .int .i64 x.v, .int .u64 x.d, .slice A1 ps.length c1, .slice B1 ts.length d1] rfl rfl _ HBZ.out (inf_scr _ rfl) rfl (by simp [Value.oneCell']) ?_; intro w9 hb9 hc9 hs9; go_frame)
    refine bodyPost_ret (scr_res rfl Tryz.results15 _ _ rfl rfl hb9) rfl ?_
    have hk9 : Kp [37] 0 w1 w9 := hc9.kp (fun k hk => by rw [List.mem_singleton.1 hk]; exact ⟨Nat.zero_le _, fun _ => ⟨_, _, HBZ.out, by simp⟩⟩)
    obtain ⟨A2, c2, e1, hpr⟩ := (HROW.out.kp hk9 (by decide) (by decide)).pr
    cases e1
    obtain ⟨B2, d2, e2, htn⟩ := Tn.of_own (hk9.own HOW.out (by decide))
    cases e2
    exact ⟨.inr ⟨x, ps, ts, _, _, _, _, H1.out, rfl, hpr, htn⟩, HX1.out.turn hc9 (fun t ht => by rw [List.mem_singleton.1 ht]; exact Nat.le_refl _)⟩
end Go.Proofs.YtlgomkocalieeaaGreatDoor
