/- The configuration of bytes. -/
import Derived.Test.YtlgomkocalieeaaGreatDoorS4
import Derived.Test.YtlgomkocalieeaaGreatDoorNA
import Derived.Test.YtlgomkocalieeaaGreatDoorHeld
import Derived.Test.YtlgomkocalieeaaGreatDoorO9
namespace Go.Proofs.YtlgomkocalieeaaGreatDoor
open Go.RowKit
set_option linter.unusedSimpArgs false
set_option linter.unusedVariables false
set_option maxRecDepth 100000
set_option maxHeartbeats 4000000

def bN (l : List UInt8) (j : Nat) : Int := ((l.getD j 0).toNat : Int)
def sdN (l : List UInt8) : Nat → Int
  | 0 => 0
  | j + 1 => sdN l j + bN l (9 + j) * 2 ^ (8 * j)
def confC (l : List UInt8) : Cf := ⟨bN l 0, bN l 1, bN l 2, bN l 3, bN l 4, bN l 5, bN l 6, bN l 7, bN l 8, sdN l 8⟩
def zeroC : Cf := ⟨0, 0, 0, 0, 0, 0, 0, 0, 0, 0⟩
theorem bN_bd (l : List UInt8) (j : Nat) : 0 ≤ bN l j ∧ bN l j < 256 := by unfold bN; have := (l.getD j 0).toNat_lt; omega
theorem sd_bd (l : List UInt8) : ∀ j, 0 ≤ sdN l j ∧ sdN l j < 2 ^ (8 * j)
  | 0 => by simp [sdN]
  | j + 1 => by
    have ⟨h0, h1⟩ := sd_bd l j
    have ⟨b0, b1⟩ := bN_bd l (9 + j)
    have e : (2 : Int) ^ (8 * (j + 1)) = 256 * 2 ^ (8 * j) := by rw [show 8 * (j + 1) = 8 + 8 * j by omega, Int.pow_add]; rfl
    have p : (0 : Int) < 2 ^ (8 * j) := Int.pow_pos (by omega)
    simp only [sdN]
    rw [e]
    generalize (2 : Int) ^ (8 * j) = q at *
    generalize bN l (9 + j) = b at *
    have h2 : b * q ≤ 255 * q := Int.mul_le_mul_of_nonneg_right (by omega) (by omega)
    have h3 : 0 ≤ b * q := Int.mul_nonneg b0 (by omega)
    exact ⟨by omega, by omega⟩
theorem or_add (s p : Nat) (k : Nat) (hs : s < 2 ^ k) (hp : p * 2 ^ k < 2 ^ 64) (hs2 : s < 2 ^ 64) (ht : s + p * 2 ^ k < 2 ^ 64) : bits .or .u64 (s : Int) ((p : Int) * 2 ^ k) = (s : Int) + (p : Int) * 2 ^ k := by
  unfold bits
  simp only
  have e : (BitVec.ofInt IntKind.u64.bits (s : Int) ||| BitVec.ofInt IntKind.u64.bits ((p : Int) * 2 ^ k)).toNat = s + p * 2 ^ k := by
    rw [BitVec.toNat_or]
    have h1 : (BitVec.ofInt IntKind.u64.bits (s : Int)).toNat = s := by
      show (BitVec.ofInt 64 (s : Int)).toNat = s
      rw [BitVec.toNat_ofInt]; omega
    have e2 : ((p : Int) * 2 ^ k) = ((p * 2 ^ k : Nat) : Int) := by simp
    have h2 : (BitVec.ofInt IntKind.u64.bits ((p : Int) * 2 ^ k)).toNat = p <<< k := by
      rw [e2]
      show (BitVec.ofInt 64 ((p * 2 ^ k : Nat) : Int)).toNat = _
      rw [BitVec.toNat_ofInt, Nat.shiftLeft_eq]; omega
    rw [h1, h2, Nat.or_comm, ← Nat.shiftLeft_add_eq_or_of_lt hs, Nat.shiftLeft_eq]; omega
  rw [e]
  show IntKind.u64.wrap ((s + p * 2 ^ k : Nat) : Int) = _
  rw [IntKind.wrap_u64]
  have e3 : ((s + p * 2 ^ k : Nat) : Int) = (s : Int) + (p : Int) * 2 ^ k := by simp
  rw [← e3]; omega
theorem seed_step (s pb j : Nat) (hj : j < 8) (hp : pb < 256) (hs : s < 2 ^ (8 * j)) : bits .or .u64 (s : Int) (IntKind.u64.wrap ((pb : Int) * 2 ^ (8 * j))) = (s : Int) + (pb : Int) * 2 ^ (8 * j) := by
  have h56 : 2 ^ (8 * j) ≤ 2 ^ 56 := Nat.pow_le_pow_right (by omega) (by omega)
  have hm : pb * 2 ^ (8 * j) ≤ 255 * 2 ^ 56 := Nat.mul_le_mul (by omega) h56
  have hw : IntKind.u64.wrap ((pb : Int) * 2 ^ (8 * j)) = (pb : Int) * 2 ^ (8 * j) := by
    have e2 : ((pb : Int) * 2 ^ (8 * j)) = ((pb * 2 ^ (8 * j) : Nat) : Int) := by simp
    rw [e2, IntKind.wrap_u64]
    omega
  rw [hw]
  exact or_add s pb (8 * j) hs (by omega) (by omega) (by omega)
theorem inf_cfg (cs : Array Value) (h : cs.size = 10) : (Tryz.prog.info? 24).map (·.size) = some cs.size := by rw [h]; kernel_rfl
theorem cfg_res {cs : Array Value} (hs : cs.size = 10) {fn : Func} (h : fn.results = #[.cell 2 24, .tmp 3]) (tmps : Array Value) (w : World) {b : Nat} {u : Value} (e2 : tmps.getD 2 undef = .pointer (some ⟨b, 0, none⟩)) (e3 : tmps.getD 3 undef = u) (hb : Blk w b cs 24) :
    (results fn tmps).run Tryz.prog w = .ok (.tuple #[.agg cs, u]) w := by
  have l : (loadVar 24 ⟨b, 0, none⟩).run Tryz.prog w = .ok (.agg cs) w := by
    have := run_loadVar_mid w b 0 24 cs.toList _ (fun j v hv => by rw [Nat.zero_add]; exact (Blk.cell hb j).trans (by rw [← Array.getElem?_toList]; exact hv)) Tryz.underlying24 rfl (by rw [Array.length_toList]; exact inf_cfg cs hs)
    rwa [Array.toArray_toList] at this
  rw [results_cell_tmp h, e2, e3]
  simp only [asAddr, Sem.run_pure, Result.andThen_ok, l]
theorem Chg.newB {R T : Nat} {w w1 w2 : World} (h : Chg [R] w w1) (k : Chg [T] w1 w2) (hT : w.heap.size ≤ T) : Chg [R] w w2 :=
  ⟨k.os.trans h.os, k.tape.trans h.tape, k.output.trans h.output, Nat.le_trans h.size k.size, fun i hi hr => (k.block i (Nat.lt_of_lt_of_le hi h.size) (by simp; omega)).trans (h.block i hi hr)⟩
/-- What configOf answers. -/
def ConfR (R N : Nat) (l : List UInt8) (e : Ending) (w' : World) : Prop :=
  (l.length < 17 ∧ e = .returned (.tuple #[(.agg #[.int .i64 0, .int .i64 0, .int .i64 0, .int .i64 0, .int .i64 0, .int .i64 0, .int .u8 0, .int .i64 0, .int .i64 0, .int .u64 0]), .int .i64 4])) ∨
  (17 ≤ l.length ∧ mayC (confC l) = false ∧ e = .returned (.tuple #[(.agg #[.int .i64 0, .int .i64 0, .int .i64 0, .int .i64 0, .int .i64 0, .int .i64 0, .int .u8 0, .int .i64 0, .int .i64 0, .int .u64 0]), .int .i64 1])) ∨
  (17 ≤ l.length ∧ mayC (confC l) = true ∧ e = .returned (.tuple #[(.agg #[.int .i64 (confC l).t, .int .i64 (confC l).o, .int .i64 (confC l).c, .int .i64 (confC l).s, .int .i64 (confC l).p, .int .i64 (confC l).n, .int .u8 (confC l).b, .int .i64 (confC l).r, .int .i64 (confC l).v, .int .u64 (confC l).d]), .int .i64 0]) ∧ Rd w' R N (l.drop 17))
theorem conf_any {w : World} {R N : Nat} (hN : N ≤ w.heap.size) {l : List UInt8} (h : Rd w R N l) :
    Calls Tryz.prog 49 #[(Value.func (.func 33) #[.pointer (some ⟨R, 0, none⟩)] #[])] w fun e w' => ConfR R N l e w' ∧ Chg [R] w w' := by
  have hRlt : R < w.heap.size := by obtain ⟨A, c, h1⟩ := h.blk; exact h1.lt
  have hz := Blk.new w #[.int .i64 0, .int .i64 0, .int .i64 0, .int .i64 0, .int .i64 0, .int .i64 0, .int .u8 0, .int .i64 0, .int .i64 0, .int .u64 0] 24
  have hx := Ext.alloc w (.cells #[.int .i64 0, .int .i64 0, .int .i64 0, .int .i64 0, .int .i64 0, .int .i64 0, .int .u8 0, .int .i64 0, .int .i64 0, .int .u64 0] 24)
  have hsv := several_any 17 (by omega) (Nat.le_trans hN hx.size) (h.ext hx)
  have HX := hide hx
  clear h hx
  go_enter Tryz.func49, Tryz.ntmps49
  go_wp2_with fail
  refine hsv.mono ?_
  rintro e w1 ⟨hr, hc⟩
  have hz1 := hz.chg hc (by simp; omega)
  have HC := hide ((HX.out.chg [R]).trans hc)
  clear hsv hc hz
  unfold SevR at hr
  rcases hr with ⟨h17, ⟨A, c, rfl, hle, hmx, hby⟩, hrd⟩ | ⟨h17, rfl⟩
  · have hl0 : (l.take 17).length = 17 := by rw [List.length_take]; omega
    obtain ⟨b, off, rfl, hblt, hcell⟩ := hby.at_ (by omega)
    have hbv : ∀ j, j < 17 → w1.cell? ⟨b, off + j, none⟩ = some (.int .u8 (bN l j)) := fun j hj => by
      have := hcell j (by omega)
      rw [this]
      congr 2
      unfold bN
      rw [List.getElem_take]
      simp [List.getD, List.getElem?_eq_getElem (show j < l.length by omega)]
    have HBV := hide hbv
    have S0 : ∀ w', Ext w1 w' → w'.cell? ⟨b, off, none⟩ = some (.int .u8 (bN l 0)) ∧ w'.cell? ⟨b, off + 1, none⟩ = some (.int .u8 (bN l 1)) ∧ w'.cell? ⟨b, off + 2, none⟩ = some (.int .u8 (bN l 2)) ∧ w'.cell? ⟨b, off + 3, none⟩ = some (.int .u8 (bN l 3)) ∧ w'.cell? ⟨b, off + 4, none⟩ = some (.int .u8 (bN l 4)) ∧ w'.cell? ⟨b, off + 5, none⟩ = some (.int .u8 (bN l 5)) ∧ w'.cell? ⟨b, off + 6, none⟩ = some (.int .u8 (bN l 6)) ∧ w'.cell? ⟨b, off + 7, none⟩ = some (.int .u8 (bN l 7)) ∧ w'.cell? ⟨b, off + 8, none⟩ = some (.int .u8 (bN l 8)) := fun w' x => ⟨(x.oldCell _ _ hblt).trans (HBV.out 0 (by omega)), (x.oldCell _ _ hblt).trans (HBV.out 1 (by omega)), (x.oldCell _ _ hblt).trans (HBV.out 2 (by omega)), (x.oldCell _ _ hblt).trans (HBV.out 3 (by omega)), (x.oldCell _ _ hblt).trans (HBV.out 4 (by omega)), (x.oldCell _ _ hblt).trans (HBV.out 5 (by omega)), (x.oldCell _ _ hblt).trans (HBV.out 6 (by omega)), (x.oldCell _ _ hblt).trans (HBV.out 7 (by omega)), (x.oldCell _ _ hblt).trans (HBV.out 8 (by omega))⟩
    have hW := Ext.refl w1
    clear hcell hbv hby
    have w0 := bN_bd l 0
    have w1_ := bN_bd l 1
    have w2_ := bN_bd l 2
    have w3_ := bN_bd l 3
    have w4_ := bN_bd l 4
    have w5_ := bN_bd l 5
    have w7_ := bN_bd l 7
    have w8_ := bN_bd l 8
    go_wp2_with fail
    go_region_held3 (fun w' => w'.cell? ⟨b, off, none⟩ = some (.int .u8 (bN l 0)) ∧ w'.cell? ⟨b, off + 1, none⟩ = some (.int .u8 (bN l 1)) ∧ w'.cell? ⟨b, off + 2, none⟩ = some (.int .u8 (bN l 2)) ∧ w'.cell? ⟨b, off + 3, none⟩ = some (.int .u8 (bN l 3)) ∧ w'.cell? ⟨b, off + 4, none⟩ = some (.int .u8 (bN l 4)) ∧ w'.cell? ⟨b, off + 5, none⟩ = some (.int .u8 (bN l 5)) ∧ w'.cell? ⟨b, off + 6, none⟩ = some (.int .u8 (bN l 6)) ∧ w'.cell? ⟨b, off + 7, none⟩ = some (.int .u8 (bN l 7)) ∧ w'.cell? ⟨b, off + 8, none⟩ = some (.int .u8 (bN l 8))) (exact S0 _ (by repeat (first | exact Ext.refl _ | exact Ext.alloc _ _ | exact Ext.drew _ | with_reducible refine Ext.set ?_ (by simp) _ | refine Ext.trans ?_ (Ext.alloc _ _) | refine Ext.trans ?_ (Ext.drew _)))) (fail)
    go_wp2_with fail
    have hbT := (Blk.new w1 #[.int .i64 (bN l 0), .int .i64 (bN l 1), .int .i64 (bN l 2), .int .i64 (bN l 3), .int .i64 (bN l 4), .int .i64 (bN l 5), .int .u8 (bN l 6), .int .i64 (bN l 7), .int .i64 (bN l 8), .int .u64 0] 24).ext (Ext.drew _)
    have hxT : Ext w1 (w1.alloc (.cells #[.int .i64 (bN l 0), .int .i64 (bN l 1), .int .i64 (bN l 2), .int .i64 (bN l 3), .int .i64 (bN l 4), .int .i64 (bN l 5), .int .u8 (bN l 6), .int .i64 (bN l 7), .int .i64 (bN l 8), .int .u64 0] 24)).drew := (Ext.alloc _ _).trans (Ext.drew _)
    generalize (w1.alloc (.cells #[.int .i64 (bN l 0), .int .i64 (bN l 1), .int .i64 (bN l 2), .int .i64 (bN l 3), .int .i64 (bN l 4), .int .i64 (bN l 5), .int .u8 (bN l 6), .int .i64 (bN l 7), .int .i64 (bN l 8), .int .u64 0] 24)).drew = wT at *
    clear S0
    have HW1 := hide hW
    clear hW w0 w1_ w2_ w3_ w4_ w5_ w7_ w8_
    go_loopw [56] (fun i wr => ∃ j : Nat, j ≤ 8 ∧ i = .int .i64 (j : Int) ∧ Blk wr w1.heap.size #[.int .i64 (bN l 0), .int .i64 (bN l 1), .int .i64 (bN l 2), .int .i64 (bN l 3), .int .i64 (bN l 4), .int .i64 (bN l 5), .int .u8 (bN l 6), .int .i64 (bN l 7), .int .i64 (bN l 8), .int .u64 (sdN l j)] 24 ∧ Ext w1 wr) (fun i _ => 8 - (intOf i).toNat)
    case atStart => exact ⟨0, by omega, rfl, hbT, hxT⟩
    case round =>
      clear hbT hxT
      obtain ⟨j, hj, rfl, hbT, hxT⟩ := hrel
      by_cases hlt : j < 8
      · have hltI : (j : Int) < 8 := by omega
        have hv : wr.cell? ⟨b, off + 9 + j, none⟩ = some (.int .u8 (bN l (9 + j))) := (hxT.oldCell _ _ hblt).trans (by rw [Nat.add_assoc]; exact HBV.out (9 + j) (by omega))
        have hq := hbT.cell 9
        have hf := hbT.free 9
        have hw8 : IntKind.i64.wrap (8 * (j : Int)) = 8 * (j : Int) := by rw [IntKind.wrap_i64]; omega
        have h80 : ¬ 8 * (j : Int) < 0 := by omega
        obtain ⟨pb, hpb⟩ := Int.eq_ofNat_of_zero_le (bN_bd l (9 + j)).1
        have hpb1 := (bN_bd l (9 + j)).2
        have HSD := hide (show sdN l (j + 1) = sdN l j + bN l (9 + j) * 2 ^ (8 * j) from rfl)
        have HS0 := hide (sd_bd l j)
        have HBT := hide hbT
        have HXT := hide hxT
        rw [hpb] at hv hpb1
        have HPB := hide hpb
        clear hbT hxT hpb
        generalize sdN l j = sd at *
        obtain ⟨sn, rfl⟩ := Int.eq_ofNat_of_zero_le HS0.out.1
        have hsn : sn < 2 ^ (8 * j) := by have := HS0.out.2; exact_mod_cast this
        have HV := hide (seed_step sn pb j hlt (by omega) hsn)
        go_wp2_with fail
        go_region
        go_wp2_with fail
        have hb2 := HBT.out.set 9 (.int .u64 (bits .or .u64 (sn : Int) (IntKind.u64.wrap ((pb : Int) * 2 ^ (8 * j)))))
        have hx2 := Ext.set HXT.out (p := ⟨w1.heap.size, 9, none⟩) (Nat.le_refl _) (.int .u64 (bits .or .u64 (sn : Int) (IntKind.u64.wrap ((pb : Int) * 2 ^ (8 * j)))))
        clear hv hq hf
        go_roundw
        case rel => exact ⟨j + 1, by omega, by go_num, by rw [HSD.out, HPB.out, ← HV.out]; exact hb2.ext (Ext.drew _), hx2.trans (Ext.drew _)⟩
        case measure => simp [intOf]; omega
      · obtain rfl : j = 8 := by omega
        have hq := hbT.cell
        have HBT := hide hbT
        have HXT := hide hxT
        have hmay := cmay_any (confC l) wr
        have hzr := hz1.ext hxT
        have hrr := hrd.ext hxT
        have HRR := hide hrr
        clear hbT hxT hrr
        go_wp2_with fail
        refine hmay.mono ?_
        rintro e w3 ⟨rfl, hx3⟩
        have hz3 := hzr.ext hx3
        have HC3 := hide (HC.out.trans ((HXT.out.trans hx3).chg [R]))
        have HRR3 := hide (HRR.out.ext hx3)
        have hT3 := HBT.out.ext hx3
        clear hzr hx3 hmay hq
        cases hm : mayC (confC l) with
        | false =>
          go_wp2_with (with_reducible refine wpList_rput 24 rfl _ _ rfl w.heap.size #[.int .i64 0, .int .i64 0, .int .i64 0, .int .i64 0, .int .i64 0, .int .i64 0, .int .u8 0, .int .i64 0, .int .i64 0, .int .u64 0] rfl rfl _ hz3 (inf_cfg _ rfl) rfl (by simp [Value.oneCell']) ?_; intro w4 hb4 hc4 hs4; go_frame)
          refine bodyPost_ret (cfg_res rfl Tryz.results49 _ _ rfl rfl hb4) rfl ?_
          exact ⟨.inr (.inl ⟨h17, hm, rfl⟩), HC3.out.newB hc4 (Nat.le_refl _)⟩
        | true =>
          have hq3 := hT3.cell
          go_wp2_with (with_reducible refine wpList_rput 24 rfl _ _ rfl w.heap.size #[.int .i64 (bN l 0), .int .i64 (bN l 1), .int .i64 (bN l 2), .int .i64 (bN l 3), .int .i64 (bN l 4), .int .i64 (bN l 5), .int .u8 (bN l 6), .int .i64 (bN l 7), .int .i64 (bN l 8), .int .u64 (sdN l 8)] rfl rfl _ hz3 (inf_cfg _ rfl) rfl (by simp [Value.oneCell']) ?_; intro w4 hb4 hc4 hs4; go_frame)
          refine bodyPost_ret (cfg_res rfl Tryz.results49 _ _ rfl rfl hb4) rfl ?_
          exact ⟨.inr (.inr ⟨h17, hm, rfl, HRR3.out.kp (ts := [24]) (hc4.kp (fun k hk => by rw [List.mem_singleton.1 hk]; exact ⟨hN, fun _ => ⟨_, _, hz3, by simp⟩⟩)) (by decide)⟩), HC3.out.newB hc4 (Nat.le_refl _)⟩
  · go_wp2_with (with_reducible refine wpList_rput 24 rfl _ _ rfl w.heap.size #[.int .i64 0, .int .i64 0, .int .i64 0, .int .i64 0, .int .i64 0, .int .i64 0, .int .u8 0, .int .i64 0, .int .i64 0, .int .u64 0] rfl rfl _ hz1 (inf_cfg _ rfl) rfl (by simp [Value.oneCell']) ?_; intro w4 hb4 hc4 hs4; go_frame)
    refine bodyPost_ret (cfg_res rfl Tryz.results49 _ _ rfl rfl hb4) rfl ?_
    exact ⟨.inl ⟨h17, rfl⟩, HC.out.newB hc4 (Nat.le_refl _)⟩
end Go.Proofs.YtlgomkocalieeaaGreatDoor

namespace Go.Proofs.YtlgomkocalieeaaGreatDoor
open Go.RowKit
set_option linter.unusedSimpArgs false
set_option linter.unusedVariables false
set_option maxRecDepth 100000
set_option maxHeartbeats 4000000

/-- The program of the next bytes: what Unpack says of them, and what is left. -/
def progP : List UInt8 → Option (List Op3 × Int × List UInt8)
  | [] => none
  | n :: r => if r.length < n.toNat then none else some ((unpackO (r.take n.toNat)).1, (unpackO (r.take n.toNat)).2, r.drop n.toNat)
/-- Operations that are read, in a block of their own type. -/
def ChT (w : World) (A : Option Addr) (l : List Op3) : Prop := Ch w A l ∧ ∀ b, A = some b → ∃ cs, Blk w b.block cs 53
theorem ChT.kp {ts : List TypeId} {N : Nat} {w w' : World} {A : Option Addr} {l : List Op3} (h : ChT w A l) (k : Kp ts N w w') (hn : 53 ∉ ts) : ChT w' A l := by
  obtain ⟨h1, h2⟩ := h
  refine ⟨?_, fun b e => by obtain ⟨cs, hb⟩ := h2 b e; exact ⟨cs, k.blk hb hn⟩⟩
  rcases h1 with h1 | ⟨b, off, rfl, q2, q3⟩
  · exact .inl h1
  · obtain ⟨cs, hb⟩ := h2 _ rfl
    have e : w'.heap[b]? = w.heap[b]? := (k.blk hb hn).trans hb.symm
    have ec : ∀ i, w'.cell? ⟨b, i, none⟩ = w.cell? ⟨b, i, none⟩ := fun i => World.cell?_of_block (a := ⟨b, i, none⟩) e
    exact .inr ⟨b, off, rfl, Nat.lt_of_lt_of_le q2 k.size, fun j hj => by rw [ec, ec, ec]; exact q3 j hj⟩
def ProgR (R N : Nat) (l : List UInt8) (e : Ending) (w' : World) : Prop :=
  (progP l = none ∧ e = .returned (.tuple #[.slice none 0 0, .int .i64 4])) ∨
  (∃ p er r, progP l = some (p, er, r) ∧ (∃ A c, e = .returned (.tuple #[.slice A p.length c, .int .i64 er]) ∧ p.length ≤ c ∧ ChT w' A p) ∧ Rd w' R N r)
theorem chg_kp {R N : Nat} {w w' : World} {A : Option Addr} {n c : Nat} (h : Chg [R] w w') (hR : Blk w R #[.slice A n c] 75) (hN : N ≤ R) : Kp [75] N w w' :=
  h.kp (fun k hk => by rw [List.mem_singleton.1 hk]; exact ⟨hN, fun _ => ⟨_, _, hR, by simp⟩⟩)
theorem prog_any {w : World} {R N : Nat} (hNR : N ≤ R) {l : List UInt8} (h : Rd w R N l) :
    Calls Tryz.prog 77 #[(Value.func (.func 33) #[.pointer (some ⟨R, 0, none⟩)] #[])] w fun e w' => ProgR R N l e w' ∧ Chg [R] w w' := by
  have hRw : N ≤ w.heap.size := by obtain ⟨A, c, hb⟩ := h.blk; have := hb.lt; omega
  cases l with
  | nil =>
    have ht := take_nil h
    go_enter Tryz.func77, Tryz.ntmps77
    go_wp2_with fail
    refine ht.mono ?_
    rintro e w1 ⟨rfl, rfl⟩
    go_wp2_with fail
    go_ret2
    exact ⟨.inl ⟨rfl, rfl⟩, Chg.refl _ _⟩
  | cons n r =>
    have ht := take_cons h
    have hn := n.toNat_lt
    go_enter Tryz.func77, Tryz.ntmps77
    go_wp2_with fail
    refine ht.mono ?_
    rintro e w1 ⟨rfl, hrd, hc⟩
    have HC := hide hc
    have hs := several_any n.toNat (by omega) (Nat.le_trans hRw hc.size) hrd
    have hnw : IntKind.i64.wrap (n.toNat : Int) = (n.toNat : Int) := by rw [IntKind.wrap_i64]; omega
    clear hc ht
    go_wp2_with fail
    refine hs.mono ?_
    rintro e w2 ⟨hr, hc2⟩
    have HC2 := hide (HC.out.trans hc2)
    clear hs hc2
    unfold SevR at hr
    rcases hr with ⟨h1, ⟨A, c, rfl, hle, hmx, hby⟩, hrd2⟩ | ⟨h1, rfl⟩
    · have hE := hide (show progP (n :: r) = some ((unpackO (r.take n.toNat)).1, (unpackO (r.take n.toNat)).2, r.drop n.toNat) from if_neg (by omega))
      have hlen : (r.take n.toNat).length = n.toNat := by rw [List.length_take]; omega
      have hu := unpack_any2 (l := r.take n.toNat) (by omega) (by omega) hmx hby
      rw [hlen] at hu
      have HRD := hide hrd2
      clear hby hrd2
      go_wp2_with fail
      refine hu.mono ?_
      rintro e w3 ⟨hr3, hx3⟩
      unfold UnpackR2 at hr3
      obtain ⟨A3, c3, rfl, hl3, hch3, hty3⟩ := hr3
      have HX3 := hide hx3
      clear hx3 hu
      go_wp2_with fail
      go_ret2
      exact ⟨.inr ⟨_, _, _, hE.out, ⟨A3, c3, rfl, hl3, hch3, hty3⟩, HRD.out.ext HX3.out⟩, HC2.out.trans (HX3.out.chg _)⟩
    · have hE := hide (show progP (n :: r) = none from if_pos (by omega))
      go_wp2_with fail
      go_ret2
      exact ⟨.inl ⟨hE.out, rfl⟩, HC2.out⟩
end Go.Proofs.YtlgomkocalieeaaGreatDoor
