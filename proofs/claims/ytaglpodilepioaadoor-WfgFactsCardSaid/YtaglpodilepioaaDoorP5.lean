/- The program's away. -/
import Derived.Test.YtaglpodilepioaaDoorP4
import Derived.Laws.Rows
namespace Go.Proofs.YtaglpodilepioaaDoor
open Go.RowKit
set_option linter.unusedSimpArgs false
set_option linter.unusedVariables false
set_option maxRecDepth 100000
set_option maxHeartbeats 4000000


def iw (a : Nat → Nat) (n : Nat) : Value := .int .i64 (a n : Int)
def ic (a : Nat → Nat) : Array Value := r64 (iw a)
section
variable {a : Nat → Nat}
theorem ic_size : (ic a).size = 64 := r64_size
theorem ic_at {i : Nat} (h : i < 64) : (ic a)[i]? = some (.int .i64 (a i : Int)) := r64_at h
theorem ic_set {a' : Nat → Nat} {i x : Nat} (h : i < 64) (hk : a' i = x) (ho : ∀ j, j ≠ i → a' j = a j) : (ic a).setIfInBounds i (.int .i64 (x : Int)) = ic a' :=
  r64_set h (by simp [iw, hk]) (fun k hk => by simp [iw, ho k hk])
theorem ic_one (a : Nat → Nat) : ((ic a).all fun x => x.oneCell') = true := by
  refine Array.all_eq_true_iff_forall_mem.2 fun v hv => ?_
  unfold ic r64 at hv
  simp only [List.mem_toArray, List.mem_map] at hv
  obtain ⟨j, _, rfl⟩ := hv
  rfl
theorem inf_i : (Tryd.prog.info? 56).map (·.size) = some 64 := by kernel_rfl
theorem inf_ic (a : Nat → Nat) : (Tryd.prog.info? 56).map (·.size) = some (ic a).toList.length := by rw [Array.length_toList, ic_size]; exact inf_i
theorem put_i {ops : Array Oper} {rest : List Oper} {o : Oper} {t : Act} {w : World} {Q : Exit → Act → World → Prop} (hgd : o.guard = none) (x y : Operand) (ho : o.op = .store 56 x y)
    (b : Nat) (a : Nat → Nat) (hx : t.eval x = .pointer (some ⟨b, 0, none⟩)) (hy : t.eval y = .agg (ic a)) (old : Array Value) (hb : Blk w b old 56) (hs : old.size = 64)
    (h : ∀ w', Blk w' b (ic a) 56 → Chg [b] w w' → w'.heap.size = w.heap.size → wpList Tryd.prog ops Q rest (t.put o.dst undef) w') : wpList Tryd.prog ops Q (o :: rest) t w :=
  wpList_store_row hgd 56 x y ho b (ic a) hx hy 56 old hb (by rw [ic_size]; exact inf_i) (by rw [hs, ic_size]) (ic_one a) (h _ (setRow_heap w b old _ _ _ hb) (Chg.row hb) (by simp [World.setRow]))
theorem get_i {ops : Array Oper} {rest : List Oper} {o : Oper} {t : Act} {w : World} {Q : Exit → Act → World → Prop} (hgd : o.guard = none) (x : Operand) (ho : o.op = .load 56 x)
    (b : Nat) (a : Nat → Nat) (hx : t.eval x = .pointer (some ⟨b, 0, none⟩)) (hb : Blk w b (ic a) 56)
    (h : wpList Tryd.prog ops Q rest (t.put o.dst (.agg (ic a))) w) : wpList Tryd.prog ops Q (o :: rest) t w :=
  wpList_load_mid hgd 56 x ho b 0 hx (ic a).toList _ (r64_rng hb) Tryd.underlying56 rfl (inf_ic a) (by rw [Array.toArray_toList]; exact h)
theorem run_ixi (a : Nat → Nat) {p : Nat} (hp : p < 64) (w : World) : (Instr.index 56 (.agg (ic a)) (.int .i64 (p : Int))).run Tryd.prog w = .ok (.int .i64 (a p : Int)) w := by
  have hu : Tryd.prog.underlying 56 = some (.array 64 3) := Tryd.underlying56
  have hs : ∀ w, (sizeOf 3).run Tryd.prog w = .ok 1 w := fun w => by kernel_rfl
  have ha : ∀ w, (isAgg 3).run Tryd.prog w = .ok false w := fun w => by kernel_rfl
  have h0 : (0 : Int) ≤ (p : Int) := by omega
  have a1 := ic_at (a := a) hp
  simp [Instr.index, asIntOf, run_underlying hu, Result.andThen, h0, hs, part, ha, a1]
  omega
end
def zri : Array Value := ((List.range 64).map fun _ => Value.int .i64 0).toArray
theorem ic_zero : ic (fun _ => 0) = zri := rfl
theorem away_any (E : Gr) {b : Nat} (hb : b < 64) (w : World) : Calls Tryd.prog 31 #[.agg (gc E), .int .i64 (b : Int)] w fun e w' => e = .returned (.agg (ic (dist E b))) ∧ Ext w w' := by
  obtain ⟨zi, hz1, hz2, hz3, hz5, hz4⟩ : ∃ zz : Array Value, (∀ w, (zeroValue 56).run Tryd.prog w = .ok (.agg zz) w) ∧ ¬ zz = #[] ∧ ¬ zz.size < 2 ∧ zz.size = 64 ∧ zz = zri := ⟨_, fun w => by kernel_rfl, by decide +kernel, by decide +kernel, by decide +kernel, rfl⟩
  rw [← ic_zero] at hz4
  have HZ := hide hz4
  have HZ5 := hide hz5
  clear hz4 hz5
  go_enter Tryd.func31, Tryd.ntmps31
  go_upto_region 2 with fail
  have HB := hide (((Blk.new w (gc E) 27).ext (Ext.alloc _ (.cells zi 56))).ext (Ext.alloc _ (.cells zi 56)))
  have hR := Blk.new (w.alloc (.cells (gc E) 27)) zi 56
  rw [World.size_alloc] at hR
  have HR := hide (hR.ext (Ext.alloc _ (.cells zi 56)))
  have hA := Blk.new ((w.alloc (.cells (gc E) 27)).alloc (.cells zi 56)) zi 56
  rw [World.size_alloc, World.size_alloc] at hA
  have HA := hide hA
  have HX := hide (((Ext.alloc w (.cells (gc E) 27)).trans (Ext.alloc _ (.cells zi 56))).trans (Ext.alloc _ (.cells zi 56)))
  generalize (((w.alloc (.cells (gc E) 27)).alloc (.cells zi 56)).alloc (.cells zi 56)) = W0 at *
  clear hR hA hz1 hz2 hz3
  go_wp2_with (go_at_call 24; (with_reducible refine (bit_any hb _).mono ?_); rintro e w' ⟨rfl, rfl⟩; go_frame)
  go_loopw [6, 7] (fun x y wr => ∃ (e : Nat) (a : Nat → Nat) (nr : NS), x = .int .u64 (wv nr : Int) ∧ y = .int .i64 (e : Int) ∧ e ≤ 66 ∧ Aw E b e a nr ∧ Blk wr w.heap.size (gc E) 27 ∧ Blk wr (w.heap.size + 1) zi 56 ∧ Blk wr (w.heap.size + 1 + 1) (ic a) 56 ∧ Ext w wr) (fun _ y _ => 70 - (intOf y).toNat)
  case atStart => exact ⟨1, fun _ => 0, one b, rfl, rfl, by omega, Aw.at0 hb, HB.out, HR.out, by rw [← HZ.out]; exact HA.out, HX.out⟩
  case round =>
    clear HB HR HA HX
    obtain ⟨e, a, nr, rfl, rfl, he, hAw, hB, hR, hA, hX⟩ := hrel
    have HB := hide hB
    have HR := hide hR
    have HA := hide hA
    have HX := hide hX
    clear hB hR hA hX
    by_cases h0 : wv nr = 0
    · have E0 : ((wv nr : Int) != 0) = false := by simp [h0]
      have HF := hide (hAw.fin hb (wv_zero.1 h0))
      clear hAw h0
      go_wp2_with (first | (with_reducible refine get_i rfl _ rfl (w.heap.size + 1 + 1) a rfl HA.out ?_; go_frame) | (with_reducible refine put_i rfl _ _ rfl (w.heap.size + 1) a rfl rfl zi HR.out HZ5.out ?_; intro w' hb' hc' hs'; have HX' := hide (HX.out.turn hc' (by simp)); clear hc' hs'; go_frame))
      refine bodyPost_ret (results_cell_row (t := 56) (cs := ic a) (fr := (0, 0)) (g := w.heap.size + 1) Tryd.results31 _ _ _ rfl hb' Tryd.underlying56 rfl (by rw [ic_size]; exact inf_i)) rfl ?_
      exact ⟨by rw [show ic a = ic (dist E b) from r64_eq fun j hj => by unfold iw; rw [HF.out j hj]], HX'.out⟩
    · have E0 : ((wv nr : Int) != 0) = true := by simp [h0]
      have hne : ∃ n, n < 64 ∧ nr n = true := by
        apply Classical.byContradiction
        intro q
        refine h0 (wv_zero.2 fun j hj => ?_)
        cases hf : nr j
        · rfl
        · exact absurd ⟨j, hj, hf⟩ q
      have he2 := hAw.low hne
      have HS := hide (hAw.step hne)
      have hpos := hAw.pos
      clear hAw h0 hne
      go_wp2_with (with_reducible refine get_a rfl _ rfl w.heap.size rfl HB.out ?_; go_frame)
      go_loopw [8, 19] (fun x y wr => ∃ k : Nat, k ≤ 64 ∧ y = .int .i64 (k : Int) ∧ x = .int .u64 (wv (fnd E a nr k) : Int) ∧ Blk wr w.heap.size (gc E) 27 ∧ Blk wr (w.heap.size + 1) zi 56 ∧ Blk wr (w.heap.size + 1 + 1) (ic (prt E a nr e k)) 56 ∧ Ext w wr) (fun _ y _ => 64 - (intOf y).toNat)
      case atStart => exact ⟨0, by omega, rfl, by rw [fnd_0, wv_non]; rfl, HB.out, HR.out, by rw [prt_0]; exact HA.out, HX.out⟩
      case round =>
        clear HB HR HA HX
        obtain ⟨k, hk, rfl, rfl, hB, hR, hA, hX⟩ := hrel
        have HB := hide hB
        have HR := hide hR
        have HA := hide hA
        have HX := hide hX
        clear hB hR hA hX
        by_cases hlt : k < 64
        · have a1 := run_ixa E hlt
          have c1 := ((HA.out).cell k).trans (ic_at hlt)
          rw [prt_at] at c1
          have f1 := (HA.out).free k
          have e1 := and_u (E k) nr
          have hlt2 : (k : Int) < 64 := by omega
          have hno : hitS E a nr k = false → Blk wr (w.heap.size + 1 + 1) (ic (prt E a nr e (k + 1))) 56 ∧ fnd E a nr (k + 1) = fnd E a nr k := fun h => by
            rw [((fnd_step (e := e) hlt).2 h).1]; exact ⟨HA.out, ((fnd_step (e := e) hlt).2 h).2⟩
          by_cases ha : a k = 0
          · have A0 : ((a k : Int) == 0) = true := by simp [ha]
            by_cases hc : wv (cap (E k) nr) = 0
            · have C0 : ((wv (cap (E k) nr) : Int) != 0) = false := by simp [hc]
              have HN := hide (hno (by simp [hitS, hc]))
              clear hno hc ha
              go_wp2_with fail
              go_roundw
              case rel => exact ⟨k + 1, by omega, by go_num, by rw [HN.out.2], HB.out, HR.out, HN.out.1, HX.out⟩
              case measure => simp [intOf]; omega
            · have C0 : ((wv (cap (E k) nr) : Int) != 0) = true := by simp [hc]
              have hh : hitS E a nr k = true := by simp [hitS, hc, ha]
              have HY := hide ((fnd_step (e := e) hlt).1 hh)
              have e2 := or_u (fnd E a nr k) (one k)
              have HU := hide (wv_eq HY.out.2)
              clear hno hc ha hh
              go_wp2_with (go_at_call 24; (with_reducible refine (bit_any hlt _).mono ?_); rintro e w' ⟨rfl, rfl⟩; go_frame)
              have hA2 := HA.out.set k (.int .i64 (e : Int))
              rw [ic_set (a' := prt E a nr e (k + 1)) hlt (by rw [HY.out.1, if_pos rfl]) (fun j hj => by rw [HY.out.1, if_neg hj])] at hA2
              have HA2 := hide hA2
              have HB2 := hide (HB.out.far (p := ⟨w.heap.size + 1 + 1, k, none⟩) (by simp; omega) (.int .i64 (e : Int)))
              have HR2 := hide (HR.out.far (p := ⟨w.heap.size + 1 + 1, k, none⟩) (by simp) (.int .i64 (e : Int)))
              have HX2 := hide (HX.out.set (p := ⟨w.heap.size + 1 + 1, k, none⟩) (by simp; omega) (.int .i64 (e : Int)))
              clear hA2
              go_roundw
              case rel => exact ⟨k + 1, by omega, by go_num, by rw [← HU.out], HB2.out, HR2.out, HA2.out, HX2.out⟩
              case measure => simp [intOf]; omega
          · have A0 : ((a k : Int) == 0) = false := by simp [ha]
            have HN := hide (hno (by simp [hitS, ha]))
            clear hno ha
            go_wp2_with fail
            go_roundw
            case rel => exact ⟨k + 1, by omega, by go_num, by rw [HN.out.2], HB.out, HR.out, HN.out.1, HX.out⟩
            case measure => simp [intOf]; omega
        · obtain rfl : k = 64 := by omega
          go_wp2_with fail
          go_roundw
          case rel => exact ⟨e + 1, _, _, rfl, by go_num, by omega, HS.out, HB.out, HR.out, HA.out, HX.out⟩
          case measure => simp [intOf]; omega
end Go.Proofs.YtaglpodilepioaaDoor
