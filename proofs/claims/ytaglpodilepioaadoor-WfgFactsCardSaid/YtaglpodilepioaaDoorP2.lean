/- Rows of 64 cells in memory; the program's graph: Add, Has, Next. -/
import Derived.Test.YtaglpodilepioaaDoorP1
import Derived.Test.YtaglpodilepioaaDoorTurn
import Derived.Test.YtaglpodilepioaaDoorTail
import Derived.Test.YtaglpodilepioaaDoorHeld
import Derived.Deep.WholeRow
import Derived.Deep.MidRow
import Derived.Laws.ResultCell
import Derived.Laws.Tables
import Derived.Deep.RegionHeld3
import Derived.Deep.DeepCutAuto
import Derived.Deep.CutBlock
import Derived.BigRegion
namespace Go.Proofs.YtaglpodilepioaaDoor
open Go.RowKit
set_option linter.unusedSimpArgs false
set_option linter.unusedVariables false
set_option maxRecDepth 100000
set_option maxHeartbeats 4000000


def r64 (f : Nat → Value) : Array Value := ((List.range 64).map f).toArray
section
variable {f : Nat → Value}
theorem r64_size : (r64 f).size = 64 := by simp [r64]
theorem r64_at {i : Nat} (h : i < 64) : (r64 f)[i]? = some (f i) := by
  unfold r64
  rw [List.getElem?_toArray, List.getElem?_map, List.getElem?_range h]; rfl
theorem r64_rng {w : World} {b : Nat} {t : TypeId} (h : Blk w b (r64 f) t) : w.rangeAt b 0 (r64 f).toList := fun j v hv => by
  rw [Nat.zero_add, h.cell, ← hv, Array.getElem?_toList]
theorem r64_set {f' : Nat → Value} {i : Nat} {v : Value} (h : i < 64) (hk : f' i = v) (ho : ∀ j, j ≠ i → f' j = f j) : (r64 f).setIfInBounds i v = r64 f' := by
  unfold r64
  rw [List.setIfInBounds_toArray]
  congr 1
  apply List.ext_getElem?
  intro j
  rw [List.getElem?_set, List.getElem?_map, List.getElem?_map]
  by_cases hj : j < 64
  · rw [List.getElem?_range hj]
    by_cases e : i = j
    · subst e; rw [if_pos rfl, if_pos (by simpa using h)]; simp [hk]
    · rw [if_neg e]; simp [ho j (Ne.symm e)]
  · have h1 : (List.range 64)[j]? = none := List.getElem?_eq_none (by simp; omega)
    rw [h1, if_neg (by omega)]
    simp
theorem r64_eq {f' : Nat → Value} (h : ∀ j, j < 64 → f j = f' j) : r64 f = r64 f' := by
  unfold r64
  congr 1
  exact List.map_congr_left fun j hj => h j (List.mem_range.1 hj)
end
/-- A graph's value. -/

def gw (E : Gr) (i : Nat) : Value := .int .u64 (wv (E i) : Int)
def gc (E : Gr) : Array Value := r64 (gw E)
section
variable {E : Gr}
theorem gc_size : (gc E).size = 64 := r64_size
theorem gc_at {i : Nat} (h : i < 64) : (gc E)[i]? = some (.int .u64 (wv (E i) : Int)) := r64_at h
theorem gc_one (E : Gr) : ((gc E).all fun x => x.oneCell') = true := by
  refine Array.all_eq_true_iff_forall_mem.2 fun v hv => ?_
  unfold gc r64 at hv
  simp only [List.mem_toArray, List.mem_map] at hv
  obtain ⟨j, _, rfl⟩ := hv
  rfl
theorem inf_g : (Tryd.prog.info? 27).map (·.size) = some 64 := by kernel_rfl
theorem inf_gc (E : Gr) : (Tryd.prog.info? 27).map (·.size) = some (gc E).toList.length := by rw [Array.length_toList, gc_size]; exact inf_g
theorem Chg.row {w : World} {b : Nat} {old cs : Array Value} {t : TypeId} (h : Blk w b old t) : Chg [b] w (w.setRow b cs) :=
  ⟨rfl, rfl, rfl, by simp [World.setRow], fun k hk hT => setRow_other w b k cs (by simpa using hT)⟩
theorem ld_g (w : World) {b : Nat} (hb : Blk w b (gc E) 27) : (loadVar 27 ⟨b, 0, none⟩).run Tryd.prog w = .ok (.agg (gc E)) w := by
  rw [run_loadVar_mid w b 0 27 (gc E).toList _ (r64_rng hb) Tryd.underlying27 rfl (inf_gc E), Array.toArray_toList]
theorem la_g (w : World) {b : Nat} (hb : Blk w b (gc E) 27) : (Instr.loadAt 27 (.pointer (some ⟨b, 0, none⟩))).run Tryd.prog w = .ok (.agg (gc E)) w := by
  rw [run_loadAt_mid w b 0 27 (gc E).toList _ (r64_rng hb) Tryd.underlying27 rfl (inf_gc E), Array.toArray_toList]
theorem put_g {ops : Array Oper} {rest : List Oper} {o : Oper} {a : Act} {w : World} {Q : Exit → Act → World → Prop} (hgd : o.guard = none) (x y : Operand) (ho : o.op = .store 27 x y)
    (b : Nat) (E : Gr) (hx : a.eval x = .pointer (some ⟨b, 0, none⟩)) (hy : a.eval y = .agg (gc E)) (old : Array Value) (hb : Blk w b old 27) (hs : old.size = 64)
    (h : ∀ w', Blk w' b (gc E) 27 → Chg [b] w w' → w'.heap.size = w.heap.size → wpList Tryd.prog ops Q rest (a.put o.dst undef) w') : wpList Tryd.prog ops Q (o :: rest) a w :=
  wpList_store_row hgd 27 x y ho b (gc E) hx hy 27 old hb (by rw [gc_size]; exact inf_g) (by rw [hs, gc_size]) (gc_one E) (h _ (setRow_heap w b old _ _ _ hb) (Chg.row hb) (by simp [World.setRow]))
theorem get_g {ops : Array Oper} {rest : List Oper} {o : Oper} {a : Act} {w : World} {Q : Exit → Act → World → Prop} (hgd : o.guard = none) (x : Operand) (ho : o.op = .load 27 x)
    (b : Nat) (E : Gr) (hx : a.eval x = .pointer (some ⟨b, 0, none⟩)) (hb : Blk w b (gc E) 27)
    (h : wpList Tryd.prog ops Q rest (a.put o.dst (.agg (gc E))) w) : wpList Tryd.prog ops Q (o :: rest) a w :=
  wpList_load_mid hgd 27 x ho b 0 hx (gc E).toList _ (r64_rng hb) Tryd.underlying27 rfl (inf_gc E) (by rw [Array.toArray_toList]; exact h)
theorem res_g {fn : Func} (h : fn.results = #[.cell 6 27, .tmp 7]) (tmps : Array Value) (w : World) {b : Nat} {u : Value} (e4 : tmps.getD 6 undef = .pointer (some ⟨b, 0, none⟩)) (e5 : tmps.getD 7 undef = u) (hb : Blk w b (gc E) 27) :
    (results fn tmps).run Tryd.prog w = .ok (.tuple #[.agg (gc E), u]) w := by
  rw [results_cell_tmp h, e4, e5]
  simp only [asAddr, Sem.run_pure, Result.andThen_ok, ld_g w hb]
end
def addE (E : Gr) (i j : Nat) : Gr := fun a => if a = i then uni (E a) (one j) else E a
theorem gc_add {E : Gr} {i : Nat} (j : Nat) (hi : i < 64) : (gc E).setIfInBounds i (.int .u64 (wv (uni (E i) (one j)) : Int)) = gc (addE E i j) :=
  r64_set hi (by simp [gw, addE]) (fun k hk => by simp [gw, addE, hk])
/-- The zero graph. -/
def zgr : Gr := fun _ => non
def zrw : Array Value := ((List.range 64).map fun _ => Value.int .u64 0).toArray
theorem gc_zero : gc zgr = zrw := by
  unfold gc r64 zrw
  congr 1
theorem add_any (E : Gr) (i j : Int) (w : World) : Calls Tryd.prog 7 #[.agg (gc E), .int .i64 i, .int .i64 j] w fun e w' =>
    e = .returned (.tuple #[.agg (gc (if isN i && isN j then addE E i.toNat j.toNat else E)), .int .i64 (if isN i && isN j then 0 else 1)]) ∧ Ext w w' := by
  obtain ⟨zz, hz1, hz2, hz3, hz4, -⟩ : ∃ zz : Array Value, (∀ w, (zeroValue 27).run Tryd.prog w = .ok (.agg zz) w) ∧ ¬ zz = #[] ∧ ¬ zz.size < 2 ∧ zz.size = 64 ∧ zz = zrw := ⟨_, fun w => by kernel_rfl, by decide +kernel, by decide +kernel, by decide +kernel, rfl⟩
  have HZ := hide hz4
  clear hz4
  by_cases hi : isN i = true
  · by_cases hj : isN j = true
    · rw [hi, hj]
      simp only [Bool.and_self, if_true]
      have hi1 : 0 ≤ i ∧ i < 64 := by simpa [isN] using hi
      have hj1 : 0 ≤ j ∧ j < 64 := by simpa [isN] using hj
      obtain ⟨p, rfl⟩ := Int.eq_ofNat_of_zero_le hi1.1
      obtain ⟨q, rfl⟩ := Int.eq_ofNat_of_zero_le hj1.1
      have hp : p < 64 := by omega
      have hq : q < 64 := by omega
      rw [Int.toNat_natCast, Int.toNat_natCast]
      have HV := hide (or_u (E p) (one q))
      clear hi1 hj1
      go_enter Tryd.func7, Tryd.ntmps7
      go_upto_region 1 with fail
      have HB := hide ((Blk.new w (gc E) 27).ext (Ext.alloc _ (.cells zz 27)))
      have HR := Blk.new (w.alloc (.cells (gc E) 27)) zz 27
      rw [World.size_alloc] at HR
      have HR := hide HR
      have HX := hide ((Ext.alloc w (.cells (gc E) 27)).trans (Ext.alloc _ (.cells zz 27)))
      generalize ((w.alloc (.cells (gc E) 27)).alloc (.cells zz 27)) = W0 at *
      clear hz1 hz2 hz3
      go_upto_region 3 with (go_at_call 23; (with_reducible refine (isNode_any _ _).mono ?_); rintro e w1 ⟨rfl, rfl⟩; go_frame)
      have hW := Ext.refl W0
      have c1 : ∀ w', Ext W0 w' → w'.cell? ⟨w.heap.size, p, none⟩ = some (.int .u64 (wv (E p) : Int)) := fun w' h => ((HB.out.ext h).cell p).trans (gc_at hp)
      have f1 : ∀ w', Ext W0 w' → w'.frozen? ⟨w.heap.size, p, none⟩ = false := fun w' h => (HB.out.ext h).free p
      have hp2 : (p : Int) < 64 := by omega
      refine wp_region_tail 9 (by kernel_rfl) (by kernel_rfl) ?_
      simp only [List.take_succ_cons, List.take_zero, List.drop_succ_cons, List.drop_zero]
      repeat
        with_reducible refine wpQuiet_step (fun K hK => ?_)
        go_simp
        first
        | (refine hK _ ?_; clear hK K)
        | (apply Exists.intro
           refine ⟨fun w1 h1 => ?_, hK _ ?_⟩
           (have hW := Ext.trans2 hW (by repeat (first | exact Ext.refl _ | exact Ext.alloc _ _ | exact Ext.drewN _ _ | assumption | refine Ext.trans ?_ (Ext.alloc _ _) | refine Ext.trans ?_ (Ext.drew _) | refine Ext.trans ?_ (by assumption))) h1; (try have hV := Ext.trans2 hV (by repeat (first | exact Ext.refl _ | exact Ext.alloc _ _ | exact Ext.drewN _ _ | assumption | refine Ext.trans ?_ (Ext.alloc _ _) | refine Ext.trans ?_ (Ext.drew _) | refine Ext.trans ?_ (by assumption))) h1); (first | rfl | (go_simp; done) | (go_simp; rfl) | (go_at_call 24; (with_reducible refine (bit_any hq _).mono ?_); rintro e w2 ⟨rfl, rfl⟩; exact ⟨rfl, h1⟩)))
           clear hK K)
      refine wpQuiet_nil (fun w' hw' => ?_)
      have hW := Ext.trans2 hW (by repeat (first | exact Ext.refl _ | exact Ext.alloc _ _ | exact Ext.drewN _ _ | assumption | refine Ext.trans ?_ (Ext.alloc _ _) | refine Ext.trans ?_ (Ext.drew _) | refine Ext.trans ?_ (by assumption))) hw'
      try have hV := Ext.trans2 hV (by repeat (first | exact Ext.refl _ | exact Ext.alloc _ _ | exact Ext.drewN _ _ | assumption | refine Ext.trans ?_ (Ext.alloc _ _) | refine Ext.trans ?_ (Ext.drew _) | refine Ext.trans ?_ (by assumption))) hw'
      clear hw'
      go_upto_region 4 with fail
      rw [HV.out]
      have HB2 := (HB.out.ext hW).set p (.int .u64 (wv (uni (E p) (one q)) : Int))
      rw [gc_add q hp] at HB2
      have HB := hide HB2
      have HR := hide ((HR.out.ext hW).far (p := ⟨w.heap.size, p, none⟩) (by simp) (.int .u64 (wv (uni (E p) (one q)) : Int)))
      have HX := hide ((HX.out.trans hW).set (p := ⟨w.heap.size, p, none⟩) (by simp) (.int .u64 (wv (uni (E p) (one q)) : Int)))
      generalize w'.setCell ⟨w.heap.size, p, none⟩ (.int .u64 (wv (uni (E p) (one q)) : Int)) = W1 at *
      go_wp2_with (first | (with_reducible refine get_g rfl _ rfl w.heap.size (addE E p q) rfl HB.out ?_; go_frame) | (with_reducible refine put_g rfl _ _ rfl (w.heap.size + 1) (addE E p q) rfl rfl zz HR.out HZ.out ?_; intro w' hb' hc' hs'; have HX' := hide (HX.out.turn hc' (by simp)); clear hc' hs'; go_frame))
      refine bodyPost_ret (res_g Tryd.results7 _ _ rfl rfl hb') rfl ?_
      exact ⟨rfl, HX'.out⟩
    · rw [hi, show isN j = false by simpa using hj]
      simp only [Bool.and_false, if_neg (show ¬ (false = true) by decide)]
      have hj : isN j = false := by simpa using hj
      go_enter Tryd.func7, Tryd.ntmps7
      go_upto_region 1 with fail
      have HB := hide ((Blk.new w (gc E) 27).ext (Ext.alloc _ (.cells zz 27)))
      have HR := Blk.new (w.alloc (.cells (gc E) 27)) zz 27
      rw [World.size_alloc] at HR
      have HR := hide HR
      have HX := hide ((Ext.alloc w (.cells (gc E) 27)).trans (Ext.alloc _ (.cells zz 27)))
      generalize ((w.alloc (.cells (gc E) 27)).alloc (.cells zz 27)) = W0 at *
      clear hz1 hz2 hz3
      go_wp2_with (first | (go_at_call 23; (with_reducible refine (isNode_any _ _).mono ?_); rintro e w1 ⟨rfl, rfl⟩; go_frame) | (with_reducible refine get_g rfl _ rfl w.heap.size E rfl HB.out ?_; go_frame) | (with_reducible refine put_g rfl _ _ rfl (w.heap.size + 1) E rfl rfl zz HR.out HZ.out ?_; intro w' hb' hc' hs'; have HX' := hide (HX.out.turn hc' (by simp)); clear hc' hs'; go_frame))
      refine bodyPost_ret (res_g Tryd.results7 _ _ rfl rfl hb') rfl ?_
      exact ⟨rfl, HX'.out⟩
  · rw [show isN i = false by simpa using hi]
    simp only [Bool.false_and, if_neg (show ¬ (false = true) by decide)]
    have hi : isN i = false := by simpa using hi
    go_enter Tryd.func7, Tryd.ntmps7
    go_upto_region 1 with fail
    have HB := hide ((Blk.new w (gc E) 27).ext (Ext.alloc _ (.cells zz 27)))
    have HR := Blk.new (w.alloc (.cells (gc E) 27)) zz 27
    rw [World.size_alloc] at HR
    have HR := hide HR
    have HX := hide ((Ext.alloc w (.cells (gc E) 27)).trans (Ext.alloc _ (.cells zz 27)))
    generalize ((w.alloc (.cells (gc E) 27)).alloc (.cells zz 27)) = W0 at *
    clear hz1 hz2 hz3
    go_wp2_with (first | (go_at_call 23; (with_reducible refine (isNode_any _ _).mono ?_); rintro e w1 ⟨rfl, rfl⟩; go_frame) | (with_reducible refine get_g rfl _ rfl w.heap.size E rfl HB.out ?_; go_frame) | (with_reducible refine put_g rfl _ _ rfl (w.heap.size + 1) E rfl rfl zz HR.out HZ.out ?_; intro w' hb' hc' hs'; have HX' := hide (HX.out.turn hc' (by simp)); clear hc' hs'; go_frame))
    refine bodyPost_ret (res_g Tryd.results7 _ _ rfl rfl hb') rfl ?_
    exact ⟨rfl, HX'.out⟩
theorem and_bit (f : NS) {q : Nat} (hq : q < 64) : (bits .and .u64 (wv f : Int) (wv (one q) : Int) != 0) = f q := by
  rw [and_u]
  cases hf : f q
  · have : wv (cap f (one q)) = 0 := wv_zero.2 fun j _ => by
      unfold cap one
      by_cases e : j = q
      · subst e; simp [hf]
      · simp [e]
    simp [this]
  · have : wv (cap f (one q)) ≠ 0 := fun h => by
      have := wv_zero.1 h q hq
      simp [cap, one, hf] at this
    simp [this]
theorem has_any (E : Gr) (i j : Int) (w : World) : Calls Tryd.prog 9 #[.agg (gc E), .int .i64 i, .int .i64 j] w fun e w' => e = .returned (.bool (isN i && isN j && E i.toNat j.toNat)) ∧ Ext w w' := by
  by_cases hi : isN i = true
  · by_cases hj : isN j = true
    · rw [hi, hj]
      simp only [Bool.and_self, Bool.true_and]
      have hi1 : 0 ≤ i ∧ i < 64 := by simpa [isN] using hi
      have hj1 : 0 ≤ j ∧ j < 64 := by simpa [isN] using hj
      obtain ⟨p, rfl⟩ := Int.eq_ofNat_of_zero_le hi1.1
      obtain ⟨q, rfl⟩ := Int.eq_ofNat_of_zero_le hj1.1
      have hp : p < 64 := by omega
      have hq : q < 64 := by omega
      have hp2 : (p : Int) < 64 := by omega
      rw [Int.toNat_natCast, Int.toNat_natCast]
      have HV := and_bit (E p) hq
      clear hi1 hj1
      go_enter Tryd.func9, Tryd.ntmps9
      go_upto_region 1 with fail
      have HB := hide (Blk.new w (gc E) 27)
      have HX := hide (Ext.alloc w (.cells (gc E) 27))
      generalize (w.alloc (.cells (gc E) 27)) = W0 at *
      have hW := Ext.refl W0
      have c1 : ∀ w', Ext W0 w' → w'.cell? ⟨w.heap.size, p, none⟩ = some (.int .u64 (wv (E p) : Int)) := fun w' h => ((HB.out.ext h).cell p).trans (gc_at hp)
      refine wp_region_ext (by kernel_rfl) (by kernel_rfl) ?_
      repeat
        with_reducible refine wpQuiet_step (fun K hK => ?_)
        go_simp
        first
        | (refine hK _ ?_; clear hK K)
        | (apply Exists.intro
           refine ⟨fun w1 h1 => ?_, hK _ ?_⟩
           (have hW := Ext.trans2 hW (by repeat (first | exact Ext.refl _ | exact Ext.alloc _ _ | exact Ext.drewN _ _ | assumption | refine Ext.trans ?_ (Ext.alloc _ _) | refine Ext.trans ?_ (Ext.drew _) | refine Ext.trans ?_ (by assumption))) h1; (try have hV := Ext.trans2 hV (by repeat (first | exact Ext.refl _ | exact Ext.alloc _ _ | exact Ext.drewN _ _ | assumption | refine Ext.trans ?_ (Ext.alloc _ _) | refine Ext.trans ?_ (Ext.drew _) | refine Ext.trans ?_ (by assumption))) h1); (first | rfl | (go_simp; done) | (go_simp; rfl) | first | (go_at_call 23; (with_reducible refine (isNode_any _ _).mono ?_); rintro e w2 ⟨rfl, rfl⟩; exact ⟨rfl, h1⟩) | (go_at_call 24; (with_reducible refine (bit_any hq _).mono ?_); rintro e w2 ⟨rfl, rfl⟩; exact ⟨rfl, h1⟩)))
           clear hK K)
      refine wpQuiet_nil (fun w' hw' => ?_)
      have hW := Ext.trans2 hW (by repeat (first | exact Ext.refl _ | exact Ext.alloc _ _ | exact Ext.drewN _ _ | assumption | refine Ext.trans ?_ (Ext.alloc _ _) | refine Ext.trans ?_ (Ext.drew _) | refine Ext.trans ?_ (by assumption))) hw'
      try have hV := Ext.trans2 hV (by repeat (first | exact Ext.refl _ | exact Ext.alloc _ _ | exact Ext.drewN _ _ | assumption | refine Ext.trans ?_ (Ext.alloc _ _) | refine Ext.trans ?_ (Ext.drew _) | refine Ext.trans ?_ (by assumption))) hw'
      clear hw'
      go_wp2_with fail
      go_ret
      exact ⟨rfl, HX.out.trans hW⟩
    · have hj : isN j = false := by simpa using hj
      rw [hi, hj]
      simp only [Bool.and_false, Bool.false_and]
      go_enter Tryd.func9, Tryd.ntmps9
      go_upto_region 1 with fail
      have HB := hide (Blk.new w (gc E) 27)
      have HX := hide (Ext.alloc w (.cells (gc E) 27))
      generalize (w.alloc (.cells (gc E) 27)) = W0 at *
      have hW := Ext.refl W0
      refine wp_region_ext (by kernel_rfl) (by kernel_rfl) ?_
      repeat
        with_reducible refine wpQuiet_step (fun K hK => ?_)
        go_simp
        first
        | (refine hK _ ?_; clear hK K)
        | (apply Exists.intro
           refine ⟨fun w1 h1 => ?_, hK _ ?_⟩
           (have hW := Ext.trans2 hW (by repeat (first | exact Ext.refl _ | exact Ext.alloc _ _ | exact Ext.drewN _ _ | assumption | refine Ext.trans ?_ (Ext.alloc _ _) | refine Ext.trans ?_ (Ext.drew _) | refine Ext.trans ?_ (by assumption))) h1; (try have hV := Ext.trans2 hV (by repeat (first | exact Ext.refl _ | exact Ext.alloc _ _ | exact Ext.drewN _ _ | assumption | refine Ext.trans ?_ (Ext.alloc _ _) | refine Ext.trans ?_ (Ext.drew _) | refine Ext.trans ?_ (by assumption))) h1); (first | rfl | (go_simp; done) | (go_simp; rfl) | (go_at_call 23; (with_reducible refine (isNode_any _ _).mono ?_); rintro e w2 ⟨rfl, rfl⟩; exact ⟨rfl, h1⟩)))
           clear hK K)
      refine wpQuiet_nil (fun w' hw' => ?_)
      have hW := Ext.trans2 hW (by repeat (first | exact Ext.refl _ | exact Ext.alloc _ _ | exact Ext.drewN _ _ | assumption | refine Ext.trans ?_ (Ext.alloc _ _) | refine Ext.trans ?_ (Ext.drew _) | refine Ext.trans ?_ (by assumption))) hw'
      try have hV := Ext.trans2 hV (by repeat (first | exact Ext.refl _ | exact Ext.alloc _ _ | exact Ext.drewN _ _ | assumption | refine Ext.trans ?_ (Ext.alloc _ _) | refine Ext.trans ?_ (Ext.drew _) | refine Ext.trans ?_ (by assumption))) hw'
      clear hw'
      go_wp2_with fail
      go_ret
      exact ⟨rfl, HX.out.trans hW⟩
  · have hi : isN i = false := by simpa using hi
    rw [hi]
    simp only [Bool.false_and]
    go_enter Tryd.func9, Tryd.ntmps9
    go_upto_region 1 with fail
    have HB := hide (Blk.new w (gc E) 27)
    have HX := hide (Ext.alloc w (.cells (gc E) 27))
    generalize (w.alloc (.cells (gc E) 27)) = W0 at *
    have hW := Ext.refl W0
    refine wp_region_ext (by kernel_rfl) (by kernel_rfl) ?_
    repeat
      with_reducible refine wpQuiet_step (fun K hK => ?_)
      go_simp
      first
      | (refine hK _ ?_; clear hK K)
      | (apply Exists.intro
         refine ⟨fun w1 h1 => ?_, hK _ ?_⟩
         (have hW := Ext.trans2 hW (by repeat (first | exact Ext.refl _ | exact Ext.alloc _ _ | exact Ext.drewN _ _ | assumption | refine Ext.trans ?_ (Ext.alloc _ _) | refine Ext.trans ?_ (Ext.drew _) | refine Ext.trans ?_ (by assumption))) h1; (try have hV := Ext.trans2 hV (by repeat (first | exact Ext.refl _ | exact Ext.alloc _ _ | exact Ext.drewN _ _ | assumption | refine Ext.trans ?_ (Ext.alloc _ _) | refine Ext.trans ?_ (Ext.drew _) | refine Ext.trans ?_ (by assumption))) h1); (first | rfl | (go_simp; done) | (go_simp; rfl) | (go_at_call 23; (with_reducible refine (isNode_any _ _).mono ?_); rintro e w2 ⟨rfl, rfl⟩; exact ⟨rfl, h1⟩)))
         clear hK K)
    refine wpQuiet_nil (fun w' hw' => ?_)
    have hW := Ext.trans2 hW (by repeat (first | exact Ext.refl _ | exact Ext.alloc _ _ | exact Ext.drewN _ _ | assumption | refine Ext.trans ?_ (Ext.alloc _ _) | refine Ext.trans ?_ (Ext.drew _) | refine Ext.trans ?_ (by assumption))) hw'
    try have hV := Ext.trans2 hV (by repeat (first | exact Ext.refl _ | exact Ext.alloc _ _ | exact Ext.drewN _ _ | assumption | refine Ext.trans ?_ (Ext.alloc _ _) | refine Ext.trans ?_ (Ext.drew _) | refine Ext.trans ?_ (by assumption))) hw'
    clear hw'
    go_wp2_with fail
    go_ret
    exact ⟨rfl, HX.out.trans hW⟩
end Go.Proofs.YtaglpodilepioaaDoor
