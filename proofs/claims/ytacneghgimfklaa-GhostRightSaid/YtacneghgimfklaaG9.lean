/- A new course, a new log; whether a log was given. -/
import Derived.Test.YtacneghgimfklaaG4
import Derived.Test.YtacneghgimfklaaN1
import Derived.Deep.WholeRow
import Derived.Laws.ResultCell
namespace Go.Proofs.Ytacneghgimfklaa
open Go.RowKit Go.Maps
set_option linter.unusedSimpArgs false
set_option linter.unusedVariables false
set_option maxRecDepth 100000
set_option maxHeartbeats 8000000



section
variable {N M : Nat} {P : Option Addr} {D : Nat → Dg}
theorem all_gl : (gl N M P D []).all (·.oneCell') = true := by
  refine Array.all_eq_true_iff_forall_mem.2 fun v hv => ?_
  unfold gl at hv
  simp only [List.append_nil, List.mem_toArray, List.mem_map] at hv
  obtain ⟨j, _, rfl⟩ := hv
  unfold cv dgv
  repeat' split
  all_goals rfl
theorem inf_c : (Try.prog.info? 69).map (·.size) = some 75 := by kernel_rfl
theorem gl_rng {w : World} {b : Nat} {t : TypeId} {tl : List Value} (h : Blk w b (gl N M P D tl) t) : w.rangeAt b 0 (gl N M P D []).toList := fun j v hv => by
  have hj : j < 75 := by
    have := (List.getElem?_eq_some_iff.1 hv).1
    simpa [gl_size] using this
  rw [Nat.zero_add, h.cell, gl_at hj, ← hv, Array.getElem?_toList, gl_at hj]
theorem inf_cl : (Try.prog.info? 69).map (·.size) = some (gl N M P D []).toList.length := by rw [Array.length_toList, gl_size]; exact inf_c
theorem ChgRow {w : World} {b : Nat} {old cs : Array Value} {t : TypeId} (h : Blk w b old t) : Chg [b] w (w.setRow b cs) :=
  ⟨rfl, rfl, rfl, by simp [World.setRow], fun k hk hT => setRow_other w b k cs (by simpa using hT)⟩
theorem wpList_cput {ops : Array Oper} {rest : List Oper} {o : Oper} {a : Act} {w : World} {Q : Exit → Act → World → Prop} (hgd : o.guard = none) (x y : Operand) (ho : o.op = .store 69 x y)
    (b : Nat) (N M : Nat) (P : Option Addr) (D : Nat → Dg) (hx : a.eval x = .pointer (some ⟨b, 0, none⟩)) (hy : a.eval y = .agg (gl N M P D [])) (old : Array Value) (hb : Blk w b old 69) (hs : old.size = 75)
    (h : ∀ w', Blk w' b (gl N M P D []) 69 → Chg [b] w w' → w'.heap.size = w.heap.size → wpList Try.prog ops Q rest (a.put o.dst undef) w') : wpList Try.prog ops Q (o :: rest) a w :=
  wpList_store_row hgd 69 x y ho b (gl N M P D []) hx hy 69 old hb (by rw [gl_size]; exact inf_c) (by rw [hs, gl_size]; rfl) all_gl (h _ (setRow_heap w b old _ _ _ hb) (ChgRow hb) (by simp [World.setRow]))
theorem wpList_cget {ops : Array Oper} {rest : List Oper} {o : Oper} {a : Act} {w : World} {Q : Exit → Act → World → Prop} (hgd : o.guard = none) (x : Operand) (ho : o.op = .load 69 x)
    (b : Nat) (N M : Nat) (P : Option Addr) (D : Nat → Dg) (t : TypeId) (tl : List Value) (hx : a.eval x = .pointer (some ⟨b, 0, none⟩)) (hb : Blk w b (gl N M P D tl) t)
    (h : wpList Try.prog ops Q rest (a.put o.dst (.agg (gl N M P D []))) w) : wpList Try.prog ops Q (o :: rest) a w :=
  wpList_load_mid hgd 69 x ho b 0 hx (gl N M P D []).toList _ (gl_rng hb) Try.underlying69 rfl inf_cl (by rw [Array.toArray_toList]; exact h)
theorem cres_of {fn : Func} (h : fn.results = #[.cell 6 69, .tmp 7]) (tmps : Array Value) (w : World) {b : Nat} {t : TypeId} {u : Value} (e6 : tmps.getD 6 undef = .pointer (some ⟨b, 0, none⟩)) (e7 : tmps.getD 7 undef = u) (hb : Blk w b (gl N M P D []) t) :
    (results fn tmps).run Try.prog w = .ok (.tuple #[.agg (gl N M P D []), u]) w := by
  rw [results_cell_tmp h, e6, e7]
  simp only [asAddr, Sem.run_pure, Result.andThen_ok, run_loadVar_mid w b 0 69 (gl N M P D []).toList _ (gl_rng hb) Try.underlying69 rfl inf_cl, Array.toArray_toList]
end
theorem built_c0 : Try.prog.built 69 [] = some (gl 0 0 none D0 []) := by kernel_rfl
theorem built_c (n m : Nat) (p : Option Addr) : Try.prog.built 69 [(0, .int .i64 (n : Int)), (1, .int .i64 (m : Int)), (2, .pointer p)] = some (gl n m p D0 []) := by kernel_rfl
theorem built_l0 : Try.prog.built 71 [] = some (gl 0 0 none D0 [.slice none 0 0]) := by kernel_rfl
theorem built_l (n m : Nat) (p : Option Addr) : Try.prog.built 71 [(0, .agg (gl n m p D0 []))] = some (gl n m p D0 [.slice none 0 0]) := by kernel_rfl
theorem start_no {n m k : Int} (h : okN n m k = false) (w : World) : Calls Try.prog 19 #[.int .i64 n, .int .i64 m, .int .i64 k] w fun e w' => e = .returned (.tuple #[.agg (gl 0 0 none D0 []), .int .i64 1]) ∧ Ext w w' := by
  have BU := built_c0
  have cn := fun w' => new_no h w'
  clear h
  obtain ⟨zz, hz1, hz2, hz3, hz4⟩ : ∃ zz : Array Value, (∀ w, (zeroValue 69).run Try.prog w = .ok (.agg zz) w) ∧ ¬ zz = #[] ∧ ¬ zz.size < 2 ∧ zz.size = 75 := ⟨gl 0 0 none D0 [], fun w => by kernel_rfl, by decide +kernel, by decide +kernel, by decide +kernel⟩
  have HZ := hide hz4
  clear hz4
  go_enter Try.func19, Try.ntmps19
  go_upto_region 1 with fail
  have HR := hide (Blk.new w zz 69)
  have HX := hide (Ext.alloc w (.cells zz 69))
  generalize w.alloc (.cells zz 69) = W0 at *
  clear hz1 hz2 hz3
  go_wp2_with fail
  refine (cn _).mono ?_
  rintro e w1 ⟨rfl, rfl⟩
  go_wp2_with first | (with_reducible refine wpList_build rfl 69 _ rfl ?_ ?_; (simp [Act.eval, BU]); (simp [Act.eval, BU]; go_frame)) | (with_reducible refine wpList_cput rfl _ _ rfl w.heap.size _ _ _ _ rfl rfl zz HR.out HZ.out ?_; intro w' hb' hc' hs'; go_frame)
  refine bodyPost_ret (cres_of Try.results19 _ _ rfl rfl hb') rfl ?_
  exact ⟨rfl, HX.out.turn hc' (by simp)⟩
theorem start_ok {n m k : Nat} (h : okN n m k = true) (w : World) : Calls Try.prog 19 #[.int .i64 (n : Int), .int .i64 (m : Int), .int .i64 (k : Int)] w fun e w' => ∃ MB W L, e = .returned (.tuple #[.agg (gl n m (some ⟨MB, 0, none⟩) D0 []), .int .i64 0]) ∧ ModT w' MB W L (st0 n m k) ∧ w.heap.size ≤ MB ∧ w.heap.size ≤ W ∧ w.heap.size ≤ L ∧ Ext w w' := by
  have BU := built_c n m
  have cn := fun w' => new_ok h w'
  clear h
  generalize st0 n m k = S0 at *
  obtain ⟨zz, hz1, hz2, hz3, hz4⟩ : ∃ zz : Array Value, (∀ w, (zeroValue 69).run Try.prog w = .ok (.agg zz) w) ∧ ¬ zz = #[] ∧ ¬ zz.size < 2 ∧ zz.size = 75 := ⟨gl 0 0 none D0 [], fun w => by kernel_rfl, by decide +kernel, by decide +kernel, by decide +kernel⟩
  have HZ := hide hz4
  clear hz4
  go_enter Try.func19, Try.ntmps19
  go_upto_region 1 with fail
  have HR := hide (Blk.new w zz 69)
  have HX := hide (Ext.alloc w (.cells zz 69))
  have HS := hide (show (w.alloc (.cells zz 69)).heap.size = w.heap.size + 1 by simp)
  generalize w.alloc (.cells zz 69) = W0 at *
  clear hz1 hz2 hz3
  go_wp2_with fail
  refine (cn _).mono ?_
  rintro e w1 ⟨B, W, L, rfl, hm, hB, hW, hL, hX⟩
  rw [HS.out] at hB hW hL
  have HR := hide (HR.out.ext hX)
  have HX := hide (HX.out.trans hX)
  have HM := hide hm
  clear hX hm cn
  have BU := BU (some ⟨B, 0, none⟩)
  generalize hn : (n : Int) = zn at *
  generalize hm : (m : Int) = zm at *
  go_wp2_with first | (with_reducible refine wpList_build rfl 69 _ rfl ?_ ?_; (simp [Act.eval, BU]); (simp [Act.eval, BU]; go_frame)) | (with_reducible refine wpList_cput rfl _ _ rfl w.heap.size _ _ _ _ rfl rfl zz HR.out HZ.out ?_; intro w' hb' hc' hs'; go_frame)
  refine bodyPost_ret (cres_of Try.results19 _ _ rfl rfl hb') rfl ?_
  exact ⟨B, W, L, rfl, HM.out.chg hc' (by simp; omega) (by simp; omega) (by simp; omega), by omega, by omega, by omega, HX.out.turn hc' (by simp)⟩
theorem gnew_no {n m k : Int} (h : okN n m k = false) (w : World) : Calls Try.prog 11 #[.int .i64 n, .int .i64 m, .int .i64 k] w fun e w' => e = .returned (.tuple #[.pointer none, .int .i64 1]) ∧ Ext w w' := by
  have cn := fun w' => start_no h w'
  clear h
  obtain ⟨zz, hz1, hz2, hz3, hz4⟩ : ∃ zz : Array Value, (∀ w, (zeroValue 69).run Try.prog w = .ok (.agg zz) w) ∧ ¬ zz = #[] ∧ ¬ zz.size < 2 ∧ zz.size = 75 := ⟨gl 0 0 none D0 [], fun w => by kernel_rfl, by decide +kernel, by decide +kernel, by decide +kernel⟩
  have HZ := hide hz4
  clear hz4
  go_enter Try.func11, Try.ntmps11
  go_wp2_with fail
  refine (cn _).mono ?_
  rintro e w1 ⟨rfl, hX⟩
  have HX := hide hX
  clear hX cn
  go_wp2_with (with_reducible refine wpList_cput rfl _ _ rfl w1.heap.size _ _ _ _ rfl rfl zz (Blk.new w1 zz 69) HZ.out ?_; intro w' hb' hc' hs'; have hc2 := ((Ext.alloc w1 (.cells zz 69)).chg [w1.heap.size]).trans hc'; clear hc' hs'; have HB := hide hb'; clear hb'; go_frame)
  go_ret2
  exact ⟨rfl, HX.out.turn hc2 (by simpa using HX.out.size)⟩
/-- A log: a course, and behind it its entries. -/
abbrev LT (w : World) (C : Nat) (sl : Value) (MB W L : Nat) (S : St) (D : Nat → Dg) : Prop := CT w C 71 [sl] MB W L S D
theorem gnew_ok {n m k : Nat} (h : okN n m k = true) (w : World) : Calls Try.prog 11 #[.int .i64 (n : Int), .int .i64 (m : Int), .int .i64 (k : Int)] w fun e w' => ∃ C MB W L, e = .returned (.tuple #[.pointer (some ⟨C, 0, none⟩), .int .i64 0]) ∧ LT w' C (.slice none 0 0) MB W L (st0 n m k) D0 ∧ w.heap.size ≤ C ∧ w.heap.size ≤ MB ∧ w.heap.size ≤ W ∧ w.heap.size ≤ L ∧ Ext w w' := by
  have BU := built_l n m
  have cn := fun w' => start_ok h w'
  have HS := hide (show (st0 n m k).N = n ∧ (st0 n m k).M = m from ⟨rfl, rfl⟩)
  clear h
  generalize st0 n m k = S0 at *
  obtain ⟨zz, hz1, hz2, hz3, hz4⟩ : ∃ zz : Array Value, (∀ w, (zeroValue 69).run Try.prog w = .ok (.agg zz) w) ∧ ¬ zz = #[] ∧ ¬ zz.size < 2 ∧ zz.size = 75 := ⟨gl 0 0 none D0 [], fun w => by kernel_rfl, by decide +kernel, by decide +kernel, by decide +kernel⟩
  have HZ := hide hz4
  clear hz4
  go_enter Try.func11, Try.ntmps11
  go_wp2_with fail
  refine (cn _).mono ?_
  rintro e w1 ⟨B, W, L, rfl, hm, hB, hW, hL, hX⟩
  have HM := hide hm
  have HX := hide hX
  have lt := hm.lt
  clear hX hm cn
  have BU := BU (some ⟨B, 0, none⟩)
  go_wp2_with first | (with_reducible refine wpList_cput rfl _ _ rfl w1.heap.size _ _ _ _ rfl rfl zz (Blk.new w1 zz 69) HZ.out ?_; intro w' hb' hc' hs'; have hc2 := ((Ext.alloc w1 (.cells zz 69)).chg [w1.heap.size]).trans hc'; clear hc' hs'; have HB := hide hb'; clear hb'; go_frame) | (with_reducible refine wpList_cget rfl _ rfl w1.heap.size _ _ _ _ _ _ rfl HB.out ?_; go_frame) | (with_reducible refine wpList_build rfl 71 _ rfl ?_ ?_; (simp [Act.eval, BU]); (simp [Act.eval, BU]; go_frame))
  go_ret2
  have x2 := Ext.alloc w' (.cells (gl n m (some ⟨B, 0, none⟩) D0 [.slice none 0 0]) 71)
  have hs : w1.heap.size ≤ w'.heap.size := hc2.size
  have hm' := (HM.out.chg hc2 (by simp; omega) (by simp; omega) (by simp; omega)).ext x2
  refine ⟨_, B, W, L, rfl, ⟨?_, hm', by have := HM.out.lt; simp; omega⟩, by have := HX.out.size; omega, hB, hW, hL, (HX.out.turn hc2 (by have := HX.out.size; simp; omega)).trans x2⟩
  rw [HS.out.1, HS.out.2]
  exact Blk.new _ _ _
/-! ### Whether a log was given -/
def NobL (w : World) (p : Value) : Prop := p = .pointer none ∨ ∃ C, p = .pointer (some ⟨C, 0, none⟩) ∧ Blk w C (gl 0 0 none D0 [.slice none 0 0]) 71
theorem NobL.ext {w w' : World} {p : Value} (h : NobL w p) (x : Ext w w') : NobL w' p := by
  rcases h with h | ⟨C, h, b⟩
  · exact .inl h
  · exact .inr ⟨C, h, b.ext x⟩
theorem ggiven_no {w : World} {p : Value} (h : NobL w p) : Calls Try.prog 27 #[p] w fun e w' => e = .returned (.bool false) ∧ w = w' := by
  rcases h with rfl | ⟨C, rfl, h⟩
  · go_enter Try.func27, Try.ntmps27
    go_wp2
    go_ret
    exact ⟨rfl, rfl⟩
  · have r : w.cell? ⟨C, 2, none⟩ = some (.pointer none) := by rw [h.cell, gl_at (by omega)]; rfl
    go_enter Try.func27, Try.ntmps27
    go_wp2
    go_ret
    exact ⟨by simp, rfl⟩
theorem ggiven_ok {w : World} {C : Nat} {ty : TypeId} {tl : List Value} {MB W L : Nat} {S : St} {D : Nat → Dg} (h : CT w C ty tl MB W L S D) : Calls Try.prog 27 #[.pointer (some ⟨C, 0, none⟩)] w fun e w' => e = .returned (.bool true) ∧ w = w' := by
  have r := h.p
  clear h
  go_enter Try.func27, Try.ntmps27
  go_wp2
  go_ret
  exact ⟨by simp, rfl⟩
end Go.Proofs.Ytacneghgimfklaa
