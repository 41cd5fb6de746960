/- New ones of the parts that a machine has: only new blocks. -/
import Derived.Test.YtlgomkocalieeaaGreatDoorC1
import Derived.Test.YtlgomkocalieeaaGreatDoorMoN1
import Derived.Test.YtlgomkocalieeaaGreatDoorCe
import Derived.Test.YtlgomkocalieeaaGreatDoorSf
import Derived.Test.YtlgomkocalieeaaGreatDoorDr
import Derived.Deep.WholeRow
import Derived.Deep.MidRow
import Derived.Laws.ResultCell
import Derived.Laws.MakeOwn
import Derived.Deep.DeepCutAuto
import Derived.Test.YtlgomkocalieeaaGreatDoorC3
import Derived.Test.YtlgomkocalieeaaGreatDoorO6
import Derived.Test.YtlgomkocalieeaaGreatDoorLyP1
import Derived.Test.YtlgomkocalieeaaGreatDoorWdK1
import Derived.Test.YtlgomkocalieeaaGreatDoorKp
import Derived.Test.YtlgomkocalieeaaGreatDoorHeld
namespace Go.Proofs.YtlgomkocalieeaaGreatDoor
open Go.RowKit
set_option linter.unusedSimpArgs false
set_option linter.unusedVariables false
set_option maxRecDepth 100000
set_option maxHeartbeats 4000000

/-- The cells of a course. -/
def cx (n m : Int) (p : Option Addr) : Array Value := #[.int .i64 n, .int .i64 m, .pointer p] ++ Array.replicate 72 (.int .i64 0)
noncomputable abbrev cc (n m : Int) (p : Option Addr) : Array Value := ((Tryz.zeroCells170.setIfInBounds 0 (.int .i64 n)).setIfInBounds 1 (.int .i64 m)).setIfInBounds 2 (.pointer p)
theorem cc_eq (n m : Int) (p : Option Addr) : cc n m p = cx n m p := by kernel_rfl
theorem cc_size (n m : Int) (p : Option Addr) : (cc n m p).size = 75 := by rw [cc_eq]; simp [cx]
theorem all_cc (n m : Int) (p : Option Addr) : (cc n m p).all (·.oneCell') = true := by
  rw [cc_eq]
  refine Array.all_eq_true_iff_forall_mem.2 fun v hv => ?_
  simp only [cx, Array.mem_append, Array.mem_replicate, List.mem_toArray, List.mem_cons, List.not_mem_nil, or_false] at hv
  rcases hv with (rfl | rfl | rfl) | ⟨_, rfl⟩ <;> rfl
theorem inf_cc : (Tryz.prog.info? 170).map (·.size) = some 75 := by kernel_rfl
theorem inf_ccl (n m : Int) (p : Option Addr) : (Tryz.prog.info? 170).map (·.size) = some (cc n m p).toList.length := by rw [Array.length_toList, cc_size]; exact inf_cc
theorem cc_rng {w : World} {b : Nat} {n m : Int} {p : Option Addr} {t : TypeId} (h : Blk w b (cc n m p) t) : w.rangeAt b 0 (cc n m p).toList := fun j v hv => by
  rw [Nat.zero_add, h.cell, ← hv, Array.getElem?_toList]
theorem ChgRow {w : World} {b : Nat} {old cs : Array Value} {t : TypeId} (h : Blk w b old t) : Chg [b] w (w.setRow b cs) :=
  ⟨rfl, rfl, rfl, by simp [World.setRow], fun k hk hT => setRow_other w b k cs (by simpa using hT)⟩
theorem wpList_ccput {ops : Array Oper} {rest : List Oper} {o : Oper} {a : Act} {w : World} {Q : Exit → Act → World → Prop} (hgd : o.guard = none) (x y : Operand) (ho : o.op = .store 170 x y)
    (b : Nat) (n m : Int) (p : Option Addr) (hx : a.eval x = .pointer (some ⟨b, 0, none⟩)) (hy : a.eval y = .agg (cc n m p)) (old : Array Value) (hb : Blk w b old 170) (hs : old.size = 75)
    (h : ∀ w', Blk w' b (cc n m p) 170 → Chg [b] w w' → w'.heap.size = w.heap.size → wpList Tryz.prog ops Q rest (a.put o.dst undef) w') : wpList Tryz.prog ops Q (o :: rest) a w :=
  wpList_store_row hgd 170 x y ho b (cc n m p) hx hy 170 old hb (by rw [cc_size]; exact inf_cc) (by rw [hs, cc_size]) (all_cc n m p) (h _ (setRow_heap w b old _ _ _ hb) (ChgRow hb) (by simp [World.setRow]))
theorem wpList_ccget {ops : Array Oper} {rest : List Oper} {o : Oper} {a : Act} {w : World} {Q : Exit → Act → World → Prop} (hgd : o.guard = none) (x : Operand) (ho : o.op = .load 170 x)
    (b : Nat) (n m : Int) (p : Option Addr) (t : TypeId) (hx : a.eval x = .pointer (some ⟨b, 0, none⟩)) (hb : Blk w b (cc n m p) t)
    (h : wpList Tryz.prog ops Q rest (a.put o.dst (.agg (cc n m p))) w) : wpList Tryz.prog ops Q (o :: rest) a w :=
  wpList_load_mid hgd 170 x ho b 0 hx (cc n m p).toList _ (cc_rng hb) Tryz.underlying170 rfl (inf_ccl n m p) (by rw [Array.toArray_toList]; exact h)
theorem ccres_of {fn : Func} (h : fn.results = #[.cell 6 170, .tmp 7]) (tmps : Array Value) (w : World) {b : Nat} {n m : Int} {p : Option Addr} {t : TypeId} {u : Value} (e6 : tmps.getD 6 undef = .pointer (some ⟨b, 0, none⟩)) (e7 : tmps.getD 7 undef = u) (hb : Blk w b (cc n m p) t) :
    (results fn tmps).run Tryz.prog w = .ok (.tuple #[.agg (cc n m p), u]) w := by
  rw [results_cell_tmp h, e6, e7]
  simp only [asAddr, Sem.run_pure, Result.andThen_ok, run_loadVar_mid w b 0 170 (cc n m p).toList _ (cc_rng hb) Tryz.underlying170 rfl (inf_ccl n m p), Array.toArray_toList]
theorem start_w {n m k : Nat} (h : Mo.okN n m k = true) (w : World) : Calls Tryz.prog 80 #[.int .i64 (n : Int), .int .i64 (m : Int), .int .i64 (k : Int)] w fun e w' => ∃ p, e = .returned (.tuple #[.agg (cc n m p), .int .i64 0]) ∧ Ext w w' := by
  have cn := fun w' => Mo.new_ok h w'
  clear h
  generalize Mo.st0 n m k = S0 at *
  obtain ⟨zz, hz1, hz2, hz3, hz4⟩ : ∃ zz : Array Value, (∀ w, (zeroValue 170).run Tryz.prog w = .ok (.agg zz) w) ∧ ¬ zz = #[] ∧ ¬ zz.size < 2 ∧ zz.size = 75 := ⟨cc 0 0 none, fun w => by kernel_rfl, by decide +kernel, by decide +kernel, by decide +kernel⟩
  have HZ := hide hz4
  clear hz4
  go_enter Tryz.func80, Tryz.ntmps80
  go_upto_region 1 with fail
  have HR := hide (Blk.new w zz 170)
  have HX := hide (Ext.alloc w (.cells zz 170))
  generalize w.alloc (.cells zz 170) = W0 at *
  clear hz1 hz2 hz3
  go_wp2_with fail
  refine (cn _).mono ?_
  rintro e w1 ⟨B, W, L, rfl, hm, hB, hW, hL, hX⟩
  have HR := hide (HR.out.ext hX)
  have HX := hide (HX.out.trans hX)
  clear hX hm cn hB hW hL
  generalize hn : (n : Int) = zn at *
  generalize hm : (m : Int) = zm at *
  go_wp2_with (with_reducible refine wpList_ccput rfl _ _ rfl w.heap.size _ _ _ rfl rfl zz HR.out HZ.out ?_; intro w' hb' hc' hs'; go_frame)
  refine bodyPost_ret (ccres_of Tryz.results80 _ _ rfl rfl hb') rfl ?_
  exact ⟨some ⟨B, 0, none⟩, by rw [hn, hm]; rfl, HX.out.turn hc' (by simp)⟩
theorem gnew_w {n m k : Nat} (h : Mo.okN n m k = true) (w : World) : Calls Tryz.prog 56 #[.int .i64 (n : Int), .int .i64 (m : Int), .int .i64 (k : Int)] w fun e w' => ∃ p, e = .returned (.tuple #[.pointer p, .int .i64 0]) ∧ Ext w w' := by
  have cn := fun w' => start_w h w'
  clear h
  obtain ⟨zz, hz1, hz2, hz3, hz4⟩ : ∃ zz : Array Value, (∀ w, (zeroValue 170).run Tryz.prog w = .ok (.agg zz) w) ∧ ¬ zz = #[] ∧ ¬ zz.size < 2 ∧ zz.size = 75 := ⟨cc 0 0 none, fun w => by kernel_rfl, by decide +kernel, by decide +kernel, by decide +kernel⟩
  have HZ := hide hz4
  clear hz4
  go_enter Tryz.func56, Tryz.ntmps56
  go_wp2_with fail
  refine (cn _).mono ?_
  rintro e w1 ⟨p, rfl, hX⟩
  have HX := hide hX
  clear hX cn
  go_wp2_with first | (with_reducible refine wpList_ccput rfl _ _ rfl w1.heap.size _ _ _ rfl rfl zz (Blk.new w1 zz 170) HZ.out ?_; intro w' hb' hc' hs'; have hc2 := ((Ext.alloc w1 (.cells zz 170)).chg [w1.heap.size]).trans hc'; clear hc' hs'; have HB := hide hb'; clear hb'; go_frame) | (with_reducible refine wpList_ccget rfl _ rfl w1.heap.size _ _ _ _ rfl HB.out ?_; go_frame)
  go_ret2
  exact ⟨_, rfl, (HX.out.turn hc2 (by simpa using HX.out.size)).trans (Ext.alloc _ _)⟩
def zs (n b : Int) : Array Value := #[Value.int .i64 n, .int .i64 b, .slice none 0 0] ++ Array.replicate 256 (.slice none 0 0) ++ Array.replicate 64 (.int .u64 0)
theorem snew_w {n b : Int} (w : World) (h1 : 1 ≤ n) (h2 : n ≤ 64) (h3 : 1 ≤ b) (h4 : b ≤ 64) :
    Calls Tryz.prog 57 #[.int .i64 n, .int .i64 b] w fun e w' => ∃ p, e = .returned (.tuple #[.pointer p, .int .i64 0]) ∧ Ext w w' := by
  have a1 : ¬ n < 1 := by omega
  have a2 : ¬ 4096 < n := by omega
  have a3 : ¬ b < 1 := by omega
  have a4 : ¬ 64 < b := by omega
  obtain ⟨zz, hz1, hz3, hz4⟩ : ∃ zz : Array Value, (∀ w, (zeroValue 181).run Tryz.prog w = .ok (.agg zz) w) ∧ ¬ zz = #[] ∧ ¬ zz.size < 2 := ⟨zs 0 0, fun w => by kernel_rfl, by decide +kernel, by decide +kernel⟩
  go_enter Tryz.func57, Tryz.ntmps57
  go_wp2_with fail
  go_ret2
  exact ⟨⟨_, rfl⟩, Ext.alloc _ _⟩
theorem unew_w (w : World) : Calls Tryz.prog 61 #[] w fun e w' => ∃ p, e = .returned (.pointer p) ∧ Ext w w' := by
  have hmm := @run_makeMap Tryz.prog
  go_enter Tryz.func61, Tryz.ntmps61
  go_wp2_with fail
  go_ret
  exact ⟨_, by simp; rfl, ((Ext.alloc _ _).trans (Ext.alloc _ _)).trans (Ext.alloc _ _)⟩
theorem tnew_w (w : World) : Calls Tryz.prog 62 #[] w fun e w' => ∃ p, e = .returned (.pointer p) ∧ Ext w w' := by
  have hmm := @run_makeMap Tryz.prog
  go_enter Tryz.func62, Tryz.ntmps62
  go_wp2_with fail
  go_ret
  exact ⟨_, by simp; rfl, (Ext.alloc _ _).trans (Ext.alloc _ _)⟩
theorem vnew_w (w : World) : Calls Tryz.prog 63 #[] w fun e w' => ∃ p, e = .returned (.pointer p) ∧ Ext w w' := by
  have hmm := @run_makeMap Tryz.prog
  go_enter Tryz.func63, Tryz.ntmps63
  go_wp2_with fail
  go_ret
  exact ⟨_, by simp; rfl, (Ext.alloc _ _).trans (Ext.alloc _ _)⟩
theorem rnew_w (n : Int) (w : World) (h1 : 1 ≤ n) (h2 : n ≤ 512) : Calls Tryz.prog 65 #[.int .i64 n] w fun e w' => ∃ p, e = .returned (.tuple #[.pointer p, .int .i64 0]) ∧ Ext w w' := by
  have a1 : ¬ n < 1 := by omega
  have a2 : ¬ 512 < n := by omega
  go_enter Tryz.func65, Tryz.ntmps65
  go_wp2
  go_ret2
  exact ⟨⟨_, rfl⟩, Ext.alloc _ _⟩
end Go.Proofs.YtlgomkocalieeaaGreatDoor

namespace Go.Proofs.YtlgomkocalieeaaGreatDoor
open Go.RowKit
set_option linter.unusedSimpArgs false
set_option linter.unusedVariables false
set_option maxRecDepth 100000
set_option maxHeartbeats 4000000

theorem own_emptyO (w : World) (base : Nat) (hb : base ≤ w.heap.size) : (w.alloc (.cells #[] 53)).ownsRow base 53 3 (.slice (some ⟨w.heap.size, 0, none⟩) 0 0) 0 [] :=
  ⟨by simp, .inr ⟨w.heap.size, 0, #[], rfl, hb, heap_alloc_new w _, Nat.le_refl _, by unfold maxLen; omega, by simp, by simp⟩⟩
theorem run_nilO1 (n c : Nat) (w : World) : Sem.run Tryz.prog (binOp .eql 48 (.slice none n c) (.slice none 0 0)) w = .ok (.bool true) w := by kernel_rfl
theorem run_nilO2 (b : Addr) (n c : Nat) (w : World) : Sem.run Tryz.prog (binOp .eql 48 (.slice (some b) n c) (.slice none 0 0)) w = .ok (.bool false) w := by kernel_rfl
theorem rcells_one (l : List Op3) : ∀ u ∈ rcells l, u.oneCell' = true := by
  intro u hu
  obtain ⟨x, _, hx⟩ := List.mem_flatMap.1 hu
  simp at hx
  rcases hx with rfl | rfl | rfl <;> rfl
theorem rcells_get (l : List Op3) (j : Nat) (h : j < l.length * 3) : ∃ k i, k < l.length ∧ j = k * 3 + i ∧ i < 3 := ⟨j / 3, j % 3, by omega, by omega, by omega⟩
theorem ch_cells {w : World} {b : Addr} {l : List Op3} (h : Ch w (some b) l) : ∀ j u, (rcells l)[j]? = some u → w.cell? (b.add j) = some u := by
  intro j u hu
  have hj : j < l.length * 3 := by have := (List.getElem?_eq_some_iff.1 hu).1; rwa [rcells_length] at this
  obtain ⟨k, i, hk, rfl, hi⟩ := rcells_get l j hj
  rcases h with h | ⟨g, off, ha, hb, hc⟩
  · omega
  · cases ha
    have e : (⟨g, off, none⟩ : Addr).add (k * 3 + i) = ⟨g, off + k * 3 + i, none⟩ := by
      unfold Addr.add
      split
      · simp <;> omega
      · simp only [Addr.mk.injEq, and_true, true_and]; omega
    rw [e, ← hu]
    obtain ⟨c0, c1, c2⟩ := hc k hk
    obtain ⟨r0, r1, r2⟩ := rcells_at l k hk
    have : i = 0 ∨ i = 1 ∨ i = 2 := by omega
    rcases this with rfl | rfl | rfl
    · rw [Nat.add_zero, Nat.add_zero, c0, r0]
    · rw [c1, r1]
    · rw [c2, r2]
theorem clone_w {w : World} {A : Option Addr} {l : List Op3} (c : Nat) (h : Ch w A l) (hl : l.length ≤ 64) :
    Calls Tryz.prog 66 #[.slice A l.length c] w fun e w' => ∃ A' c', e = .returned (.slice A' l.length c') ∧ Ch w' A' l ∧ Ext w w' := by
  rcases A with _ | b
  · have h0 : l.length = 0 := by
      rcases h with h | ⟨_, _, e, _⟩
      · exact h
      · cases e
    rw [h0]
    have RN := run_nilO1
    go_enter Tryz.func66, Tryz.ntmps66
    go_wp2_with fail
    go_ret
    exact ⟨none, 0, rfl, .inl h0, Ext.refl _⟩
  · obtain ⟨i, hi, hz, hsize, hb2⟩ := info_parts inf_op
    have HC := hide (ch_cells (h.ext (Ext.alloc w (.cells #[] 53))))
    have H1 := hide (rcells_one l)
    have HL := hide (rcells_length l)
    clear h
    have RN := run_nilO2
    go_enter Tryz.func66, Tryz.ntmps66
    go_wp2_with (first
      | (at_builtin; refine wpList_append_own _ rfl _ _ 48 rfl w.heap.size 53 i (.agg #[.int .i64 0, .int .i64 0, .int .i64 0]) 3 24 Tryz.underlying48 hi hz hsize hb2 rfl (by omega) _ 0 [] rfl (own_emptyO w w.heap.size (Nat.le_refl _)) b l.length c (rcells l) rfl HL.out HC.out H1.out (by unfold maxLen; omega) (by omega) (by simp) ?_; intro v' w2 hown hg _; go_frame)
      | go_in)
    go_ret
    rw [Nat.zero_add, List.nil_append] at hown
    obtain ⟨A', c', rfl, _, hch⟩ := Ch.of_own hown
    exact ⟨A', c', by simp, hch, Ext.grown (Ext.alloc _ _) hg (by intro k hk; cases hk; exact Nat.le_refl _)⟩
/-- A whole store. -/
theorem wpList_rput {ops : Array Oper} {rest : List Oper} {o : Oper} {a : Act} {w : World} {Q : Exit → Act → World → Prop} (T : TypeId) (hgd : o.guard = none) (x y : Operand) (ho : o.op = .store T x y)
    (b : Nat) (cs : Array Value) (hx : a.eval x = .pointer (some ⟨b, 0, none⟩)) (hy : a.eval y = .agg cs) (old : Array Value) (hb : Blk w b old T) (hi : (Tryz.prog.info? T).map (·.size) = some cs.size) (hs : old.size = cs.size) (h1 : cs.all (·.oneCell') = true)
    (h : ∀ w', Blk w' b cs T → Chg [b] w w' → w'.heap.size = w.heap.size → wpList Tryz.prog ops Q rest (a.put o.dst undef) w') : wpList Tryz.prog ops Q (o :: rest) a w :=
  wpList_store_row hgd T x y ho b cs hx hy T old hb hi hs h1 (h _ (setRow_heap w b old _ _ _ hb) (ChgRow hb) (by simp [World.setRow]))
/-- A new thread's cells. -/
abbrev thc (me : Int) (pr : Value) (p : Option Addr) : Array Value := #[.int .i64 me, pr, .pointer p, .int .i64 0, .int .i64 0, .int .u64 0, .int .u64 0, .int .u64 0, .int .i64 0, .int .u32 0, .int .i64 0, .slice none 0 0, .int .i64 0, .int .i64 0, .int .i64 0, .bool false, .int .i64 0, .int .i64 0, .int .i64 0]
theorem th_inf (me : Int) (pr : Value) (p : Option Addr) : (Tryz.prog.info? 111).map (·.size) = some (thc me pr p).size := by kernel_rfl
theorem th_size (me : Int) (pr : Value) (p : Option Addr) : (thc 0 (.slice none 0 0) none).size = (thc me pr p).size := rfl
theorem th_all (me : Int) (A : Option Addr) (n c : Nat) (p : Option Addr) : (thc me (.slice A n c) p).all (·.oneCell') = true := by simp [Value.oneCell']
theorem th_res (me : Int) (pr : Value) (p : Option Addr) {fn : Func} (h : fn.results = #[.cell 6 111]) (tmps : Array Value) (w : World) {b : Nat} (e0 : tmps.getD 6 undef = .pointer (some ⟨b, 0, none⟩)) (hb : Blk w b (thc me pr p) 111) :
    (results fn tmps).run Tryz.prog w = .ok (.agg (thc me pr p)) w := by
  have e1 : (tmps[6]?).getD undef = .pointer (some ⟨b, 0, none⟩) := by simpa using e0
  have l : (loadVar 111 ⟨b, 0, none⟩).run Tryz.prog w = .ok (.agg (thc me pr p)) w :=
    run_loadVar_mid w b 0 111 (thc me pr p).toList _ (fun j v hv => by rw [Nat.zero_add]; exact (Blk.cell hb j).trans (by rw [← Array.getElem?_toList]; exact hv)) Tryz.underlying111 rfl (th_inf me pr p)
  simp only [results, h]
  simp [Result.andThen, e1, asAddr, l]
theorem newth_w (x : Cf) (me : Int) {w : World} {A : Option Addr} {l : List Op3} (c : Nat) (h : Ch w A l) (hl : l.length ≤ 64) (n1 : 1 ≤ x.n) (n2 : x.n ≤ 60) (o1 : 1 ≤ x.o) (o2 : x.o ≤ 8) :
    Calls Tryz.prog 42 #[.int .i64 me, .slice A l.length c, .agg #[.int .i64 x.t, .int .i64 x.o, .int .i64 x.c, .int .i64 x.s, .int .i64 x.p, .int .i64 x.n, .int .u8 x.b, .int .i64 x.r, .int .i64 x.v, .int .u64 x.d]] w fun e w' => ∃ A' c' p, e = .returned (.agg (thc me (.slice A' l.length c') p)) ∧ Ext w w' := by
  obtain ⟨t, o, cc, s, p, n, b, r, v, d⟩ := x
  simp only at n1 n2 o1 o2
  obtain ⟨q, eq, q1, q2⟩ : ∃ q : Int, IntKind.i64.wrap (n * o) = q ∧ 1 ≤ q ∧ q ≤ 512 := by
    have h1 : n * o ≤ 60 * 8 := Int.mul_le_mul n2 o2 (by omega) (by omega)
    have h2 : 1 * 1 ≤ n * o := Int.mul_le_mul n1 o1 (by omega) (by omega)
    exact ⟨n * o, by rw [IntKind.wrap_i64]; omega, by omega, by omega⟩
  have hX0 : Ext w ((w.alloc (Obj.cells #[.int .i64 t, .int .i64 o, .int .i64 cc, .int .i64 s, .int .i64 p, .int .i64 n, .int .u8 b, .int .i64 r, .int .i64 v, .int .u64 d] 24)).alloc (Obj.cells (thc 0 (.slice none 0 0) none) 111)) := (Ext.alloc _ _).trans (Ext.alloc _ _)
  have hb := Blk.new (w.alloc (Obj.cells #[.int .i64 t, .int .i64 o, .int .i64 cc, .int .i64 s, .int .i64 p, .int .i64 n, .int .u8 b, .int .i64 r, .int .i64 v, .int .u64 d] 24)) (thc 0 (.slice none 0 0) none) 111
  simp only [World.size_alloc] at hb
  go_enter Tryz.func42, Tryz.ntmps42
  go_wp2_with fail
  refine (rnew_w q _ q1 q2).mono ?_
  rintro e w1 ⟨pr, rfl, hx1⟩
  have hb := hb.ext hx1
  have HX1 := hide (hX0.trans hx1)
  clear hX0 hx1
  go_wp2_with fail
  refine (clone_w c (h.ext HX1.out) hl).mono ?_
  rintro e w2 ⟨A', c', rfl, _, hx2⟩
  have hb := hb.ext hx2
  have HX := hide (HX1.out.trans hx2)
  clear hx2 HX1 h
  go_wp2_with (with_reducible refine wpList_rput 111 rfl _ _ rfl (w.heap.size + 1) (thc me (.slice A' l.length c') pr) rfl rfl _ hb (th_inf _ _ _) (th_size _ _ _) (th_all _ _ _ _ _) ?_; intro w3 hb3 hc3 hs3; go_frame)
  refine bodyPost_ret (th_res _ _ _ Tryz.results42 _ _ rfl hb3) rfl ?_
  exact ⟨A', c', pr, rfl, HX.out.turn hc3 (by simp)⟩
end Go.Proofs.YtlgomkocalieeaaGreatDoor

namespace Go.Proofs.YtlgomkocalieeaaGreatDoor
open Go.RowKit
set_option linter.unusedSimpArgs false
set_option linter.unusedVariables false
set_option maxRecDepth 100000
set_option maxHeartbeats 4000000

theorem may_n {x : Cf} (h : mayC x = true) : 1 ≤ x.t ∧ x.t ≤ 8 ∧ 1 ≤ x.o ∧ x.o ≤ 8 ∧ 1 ≤ x.c ∧ x.c ≤ 4 ∧ 1 ≤ x.s ∧ x.s ≤ 16 ∧ 0 ≤ x.p ∧ x.p ≤ 8 ∧ 1 ≤ x.n ∧ x.n ≤ 60 ∧ 1 ≤ x.r ∧ x.r ≤ 100 ∧ x.r ≤ x.v ∧ x.v ≤ 100 := by
  simp only [mayC, win, Bool.and_eq_true, decide_eq_true_eq] at h
  omega
theorem inf_ps : (Tryz.prog.info? 261).map (fun i => (i.zero, i.size, i.bytes)) = some (some (.agg #[.bool false, .bool false, .bool false]), 3, 3) := by kernel_rfl
theorem pnew_w (n : Nat) (w : World) (h1 : 1 ≤ n) (h2 : n ≤ 256) : Calls Tryz.prog 58 #[.int .i64 (n : Int)] w fun e w' => ∃ p, e = .returned (.tuple #[.pointer p, .int .i64 0]) ∧ Ext w w' := by
  obtain ⟨i, hi, hz, hsize, hb⟩ := info_parts inf_ps
  obtain ⟨ar, hr⟩ : ∃ ar, (Instr.makeSlice 182 (.int .i64 n) (.int .i64 n)).run Tryz.prog w = .ok (.slice (some ⟨w.heap.size, 0, none⟩) n n) (w.alloc (.cells ar 261)) := by
    have h := run_make (P := Tryz.prog) w 182 261 i _ Tryz.underlying182 hi hz .i64 .i64 n n (by omega) (by omega) (by rw [hb]; omega) (by omega)
    rw [Int.toNat_natCast] at h
    exact ⟨_, h⟩
  have hx : ¬ (n : Int) < 1 := by omega
  have hy : ¬ (256 : Int) < n := by omega
  go_enter Tryz.func58, Tryz.ntmps58
  go_wp2_with fail
  go_ret2
  exact ⟨⟨_, rfl⟩, (Ext.alloc _ _).trans (Ext.alloc _ _)⟩
/-- A machine's cells. -/
def mq (t o c s p n b r v d : Int) (th cs ha : Value) (me lg sr ta bo pe ck mt as_ : Option Addr) : Array Value :=
  #[.int .i64 t, .int .i64 o, .int .i64 c, .int .i64 s, .int .i64 p, .int .i64 n, .int .u8 b, .int .i64 r, .int .i64 v, .int .u64 d, th, .pointer me, .pointer lg, cs, .pointer sr, ha, .pointer ta, .pointer bo, .pointer pe, .pointer ck, .pointer mt, .pointer as_] ++
    Array.replicate 16 (.slice none 0 0) ++ (List.replicate 16 [Value.slice none 0 0, .int .i64 0]).flatten.toArray ++ #[.int .i64 0, .int .i64 0, .bool false]
section
variable (t o c s p n b r v d : Int) (th cs ha u : Value) (me lg sr ta bo pe ck mt as_ : Option Addr)
theorem mq_eq : (((((((((((((((((((Tryz.zeroCells107.setIfInBounds 0 (.int .i64 t)).setIfInBounds 1 (.int .i64 o)).setIfInBounds 2 (.int .i64 c)).setIfInBounds 3 (.int .i64 s)).setIfInBounds 4 (.int .i64 p)).setIfInBounds 5 (.int .i64 n)).setIfInBounds 6 (.int .u8 b)).setIfInBounds 7 (.int .i64 r)).setIfInBounds 8 (.int .i64 v)).setIfInBounds 9 (.int .u64 d)).setIfInBounds 11 (.pointer me)).setIfInBounds 12 (.pointer lg)).setIfInBounds 14 (.pointer sr)).setIfInBounds 16 (.pointer ta)).setIfInBounds 17 (.pointer bo)).setIfInBounds 18 (.pointer pe)).setIfInBounds 19 (.pointer ck)).setIfInBounds 20 (.pointer mt)).setIfInBounds 21 (.pointer as_)) =
    mq t o c s p n b r v d (.slice none 0 0) (.slice none 0 0) (.int .u32 0) me lg sr ta bo pe ck mt as_ := by kernel_rfl
theorem mq_10 : (mq t o c s p n b r v d th cs ha me lg sr ta bo pe ck mt as_).setIfInBounds 10 u = mq t o c s p n b r v d u cs ha me lg sr ta bo pe ck mt as_ := by kernel_rfl
theorem mq_13 : (mq t o c s p n b r v d th cs ha me lg sr ta bo pe ck mt as_).setIfInBounds 13 u = mq t o c s p n b r v d th u ha me lg sr ta bo pe ck mt as_ := by kernel_rfl
theorem mq_15 : (mq t o c s p n b r v d th cs ha me lg sr ta bo pe ck mt as_).setIfInBounds 15 u = mq t o c s p n b r v d th cs u me lg sr ta bo pe ck mt as_ := by kernel_rfl
variable {t o c s p n b r v d th cs ha me lg sr ta bo pe ck mt as_} {w : World} {M : Nat}
theorem mq_at (h : Blk w M (mq t o c s p n b r v d th cs ha me lg sr ta bo pe ck mt as_) 107) : w.cell? ⟨M, 1, none⟩ = some (.int .i64 o) ∧ w.cell? ⟨M, 2, none⟩ = some (.int .i64 c) ∧ w.cell? ⟨M, 10, none⟩ = some th ∧ w.cell? ⟨M, 11, none⟩ = some (.pointer me) ∧ w.cell? ⟨M, 13, none⟩ = some cs ∧ w.cell? ⟨M, 14, none⟩ = some (.pointer sr) ∧ w.cell? ⟨M, 15, none⟩ = some ha ∧ w.cell? ⟨M, 20, none⟩ = some (.pointer mt) :=
  ⟨(h.cell 1).trans (by kernel_rfl), (h.cell 2).trans (by kernel_rfl), (h.cell 10).trans (by kernel_rfl), (h.cell 11).trans (by kernel_rfl), (h.cell 13).trans (by kernel_rfl), (h.cell 14).trans (by kernel_rfl), (h.cell 15).trans (by kernel_rfl), (h.cell 20).trans (by kernel_rfl)⟩
theorem cfg10 {w' : World} {B : Nat} {ty : TypeId} (h : Blk w' B #[.int .i64 t, .int .i64 o, .int .i64 c, .int .i64 s, .int .i64 p, .int .i64 n, .int .u8 b, .int .i64 r, .int .i64 v, .int .u64 d] ty) :
    w'.cell? ⟨B, 0, none⟩ = some (.int .i64 t) ∧ w'.cell? ⟨B, 1, none⟩ = some (.int .i64 o) ∧ w'.cell? ⟨B, 2, none⟩ = some (.int .i64 c) ∧ w'.cell? ⟨B, 3, none⟩ = some (.int .i64 s) ∧ w'.cell? ⟨B, 4, none⟩ = some (.int .i64 p) ∧ w'.cell? ⟨B, 5, none⟩ = some (.int .i64 n) ∧ w'.cell? ⟨B, 6, none⟩ = some (.int .u8 b) ∧ w'.cell? ⟨B, 7, none⟩ = some (.int .i64 r) ∧ w'.cell? ⟨B, 8, none⟩ = some (.int .i64 v) ∧ w'.cell? ⟨B, 9, none⟩ = some (.int .u64 d) :=
  ⟨h.cell 0, h.cell 1, h.cell 2, h.cell 3, h.cell 4, h.cell 5, h.cell 6, h.cell 7, h.cell 8, h.cell 9⟩
end
theorem Kp.mono {ts us : List TypeId} {B : Nat} {w w' : World} (h : Kp ts B w w') (hs : ∀ t, t ∈ ts → t ∈ us) : Kp us B w w' :=
  ⟨h.os, h.tape, h.output, h.size, fun k hk hq => h.block k hk (hq.elim .inl fun q => .inr fun cs t hh hm => q cs t hh (hs t hm))⟩
theorem Kp.of_grow {ts : List TypeId} {B n size : Nat} {w w' : World} {e : TypeId} {v : Value} {xs : List Value} (h : w.grownBy w' v.ownBlock) (ho : w.ownsRow B e size v n xs) (ht : e ∈ ts) : Kp ts B w w' :=
  ⟨h.os, h.tape, h.output, h.size, fun k hk hq => h.block k hk (fun q => by
    obtain ⟨cs, hb⟩ := own_blk ho k q.symm
    rcases hq with hq | hq
    · have := own_row ho k q.symm
      omega
    · exact hq cs e hb ht)⟩
theorem news_new (w : World) (cs : Array Value) (e : TypeId) : ∀ j u, cs.toList[j]? = some u → (w.alloc (.cells cs e)).cell? ((⟨w.heap.size, 0, none⟩ : Addr).add j) = some u := by
  intro j u hu
  have : (w.alloc (.cells cs e)).cell? ⟨w.heap.size, j, none⟩ = cs[j]? := cell_of_row _ _ j cs e (0, 0) (heap_alloc_new w _)
  rw [Array.getElem?_toList] at hu
  rw [← hu, ← this]
  unfold Addr.add
  by_cases hj : j = 0
  · rw [if_pos hj, hj]
  · rw [if_neg hj, Nat.zero_add]
theorem inf_cls : (Tryz.prog.info? 145).map (fun i => (i.zero, i.size, i.bytes)) = some (some (.agg #[.bool false, .int .u8 0, .int .i64 0]), 3, 16) := by kernel_rfl
def clsC (bs : List Bool) : List Value := bs.flatMap fun b => [.bool b, .int .u8 0, .int .i64 0]
theorem clsC_app (bs : List Bool) (x : Bool) : clsC (bs ++ [x]) = clsC bs ++ [.bool x, .int .u8 0, .int .i64 0] := by simp [clsC]
theorem memT_kp {ts : List TypeId} {B : Nat} {w w' : World} {M V : Nat} {acc : Int} {ws : List Int} (h : Ce.MemT w M V acc ws) (k : Kp ts B w w') (h1 : 164 ∉ ts) (h2 : 22 ∉ ts) : Ce.MemT w' M V acc ws :=
  ⟨k.blk h.m h1, k.blk h.v h2, h.ne, h.acc0, h.acc1, h.len⟩
theorem mt_kp {ts : List TypeId} {B : Nat} {w w' : World} {M V N : Nat} {g : Sf.Ti} {a r : Nat} (h : Sf.MT 152 w M V N g a r) (k : Kp ts B w w') (h1 : 152 ∉ ts) (h2 : 3 ∉ ts) : Sf.MT 152 w' M V N g a r :=
  ⟨k.blk h.m h1, k.blk h.v h2, h.ne, h.n1, h.n2, h.ok⟩
/-- What a machine's cells hold besides. -/
structure MKs where
  Mm : Nat
  Mv : Nat
  Sm : Nat
  Sv : Nat
  cv : Value
  ha : Int
  p2 : Option Addr
  p3 : Option Addr
  p4 : Option Addr
  p7 : Option Addr
  p8 : Option Addr
  p9 : Option Addr
  sr : Option Addr
/-- A machine under way, all of it new from B on. -/
structure MK (B : Nat) (w : World) (x : Cf) (M : Nat) (tv : Value) (D : MKs) : Prop where
  m : Blk w M (mq x.t x.o x.c x.s x.p x.n x.b x.r x.v x.d tv D.cv (.int .u32 D.ha) (some ⟨D.Mm, 0, none⟩) D.p2 D.sr D.p3 D.p7 D.p4 D.p8 (some ⟨D.Sm, 0, none⟩) D.p9) 107
  lo : B ≤ M
  mem : ∃ acc ws, ws.length = 128 ∧ Ce.MemT w D.Mm D.Mv acc ws
  l1 : B ≤ D.Mm ∧ B ≤ D.Mv
  meet : ∃ g, Sf.MT 152 w D.Sm D.Sv x.t.toNat g 0 0
  l2 : B ≤ D.Sm ∧ B ≤ D.Sv
  cls : ∃ bs, bs.length = x.c.toNat ∧ w.ownsRow B 145 3 D.cv x.c.toNat (clsC bs)
end Go.Proofs.YtlgomkocalieeaaGreatDoor
