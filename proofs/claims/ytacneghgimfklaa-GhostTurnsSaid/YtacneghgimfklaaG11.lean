/- A log in memory: what it tells. -/
import Derived.Test.YtacneghgimfklaaG10
import Derived.Test.YtacneghgimfklaaE2
namespace Go.Proofs.Ytacneghgimfklaa
open Go.RowKit Go.Maps
set_option linter.unusedSimpArgs false
set_option linter.unusedVariables false
set_option maxRecDepth 100000
set_option maxHeartbeats 4000000



theorem glen_no {w : World} {p : Value} (h : NobL w p) : Calls Try.prog 15 #[p] w fun e w' => e = .returned (.int .i64 0) ∧ w = w' := by
  have cg := ggiven_no h
  clear h
  go_enter Try.func15, Try.ntmps15
  go_wp2_with fail
  refine cg.mono ?_
  rintro e w1 ⟨rfl, rfl⟩
  go_wp2_with fail
  go_ret
  exact ⟨by simp, rfl⟩
theorem glen_any {w : World} {B C MB W L : Nat} {v : Value} {S : St} {D : Nat → Dg} {l : List Ent} (h : GT w B C MB W L v S D l) : Calls Try.prog 15 #[.pointer (some ⟨C, 0, none⟩)] w fun e w' => e = .returned (.int .i64 (l.length : Int)) ∧ w = w' := by
  have cg := ggiven_ok h.c
  have sv := h.sl
  obtain ⟨A, c, rfl⟩ := own_sl h.o
  clear h
  go_enter Try.func15, Try.ntmps15
  go_wp2_with fail
  refine cg.mono ?_
  rintro e w1 ⟨rfl, rfl⟩
  go_wp2_with fail
  go_ret
  exact ⟨by simp, rfl⟩
theorem gall_no {w : World} {p : Value} (h : NobL w p) : Calls Try.prog 13 #[p] w fun e w' => e = .returned (.slice none 0 0) ∧ w = w' := by
  have cg := ggiven_no h
  clear h
  go_enter Try.func13, Try.ntmps13
  go_wp2_with fail
  refine cg.mono ?_
  rintro e w1 ⟨rfl, rfl⟩
  go_wp2_with fail
  go_ret
  exact ⟨by simp, rfl⟩
theorem cloe_any {w : World} {B : Nat} {v : Value} {l : List Ent} (h : w.ownsRow B 36 13 v l.length (ecl l)) (hl : l.length ≤ 1000) : Calls Try.prog 28 #[v] w fun e w' => ∃ v', e = .returned v' ∧ w'.ownsRow w.heap.size 36 13 v' l.length (ecl l) ∧ Ext w w' := by
  rcases h.2 with ⟨rfl, h0⟩ | ⟨g, cap, cur, rfl, hbg, hh, hnc, hcm, hcs, htake⟩
  · have e0 : ecl l = [] := List.eq_nil_of_length_eq_zero (by rw [ecl_len]; omega)
    have hq : ∀ w' : World, Sem.run Try.prog (binOp .eql 25 (.slice none 0 0) (.slice none 0 0)) w' = .ok (.bool true) w' := fun w' => by kernel_rfl
    go_enter Try.func28, Try.ntmps28
    go_wp2
    go_ret
    rw [h0, e0]
    exact ⟨.slice none 0 0, by simp, own_nil _ _ _ _, Ext.refl _⟩
  · have hq : ∀ w' : World, Sem.run Try.prog (binOp .eql 25 (.slice (some ⟨g, 0, none⟩) l.length cap) (.slice none 0 0)) w' = .ok (.bool false) w' := fun w' => by kernel_rfl
    obtain ⟨ti, hi, hz, hsize, hby⟩ := info_parts inf_ge
    have HE := hide (show (w.alloc (.cells #[] 36)).ownsRow w.heap.size 36 13 (.slice (some ⟨w.heap.size, 0, none⟩) 0 0) 0 [] from ⟨rfl, .inr ⟨w.heap.size, 0, #[], rfl, Nat.le_refl _, heap_alloc_new w _, by omega, by unfold maxLen; omega, rfl, rfl⟩⟩)
    have HC := hide (own_ext h (Ext.alloc w (.cells #[] 36)) |>.cells rfl)
    have H1 := hide (show ∀ u ∈ ecl l, u.oneCell' = true by
      intro u hu
      unfold ecl at hu
      rw [List.mem_flatMap] at hu
      obtain ⟨x, _, hx⟩ := hu
      simp [ec] at hx
      rcases hx with h | h | h | h | h | h | h | h | h | h | h | h | h <;> rw [h] <;> rfl)
    have HL := hide h.1
    have HX := hide (Ext.alloc w (.cells #[] 36))
    have lz : w.heap.size ≤ (w.alloc (.cells #[] 36)).heap.size := by simp
    clear h hh htake hcs
    go_enter Try.func28, Try.ntmps28
    go_wp2_with (refine wpList_append_own (w.alloc (.cells #[] 36)) rfl _ _ 25 rfl w.heap.size 36 ti _ 13 104 Try.underlying25 hi hz hsize hby rfl (by omega) (.slice (some ⟨w.heap.size, 0, none⟩) 0 0) 0 [] rfl HE.out ⟨g, 0, none⟩ l.length cap (ecl l) rfl HL.out HC.out H1.out (by unfold maxLen; omega) (by omega) lz ?_; intro v' w' ho' hg' _; have HO := hide ho'; have HG := hide hg'; clear ho' hg'; go_frame)
    go_ret
    have ho := HO.out
    rw [Nat.zero_add, List.nil_append] at ho
    exact ⟨v', by simp, ho, Ext.grown HX.out HG.out (fun k hk => by simp [Value.ownBlock] at hk; omega)⟩
theorem gall_any {w : World} {B C MB W L : Nat} {v : Value} {S : St} {D : Nat → Dg} {l : List Ent} (h : GT w B C MB W L v S D l) (hl : l.length ≤ 1000) : Calls Try.prog 13 #[.pointer (some ⟨C, 0, none⟩)] w fun e w' => ∃ v', e = .returned v' ∧ w'.ownsRow w.heap.size 36 13 v' l.length (ecl l) ∧ Ext w w' := by
  have cg := ggiven_ok h.c
  have sv := h.sl
  have cc := cloe_any h.o hl
  obtain ⟨A, c, rfl⟩ := own_sl h.o
  clear h
  go_enter Try.func13, Try.ntmps13
  go_wp2_with fail
  refine cg.mono ?_
  rintro e w1 ⟨rfl, rfl⟩
  go_wp2_with fail
  refine cc.mono ?_
  rintro e w2 ⟨v', rfl, ho, hx⟩
  obtain ⟨A', c', rfl⟩ := own_sl ho
  have HO := hide ho
  clear ho
  go_wp2_with fail
  go_ret
  exact ⟨_, rfl, HO.out, hx⟩
theorem gmodel_no {w : World} {p : Value} (h : NobL w p) : Calls Try.prog 16 #[p] w fun e w' => e = .returned (.pointer none) ∧ w = w' := by
  have cg := ggiven_no h
  clear h
  go_enter Try.func16, Try.ntmps16
  go_wp2_with fail
  refine cg.mono ?_
  rintro e w1 ⟨rfl, rfl⟩
  go_wp2_with fail
  go_ret
  exact ⟨by simp, rfl⟩
theorem gmodel_any {w : World} {C MB W L : Nat} {v : Value} {S : St} {D : Nat → Dg} (h : LT w C v MB W L S D) : Calls Try.prog 16 #[.pointer (some ⟨C, 0, none⟩)] w fun e w' => ∃ B' W' L', e = .returned (.pointer (some ⟨B', 0, none⟩)) ∧ ModT w' B' W' L' S ∧ w.heap.size ≤ B' ∧ w.heap.size ≤ W' ∧ w.heap.size ≤ L' ∧ Ext w w' := by
  have cg := ggiven_ok h
  have sv := h.p
  have cc := clone_any h.m
  clear h
  go_enter Try.func16, Try.ntmps16
  go_wp2_with fail
  refine cg.mono ?_
  rintro e w1 ⟨rfl, rfl⟩
  go_wp2_with fail
  refine cc.mono ?_
  rintro e w2 ⟨B', W', L', rfl, hm, h1, h2, h3, hx⟩
  have HM := hide hm
  clear hm
  go_wp2_with fail
  go_ret
  exact ⟨B', W', L', by simp, HM.out, h1, h2, h3, hx⟩
theorem ores_of {fn : Func} (h : fn.results = #[.cell 4 27, .tmp 5]) (tmps : Array Value) (w : World) {b : Nat} {x y z : Int} {t : TypeId} {u : Value} (e4 : tmps.getD 4 undef = .pointer (some ⟨b, 0, none⟩)) (e5 : tmps.getD 5 undef = u) (hb : Blk w b #[.int .i64 x, .int .i64 y, .int .i64 z] t) :
    (results fn tmps).run Try.prog w = .ok (.tuple #[.agg #[.int .i64 x, .int .i64 y, .int .i64 z], u]) w := by
  rw [results_cell_tmp h, e4, e5]
  simp only [asAddr, Sem.run_pure, Result.andThen_ok, run_loadVar_mid w b 0 27 [.int .i64 x, .int .i64 y, .int .i64 z] _ (fun j v hv => by rw [Nat.zero_add, hb.cell, ← hv]; simp) Try.underlying27 rfl (by kernel_rfl)]
theorem open_no {w : World} {p : Value} (h : NobL w p) (a : Int) : Calls Try.prog 14 #[p, .int .i64 a] w fun e w' => e = .returned (.tuple #[.agg #[.int .i64 0, .int .i64 0, .int .i64 0], .bool false]) ∧ Ext w w' := by
  have cg := ggiven_no (h.ext (Ext.alloc w (.cells #[.int .i64 0, .int .i64 0, .int .i64 0] 27)))
  clear h
  go_enter Try.func14, Try.ntmps14
  go_wp2_with fail
  refine cg.mono ?_
  rintro e w1 ⟨rfl, rfl⟩
  go_wp2_with fail
  refine bodyPost_ret (ores_of Try.results14 _ _ rfl rfl (Blk.new _ _ _)) rfl ?_
  exact ⟨rfl, Ext.alloc _ _⟩
end Go.Proofs.Ytacneghgimfklaa
