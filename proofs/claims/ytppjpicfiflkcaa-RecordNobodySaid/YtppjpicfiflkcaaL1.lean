/-
  A law of layer 9 holds of every input: RecordNobody. No condition.
-/
import Derived.Test.YtppjpicfiflkcaaS1
namespace Go.Proofs.Ytppjpicfiflkcaa
open Go.ChangeShapes Go.WideShapes Go.ChangeAt Go.RowKit Go.Deep Go.Joins
set_option linter.unusedVariables false
set_option maxRecDepth 100000
set_option linter.unusedSimpArgs false

section
variable {w : World} {p : Value} (n s : Int) (h : Lst w p 0 [])
include h
theorem push_nob : Calls Try.prog 15 #[p, .int .i64 n, .int .u64 s] w fun e w' => e = .returned (.tuple #[.int .i64 0, .int .i64 2]) ∧ Ext w w' := push_out s h (by unfold pushE; simp)
theorem pop_nob : Calls Try.prog 11 #[p, .int .i64 n] w fun e w' => e = .returned (.tuple #[.agg #[.int .i64 0, .int .u64 0], .int .i64 2]) ∧ Ext w w' := pop_out h (by simp) (by omega)
theorem get_nob : Calls Try.prog 19 #[p, .int .i64 n] w fun e w' => e = .returned (.tuple #[.agg #[.int .i64 0, .int .u64 0], .int .i64 2]) ∧ Ext w w' := get_out h (by omega)
theorem top_nob : Calls Try.prog 20 #[p, .int .i64 n] w fun e w' => e = .returned (.tuple #[.int .i64 (-1), .bool false]) ∧ Ext w w' := top_any n h (by simp)
theorem first_nob : Calls Try.prog 21 #[p, .int .i64 n] w fun e w' => e = .returned (.tuple #[.int .i64 (-1), .bool false]) ∧ Ext w w' := first_any n h (by simp)
theorem count_nob : Calls Try.prog 22 #[p, .int .i64 n] w fun e w' => e = .returned (.int .i64 0) ∧ Ext w w' := count_any n h (by simp)
theorem save_nob : Calls Try.prog 13 #[p, .int .i64 n, .int .u64 s] w fun e w' => e = .returned (.int .i64 2) ∧ w = w' := save_out s h (by omega)
theorem len_nob : Calls Try.prog 18 #[p] w fun e w' => e = .returned (.int .i64 0) ∧ w = w' := len_any h
theorem objects_nob : Calls Try.prog 23 #[p] w fun e w' => (∃ A c, e = .returned (.slice A 0 c)) ∧ Ext w w' := by
  refine (objects_any h (by simp)).mono ?_
  rintro e w1 ⟨v, rfl, hown, hx⟩
  rw [objL_nil] at hown
  obtain ⟨A, c, rfl⟩ := own_sl hown
  exact ⟨⟨A, c, rfl⟩, hx⟩
end
set_option maxRecDepth 100000 in
theorem lnobody_any (k0 n s : Int) (w : World) : Calls Try.prog 5 #[.agg #[.int .u8 k0, .int .i64 n, .int .u64 s]] w fun e w' => e = .returned (.bool true) ∧ Ext w w' := by
  go_enter Try.func5, Try.ntmps5
  go_wp2_with fail
  go_loopw [19] (fun i wr => ∃ k : Nat, k ≤ 2 ∧ i = .int .i64 k ∧ Ext w wr ∧ Blk wr w.heap.size #[.int .u8 k0, .int .i64 n, .int .u64 s] 36 ∧ Blk wr (w.heap.size + 1) #[.int .i64 0, .slice none 0 0] 58 ∧
    Blk wr (w.heap.size + 1 + 1) #[.pointer none, .pointer (some ⟨w.heap.size + 1, 0, none⟩)] 23) (fun i _ => 2 - (intOf i).toNat)
  case atStart =>
    have h1 := Blk.new (w.alloc (Obj.cells #[.int .u8 k0, .int .i64 n, .int .u64 s] 36)) #[.int .i64 0, .slice none 0 0] 58
    have h2 := Blk.new ((w.alloc (Obj.cells #[.int .u8 k0, .int .i64 n, .int .u64 s] 36)).alloc (Obj.cells #[.int .i64 0, .slice none 0 0] 58)) #[.pointer none, .pointer (some ⟨w.heap.size + 1, 0, none⟩)] 23
    simp only [World.size_alloc] at h1 h2
    exact ⟨0, by omega, rfl, ((Ext.alloc _ _).trans (Ext.alloc _ _)).trans (Ext.alloc _ _), ((Blk.new w _ _).ext (Ext.alloc _ _)).ext (Ext.alloc _ _), h1.ext (Ext.alloc _ _), h2⟩
  case round =>
    obtain ⟨k, hk, rfl, hX, hb0, hb1, hb2⟩ := hrel
    have r2 := hb2.cell
    have r0 := hb0.cell
    rcases (by omega : k = 0 ∨ k = 1 ∨ k = 2) with rfl | rfl | rfl
    · have hN : Lst wr (.pointer none) 0 [] := .inl ⟨rfl, rfl, rfl⟩
      go_wp2_with fail
      refine (push_nob _ _ hN).mono ?_
      rintro e w1 ⟨rfl, hx⟩
      (have hN := hN.ext hx; have hX := hX.trans hx; have hb0 := hb0.ext hx; have hb1 := hb1.ext hx; have hb2 := hb2.ext hx; have r0 := hb0.cell; clear hx)
      go_wp2_with fail
      refine (pop_nob _ hN).mono ?_
      rintro e w2 ⟨rfl, hx⟩
      (have hN := hN.ext hx; have hX := hX.trans hx; have hb0 := hb0.ext hx; have hb1 := hb1.ext hx; have hb2 := hb2.ext hx; have r0 := hb0.cell; clear hx)
      have z2 := Blk.new w2 #[.int .i64 0, .int .u64 0] 38
      (have hx := Ext.alloc w2 (.cells #[.int .i64 0, .int .u64 0] 38); have hN := hN.ext hx; have hX := hX.trans hx; have hb0 := hb0.ext hx; have hb1 := hb1.ext hx; have hb2 := hb2.ext hx; have r0 := hb0.cell)
      clear hx
      go_wp2_with fail
      generalize w2.alloc (.cells #[.int .i64 0, .int .u64 0] 38) = w3 at *
      refine (get_nob _ hN).mono ?_
      rintro e w4 ⟨rfl, hx⟩
      have z2 := z2.ext hx
      (have hN := hN.ext hx; have hX := hX.trans hx; have hb0 := hb0.ext hx; have hb1 := hb1.ext hx; have hb2 := hb2.ext hx; have r0 := hb0.cell; clear hx)
      have z4 := Blk.new w4 #[.int .i64 0, .int .u64 0] 38
      (have hx := Ext.alloc w4 (.cells #[.int .i64 0, .int .u64 0] 38); have hN := hN.ext hx; have hX := hX.trans hx; have hb0 := hb0.ext hx; have hb1 := hb1.ext hx; have hb2 := hb2.ext hx; have r0 := hb0.cell)
      have z2 := z2.ext hx
      clear hx
      go_wp2_with fail
      generalize w4.alloc (.cells #[.int .i64 0, .int .u64 0] 38) = w5 at *
      refine (top_nob _ hN).mono ?_
      rintro e w6 ⟨rfl, hx⟩
      have z2 := z2.ext hx
      have z4 := z4.ext hx
      (have hN := hN.ext hx; have hX := hX.trans hx; have hb0 := hb0.ext hx; have hb1 := hb1.ext hx; have hb2 := hb2.ext hx; have r0 := hb0.cell; clear hx)
      go_wp2_with fail
      refine (first_nob _ hN).mono ?_
      rintro e w7 ⟨rfl, hx⟩
      have z2 := z2.ext hx
      have z4 := z4.ext hx
      (have hN := hN.ext hx; have hX := hX.trans hx; have hb0 := hb0.ext hx; have hb1 := hb1.ext hx; have hb2 := hb2.ext hx; have r0 := hb0.cell; clear hx)
      have y2 := z2.cell
      have y4 := z4.cell
      go_wp2_with fail
      refine (count_nob _ hN).mono ?_
      rintro e w8 ⟨rfl, hx⟩
      (have hN := hN.ext hx; have hX := hX.trans hx; have hb0 := hb0.ext hx; have hb1 := hb1.ext hx; have hb2 := hb2.ext hx; have r0 := hb0.cell; clear hx)
      go_wp2_with fail
      refine (len_nob hN).mono ?_
      rintro e w9 ⟨rfl, rfl⟩
      go_wp2_with fail
      refine (objects_nob hN).mono ?_
      rintro e w10 ⟨⟨A, c, rfl⟩, hx⟩
      (have hN := hN.ext hx; have hX := hX.trans hx; have hb0 := hb0.ext hx; have hb1 := hb1.ext hx; have hb2 := hb2.ext hx; have r0 := hb0.cell; clear hx)
      go_wp2_with fail
      refine (save_nob _ _ hN).mono ?_
      rintro e w11 ⟨rfl, rfl⟩
      go_wp2_with fail
      go_roundw
      case rel => exact ⟨1, by omega, rfl, hX, hb0, hb1, hb2⟩
      case measure => simp [intOf]
    · have hN : Lst wr (.pointer (some ⟨w.heap.size + 1, 0, none⟩)) 0 [] := .inr ⟨w.heap.size + 1, w.heap.size + 1, rfl, _, hb1, .inl ⟨rfl, rfl, rfl⟩⟩
      go_wp2_with fail
      refine (push_nob _ _ hN).mono ?_
      rintro e w1 ⟨rfl, hx⟩
      (have hN := hN.ext hx; have hX := hX.trans hx; have hb0 := hb0.ext hx; have hb1 := hb1.ext hx; have hb2 := hb2.ext hx; have r0 := hb0.cell; clear hx)
      go_wp2_with fail
      refine (pop_nob _ hN).mono ?_
      rintro e w2 ⟨rfl, hx⟩
      (have hN := hN.ext hx; have hX := hX.trans hx; have hb0 := hb0.ext hx; have hb1 := hb1.ext hx; have hb2 := hb2.ext hx; have r0 := hb0.cell; clear hx)
      have z2 := Blk.new w2 #[.int .i64 0, .int .u64 0] 38
      (have hx := Ext.alloc w2 (.cells #[.int .i64 0, .int .u64 0] 38); have hN := hN.ext hx; have hX := hX.trans hx; have hb0 := hb0.ext hx; have hb1 := hb1.ext hx; have hb2 := hb2.ext hx; have r0 := hb0.cell)
      clear hx
      go_wp2_with fail
      generalize w2.alloc (.cells #[.int .i64 0, .int .u64 0] 38) = w3 at *
      refine (get_nob _ hN).mono ?_
      rintro e w4 ⟨rfl, hx⟩
      have z2 := z2.ext hx
      (have hN := hN.ext hx; have hX := hX.trans hx; have hb0 := hb0.ext hx; have hb1 := hb1.ext hx; have hb2 := hb2.ext hx; have r0 := hb0.cell; clear hx)
      have z4 := Blk.new w4 #[.int .i64 0, .int .u64 0] 38
      (have hx := Ext.alloc w4 (.cells #[.int .i64 0, .int .u64 0] 38); have hN := hN.ext hx; have hX := hX.trans hx; have hb0 := hb0.ext hx; have hb1 := hb1.ext hx; have hb2 := hb2.ext hx; have r0 := hb0.cell)
      have z2 := z2.ext hx
      clear hx
      go_wp2_with fail
      generalize w4.alloc (.cells #[.int .i64 0, .int .u64 0] 38) = w5 at *
      refine (top_nob _ hN).mono ?_
      rintro e w6 ⟨rfl, hx⟩
      have z2 := z2.ext hx
      have z4 := z4.ext hx
      (have hN := hN.ext hx; have hX := hX.trans hx; have hb0 := hb0.ext hx; have hb1 := hb1.ext hx; have hb2 := hb2.ext hx; have r0 := hb0.cell; clear hx)
      go_wp2_with fail
      refine (first_nob _ hN).mono ?_
      rintro e w7 ⟨rfl, hx⟩
      have z2 := z2.ext hx
      have z4 := z4.ext hx
      (have hN := hN.ext hx; have hX := hX.trans hx; have hb0 := hb0.ext hx; have hb1 := hb1.ext hx; have hb2 := hb2.ext hx; have r0 := hb0.cell; clear hx)
      have y2 := z2.cell
      have y4 := z4.cell
      go_wp2_with fail
      refine (count_nob _ hN).mono ?_
      rintro e w8 ⟨rfl, hx⟩
      (have hN := hN.ext hx; have hX := hX.trans hx; have hb0 := hb0.ext hx; have hb1 := hb1.ext hx; have hb2 := hb2.ext hx; have r0 := hb0.cell; clear hx)
      go_wp2_with fail
      refine (len_nob hN).mono ?_
      rintro e w9 ⟨rfl, rfl⟩
      go_wp2_with fail
      refine (objects_nob hN).mono ?_
      rintro e w10 ⟨⟨A, c, rfl⟩, hx⟩
      (have hN := hN.ext hx; have hX := hX.trans hx; have hb0 := hb0.ext hx; have hb1 := hb1.ext hx; have hb2 := hb2.ext hx; have r0 := hb0.cell; clear hx)
      go_wp2_with fail
      refine (save_nob _ _ hN).mono ?_
      rintro e w11 ⟨rfl, rfl⟩
      go_wp2_with fail
      go_roundw
      case rel => exact ⟨2, by omega, rfl, hX, hb0, hb1, hb2⟩
      case measure => simp [intOf]
    · go_wp2_with fail
      refine (alive_any _).mono ?_
      rintro e w1 ⟨rfl, hx⟩
      go_wp2_with fail
      go_ret
      exact ⟨rfl, hX.trans hx⟩

theorem open_step {H : Type} {enc : TypeId × Value → H} {W : World} {base : Nat} {v : Value} {d : DataW H} {p : List MemPlace} (hv : Value.okWide Try.prog W .any base 36 v)
    (h : DataW.Trod enc Try.prog W 0 (fun _ => true) true 36 v d p) : ∃ s : Stp, v = .agg (sc s) := by
  obtain ⟨cs, rfl, hsz⟩ := okWide_struct Try.underlying36 hv
  obtain ⟨fuel, hf⟩ := h
  have hc : Try.prog.cellsOf 36 = 3 := by kernel_rfl
  have hcc : (Value.agg cs).cells = cs := rfl
  rw [hcc] at hf
  obtain ⟨s, e, _⟩ := open_cells (by simpa using hsz.trans hc) hf
  exact ⟨s, by rw [show cs = sc s from Array.toList_inj.1 e]⟩
set_option maxRecDepth 100000 in
theorem recordNobody_walk {H : Type} {enc : TypeId × Value → H} (W : World) (base : Nat) (args : Array Value) (ds : List (DataW H)) (p : List MemPlace)
    (hval0 : ∀ (j : Nat) t v, Try.f5.params[j]? = some t → args[j]? = some v → Value.okWide Try.prog W .any base t v)
    (hA0 : DataW.TrodAll enc Try.prog W 0 (fun _ => true) true Try.f5.params.toList args.toList ds p) (_hlt : ∀ x ∈ p, x.block < W.heap.size) :
    Calls Try.prog 5 args W fun e W' => e = .returned (.bool true) ∧ Ext W W' := by
  have hval := hval0
  have hA := hA0
  rw [Try.params5] at hA hval
  clear hval0 hA0
  obtain ⟨v0, d0, rfl, rfl, h0⟩ := trodAll_one hA
  obtain ⟨x, rfl⟩ := open_step (hval 0 36 v0 rfl rfl) h0
  exact lnobody_any x.k x.n x.s W
set_option maxRecDepth 100000 in
theorem recordNobody_lifted (os : Os) (started : os.Started) (H : Type) (enc : TypeId × Value → H) :
    ReturnsInHanded {} Try.checked os 5 .any (Rows.recordNobodySpec.pre6 enc Try.prog Try.f5 Rows.recordNobodyRow.domain false) (Rows.recordNobodySpec.post enc Try.prog Try.f5 false true false false) :=
  law_lifted (fn := Try.f5) 4 os started (by kernel_rfl) Try.func5 rfl rfl Try.underlying4 (hread_of (by kernel_rfl))
    (fun l hl => by
      have hl2 : l.length = 1 := hl
      clear hl
      match l, hl2 with
      | [_], _ => rfl)
    (ChangeSpec.witness6 (enc := enc) (C := Try.checked) false ⟨#[], #[.agg #[.int .u8 0, .int .i64 0, .int .u64 0]], []⟩ 8 (by kernel_rfl) (by kernel_rfl) (by kernel_rfl) (by kernel_rfl))
    (fun W base args ds p hval hA hlt => recordNobody_walk W base args ds p hval hA hlt)
theorem recordNobody_holds : Rows.RecordNobodySaid :=
  OpenClaim.holds_of_wide 5 Try.f5 rfl rfl rfl rfl rfl rfl rfl ⟨rfl, rfl, rfl, rfl, rfl⟩ rfl rfl rfl rfl rfl (by kernel_rfl) Try.func5 (by kernel_rfl)
    (of_decide_eq_true (by kernel_rfl)) (by unfold Func.isWrapper; rw [if_neg (of_decide_eq_false (by kernel_rfl))]; exact ⟨rfl, rfl⟩)
    (fun os started H enc _ => recordNobody_lifted os started H enc)
end Go.Proofs.Ytppjpicfiflkcaa
