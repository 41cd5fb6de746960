/-
  A law of layer 18 holds of every input: VmqNobody. No condition.
-/
import Derived.Test.YtonaibpenijomaaS1
import Derived.Test.YtonaibpenijomaaR3
namespace Go.Proofs.Ytonaibpenijomaa
open Go.ChangeShapes Go.WideShapes Go.ChangeAt Go.RowKit Go.Deep Go.Joins
set_option linter.unusedVariables false
set_option linter.unusedSimpArgs false


set_option maxRecDepth 100000 in
theorem lnobody_any (s : Stp) (hr : wfR (s.a, s.o)) (w : World) : Calls Try.prog 5 #[.agg #[.int .u8 s.k, .int .i64 s.a, .int .i64 s.o, .int .i64 s.t]] w fun e w' => e = .returned (.bool true) ∧ Ext w w' := by
  have hq := fun w => neq_spot 0 0 0 0 w
  rw [eqQ_same, Bool.not_true] at hq
  have hww : waitsB [] s.t = false := by simp [waitsB]
  go_enter Try.func5, Try.ntmps5
  go_wp2_with fail
  go_loopw [14] (fun i wr => ∃ k : Nat, k ≤ 2 ∧ i = .int .i64 k ∧ Ext w wr ∧ Blk wr w.heap.size #[.int .u8 s.k, .int .i64 s.a, .int .i64 s.o, .int .i64 s.t] 32 ∧ Blk wr (w.heap.size + 1) #[.slice none 0 0, .map none] 57 ∧
    Blk wr (w.heap.size + 1 + 1) #[.pointer none, .pointer (some ⟨w.heap.size + 1, 0, none⟩)] 23) (fun i _ => 2 - (intOf i).toNat)
  case atStart =>
    have h1 := Blk.new (w.alloc (Obj.cells #[.int .u8 s.k, .int .i64 s.a, .int .i64 s.o, .int .i64 s.t] 32)) #[.slice none 0 0, .map none] 57
    have h2 := Blk.new ((w.alloc (Obj.cells #[.int .u8 s.k, .int .i64 s.a, .int .i64 s.o, .int .i64 s.t] 32)).alloc (Obj.cells #[.slice none 0 0, .map none] 57)) #[.pointer none, .pointer (some ⟨w.heap.size + 1, 0, none⟩)] 23
    simp only [World.size_alloc] at h1 h2
    exact ⟨0, by omega, rfl, ((Ext.alloc _ _).trans (Ext.alloc _ _)).trans (Ext.alloc _ _), ((Blk.new w _ _).ext (Ext.alloc _ _)).ext (Ext.alloc _ _), h1.ext (Ext.alloc _ _), h2⟩
  case round =>
    obtain ⟨k, hk, rfl, hX, hb0, hb1, hb2⟩ := hrel
    have r2 := hb2.cell
    have r0 := hb0.cell
    rcases (by omega : k = 0 ∨ k = 1 ∨ k = 2) with rfl | rfl | rfl
    · have hN : Nob wr (.pointer none) := .inl rfl
      have hA := hN.any
      go_wp2_with fail
      refine (ask_nob (t := s.t) hA hr).mono ?_
      rintro e w1 ⟨rfl, hx1⟩
      have hA1 := hA.ext hx1
      have r0 := (hb0.ext hx1).cell
      go_wp2_with fail
      refine (next_none hA1).mono ?_
      rintro e w2 ⟨rfl, hx2⟩
      have hx3 := (hx1.trans hx2).trans (Ext.alloc w2 (.cells #[.int .i64 0, .int .i64 0] 33))
      have hA3 := hA.ext hx3
      have r0 := (hb0.ext hx3).cell
      have rz := (Blk.new w2 #[.int .i64 0, .int .i64 0] 33).cell
      go_wp2_with fail
      refine (waits_in s.t hA3).mono ?_
      rintro e w3 ⟨rfl, hx4⟩
      have hx5 := hx3.trans hx4
      have hA5 := hA.ext hx5
      clear r0 rz
      go_wp2_with fail
      refine (len_any hA5).mono ?_
      rintro e w4 ⟨rfl, hx6⟩
      have hx7 := hx5.trans hx6
      go_wp2_with fail
      refine (all_any (hA.ext hx7)).mono ?_
      rintro e w5 ⟨v, rfl, hown, hx8⟩
      obtain ⟨A5, c5, rfl⟩ := own_sl hown
      have hx9 := hx7.trans hx8
      go_wp2_with fail
      go_roundw
      case rel => exact ⟨1, by omega, rfl, hX.trans hx9, hb0.ext hx9, hb1.ext hx9, hb2.ext hx9⟩
      case measure => simp [intOf]
    · have hN : Nob wr (.pointer (some ⟨w.heap.size + 1, 0, none⟩)) := .inr ⟨w.heap.size + 1, rfl, hb1⟩
      have hA := hN.any
      go_wp2_with fail
      refine (ask_nob (t := s.t) hA hr).mono ?_
      rintro e w1 ⟨rfl, hx1⟩
      have hA1 := hA.ext hx1
      have r0 := (hb0.ext hx1).cell
      go_wp2_with fail
      refine (next_none hA1).mono ?_
      rintro e w2 ⟨rfl, hx2⟩
      have hx3 := (hx1.trans hx2).trans (Ext.alloc w2 (.cells #[.int .i64 0, .int .i64 0] 33))
      have hA3 := hA.ext hx3
      have r0 := (hb0.ext hx3).cell
      have rz := (Blk.new w2 #[.int .i64 0, .int .i64 0] 33).cell
      go_wp2_with fail
      refine (waits_in s.t hA3).mono ?_
      rintro e w3 ⟨rfl, hx4⟩
      have hx5 := hx3.trans hx4
      have hA5 := hA.ext hx5
      clear r0 rz
      go_wp2_with fail
      refine (len_any hA5).mono ?_
      rintro e w4 ⟨rfl, hx6⟩
      have hx7 := hx5.trans hx6
      go_wp2_with fail
      refine (all_any (hA.ext hx7)).mono ?_
      rintro e w5 ⟨v, rfl, hown, hx8⟩
      obtain ⟨A5, c5, rfl⟩ := own_sl hown
      have hx9 := hx7.trans hx8
      go_wp2_with fail
      go_roundw
      case rel => exact ⟨2, by omega, rfl, hX.trans hx9, hb0.ext hx9, hb1.ext hx9, hb2.ext hx9⟩
      case measure => simp [intOf]
    · go_wp2_with fail
      refine (alive_any _).mono ?_
      rintro e w1 ⟨rfl, hx⟩
      go_wp2_with fail
      go_ret
      exact ⟨rfl, hX.trans hx⟩

set_option maxRecDepth 100000 in
theorem vmqNobody_walk {H : Type} {enc : TypeId × Value → H} (W : World) (base : Nat) (args : Array Value) (ds : List (DataW H)) (p : List MemPlace)
    (hval0 : ∀ (j : Nat) t v, Try.f5.params[j]? = some t → args[j]? = some v → Value.okWide Try.prog W .any base t v)
    (hA0 : DataW.TrodAll enc Try.prog W 0 (fun _ => true) true Try.f5.params.toList args.toList ds p) (_hlt : ∀ x ∈ p, x.block < W.heap.size) :
    Calls Try.prog 5 args W fun e W' => e = .returned (.bool true) ∧ Ext W W' := by
  have hval := hval0
  have hA := hA0
  rw [Try.params5] at hA hval
  clear hval0 hA0
  obtain ⟨v0, d0, rfl, rfl, h0⟩ := trodAll_one hA
  obtain ⟨x, rfl, ok⟩ := open_step (hval 0 32 v0 rfl rfl) h0
  exact lnobody_any x ok.r W
set_option maxRecDepth 100000 in
theorem vmqNobody_lifted (os : Os) (started : os.Started) (H : Type) (enc : TypeId × Value → H) :
    ReturnsInHanded {} Try.checked os 5 .any (Rows.vmqNobodySpec.pre6 enc Try.prog Try.f5 Rows.vmqNobodyRow.domain false) (Rows.vmqNobodySpec.post enc Try.prog Try.f5 false true false false) :=
  law_lifted (fn := Try.f5) 4 os started (by kernel_rfl) Try.func5 rfl rfl Try.underlying4 (hread_of (by kernel_rfl))
    (fun l hl => by
      have hl2 : l.length = 1 := hl
      clear hl
      match l, hl2 with
      | [_], _ => rfl)
    (ChangeSpec.witness6 (enc := enc) (C := Try.checked) false ⟨#[], #[.agg #[.int .u8 0, .int .i64 0, .int .i64 0, .int .i64 0]], []⟩ 8 (by kernel_rfl) (by kernel_rfl) (by kernel_rfl) (by kernel_rfl))
    (fun W base args ds p hval hA hlt => vmqNobody_walk W base args ds p hval hA hlt)
theorem vmqNobody_holds : Rows.VmqNobodySaid :=
  OpenClaim.holds_of_wide 5 Try.f5 rfl rfl rfl rfl rfl rfl rfl ⟨rfl, rfl, rfl, rfl, rfl⟩ rfl rfl rfl rfl rfl (by kernel_rfl) Try.func5 (by kernel_rfl)
    (of_decide_eq_true (by kernel_rfl)) (by unfold Func.isWrapper; rw [if_neg (of_decide_eq_false (by kernel_rfl))]; exact ⟨rfl, rfl⟩)
    (fun os started H enc _ => vmqNobody_lifted os started H enc)
end Go.Proofs.Ytonaibpenijomaa
