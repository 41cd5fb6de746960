/-
  A law of layer 8 holds of every input: PermitNobody. No condition.
-/
import Derived.Test.YtleffmmlcbaooaaS1
namespace Go.Proofs.Ytleffmmlcbaooaa
open Go.ChangeShapes Go.WideShapes Go.ChangeAt Go.RowKit Go.Deep Go.Joins
set_option linter.unusedVariables false
set_option linter.unusedSimpArgs false

set_option maxRecDepth 100000 in
theorem lnobody_any (n : Int) (w : World) : Calls Try.prog 5 #[.int .i64 n] w fun e w' => e = .returned (.bool true) ∧ Ext w w' := by
  go_enter Try.func5, Try.ntmps5
  go_wp2_with fail
  go_loopw [15] (fun i wr => ∃ k : Nat, k ≤ 2 ∧ i = .int .i64 k ∧ Ext w wr ∧ Blk wr w.heap.size #[.slice none 0 0] 50 ∧
    Blk wr (w.heap.size + 1) #[.pointer none, .pointer (some ⟨w.heap.size, 0, none⟩)] 23) (fun i _ => 2 - (intOf i).toNat)
  case atStart =>
    refine ⟨0, by omega, rfl, (Ext.alloc _ _).trans (Ext.alloc _ _), ?_, ?_⟩
    · exact (Blk.new w _ _).ext (Ext.alloc _ _)
    · have h := Blk.new (w.alloc (Obj.cells #[.slice none 0 0] 50)) #[.pointer none, .pointer (some ⟨w.heap.size, 0, none⟩)] 23
      simp only [World.size_alloc] at h
      exact h
  case round =>
    obtain ⟨k, hk, rfl, hX, hb1, hb2⟩ := hrel
    have r2 := hb2.cell
    rcases (by omega : k = 0 ∨ k = 1 ∨ k = 2) with rfl | rfl | rfl
    · have hN : Nob wr (.pointer none) := .inl rfl
      go_wp2_with fail
      refine (park_nob hN).mono ?_
      rintro e w1 ⟨rfl, rfl⟩
      go_wp2_with fail
      refine (unpark_nob hN).mono ?_
      rintro e w1 ⟨rfl, rfl⟩
      go_wp2_with fail
      refine (interrupt_nob hN).mono ?_
      rintro e w1 ⟨rfl, rfl⟩
      go_wp2_with fail
      refine (asleep_nob hN).mono ?_
      rintro e w1 ⟨rfl, hx⟩
      (have hN := hN.ext hx; have hX := hX.trans hx; have hb1 := hb1.ext hx; have hb2 := hb2.ext hx; clear hx)
      go_wp2_with fail
      refine (permit_nob hN).mono ?_
      rintro e w2 ⟨rfl, hx⟩
      (have hN := hN.ext hx; have hX := hX.trans hx; have hb1 := hb1.ext hx; have hb2 := hb2.ext hx; clear hx)
      go_wp2_with fail
      refine (flag_nob hN).mono ?_
      rintro e w3 ⟨rfl, hx⟩
      (have hN := hN.ext hx; have hX := hX.trans hx; have hb1 := hb1.ext hx; have hb2 := hb2.ext hx; clear hx)
      go_wp2_with fail
      refine (take_nob hN).mono ?_
      rintro e w4 ⟨rfl, rfl⟩
      go_wp2_with fail
      refine (sleepers_nob hN).mono ?_
      rintro e w4 ⟨rfl, hx⟩
      (have hN := hN.ext hx; have hX := hX.trans hx; have hb1 := hb1.ext hx; have hb2 := hb2.ext hx; clear hx)
      go_wp2_with fail
      go_roundw
      case rel => exact ⟨1, by omega, rfl, hX, hb1, hb2⟩
      case measure => simp [intOf]
    · have hN : Nob wr (.pointer (some ⟨w.heap.size, 0, none⟩)) := .inr ⟨_, rfl, hb1⟩
      go_wp2_with fail
      refine (park_nob hN).mono ?_
      rintro e w1 ⟨rfl, rfl⟩
      go_wp2_with fail
      refine (unpark_nob hN).mono ?_
      rintro e w1 ⟨rfl, rfl⟩
      go_wp2_with fail
      refine (interrupt_nob hN).mono ?_
      rintro e w1 ⟨rfl, rfl⟩
      go_wp2_with fail
      refine (asleep_nob hN).mono ?_
      rintro e w1 ⟨rfl, hx⟩
      (have hN := hN.ext hx; have hX := hX.trans hx; have hb1 := hb1.ext hx; have hb2 := hb2.ext hx; clear hx)
      go_wp2_with fail
      refine (permit_nob hN).mono ?_
      rintro e w2 ⟨rfl, hx⟩
      (have hN := hN.ext hx; have hX := hX.trans hx; have hb1 := hb1.ext hx; have hb2 := hb2.ext hx; clear hx)
      go_wp2_with fail
      refine (flag_nob hN).mono ?_
      rintro e w3 ⟨rfl, hx⟩
      (have hN := hN.ext hx; have hX := hX.trans hx; have hb1 := hb1.ext hx; have hb2 := hb2.ext hx; clear hx)
      go_wp2_with fail
      refine (take_nob hN).mono ?_
      rintro e w4 ⟨rfl, rfl⟩
      go_wp2_with fail
      refine (sleepers_nob hN).mono ?_
      rintro e w4 ⟨rfl, hx⟩
      (have hN := hN.ext hx; have hX := hX.trans hx; have hb1 := hb1.ext hx; have hb2 := hb2.ext hx; clear hx)
      go_wp2_with fail
      go_roundw
      case rel => exact ⟨2, by omega, rfl, hX, hb1, hb2⟩
      case measure => simp [intOf]
    · go_wp2_with fail
      refine (alive_any _).mono ?_
      rintro e w1 ⟨rfl, hx⟩
      go_wp2_with fail
      go_ret
      exact ⟨rfl, hX.trans hx⟩

theorem permitNobody_walk {H : Type} {enc : TypeId × Value → H} (W : World) (base : Nat) (args : Array Value) (ds : List (DataW H)) (p : List MemPlace)
    (hval0 : ∀ (j : Nat) t v, Try.f5.params[j]? = some t → args[j]? = some v → Value.okWide Try.prog W .any base t v)
    (hA0 : DataW.TrodAll enc Try.prog W 0 (fun _ => true) true Try.f5.params.toList args.toList ds p) (_hlt : ∀ x ∈ p, x.block < W.heap.size) :
    Calls Try.prog 5 args W fun e W' => e = .returned (.bool true) ∧ Ext W W' := by
  have hval := hval0
  have hA := hA0
  rw [Try.params5] at hA hval
  clear hval0 hA0
  obtain ⟨v0, d0, rfl, rfl, h0⟩ := trodAll_one hA
  obtain ⟨y, rfl, rfl, rfl, wy⟩ := open_int Try.underlying3 (hval 0 3 v0 rfl rfl) h0
  exact lnobody_any y W
set_option maxRecDepth 100000 in
theorem permitNobody_lifted (os : Os) (started : os.Started) (H : Type) (enc : TypeId × Value → H) :
    ReturnsInHanded {} Try.checked os 5 .any (Rows.permitNobodySpec.pre6 enc Try.prog Try.f5 Rows.permitNobodyRow.domain false) (Rows.permitNobodySpec.post enc Try.prog Try.f5 false true false false) :=
  law_lifted (fn := Try.f5) 4 os started (by kernel_rfl) Try.func5 rfl rfl Try.underlying4 (hread_of (by kernel_rfl))
    (fun l hl => by
      have hl2 : l.length = 1 := hl
      clear hl
      match l, hl2 with
      | [_], _ => rfl)
    (ChangeSpec.witness6 (enc := enc) (C := Try.checked) false ⟨#[], #[.int .i64 0], []⟩ 8 (by kernel_rfl) (by kernel_rfl) (by kernel_rfl) (by kernel_rfl))
    (fun W base args ds p hval hA hlt => permitNobody_walk W base args ds p hval hA hlt)
theorem permitNobody_holds : Rows.PermitNobodySaid :=
  OpenClaim.holds_of_wide 5 Try.f5 rfl rfl rfl rfl rfl rfl rfl ⟨rfl, rfl, rfl, rfl, rfl⟩ rfl rfl rfl rfl rfl (by kernel_rfl) Try.func5 (by kernel_rfl)
    (of_decide_eq_true (by kernel_rfl)) (by unfold Func.isWrapper; rw [if_neg (of_decide_eq_false (by kernel_rfl))]; exact ⟨rfl, rfl⟩)
    (fun os started H enc _ => permitNobody_lifted os started H enc)
end Go.Proofs.Ytleffmmlcbaooaa
