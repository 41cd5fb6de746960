/-
  A law of layer 7 holds of every input: TimerNobody. No condition.
-/
import Derived.Test.YtgfhpgbklcjooaaS2
namespace Go.Proofs.Ytgfhpgbklcjooaa
open Go.ChangeShapes Go.WideShapes Go.ChangeAt Go.RowKit Go.Deep Go.Joins
set_option linter.unusedVariables false
set_option linter.unusedSimpArgs false

set_option maxRecDepth 100000 in
theorem lnobody_any (s : Stp) (w : World) (ok : Okst s) : Calls Try.prog 5 #[.agg (sc s)] w fun e w' => e = .returned (.bool true) ∧ Ext w w' := by
  have wt := ok.wt
  have wn := ok.wn
  unfold sc
  go_enter Try.func5, Try.ntmps5
  go_wp2_with fail
  go_loopw [13] (fun i wr => ∃ k : Nat, k ≤ 2 ∧ i = .int .i64 k ∧ Ext w wr ∧ Blk wr w.heap.size #[.int .u8 s.k, .int .i64 s.t, .int .i64 s.n] 30 ∧ Blk wr (w.heap.size + 1) #[.map none, .int .i64 0] 47 ∧
    Blk wr (w.heap.size + 1 + 1) #[.pointer none, .pointer (some ⟨w.heap.size + 1, 0, none⟩)] 23) (fun i _ => 2 - (intOf i).toNat)
  case atStart =>
    refine ⟨0, by omega, rfl, ((Ext.alloc _ _).trans (Ext.alloc _ _)).trans (Ext.alloc _ _), ?_, ?_, ?_⟩
    · exact (Blk.new w _ _).ext ((Ext.alloc _ _).trans (Ext.alloc _ _))
    · have h := Blk.new (w.alloc (Obj.cells #[.int .u8 s.k, .int .i64 s.t, .int .i64 s.n] 30)) #[.map none, .int .i64 0] 47
      simp only [World.size_alloc] at h
      exact h.ext (Ext.alloc _ _)
    · have h := Blk.new ((w.alloc (Obj.cells #[.int .u8 s.k, .int .i64 s.t, .int .i64 s.n] 30)).alloc (Obj.cells #[.map none, .int .i64 0] 47)) #[.pointer none, .pointer (some ⟨w.heap.size + 1, 0, none⟩)] 23
      simp only [World.size_alloc] at h
      exact h
  case round =>
    obtain ⟨k, hk, rfl, hX, hb1, hb2, hb3⟩ := hrel
    have r1 := hb1.cell
    have r3 := hb3.cell
    rcases (by omega : k = 0 ∨ k = 1 ∨ k = 2) with rfl | rfl | rfl
    · have hN : Nob wr (.pointer none) := .inl rfl
      go_wp2_with fail
      refine (at_nob hN wt).mono ?_
      rintro e w1 ⟨rfl, rfl⟩
      go_wp2_with fail
      refine (next_nob hN).mono ?_
      rintro e w1 ⟨rfl, hx⟩
      have hN := hN.ext hx
      have hX := hX.trans hx
      have hb1 := hb1.ext hx
      have hb2 := hb2.ext hx
      have hb3 := hb3.ext hx
      have r1 := hb1.cell
      clear hx
      go_wp2_with fail
      refine (set_nob hN).mono ?_
      rintro e w2 ⟨rfl, rfl⟩
      go_wp2_with fail
      refine (clear_nob hN wt).mono ?_
      rintro e w2 ⟨rfl, rfl⟩
      go_wp2_with fail
      refine (tick_nob hN).mono ?_
      rintro e w2 ⟨rfl, rfl⟩
      go_wp2_with fail
      refine (now_nob hN).mono ?_
      rintro e w2 ⟨rfl, rfl⟩
      go_wp2_with fail
      refine (len_nob hN).mono ?_
      rintro e w2 ⟨rfl, rfl⟩
      go_wp2_with fail
      go_roundw
      case rel => exact ⟨1, by omega, rfl, hX, hb1, hb2, hb3⟩
      case measure => simp [intOf]
    · have hN : Nob wr (.pointer (some ⟨w.heap.size + 1, 0, none⟩)) := .inr ⟨_, rfl, hb2⟩
      go_wp2_with fail
      refine (at_nob hN wt).mono ?_
      rintro e w1 ⟨rfl, rfl⟩
      go_wp2_with fail
      refine (next_nob hN).mono ?_
      rintro e w1 ⟨rfl, hx⟩
      have hN := hN.ext hx
      have hX := hX.trans hx
      have hb1 := hb1.ext hx
      have hb2 := hb2.ext hx
      have hb3 := hb3.ext hx
      have r1 := hb1.cell
      clear hx
      go_wp2_with fail
      refine (set_nob hN).mono ?_
      rintro e w2 ⟨rfl, rfl⟩
      go_wp2_with fail
      refine (clear_nob hN wt).mono ?_
      rintro e w2 ⟨rfl, rfl⟩
      go_wp2_with fail
      refine (tick_nob hN).mono ?_
      rintro e w2 ⟨rfl, rfl⟩
      go_wp2_with fail
      refine (now_nob hN).mono ?_
      rintro e w2 ⟨rfl, rfl⟩
      go_wp2_with fail
      refine (len_nob hN).mono ?_
      rintro e w2 ⟨rfl, rfl⟩
      go_wp2_with fail
      go_roundw
      case rel => exact ⟨2, by omega, rfl, hX, hb1, hb2, hb3⟩
      case measure => simp [intOf]
    · go_wp2_with fail
      refine (alive_any _).mono ?_
      rintro e w1 ⟨rfl, hx⟩
      go_wp2_with fail
      go_ret
      exact ⟨rfl, hX.trans hx⟩

theorem timerNobody_walk {H : Type} {enc : TypeId × Value → H} (W : World) (base : Nat) (args : Array Value) (ds : List (DataW H)) (p : List MemPlace)
    (hval0 : ∀ (j : Nat) t v, Try.f5.params[j]? = some t → args[j]? = some v → Value.okWide Try.prog W .any base t v)
    (hA0 : DataW.TrodAll enc Try.prog W 0 (fun _ => true) true Try.f5.params.toList args.toList ds p) (_hlt : ∀ x ∈ p, x.block < W.heap.size) :
    Calls Try.prog 5 args W fun e W' => e = .returned (.bool true) ∧ Ext W W' := by
  have hval := hval0
  have hA := hA0
  rw [Try.params5] at hA hval
  clear hval0 hA0
  obtain ⟨v0, d0, rfl, rfl, h0⟩ := trodAll_one hA
  obtain ⟨s, rfl, ok⟩ := open_step (hval 0 30 v0 rfl rfl) h0
  exact lnobody_any s W ok
set_option maxRecDepth 100000 in
theorem timerNobody_lifted (os : Os) (started : os.Started) (H : Type) (enc : TypeId × Value → H) :
    ReturnsInHanded {} Try.checked os 5 .any (Rows.timerNobodySpec.pre6 enc Try.prog Try.f5 Rows.timerNobodyRow.domain false) (Rows.timerNobodySpec.post enc Try.prog Try.f5 false true false false) :=
  law_lifted (fn := Try.f5) 4 os started (by kernel_rfl) Try.func5 rfl rfl Try.underlying4 (hread_of (by kernel_rfl))
    (fun l hl => by
      have hl2 : l.length = 1 := hl
      clear hl
      match l, hl2 with
      | [_], _ => rfl)
    (ChangeSpec.witness6 (enc := enc) (C := Try.checked) false ⟨#[], #[.agg #[.int .u8 0, .int .i64 0, .int .i64 0]], []⟩ 8 (by kernel_rfl) (by kernel_rfl) (by kernel_rfl) (by kernel_rfl))
    (fun W base args ds p hval hA hlt => timerNobody_walk W base args ds p hval hA hlt)
theorem timerNobody_holds : Rows.TimerNobodySaid :=
  OpenClaim.holds_of_wide 5 Try.f5 rfl rfl rfl rfl rfl rfl rfl ⟨rfl, rfl, rfl, rfl, rfl⟩ rfl rfl rfl rfl rfl (by kernel_rfl) Try.func5 (by kernel_rfl)
    (of_decide_eq_true (by kernel_rfl)) (by unfold Func.isWrapper; rw [if_neg (of_decide_eq_false (by kernel_rfl))]; exact ⟨rfl, rfl⟩)
    (fun os started H enc _ => timerNobody_lifted os started H enc)
end Go.Proofs.Ytgfhpgbklcjooaa
