/-
  The four laws of layer 5 hold of every input: DrawStirs, DrawHashes, DrawOne, DrawSame. No condition.
-/
import Derived.Test.YtfcnfeamfolkmaaL3
import Derived.Test.YtfcnfeamfolkmaaFrame
namespace Go.Proofs.Ytfcnfeamfolkmaa
open Go.ChangeShapes Go.WideShapes Go.ChangeAt Go.RowKit Go.Joins
set_option linter.unusedVariables false
set_option linter.unusedSimpArgs false

theorem in_u64 {x : Int} (h : (Lit.int .u64 x).wf = true) : ∃ n : Nat, x = (n : Int) ∧ n < two64 := by
  have := bounds_u64 h
  exact ⟨x.toNat, by omega, by unfold two64; omega⟩

theorem drawStirs_walk {H : Type} {enc : TypeId × Value → H} (W : World) (base : Nat) (args : Array Value) (ds : List (DataW H)) (p : List MemPlace)
    (hval0 : ∀ (j : Nat) t v, Try.f3.params[j]? = some t → args[j]? = some v → Value.okWide Try.prog W .any base t v)
    (hA0 : DataW.TrodAll enc Try.prog W 0 (fun _ => true) true Try.f3.params.toList args.toList ds p) (_hlt : ∀ x ∈ p, x.block < W.heap.size) :
    Calls Try.prog 3 args W fun e W' => e = .returned (.bool true) ∧ Ext W W' := by
  have hval := hval0
  have hA := hA0
  rw [Try.params3] at hA hval
  clear hval0 hA0
  obtain ⟨v0, d0, rfl, rfl, h0⟩ := trodAll_one hA
  obtain ⟨y, rfl, rfl, rfl, wy⟩ := open_int Try.underlying22 (hval 0 22 v0 rfl rfl) h0
  obtain ⟨n, rfl, hn⟩ := in_u64 wy
  exact lstirs_any n W hn
set_option maxRecDepth 100000 in
theorem drawStirs_lifted (os : Os) (started : os.Started) (H : Type) (enc : TypeId × Value → H) :
    ReturnsInHanded {} Try.checked os 3 .any (Rows.drawStirsSpec.pre6 enc Try.prog Try.f3 Rows.drawStirsRow.domain false) (Rows.drawStirsSpec.post enc Try.prog Try.f3 false true false false) :=
  law_lifted (fn := Try.f3) 4 os started (by kernel_rfl) Try.func3 rfl rfl Try.underlying4 (hread_of (by kernel_rfl))
    (fun l hl => by
      have hl2 : l.length = 1 := hl
      clear hl
      match l, hl2 with
      | [_], _ => rfl)
    (ChangeSpec.witness6 (enc := enc) (C := Try.checked) false ⟨#[], #[.int .u64 0], []⟩ 8 (by kernel_rfl) (by kernel_rfl) (by kernel_rfl) (by kernel_rfl))
    (fun W base args ds p hval hA hlt => drawStirs_walk W base args ds p hval hA hlt)
theorem drawStirs_holds : Rows.DrawStirsSaid :=
  OpenClaim.holds_of_wide 3 Try.f3 rfl rfl rfl rfl rfl rfl rfl ⟨rfl, rfl, rfl, rfl, rfl⟩ rfl rfl rfl rfl rfl (by kernel_rfl) Try.func3 (by kernel_rfl)
    (of_decide_eq_true (by kernel_rfl)) (by unfold Func.isWrapper; rw [if_neg (of_decide_eq_false (by kernel_rfl))]; exact ⟨rfl, rfl⟩)
    (fun os started H enc _ => drawStirs_lifted os started H enc)

theorem drawHashes_walk {H : Type} {enc : TypeId × Value → H} (W : World) (base : Nat) (args : Array Value) (ds : List (DataW H)) (p : List MemPlace)
    (hval0 : ∀ (j : Nat) t v, Try.f4.params[j]? = some t → args[j]? = some v → Value.okWide Try.prog W .any base t v)
    (hA0 : DataW.TrodAll enc Try.prog W 0 (fun _ => true) true Try.f4.params.toList args.toList ds p) (_hlt : ∀ x ∈ p, x.block < W.heap.size) :
    Calls Try.prog 4 args W fun e W' => e = .returned (.bool true) ∧ Ext W W' := by
  have hval := hval0
  have hA := hA0
  rw [Try.params4] at hA hval
  clear hval0 hA0
  obtain ⟨v0, v1, d0, d1, p0, p1, hargs, rfl, rfl, h0, h1⟩ := trodAll_two hA
  obtain rfl : args = #[v0, v1] := by cases args; simp_all
  obtain ⟨y, rfl, rfl, rfl, wy⟩ := open_int Try.underlying22 (hval 0 22 v0 rfl rfl) h0
  obtain ⟨z, rfl, rfl, rfl, wz⟩ := open_int Try.underlying5 (hval 1 5 v1 rfl rfl) h1
  obtain ⟨n, rfl, hn⟩ := in_u64 wy
  have hb := bounds_u8 wz
  exact lhashes_any n z W hn (by omega) (by omega)
set_option maxRecDepth 100000 in
theorem drawHashes_lifted (os : Os) (started : os.Started) (H : Type) (enc : TypeId × Value → H) :
    ReturnsInHanded {} Try.checked os 4 .any (Rows.drawHashesSpec.pre6 enc Try.prog Try.f4 Rows.drawHashesRow.domain false) (Rows.drawHashesSpec.post enc Try.prog Try.f4 false true false false) :=
  law_lifted (fn := Try.f4) 4 os started (by kernel_rfl) Try.func4 rfl rfl Try.underlying4 (hread_of (by kernel_rfl))
    (fun l hl => by
      have hl2 : l.length = 2 := hl
      clear hl
      match l, hl2 with
      | [_, _], _ => rfl)
    (ChangeSpec.witness6 (enc := enc) (C := Try.checked) false ⟨#[], #[.int .u64 0, .int .u8 0], []⟩ 8 (by kernel_rfl) (by kernel_rfl) (by kernel_rfl) (by kernel_rfl))
    (fun W base args ds p hval hA hlt => drawHashes_walk W base args ds p hval hA hlt)
theorem drawHashes_holds : Rows.DrawHashesSaid :=
  OpenClaim.holds_of_wide 4 Try.f4 rfl rfl rfl rfl rfl rfl rfl ⟨rfl, rfl, rfl, rfl, rfl⟩ rfl rfl rfl rfl rfl (by kernel_rfl) Try.func4 (by kernel_rfl)
    (of_decide_eq_true (by kernel_rfl)) (by unfold Func.isWrapper; rw [if_neg (of_decide_eq_false (by kernel_rfl))]; exact ⟨rfl, rfl⟩)
    (fun os started H enc _ => drawHashes_lifted os started H enc)

theorem drawOne_walk {H : Type} {enc : TypeId × Value → H} (W : World) (base : Nat) (args : Array Value) (ds : List (DataW H)) (p : List MemPlace)
    (hval0 : ∀ (j : Nat) t v, Try.f5.params[j]? = some t → args[j]? = some v → Value.okWide Try.prog W .any base t v)
    (hA0 : DataW.TrodAll enc Try.prog W 0 (fun _ => true) true Try.f5.params.toList args.toList ds p) (_hlt : ∀ x ∈ p, x.block < W.heap.size) :
    Calls Try.prog 5 args W fun e W' => e = .returned (.bool true) ∧ Ext W W' := by
  have hval := hval0
  have hA := hA0
  rw [Try.params5] at hA hval
  clear hval0 hA0
  obtain ⟨v0, v1, d0, d1, p0, p1, hargs, rfl, rfl, h0, h1⟩ := trodAll_two hA
  obtain rfl : args = #[v0, v1] := by cases args; simp_all
  obtain ⟨y, rfl, rfl, rfl, wy⟩ := open_int Try.underlying22 (hval 0 22 v0 rfl rfl) h0
  obtain ⟨z, rfl, rfl, rfl, wz⟩ := open_int Try.underlying22 (hval 1 22 v1 rfl rfl) h1
  obtain ⟨n, rfl, hn⟩ := in_u64 wy
  obtain ⟨m, rfl, hm⟩ := in_u64 wz
  exact lone_any n m W hn hm
set_option maxRecDepth 100000 in
theorem drawOne_lifted (os : Os) (started : os.Started) (H : Type) (enc : TypeId × Value → H) :
    ReturnsInHanded {} Try.checked os 5 .any (Rows.drawOneSpec.pre6 enc Try.prog Try.f5 Rows.drawOneRow.domain false) (Rows.drawOneSpec.post enc Try.prog Try.f5 false true false false) :=
  law_lifted (fn := Try.f5) 4 os started (by kernel_rfl) Try.func5 rfl rfl Try.underlying4 (hread_of (by kernel_rfl))
    (fun l hl => by
      have hl2 : l.length = 2 := hl
      clear hl
      match l, hl2 with
      | [_, _], _ => rfl)
    (ChangeSpec.witness6 (enc := enc) (C := Try.checked) false ⟨#[], #[.int .u64 0, .int .u64 0], []⟩ 8 (by kernel_rfl) (by kernel_rfl) (by kernel_rfl) (by kernel_rfl))
    (fun W base args ds p hval hA hlt => drawOne_walk W base args ds p hval hA hlt)
theorem drawOne_holds : Rows.DrawOneSaid :=
  OpenClaim.holds_of_wide 5 Try.f5 rfl rfl rfl rfl rfl rfl rfl ⟨rfl, rfl, rfl, rfl, rfl⟩ rfl rfl rfl rfl rfl (by kernel_rfl) Try.func5 (by kernel_rfl)
    (of_decide_eq_true (by kernel_rfl)) (by unfold Func.isWrapper; rw [if_neg (of_decide_eq_false (by kernel_rfl))]; exact ⟨rfl, rfl⟩)
    (fun os started H enc _ => drawOne_lifted os started H enc)

theorem drawSame_walk {H : Type} {enc : TypeId × Value → H} (W : World) (base : Nat) (args : Array Value) (ds : List (DataW H)) (p : List MemPlace)
    (hval0 : ∀ (j : Nat) t v, Try.f6.params[j]? = some t → args[j]? = some v → Value.okWide Try.prog W .any base t v)
    (hA0 : DataW.TrodAll enc Try.prog W 0 (fun _ => true) true Try.f6.params.toList args.toList ds p) (_hlt : ∀ x ∈ p, x.block < W.heap.size) :
    Calls Try.prog 6 args W fun e W' => e = .returned (.bool true) ∧ Ext W W' := by
  have hval := hval0
  have hA := hA0
  rw [Try.params6] at hA hval
  clear hval0 hA0
  obtain ⟨v0, v1, d0, d1, p0, p1, hargs, rfl, rfl, h0, h1⟩ := trodAll_two hA
  obtain rfl : args = #[v0, v1] := by cases args; simp_all
  obtain ⟨y, rfl, rfl, rfl, wy⟩ := open_int Try.underlying22 (hval 0 22 v0 rfl rfl) h0
  obtain ⟨z, rfl, rfl, rfl, wz⟩ := open_int Try.underlying5 (hval 1 5 v1 rfl rfl) h1
  obtain ⟨n, rfl, hn⟩ := in_u64 wy
  have hb := bounds_u8 wz
  exact lsame_any n z W hn (by omega) (by omega)
set_option maxRecDepth 100000 in
theorem drawSame_lifted (os : Os) (started : os.Started) (H : Type) (enc : TypeId × Value → H) :
    ReturnsInHanded {} Try.checked os 6 .any (Rows.drawSameSpec.pre6 enc Try.prog Try.f6 Rows.drawSameRow.domain false) (Rows.drawSameSpec.post enc Try.prog Try.f6 false true false false) :=
  law_lifted (fn := Try.f6) 4 os started (by kernel_rfl) Try.func6 rfl rfl Try.underlying4 (hread_of (by kernel_rfl))
    (fun l hl => by
      have hl2 : l.length = 2 := hl
      clear hl
      match l, hl2 with
      | [_, _], _ => rfl)
    (ChangeSpec.witness6 (enc := enc) (C := Try.checked) false ⟨#[], #[.int .u64 0, .int .u8 0], []⟩ 8 (by kernel_rfl) (by kernel_rfl) (by kernel_rfl) (by kernel_rfl))
    (fun W base args ds p hval hA hlt => drawSame_walk W base args ds p hval hA hlt)
theorem drawSame_holds : Rows.DrawSameSaid :=
  OpenClaim.holds_of_wide 6 Try.f6 rfl rfl rfl rfl rfl rfl rfl ⟨rfl, rfl, rfl, rfl, rfl⟩ rfl rfl rfl rfl rfl (by kernel_rfl) Try.func6 (by kernel_rfl)
    (of_decide_eq_true (by kernel_rfl)) (by unfold Func.isWrapper; rw [if_neg (of_decide_eq_false (by kernel_rfl))]; exact ⟨rfl, rfl⟩)
    (fun os started H enc _ => drawSame_lifted os started H enc)
end Go.Proofs.Ytfcnfeamfolkmaa
