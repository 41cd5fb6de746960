/-
  A law of layer 19 (PlanKeeps) holds of every input: the tied card stands.
  Conditions: the eight package variables of package word (tagField, ageField, epochField, hashField, ownerField, recordField, slotField, genField) hold when the call begins what the program's text lays; the card ties that to the text of the seat's pruned copy by the wider look, and says nothing of code outside that copy. No condition on the input.
-/
import Derived.Test.YtecopjehmpjniaaDoorL4
import Derived.Test.YtecopjehmpjniaaDoorL3
namespace Go.Proofs.YtecopjehmpjniaaDoor
open Go.ChangeShapes Go.WideShapes Go.ChangeAt Go.RowKit Go.Joins Go.Deep
set_option maxRecDepth 100000



theorem planKeeps_walk {H : Type} {enc : TypeId × Value → H} (W : World) (base : Nat) (args : Array Value) (ds : List (DataW H)) (p : List MemPlace) (hG : Glob W)
    (hval0 : ∀ (j : Nat) t v, Tryd.f4.params[j]? = some t → args[j]? = some v → Value.okWide Tryd.prog W .any base t v)
    (hA0 : DataW.TrodAll enc Tryd.prog W 0 (fun _ => true) true Tryd.f4.params.toList args.toList ds p) (_hlt : ∀ x ∈ p, x.block < W.heap.size) :
    Calls Tryd.prog 4 args W fun e W' => e = .returned (.bool true) ∧ Ext W W' := by
  have hval := hval0
  have hA := hA0
  rw [Tryd.params4] at hA hval
  clear hval0 hA0
  obtain ⟨v0, v1, v2, d0, d1, d2, p0, p1, p2, hargs, rfl, rfl, h0, h1, h2⟩ := trodAll_three hA
  obtain rfl : args = #[v0, v1, v2] := by cases args; simp_all
  obtain ⟨A, c, l, rfl, hn, hc, hs, hx⟩ := open_objs (hval 0 38 v0 rfl rfl) h0
  obtain ⟨A2, c2, ks, rfl, hn2, hc2, hks, hy⟩ := open_clss (hval 1 39 v1 rfl rfl) h1
  obtain ⟨o, rb, rv, rfl⟩ := open_three (hval 2 40 v2 rfl rfl) h2
  exact lkeeps_any o rb rv hG hs hks hx hy hn hc hn2 hc2
set_option maxRecDepth 100000 in
theorem planKeeps_lifted (os : Os) (started : os.Started) (H : Type) (enc : TypeId × Value → H) :
    ReturnsInHanded {} Tryd.checked os 4 .any (fun w args => (Rows.planKeepsSpec.pre enc Tryd.prog Tryd.f4 [] false w args ∧ laidMetH Tryd.prog laidL w) ∧ sizedMet enc Tryd.prog Tryd.f4 (OpenSpec.ofChange Rows.planKeepsSpec) false w args) (Rows.planKeepsSpec.post enc Tryd.prog Tryd.f4 false true false false) :=
  law_lifted_laid (fn := Tryd.f4) 4 os started (by kernel_rfl) Tryd.func4 rfl rfl Tryd.underlying4 (hread_of (by kernel_rfl))
    (fun l hl => by
      have hl2 : l.length = 3 := hl
      clear hl
      match l, hl2 with
      | [_, _, _], _ => rfl)
    (ChangeSpec.witness_shaped (enc := enc) (C := Tryd.checked) (os := os) (X := fun w _ => laidMetH Tryd.prog laidL w) false (World.doorLaid Tryd.prog 100 os) #[.slice none 0 0, .slice none 0 0, .agg #[.int .i64 0, .int .i64 0, .int .i64 0]] 8 rfl (World.shaped_of_RefB (by kernel_rfl) (by kernel_rfl)) (by kernel_rfl) (by kernel_rfl) (by kernel_rfl) (door_met os _))
    (fun W base args ds p hG hval hA hlt => planKeeps_walk W base args ds p hG hval hA hlt)
theorem planKeeps_row : Rows.PlanKeepsSaid :=
  OpenClaim.holds_of_wide 4 Tryd.f4 rfl rfl rfl rfl rfl rfl rfl ⟨rfl, rfl, rfl, rfl, rfl⟩ rfl rfl rfl rfl rfl (by kernel_rfl) Tryd.func4 (by kernel_rfl)
    (of_decide_eq_true (by kernel_rfl)) (by unfold Func.isWrapper; rw [if_neg (of_decide_eq_false (by kernel_rfl))]; exact ⟨rfl, rfl⟩)
    (fun os started H enc _ => planKeeps_lifted os started H enc)
theorem planKeeps_holds : Rows.PlanKeepsCardSaid :=
  Claim7.holds_tied_plain_at .later [] Rows.planKeepsCard.laidKinds true Rows.planKeepsCard.stood.harness false
    planKeeps_row (fun _ h => by cases h) (by kernel_rfl) (fun _ h => by cases h) planKeeps_row_tie rfl ⟨rfl, rfl⟩ (by kernel_rfl) rfl
    (fun f fn hf hfn => by
      obtain rfl : f = 4 := Option.some.inj ((show Tryd.prog.funcNamed Tryd.f4.name = some 4 by kernel_rfl).symm.trans hf) |>.symm
      obtain rfl : fn = Tryd.f4 := (Option.some.inj (Tryd.func4.symm.trans hfn)).symm
      exact ⟨by kernel_rfl, fun j t ht => by
        rw [Tryd.params4] at ht
        have hm : t ∈ [38, 39, 40] := by simpa using Array.mem_of_getElem? ht
        have hall : ([38, 39, 40].all fun u => !Tryd.prog.wantsStandIn u) = true := by kernel_rfl
        exact (show Tryd.prog.wantsStandIn t = false by simpa using List.all_eq_true.1 hall t hm)⟩)
    (by kernel_rfl)
end Go.Proofs.YtecopjehmpjniaaDoor
