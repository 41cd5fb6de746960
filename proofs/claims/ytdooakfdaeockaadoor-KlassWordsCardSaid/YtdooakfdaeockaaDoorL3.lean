/-
  The three laws of layer 6 (KlassWords, KlassEpochs, KlassCounts) hold of every input: each tied card stands.
  Conditions: the eight package variables of package word (tagField, ageField, epochField, hashField, ownerField, recordField, slotField, genField) hold when the call begins what the program's text lays; the card ties that to the text of the seat's pruned copy by the wider look, and says nothing of code outside that copy. No condition on the input.
-/
import Derived.Test.YtdooakfdaeockaaDoorL2
import Derived.Test.YtdooakfdaeockaaDoorLaid
import Derived.Test.YtdooakfdaeockaaDoorTie
import Derived.Test.YtdooakfdaeockaaDoorCards
import Derived.SevenTiedAt
namespace Go.Proofs.YtdooakfdaeockaaDoor
open Go.ChangeShapes Go.WideShapes Go.ChangeAt Go.RowKit Go.Joins Go.Deep



def laidL : List (String × DataW Unit) := Rows.klassWordsRow.laid

/-- What the row's condition gives the walks. -/
theorem glob_of_laid {W : World} (h : laidMetH Tryd.prog laidL W) : Glob W := by
  rw [MakeChecks.laidMetH_plain _ _ _ (by kernel_rfl)] at h
  obtain ⟨ps, h, _⟩ := h
  obtain ⟨h1, q1, h⟩ := laid_bytes (a := 0) (d := 3) (g := 7) Tryd.underlying61 (by kernel_rfl) (by kernel_rfl) rfl rfl Tryd.underlying5 (by kernel_rfl) (by kernel_rfl) h
  obtain ⟨h2, q2, h⟩ := laid_bytes (a := 3) (d := 4) (g := 2) Tryd.underlying61 (by kernel_rfl) (by kernel_rfl) rfl rfl Tryd.underlying5 (by kernel_rfl) (by kernel_rfl) h
  obtain ⟨h3, q3, h⟩ := laid_bytes (a := 8) (d := 8) (g := 6) Tryd.underlying61 (by kernel_rfl) (by kernel_rfl) rfl rfl Tryd.underlying5 (by kernel_rfl) (by kernel_rfl) h
  obtain ⟨h4, q4, h⟩ := laid_bytes (a := 8) (d := 31) (g := 3) Tryd.underlying61 (by kernel_rfl) (by kernel_rfl) rfl rfl Tryd.underlying5 (by kernel_rfl) (by kernel_rfl) h
  obtain ⟨h5, q5, h⟩ := laid_bytes (a := 24) (d := 16) (g := 1) Tryd.underlying61 (by kernel_rfl) (by kernel_rfl) rfl rfl Tryd.underlying5 (by kernel_rfl) (by kernel_rfl) h
  obtain ⟨h6, q6, h⟩ := laid_bytes (a := 8) (d := 16) (g := 0) Tryd.underlying61 (by kernel_rfl) (by kernel_rfl) rfl rfl Tryd.underlying5 (by kernel_rfl) (by kernel_rfl) h
  obtain ⟨h7, q7, h⟩ := laid_bytes (a := 8) (d := 16) (g := 4) Tryd.underlying61 (by kernel_rfl) (by kernel_rfl) rfl rfl Tryd.underlying5 (by kernel_rfl) (by kernel_rfl) h
  obtain ⟨h8, _, _⟩ := laid_bytes (a := 24) (d := 24) (g := 5) Tryd.underlying61 (by kernel_rfl) (by kernel_rfl) rfl rfl Tryd.underlying5 (by kernel_rfl) (by kernel_rfl) h
  exact ⟨h1, h2, h3, h4, h5, h6, h7, h8⟩

/-- The heap that the program's own start leaves meets the condition. -/
theorem door_met (os : Os) (args : Array Value) : laidMetH Tryd.prog laidL ((World.doorLaid Tryd.prog 100 os).forCall (fun _ _ => 0) ⟨#[], args, []⟩).memory :=
  laidMetH_of_parts3 (fuel := 8) (laidMet_of_run' 8 (by kernel_rfl) (by kernel_rfl)) (by kernel_rfl) (by kernel_rfl)

section
variable {H : Type} {enc : TypeId × Value → H}
theorem law_lifted_laid {f : FuncId} {fn : Func} {s : ChangeSpec} (T : TypeId) (os : Os) (started : os.Started)
    (noInit : Tryd.prog.inits.idxOf? f = none) (hF : Tryd.prog.funcs[f]? = some fn)
    (hvars : s.vars = []) (hres : fn.resultTypes = #[T]) (hT : Tryd.prog.underlying T = some .bool)
    (hread : ∀ t ∈ fn.params.toList, Tryd.prog.readableRec t = true ∧ t < Tryd.prog.types.size)
    (hfn : ∀ l : List (DataW H), l.length = fn.params.size → s.fn H (l ++ []) = { results := [.lit (.bool true)], args := l })
    (witness : ∃ (w : World) (tape : Tape) (i : Input), w.os = os ∧ (w.forCall tape i).Shaped Tryd.checked.prog ∧ i.vars = [] ∧ Input.okWide Tryd.checked.prog (w.forCall tape i) .any w.heap.size f i ∧
      ((s.pre enc Tryd.checked.prog fn [] false (w.forCall tape i).memory i.args ∧ laidMetH Tryd.prog laidL (w.forCall tape i).memory) ∧ sizedMet enc Tryd.checked.prog fn (OpenSpec.ofChange s) false (w.forCall tape i).memory i.args) ∧ ({} : Assume).holds Tryd.checked.prog (lone (Frame.enter Tryd.checked.prog f i.args .normal) [] (w.forCall tape i)))
    (walk : ∀ (W : World) (base : Nat) (args : Array Value) (ds : List (DataW H)) (p : List MemPlace), Glob W →
      (∀ (j : Nat) t v, fn.params[j]? = some t → args[j]? = some v → Value.okWide Tryd.prog W .any base t v) →
      DataW.TrodAll enc Tryd.prog W 0 (fun _ => true) true fn.params.toList args.toList ds p → (∀ x ∈ p, x.block < W.heap.size) →
      Calls Tryd.prog f args W fun e W' => e = .returned (.bool true) ∧ Ext W W') :
    ReturnsInHanded {} Tryd.checked os f .any (fun w args => (s.pre enc Tryd.prog fn [] false w args ∧ laidMetH Tryd.prog laidL w) ∧ sizedMet enc Tryd.prog fn (OpenSpec.ofChange s) false w args) (s.post enc Tryd.prog fn false true false false) := by
  refine returnsInHanded_of_change_and (C := Tryd.checked) (X := fun w _ => laidMetH Tryd.prog laidL w) (fun _ _ _ hh h => h.of_heap hh) own started noInit hF witness ?_
  intro W base args ds gs before hval hW _ _ hL _
  have hW0 : DataW.Whole enc Tryd.prog fn.params.toList s.vars false W args.toList ds gs before := hW
  have hlt : ∀ p ∈ before, p.block < W.heap.size := fun p hp => hW0.lt p hp
  have hW2 := hW0
  obtain ⟨p, q, hA, hV, rfl, _, _⟩ := hW2
  refine (walk W base args ds p (glob_of_laid hL) hval hA (fun x hx => hlt x (List.mem_append_left _ hx))).mono fun e W' ⟨he, hb⟩ => ?_
  subst he
  exact ⟨_, rfl, law_post T hvars hres hT hread hfn hW0 hb⟩
end

theorem bd_u8 {x : Int} (h : (Lit.int .u8 x).wf = true) : 0 ≤ x ∧ x ≤ 255 := by have := bounds_u8 h; omega
theorem bd_u16 {x : Int} (h : (Lit.int .u16 x).wf = true) : 0 ≤ x ∧ x ≤ 65535 := by have := bounds_u16 h; omega
theorem bd_u64 {x : Int} (h : (Lit.int .u64 x).wf = true) : InW x := by have := bounds_u64 h; unfold InW two64; omega

/-- A class that comes in. -/
theorem open_cls {H : Type} {enc : TypeId × Value → H} {W : World} {base : Nat} {v : Value} {d : DataW H} {p : List MemPlace}
    (hv : Value.okWide Tryd.prog W .any base 23 v) (h : DataW.Trod enc Tryd.prog W 0 (fun _ => true) true 23 v d p) :
    ∃ (b : Bool) (e c : Int), v = Value.agg #[.bool (b), .int .u8 (e), .int .i64 (c)] ∧ 0 ≤ e ∧ e ≤ 255 := by
  obtain ⟨cs, n, rfl, hsz, hf⟩ := open_struct Tryd.underlying23 (by kernel_rfl) (by kernel_rfl) hv h
  obtain ⟨l⟩ := cs
  match l, hsz with
  | [c0, c1, c2], _ =>
    obtain ⟨y0, h0⟩ := hf 0 _ c0 rfl rfl
    obtain ⟨y1, h1⟩ := hf 1 _ c1 rfl rfl
    obtain ⟨y2, h2⟩ := hf 2 _ c2 rfl rfl
    obtain ⟨b, e0, _⟩ := DataW.trod_bool Tryd.underlying4 h0
    obtain ⟨e, e1, _, we⟩ := DataW.trod_int Tryd.underlying5 h1
    obtain ⟨c, e2, _, wc⟩ := DataW.trod_int Tryd.underlying3 h2
    simp at e0 e1 e2
    subst e0 e1 e2
    exact ⟨b, e, c, rfl, (bd_u8 we).1, (bd_u8 we).2⟩

theorem klassWords_walk {H : Type} {enc : TypeId × Value → H} (W : World) (base : Nat) (args : Array Value) (ds : List (DataW H)) (p : List MemPlace) (hG : Glob W)
    (hval0 : ∀ (j : Nat) t v, Tryd.f3.params[j]? = some t → args[j]? = some v → Value.okWide Tryd.prog W .any base t v)
    (hA0 : DataW.TrodAll enc Tryd.prog W 0 (fun _ => true) true Tryd.f3.params.toList args.toList ds p) (_hlt : ∀ x ∈ p, x.block < W.heap.size) :
    Calls Tryd.prog 3 args W fun e W' => e = .returned (.bool true) ∧ Ext W W' := by
  have hval := hval0
  have hA := hA0
  rw [Tryd.params3] at hA hval
  clear hval0 hA0
  obtain ⟨v0, v1, d0, d1, p0, p1, hargs, rfl, rfl, h0, h1⟩ := trodAll_two hA
  obtain rfl : args = #[v0, v1] := by cases args; simp_all
  obtain ⟨b, e, c, rfl, e0, e1⟩ := open_cls (hval 0 23 v0 rfl rfl) h0
  obtain ⟨x, rfl, rfl, rfl, wx⟩ := open_int Tryd.underlying24 (hval 1 24 v1 rfl rfl) h1
  exact lwords_any b e c x W hG (bd_u64 wx) e0 e1
set_option maxRecDepth 100000 in
theorem klassWords_lifted (os : Os) (started : os.Started) (H : Type) (enc : TypeId × Value → H) :
    ReturnsInHanded {} Tryd.checked os 3 .any (fun w args => (Rows.klassWordsSpec.pre enc Tryd.prog Tryd.f3 [] false w args ∧ laidMetH Tryd.prog laidL w) ∧ sizedMet enc Tryd.prog Tryd.f3 (OpenSpec.ofChange Rows.klassWordsSpec) false w args) (Rows.klassWordsSpec.post enc Tryd.prog Tryd.f3 false true false false) :=
  law_lifted_laid (fn := Tryd.f3) 4 os started (by kernel_rfl) Tryd.func3 rfl rfl Tryd.underlying4 (hread_of (by kernel_rfl))
    (fun l hl => by
      have hl2 : l.length = 2 := hl
      clear hl
      match l, hl2 with
      | [_, _], _ => rfl)
    (ChangeSpec.witness_shaped (enc := enc) (C := Tryd.checked) (os := os) (X := fun w _ => laidMetH Tryd.prog laidL w) false (World.doorLaid Tryd.prog 100 os) #[Value.agg #[.bool (false), .int .u8 (0), .int .i64 (0)], .int .u64 0] 8 rfl (World.shaped_of_RefB (by kernel_rfl) (by kernel_rfl)) (by kernel_rfl) (by kernel_rfl) (by kernel_rfl) (door_met os _))
    (fun W base args ds p hG hval hA hlt => klassWords_walk W base args ds p hG hval hA hlt)
theorem klassWords_row : Rows.KlassWordsSaid :=
  OpenClaim.holds_of_wide 3 Tryd.f3 rfl rfl rfl rfl rfl rfl rfl ⟨rfl, rfl, rfl, rfl, rfl⟩ rfl rfl rfl rfl rfl (by kernel_rfl) Tryd.func3 (by kernel_rfl)
    (of_decide_eq_true (by kernel_rfl)) (by unfold Func.isWrapper; rw [if_neg (of_decide_eq_false (by kernel_rfl))]; exact ⟨rfl, rfl⟩)
    (fun os started H enc _ => klassWords_lifted os started H enc)
theorem klassWords_holds : Rows.KlassWordsCardSaid :=
  Claim7.holds_tied_plain_at .later [] Rows.klassWordsCard.laidKinds true Rows.klassWordsCard.stood.harness false
    klassWords_row (fun _ h => by cases h) (by kernel_rfl) (fun _ h => by cases h) klassWords_row_tie rfl ⟨rfl, rfl⟩ (by kernel_rfl) rfl
    (fun f fn hf hfn => by
      obtain rfl : f = 3 := Option.some.inj ((show Tryd.prog.funcNamed Tryd.f3.name = some 3 by kernel_rfl).symm.trans hf) |>.symm
      obtain rfl : fn = Tryd.f3 := (Option.some.inj (Tryd.func3.symm.trans hfn)).symm
      exact ⟨by kernel_rfl, fun j t ht => by
        rw [Tryd.params3] at ht
        have hm : t ∈ [23, 24] := by simpa using Array.mem_of_getElem? ht
        have hall : ([23, 24].all fun u => !Tryd.prog.wantsStandIn u) = true := by kernel_rfl
        exact (show Tryd.prog.wantsStandIn t = false by simpa using List.all_eq_true.1 hall t hm)⟩)
    (by kernel_rfl)

theorem klassEpochs_walk {H : Type} {enc : TypeId × Value → H} (W : World) (base : Nat) (args : Array Value) (ds : List (DataW H)) (p : List MemPlace) (hG : Glob W)
    (hval0 : ∀ (j : Nat) t v, Tryd.f4.params[j]? = some t → args[j]? = some v → Value.okWide Tryd.prog W .any base t v)
    (hA0 : DataW.TrodAll enc Tryd.prog W 0 (fun _ => true) true Tryd.f4.params.toList args.toList ds p) (_hlt : ∀ x ∈ p, x.block < W.heap.size) :
    Calls Tryd.prog 4 args W fun e W' => e = .returned (.bool true) ∧ Ext W W' := by
  have hval := hval0
  have hA := hA0
  rw [Tryd.params4] at hA hval
  clear hval0 hA0
  obtain ⟨v0, v1, d0, d1, p0, p1, hargs, rfl, rfl, h0, h1⟩ := trodAll_two hA
  obtain rfl : args = #[v0, v1] := by cases args; simp_all
  obtain ⟨b, e, c, rfl, e0, e1⟩ := open_cls (hval 0 23 v0 rfl rfl) h0
  obtain ⟨x, rfl, rfl, rfl, wx⟩ := open_int Tryd.underlying24 (hval 1 24 v1 rfl rfl) h1
  exact lepochs_any b e c x W hG (bd_u64 wx) e0 e1
set_option maxRecDepth 100000 in
theorem klassEpochs_lifted (os : Os) (started : os.Started) (H : Type) (enc : TypeId × Value → H) :
    ReturnsInHanded {} Tryd.checked os 4 .any (fun w args => (Rows.klassEpochsSpec.pre enc Tryd.prog Tryd.f4 [] false w args ∧ laidMetH Tryd.prog laidL w) ∧ sizedMet enc Tryd.prog Tryd.f4 (OpenSpec.ofChange Rows.klassEpochsSpec) false w args) (Rows.klassEpochsSpec.post enc Tryd.prog Tryd.f4 false true false false) :=
  law_lifted_laid (fn := Tryd.f4) 4 os started (by kernel_rfl) Tryd.func4 rfl rfl Tryd.underlying4 (hread_of (by kernel_rfl))
    (fun l hl => by
      have hl2 : l.length = 2 := hl
      clear hl
      match l, hl2 with
      | [_, _], _ => rfl)
    (ChangeSpec.witness_shaped (enc := enc) (C := Tryd.checked) (os := os) (X := fun w _ => laidMetH Tryd.prog laidL w) false (World.doorLaid Tryd.prog 100 os) #[Value.agg #[.bool (false), .int .u8 (0), .int .i64 (0)], .int .u64 0] 8 rfl (World.shaped_of_RefB (by kernel_rfl) (by kernel_rfl)) (by kernel_rfl) (by kernel_rfl) (by kernel_rfl) (door_met os _))
    (fun W base args ds p hG hval hA hlt => klassEpochs_walk W base args ds p hG hval hA hlt)
theorem klassEpochs_row : Rows.KlassEpochsSaid :=
  OpenClaim.holds_of_wide 4 Tryd.f4 rfl rfl rfl rfl rfl rfl rfl ⟨rfl, rfl, rfl, rfl, rfl⟩ rfl rfl rfl rfl rfl (by kernel_rfl) Tryd.func4 (by kernel_rfl)
    (of_decide_eq_true (by kernel_rfl)) (by unfold Func.isWrapper; rw [if_neg (of_decide_eq_false (by kernel_rfl))]; exact ⟨rfl, rfl⟩)
    (fun os started H enc _ => klassEpochs_lifted os started H enc)
theorem klassEpochs_holds : Rows.KlassEpochsCardSaid :=
  Claim7.holds_tied_plain_at .later [] Rows.klassEpochsCard.laidKinds true Rows.klassEpochsCard.stood.harness false
    klassEpochs_row (fun _ h => by cases h) (by kernel_rfl) (fun _ h => by cases h) klassEpochs_row_tie rfl ⟨rfl, rfl⟩ (by kernel_rfl) rfl
    (fun f fn hf hfn => by
      obtain rfl : f = 4 := Option.some.inj ((show Tryd.prog.funcNamed Tryd.f4.name = some 4 by kernel_rfl).symm.trans hf) |>.symm
      obtain rfl : fn = Tryd.f4 := (Option.some.inj (Tryd.func4.symm.trans hfn)).symm
      exact ⟨by kernel_rfl, fun j t ht => by
        rw [Tryd.params4] at ht
        have hm : t ∈ [23, 24] := by simpa using Array.mem_of_getElem? ht
        have hall : ([23, 24].all fun u => !Tryd.prog.wantsStandIn u) = true := by kernel_rfl
        exact (show Tryd.prog.wantsStandIn t = false by simpa using List.all_eq_true.1 hall t hm)⟩)
    (by kernel_rfl)

theorem klassCounts_walk {H : Type} {enc : TypeId × Value → H} (W : World) (base : Nat) (args : Array Value) (ds : List (DataW H)) (p : List MemPlace) (hG : Glob W)
    (hval0 : ∀ (j : Nat) t v, Tryd.f5.params[j]? = some t → args[j]? = some v → Value.okWide Tryd.prog W .any base t v)
    (hA0 : DataW.TrodAll enc Tryd.prog W 0 (fun _ => true) true Tryd.f5.params.toList args.toList ds p) (_hlt : ∀ x ∈ p, x.block < W.heap.size) :
    Calls Tryd.prog 5 args W fun e W' => e = .returned (.bool true) ∧ Ext W W' := by
  have hval := hval0
  have hA := hA0
  rw [Tryd.params5] at hA hval
  clear hval0 hA0
  obtain ⟨v0, v1, v2, d0, d1, d2, p0, p1, p2, hargs, rfl, rfl, h0, h1, h2⟩ := trodAll_three hA
  obtain rfl : args = #[v0, v1, v2] := by cases args; simp_all
  obtain ⟨x, rfl, rfl, rfl, wx⟩ := open_int Tryd.underlying36 (hval 0 36 v0 rfl rfl) h0
  obtain ⟨y, rfl, rfl, rfl, wy⟩ := open_int Tryd.underlying3 (hval 1 3 v1 rfl rfl) h1
  obtain ⟨z, rfl, rfl, rfl, wz⟩ := open_int Tryd.underlying3 (hval 2 3 v2 rfl rfl) h2
  obtain ⟨M, rfl⟩ := Int.eq_ofNat_of_zero_le (bd_u16 wx).1
  exact lcounts_any M y z W hG (by have := (bd_u16 wx).2; omega)
set_option maxRecDepth 100000 in
theorem klassCounts_lifted (os : Os) (started : os.Started) (H : Type) (enc : TypeId × Value → H) :
    ReturnsInHanded {} Tryd.checked os 5 .any (fun w args => (Rows.klassCountsSpec.pre enc Tryd.prog Tryd.f5 [] false w args ∧ laidMetH Tryd.prog laidL w) ∧ sizedMet enc Tryd.prog Tryd.f5 (OpenSpec.ofChange Rows.klassCountsSpec) false w args) (Rows.klassCountsSpec.post enc Tryd.prog Tryd.f5 false true false false) :=
  law_lifted_laid (fn := Tryd.f5) 4 os started (by kernel_rfl) Tryd.func5 rfl rfl Tryd.underlying4 (hread_of (by kernel_rfl))
    (fun l hl => by
      have hl2 : l.length = 3 := hl
      clear hl
      match l, hl2 with
      | [_, _, _], _ => rfl)
    (ChangeSpec.witness_shaped (enc := enc) (C := Tryd.checked) (os := os) (X := fun w _ => laidMetH Tryd.prog laidL w) false (World.doorLaid Tryd.prog 100 os) #[.int .u16 0, .int .i64 0, .int .i64 0] 8 rfl (World.shaped_of_RefB (by kernel_rfl) (by kernel_rfl)) (by kernel_rfl) (by kernel_rfl) (by kernel_rfl) (door_met os _))
    (fun W base args ds p hG hval hA hlt => klassCounts_walk W base args ds p hG hval hA hlt)
theorem klassCounts_row : Rows.KlassCountsSaid :=
  OpenClaim.holds_of_wide 5 Tryd.f5 rfl rfl rfl rfl rfl rfl rfl ⟨rfl, rfl, rfl, rfl, rfl⟩ rfl rfl rfl rfl rfl (by kernel_rfl) Tryd.func5 (by kernel_rfl)
    (of_decide_eq_true (by kernel_rfl)) (by unfold Func.isWrapper; rw [if_neg (of_decide_eq_false (by kernel_rfl))]; exact ⟨rfl, rfl⟩)
    (fun os started H enc _ => klassCounts_lifted os started H enc)
theorem klassCounts_holds : Rows.KlassCountsCardSaid :=
  Claim7.holds_tied_plain_at .later [] Rows.klassCountsCard.laidKinds true Rows.klassCountsCard.stood.harness false
    klassCounts_row (fun _ h => by cases h) (by kernel_rfl) (fun _ h => by cases h) klassCounts_row_tie rfl ⟨rfl, rfl⟩ (by kernel_rfl) rfl
    (fun f fn hf hfn => by
      obtain rfl : f = 5 := Option.some.inj ((show Tryd.prog.funcNamed Tryd.f5.name = some 5 by kernel_rfl).symm.trans hf) |>.symm
      obtain rfl : fn = Tryd.f5 := (Option.some.inj (Tryd.func5.symm.trans hfn)).symm
      exact ⟨by kernel_rfl, fun j t ht => by
        rw [Tryd.params5] at ht
        have hm : t ∈ [36, 3, 3] := by simpa using Array.mem_of_getElem? ht
        have hall : ([36, 3, 3].all fun u => !Tryd.prog.wantsStandIn u) = true := by kernel_rfl
        exact (show Tryd.prog.wantsStandIn t = false by simpa using List.all_eq_true.1 hall t hm)⟩)
    (by kernel_rfl)
end Go.Proofs.YtdooakfdaeockaaDoor
