/-
  A law of layer 11 holds of every input: UsesNobody. No condition.
-/
import Derived.Test.YtcgbbgljchfbcaaS1
namespace Go.Proofs.Ytcgbbgljchfbcaa
open Go.ChangeShapes Go.WideShapes Go.ChangeAt Go.RowKit Go.Deep Go.Joins
set_option linter.unusedVariables false
set_option linter.unusedSimpArgs false
set_option maxRecDepth 100000

theorem Any.nob {w : World} {v : Value} {S : List Pr} (h : Any w v false S) : Nob w v := by
  rcases h with ⟨_, _, h⟩ | ⟨h, _⟩
  · exact h
  · cases h
theorem own_nob {w : World} {v : Value} (h : Any w v false []) : Calls Try.prog 26 #[v] w fun e w' => e = .returned (.agg #[.map none, .map none]) ∧ Ext w w' := by
  rcases h.nob with rfl | ⟨C, rfl, hb⟩
  · go_enter Try.func26, Try.ntmps26
    go_wp2
    refine bodyPost_ret (v := .agg #[.map none, .map none]) (by simp [results, Try.results26, go_sem, *]) rfl ?_
    refine ⟨rfl, ?_⟩
    ((repeat (with_reducible refine Ext.set ?_ (by simp) _)); exact Ext.alloc _ _)
  · have r := (hb.ext (Ext.alloc w (.cells #[.map none, .map none] 54))).cell
    go_enter Try.func26, Try.ntmps26
    go_wp2
    refine bodyPost_ret (v := .agg #[.map none, .map none]) (by simp [results, Try.results26, go_sem, *]) rfl ?_
    refine ⟨rfl, ?_⟩
    ((repeat (with_reducible refine Ext.set ?_ (by simp) _)); exact Ext.alloc _ _)
theorem those_nob {w : World} {v : Value} (fv : Value) (h : Any w v false []) : Calls Try.prog 27 #[v, fv] w fun e w' => e = .returned (.slice none 0 0) ∧ Ext w w' := by
  go_enter Try.func27, Try.ntmps27
  have f0 := run_f0
  go_wp2_with fail
  refine (own_nob h).mono ?_
  rintro e w1 ⟨rfl, hx⟩
  have HX1 := hide hx
  clear hx
  have hrg := run_range_nilMap (P := Try.prog) w1 52 3 33 Try.underlying52
  have hnx : ∀ ty, (Instr.next (.pointer (some ⟨w1.heap.size, 0, none⟩)) false ty).run Try.prog (w1.alloc (.mapIter none 0 #[] 0)) = _ := fun ty => run_next_nilMap w1 ty 0 0 #[]
  have hcon := fun wr => Proofs.AnyF.slices_SortFunc_none { sortL with } none 0 (.func (.func 31) #[] #[]) wr
  change ∀ wr, Calls Try.prog 30 _ _ _ at hcon
  go_wp2_with fail
  refine wp_loop_rounds 1 ?_
  rw [rounds_succ]
  go_wp2_with (go_at_call 30; refine (hcon _).mono ?_; rintro e w' ⟨rfl, rfl⟩)
  go_ret
  exact ⟨rfl, HX1.out.trans (Ext.alloc _ _)⟩
theorem all_nob {w : World} {v : Value} (h : Any w v false []) : Calls Try.prog 18 #[v] w fun e w' => e = .returned (.slice none 0 0) ∧ Ext w w' := by
  have hth := those_nob (.func (.func 28) #[] #[]) h
  go_enter Try.func18, Try.ntmps18
  go_wp2_with fail
  refine hth.mono ?_
  rintro e w1 ⟨rfl, hx⟩
  clear hth
  go_wp2_with fail
  go_ret
  exact ⟨by simp, hx⟩
theorem of_nob {w : World} {v : Value} (z : Int) (h : Any w v false []) : Calls Try.prog 19 #[v, .int .i64 z] w fun e w' => e = .returned (.slice none 0 0) ∧ Ext w w' := by
  have hx0 := Ext.alloc w (.cells #[.int .i64 z] 3)
  have hth := those_nob (.func (.func 29) #[] #[.pointer (some ⟨w.heap.size, 0, none⟩)]) (h.ext hx0)
  go_enter Try.func19, Try.ntmps19
  go_wp2_with fail
  refine hth.mono ?_
  rintro e w1 ⟨rfl, hx⟩
  clear hth
  go_wp2_with fail
  go_ret
  exact ⟨by simp, hx0.trans hx⟩
set_option maxHeartbeats 4000000 in
theorem lnobody_any (p : Pr) (hs : (ky p.s).wf = true) (ho : (ky p.o).wf = true) (w : World) : Calls Try.prog 5 #[(Value.agg #[.int .i64 p.s, .int .i64 p.o, .int .i64 p.t])] w fun e w' => e = .returned (.bool true) ∧ Ext w w' := by
  have HP := hide (((Blk.new w #[.int .i64 p.s, .int .i64 p.o, .int .i64 p.t] 30).ext (Ext.alloc _ (.cells #[.map none, .map none] 54))).ext (Ext.alloc _ (.cells #[.pointer none, .pointer (some ⟨w.heap.size + 1, 0, none⟩)] 23)))
  have HB := hide ((Blk.new (w.alloc (.cells #[.int .i64 p.s, .int .i64 p.o, .int .i64 p.t] 30)) #[.map none, .map none] 54).ext (Ext.alloc _ (.cells #[.pointer none, .pointer (some ⟨w.heap.size + 1, 0, none⟩)] 23)))
  have HSL := hide (Blk.new ((w.alloc (.cells #[.int .i64 p.s, .int .i64 p.o, .int .i64 p.t] 30)).alloc (.cells #[.map none, .map none] 54)) #[.pointer none, .pointer (some ⟨w.heap.size + 1, 0, none⟩)] 23)
  have hX0 : Ext w (((w.alloc (.cells #[.int .i64 p.s, .int .i64 p.o, .int .i64 p.t] 30)).alloc (.cells #[.map none, .map none] 54)).alloc (.cells #[.pointer none, .pointer (some ⟨w.heap.size + 1, 0, none⟩)] 23)) := ((Ext.alloc _ _).trans (Ext.alloc _ _)).trans (Ext.alloc _ _)
  simp only [World.size_alloc] at HB HSL
  go_enter Try.func5, Try.ntmps5
  go_wp2_with fail
  generalize ((w.alloc (.cells #[.int .i64 p.s, .int .i64 p.o, .int .i64 p.t] 30)).alloc (.cells #[.map none, .map none] 54)).alloc (.cells #[.pointer none, .pointer (some ⟨w.heap.size + 1, 0, none⟩)] 23) = W0 at *
  go_loopw [15] (fun i wr => ∃ j : Nat, j ≤ 2 ∧ i = .int .i64 (j : Int) ∧ Ext W0 wr) (fun i _ => 2 - (intOf i).toNat)
  case atStart => exact ⟨0, by omega, rfl, Ext.refl _⟩
  case round =>
    obtain ⟨j, hj, rfl, hX⟩ := hrel
    rcases (by omega : j = 0 ∨ j = 1 ∨ j = 2) with rfl | rfl | rfl
    · have HN := hide (show Any wr (.pointer none) false [] from .inl ⟨rfl, rfl, .inl rfl⟩)
      have HXR := hide hX
      have bp := ((HP.out.ext hX).cell)
      have bs := ((HSL.out.ext hX).cell)
      go_wp2_with fail
      refine (drop_nob _ HN.out).mono ?_
      rw [show ((Value.agg #[.int .i64 pz.s, .int .i64 pz.o, .int .i64 pz.t])) = Value.agg #[.int .i64 0, .int .i64 0, .int .i64 0] from rfl]
      rintro e w2 ⟨rfl, hx⟩
      have HN := hide ((HN.out.ext hx).ext (Ext.alloc w2 (.cells #[.int .i64 0, .int .i64 0, .int .i64 0] 33)))
      have HZ := hide (Blk.new w2 #[.int .i64 0, .int .i64 0, .int .i64 0] 33)
      have HX2 := hide (hx.trans (Ext.alloc w2 (.cells #[.int .i64 0, .int .i64 0, .int .i64 0] 33)))
      have bp := ((HP.out.ext (HXR.out.trans HX2.out)).cell)
      clear hx bs
      have sl := slot_any HN.out ho
      rw [show slotA [] p.o = 0 from rfl, show slotB [] p.o = false from rfl] at sl
      go_wp2_with fail
      refine sl.mono ?_
      rintro e w3 ⟨rfl, hx⟩
      have HN := hide (HN.out.ext hx)
      have HX3 := hide (HX2.out.trans hx)
      have HZ := hide (HZ.out.ext hx)
      have bp := ((HP.out.ext (HXR.out.trans HX3.out)).cell)
      clear hx sl
      have ob := obj_any HN.out hs
      rw [show objA [] p.s = 0 from rfl, show objB [] p.s = false from rfl] at ob
      go_wp2_with fail
      refine ob.mono ?_
      rintro e w4 ⟨rfl, hx⟩
      have HN := hide (HN.out.ext hx)
      have HX4 := hide (HX3.out.trans hx)
      have HZ := hide (HZ.out.ext hx)
      have rp := ((HP.out.ext (HXR.out.trans HX4.out)).rule)
      have rz := HZ.out.rule
      have hW := Ext.refl w4
      have nq := run_neqP 0 0 0
      clear hx ob bp
      have HA := hide (fun w' (x : Ext w4 w') => add_nob ⟨p.s, p.o, 0⟩ (HN.out.ext x))
      simp only at HA
      have HL := hide (fun w' (x : Ext w4 w') => len_any (HN.out.ext x))
      rw [show (([] : List Pr).length : Int) = 0 from rfl] at HL
      go_wp2_with fail
      refine wp_region_ext (by kernel_rfl) (by kernel_rfl) ?_
      repeat
        with_reducible refine wpQuiet_step (fun K hK => ?_)
        go_simp
        first
        | (refine hK _ ?_; clear hK K)
        | (apply Exists.intro
           refine ⟨fun w1 h1 => ?_, hK _ ?_⟩
           (have hW := Ext.trans2 hW (by repeat (first | exact Ext.refl _ | exact Ext.alloc _ _ | exact Ext.drewN _ _ | assumption | refine Ext.trans ?_ (Ext.alloc _ _) | refine Ext.trans ?_ (Ext.drew _) | refine Ext.trans ?_ (by assumption))) h1; (try have hV := Ext.trans2 hV (by repeat (first | exact Ext.refl _ | exact Ext.alloc _ _ | exact Ext.drewN _ _ | assumption | refine Ext.trans ?_ (Ext.alloc _ _) | refine Ext.trans ?_ (Ext.drew _) | refine Ext.trans ?_ (by assumption))) h1); (first | rfl | (go_simp; done) | (go_simp; rfl) | (first | (go_at_call 12; (with_reducible refine (HA.out _ h1).mono ?_); rintro e w2 ⟨rfl, hb⟩; exact ⟨rfl, h1.trans hb⟩) | (go_at_call 18; (with_reducible refine (all_nob (HN.out.ext h1)).mono ?_); rintro e w2 ⟨rfl, hb⟩; exact ⟨rfl, h1.trans hb⟩) | (go_at_call 19; (with_reducible refine (of_nob _ (HN.out.ext h1)).mono ?_); rintro e w2 ⟨rfl, hb⟩; exact ⟨rfl, h1.trans hb⟩) | (go_at_call 21; (with_reducible refine (HL.out _ h1).mono ?_); rintro e w2 ⟨rfl, hb⟩; exact ⟨rfl, h1.trans hb⟩))))
           clear hK K)
      refine wpQuiet_nil (fun w' hw' => ?_)
      have hW := Ext.trans2 hW (by repeat (first | exact Ext.refl _ | exact Ext.alloc _ _ | exact Ext.drewN _ _ | assumption | refine Ext.trans ?_ (Ext.alloc _ _) | refine Ext.trans ?_ (Ext.drew _) | refine Ext.trans ?_ (by assumption))) hw'
      try have hV := Ext.trans2 hV (by repeat (first | exact Ext.refl _ | exact Ext.alloc _ _ | exact Ext.drewN _ _ | assumption | refine Ext.trans ?_ (Ext.alloc _ _) | refine Ext.trans ?_ (Ext.drew _) | refine Ext.trans ?_ (by assumption))) hw'
      clear hw'
      clear rp rz
      go_wp2_with fail
      go_roundw
      case rel => exact ⟨1, by omega, by go_num, (HXR.out.trans HX4.out).trans hW⟩
      case measure => simp [intOf]
    · have HN := hide (show Any wr (.pointer (some ⟨w.heap.size + 1, 0, none⟩)) false [] from .inl ⟨rfl, rfl, .inr ⟨_, rfl, HB.out.ext hX⟩⟩)
      have HXR := hide hX
      have bp := ((HP.out.ext hX).cell)
      have bs := ((HSL.out.ext hX).cell)
      go_wp2_with fail
      refine (drop_nob _ HN.out).mono ?_
      rw [show ((Value.agg #[.int .i64 pz.s, .int .i64 pz.o, .int .i64 pz.t])) = Value.agg #[.int .i64 0, .int .i64 0, .int .i64 0] from rfl]
      rintro e w2 ⟨rfl, hx⟩
      have HN := hide ((HN.out.ext hx).ext (Ext.alloc w2 (.cells #[.int .i64 0, .int .i64 0, .int .i64 0] 33)))
      have HZ := hide (Blk.new w2 #[.int .i64 0, .int .i64 0, .int .i64 0] 33)
      have HX2 := hide (hx.trans (Ext.alloc w2 (.cells #[.int .i64 0, .int .i64 0, .int .i64 0] 33)))
      have bp := ((HP.out.ext (HXR.out.trans HX2.out)).cell)
      clear hx bs
      have sl := slot_any HN.out ho
      rw [show slotA [] p.o = 0 from rfl, show slotB [] p.o = false from rfl] at sl
      go_wp2_with fail
      refine sl.mono ?_
      rintro e w3 ⟨rfl, hx⟩
      have HN := hide (HN.out.ext hx)
      have HX3 := hide (HX2.out.trans hx)
      have HZ := hide (HZ.out.ext hx)
      have bp := ((HP.out.ext (HXR.out.trans HX3.out)).cell)
      clear hx sl
      have ob := obj_any HN.out hs
      rw [show objA [] p.s = 0 from rfl, show objB [] p.s = false from rfl] at ob
      go_wp2_with fail
      refine ob.mono ?_
      rintro e w4 ⟨rfl, hx⟩
      have HN := hide (HN.out.ext hx)
      have HX4 := hide (HX3.out.trans hx)
      have HZ := hide (HZ.out.ext hx)
      have rp := ((HP.out.ext (HXR.out.trans HX4.out)).rule)
      have rz := HZ.out.rule
      have hW := Ext.refl w4
      have nq := run_neqP 0 0 0
      clear hx ob bp
      have HA := hide (fun w' (x : Ext w4 w') => add_nob ⟨p.s, p.o, 0⟩ (HN.out.ext x))
      simp only at HA
      have HL := hide (fun w' (x : Ext w4 w') => len_any (HN.out.ext x))
      rw [show (([] : List Pr).length : Int) = 0 from rfl] at HL
      go_wp2_with fail
      refine wp_region_ext (by kernel_rfl) (by kernel_rfl) ?_
      repeat
        with_reducible refine wpQuiet_step (fun K hK => ?_)
        go_simp
        first
        | (refine hK _ ?_; clear hK K)
        | (apply Exists.intro
           refine ⟨fun w1 h1 => ?_, hK _ ?_⟩
           (have hW := Ext.trans2 hW (by repeat (first | exact Ext.refl _ | exact Ext.alloc _ _ | exact Ext.drewN _ _ | assumption | refine Ext.trans ?_ (Ext.alloc _ _) | refine Ext.trans ?_ (Ext.drew _) | refine Ext.trans ?_ (by assumption))) h1; (try have hV := Ext.trans2 hV (by repeat (first | exact Ext.refl _ | exact Ext.alloc _ _ | exact Ext.drewN _ _ | assumption | refine Ext.trans ?_ (Ext.alloc _ _) | refine Ext.trans ?_ (Ext.drew _) | refine Ext.trans ?_ (by assumption))) h1); (first | rfl | (go_simp; done) | (go_simp; rfl) | (first | (go_at_call 12; (with_reducible refine (HA.out _ h1).mono ?_); rintro e w2 ⟨rfl, hb⟩; exact ⟨rfl, h1.trans hb⟩) | (go_at_call 18; (with_reducible refine (all_nob (HN.out.ext h1)).mono ?_); rintro e w2 ⟨rfl, hb⟩; exact ⟨rfl, h1.trans hb⟩) | (go_at_call 19; (with_reducible refine (of_nob _ (HN.out.ext h1)).mono ?_); rintro e w2 ⟨rfl, hb⟩; exact ⟨rfl, h1.trans hb⟩) | (go_at_call 21; (with_reducible refine (HL.out _ h1).mono ?_); rintro e w2 ⟨rfl, hb⟩; exact ⟨rfl, h1.trans hb⟩))))
           clear hK K)
      refine wpQuiet_nil (fun w' hw' => ?_)
      have hW := Ext.trans2 hW (by repeat (first | exact Ext.refl _ | exact Ext.alloc _ _ | exact Ext.drewN _ _ | assumption | refine Ext.trans ?_ (Ext.alloc _ _) | refine Ext.trans ?_ (Ext.drew _) | refine Ext.trans ?_ (by assumption))) hw'
      try have hV := Ext.trans2 hV (by repeat (first | exact Ext.refl _ | exact Ext.alloc _ _ | exact Ext.drewN _ _ | assumption | refine Ext.trans ?_ (Ext.alloc _ _) | refine Ext.trans ?_ (Ext.drew _) | refine Ext.trans ?_ (by assumption))) hw'
      clear hw'
      clear rp rz
      go_wp2_with fail
      go_roundw
      case rel => exact ⟨2, by omega, by go_num, (HXR.out.trans HX4.out).trans hW⟩
      case measure => simp [intOf]
    · go_wp2_with fail
      refine (alive_any _).mono ?_
      rintro e w2 ⟨rfl, hx⟩
      go_wp2_with fail
      go_ret
      exact ⟨by simp, hX0.trans (hX.trans hx)⟩

set_option maxRecDepth 100000 in
theorem usesNobody_walk {H : Type} {enc : TypeId × Value → H} (W : World) (base : Nat) (args : Array Value) (ds : List (DataW H)) (p : List MemPlace)
    (hval0 : ∀ (j : Nat) t v, Try.f5.params[j]? = some t → args[j]? = some v → Value.okWide Try.prog W .any base t v)
    (hA0 : DataW.TrodAll enc Try.prog W 0 (fun _ => true) true Try.f5.params.toList args.toList ds p) (_hlt : ∀ x ∈ p, x.block < W.heap.size) :
    Calls Try.prog 5 args W fun e W' => e = .returned (.bool true) ∧ Ext W W' := by
  have hval := hval0
  have hA := hA0
  rw [Try.params5] at hA hval
  clear hval0 hA0
  obtain ⟨v0, d0, rfl, rfl, h0⟩ := trodAll_one hA
  obtain ⟨q, rfl, hs, ho, ht⟩ := open_pair (hval 0 30 v0 rfl rfl) h0
  exact lnobody_any q hs ho W
set_option maxRecDepth 100000 in
theorem usesNobody_lifted (os : Os) (started : os.Started) (H : Type) (enc : TypeId × Value → H) :
    ReturnsInHanded {} Try.checked os 5 .any (Rows.usesNobodySpec.pre6 enc Try.prog Try.f5 Rows.usesNobodyRow.domain false) (Rows.usesNobodySpec.post enc Try.prog Try.f5 false true false false) :=
  law_lifted (fn := Try.f5) 4 os started (by kernel_rfl) Try.func5 rfl rfl Try.underlying4 (hread_of (by kernel_rfl))
    (fun l hl => by
      have hl2 : l.length = 1 := hl
      clear hl
      match l, hl2 with
      | [_], _ => rfl)
    (ChangeSpec.witness6 (enc := enc) (C := Try.checked) false ⟨#[], #[.agg #[.int .i64 0, .int .i64 0, .int .i64 0]], []⟩ 8 (by kernel_rfl) (by kernel_rfl) (by kernel_rfl) (by kernel_rfl))
    (fun W base args ds p hval hA hlt => usesNobody_walk W base args ds p hval hA hlt)
theorem usesNobody_holds : Rows.UsesNobodySaid :=
  OpenClaim.holds_of_wide 5 Try.f5 rfl rfl rfl rfl rfl rfl rfl ⟨rfl, rfl, rfl, rfl, rfl⟩ rfl rfl rfl rfl rfl (by kernel_rfl) Try.func5 (by kernel_rfl)
    (of_decide_eq_true (by kernel_rfl)) (by unfold Func.isWrapper; rw [if_neg (of_decide_eq_false (by kernel_rfl))]; exact ⟨rfl, rfl⟩)
    (fun os started H enc _ => usesNobody_lifted os started H enc)
end Go.Proofs.Ytcgbbgljchfbcaa
