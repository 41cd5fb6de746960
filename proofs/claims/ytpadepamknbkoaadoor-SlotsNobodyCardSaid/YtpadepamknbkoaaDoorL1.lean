/-
  A law of layer 10 holds of every input: SlotsNobody: the tied card stands.
  Conditions: the library's table math/bits.deBruijn64tab holds when the call begins what the program's text lays; the card ties that to the text of the seat's pruned copy by the wider look, and says nothing of code outside that copy. No condition on the input.
-/
import Derived.Test.YtpadepamknbkoaaDoorG1
namespace Go.Proofs.YtpadepamknbkoaaDoor
open Go.ChangeShapes Go.WideShapes Go.ChangeAt Go.RowKit Go.Deep Go.Joins
set_option linter.unusedVariables false
set_option maxRecDepth 100000
set_option linter.unusedSimpArgs false


/-- A table that nobody made: nil, or zero. -/
def Nob (w : World) (p : Value) : Prop := p = .pointer none ∨ ∃ M, p = .pointer (some ⟨M, 0, none⟩) ∧ Blk w M (zc 0 0) 63
theorem Nob.ext {w w' : World} {p : Value} (h : Nob w p) (x : Ext w w') : Nob w' p := by
  rcases h with h | ⟨M, h, hb⟩
  · exact .inl h
  · exact .inr ⟨M, h, hb.ext x⟩
theorem nob_c0 {w : World} {M : Nat} (h : Blk w M (zc 0 0) 63) : w.cell? ⟨M, 0, none⟩ = some (.int .i64 0) := (h.cell 0).trans (by rw [show zc 0 0 = zc ((0 : Nat) : Int) ((0 : Nat) : Int) from rfl, zc_cells]; exact tc_0)
theorem nob_c2 {w : World} {M : Nat} (h : Blk w M (zc 0 0) 63) : w.cell? ⟨M, 2, none⟩ = some (.slice none 0 0) := (h.cell 2).trans (by rw [show zc 0 0 = zc ((0 : Nat) : Int) ((0 : Nat) : Int) from rfl, zc_cells]; exact tc_2)
section
variable {w : World} {p : Value}
theorem given_nob (h : Nob w p) : Calls Tryd.prog 35 #[p] w fun e w' => e = .returned (.bool false) ∧ w = w' := by
  rcases h with rfl | ⟨M, rfl, hb⟩
  · go_enter Tryd.func35, Tryd.ntmps35
    go_wp2
    go_ret
    exact ⟨by simp, rfl⟩
  · have r := nob_c0 hb
    clear hb
    go_enter Tryd.func35, Tryd.ntmps35
    go_wp2
    go_ret
    exact ⟨by simp, rfl⟩
theorem all_nob (h : Nob w p) : Calls Tryd.prog 34 #[p] w fun e w' => e = .returned (.slice none 0 0) ∧ w = w' := by
  rcases h with rfl | ⟨M, rfl, hb⟩
  · go_enter Tryd.func34, Tryd.ntmps34
    go_wp2
    go_ret
    exact ⟨by simp, rfl⟩
  · have r := nob_c2 hb
    clear hb
    go_enter Tryd.func34, Tryd.ntmps34
    go_wp2
    go_ret
    exact ⟨by simp, rfl⟩
theorem may_nob (z : Int) (h : Nob w p) : Calls Tryd.prog 25 #[p, .int .i64 z] w fun e w' => e = .returned (.int .i64 2) ∧ w = w' := by
  go_enter Tryd.func25, Tryd.ntmps25
  go_wp2_with fail
  refine (given_nob h).mono ?_
  rintro e w1 ⟨rfl, rfl⟩
  go_wp2_with fail
  go_ret
  exact ⟨by simp, rfl⟩
theorem used_nob (z : Int) (h : Nob w p) : Calls Tryd.prog 21 #[p, .int .i64 z] w fun e w' => e = .returned (.bool false) ∧ Ext w w' := by
  by_cases hz : z < 0
  · go_enter Tryd.func21, Tryd.ntmps21
    go_wp2_with fail
    refine (all_nob h).mono ?_
    rintro e w1 ⟨rfl, rfl⟩
    go_wp2_with fail
    go_ret
    exact ⟨by simp, Ext.refl _⟩
  · have h0 : decide (z < 0) = false := by simp; omega
    go_enter Tryd.func21, Tryd.ntmps21
    go_wp2_with fail
    refine (all_nob h).mono ?_
    rintro e w1 ⟨rfl, rfl⟩
    go_wp2_with fail
    go_ret
    exact ⟨by simp, Ext.refl _⟩
theorem gen_nob (z : Int) (h : Nob w p) : Calls Tryd.prog 22 #[p, .int .i64 z] w fun e w' => e = .returned (.tuple #[.int .u32 0, .int .i64 2]) ∧ Ext w w' := by
  go_enter Tryd.func22, Tryd.ntmps22
  go_wp2_with fail
  refine (given_nob h).mono ?_
  rintro e w1 ⟨rfl, rfl⟩
  go_wp2_with fail
  go_ret2
  exact ⟨by simp, Ext.refl _⟩
theorem check_nob (z g : Int) (h : Nob w p) : Calls Tryd.prog 23 #[p, .int .i64 z, .int .u32 g] w fun e w' => e = .returned (.bool false) ∧ Ext w w' := by
  go_enter Tryd.func23, Tryd.ntmps23
  go_wp2_with fail
  refine (used_nob z h).mono ?_
  rintro e w1 ⟨rfl, hx⟩
  go_wp2_with fail
  go_ret
  exact ⟨by simp, hx⟩
theorem take_nob (z : Int) (h : Nob w p) : Calls Tryd.prog 15 #[p, .int .i64 z] w fun e w' => e = .returned (.tuple #[.int .i64 0, .int .u32 0, .int .i64 2]) ∧ Ext w w' := by
  go_enter Tryd.func15, Tryd.ntmps15
  go_wp2_with fail
  refine (may_nob z h).mono ?_
  rintro e w1 ⟨rfl, rfl⟩
  go_wp2_with fail
  refine bodyPost_ret (v := .tuple #[.int .i64 0, .int .u32 0, .int .i64 2]) (by simp [results, Tryd.results15, go_sem, *]) rfl ⟨rfl, ?_⟩
  exact Ext.refl _
theorem free_nob (z y : Int) (h : Nob w p) : Calls Tryd.prog 11 #[p, .int .i64 z, .int .i64 y] w fun e w' => e = .returned (.int .i64 2) ∧ Ext w w' := by
  go_enter Tryd.func11, Tryd.ntmps11
  go_wp2_with fail
  refine (may_nob z h).mono ?_
  rintro e w1 ⟨rfl, rfl⟩
  go_wp2_with fail
  go_ret
  exact ⟨rfl, Ext.refl _⟩
theorem flush_nob (z : Int) (h : Nob w p) : Calls Tryd.prog 13 #[p, .int .i64 z] w fun e w' => e = .returned (.int .i64 0) ∧ Ext w w' := by
  go_enter Tryd.func13, Tryd.ntmps13
  go_wp2_with fail
  refine (may_nob z h).mono ?_
  rintro e w1 ⟨rfl, rfl⟩
  go_wp2_with fail
  go_ret
  exact ⟨rfl, Ext.refl _⟩
theorem own_nob (z : Int) (h : Nob w p) : Calls Tryd.prog 20 #[p, .int .i64 z] w fun e w' => e = .returned (.slice none 0 0) ∧ Ext w w' := by
  go_enter Tryd.func20, Tryd.ntmps20
  go_wp2_with fail
  refine (may_nob z h).mono ?_
  rintro e w1 ⟨rfl, rfl⟩
  go_wp2_with fail
  go_ret
  exact ⟨rfl, Ext.refl _⟩
theorem left_nob (h : Nob w p) : Calls Tryd.prog 19 #[p] w fun e w' => e = .returned (.int .i64 0) ∧ Ext w w' := by
  go_enter Tryd.func19, Tryd.ntmps19
  go_wp2_with fail
  refine (given_nob h).mono ?_
  rintro e w1 ⟨rfl, rfl⟩
  go_wp2_with fail
  go_ret
  exact ⟨rfl, Ext.refl _⟩
theorem made_nob (h : Nob w p) : Calls Tryd.prog 24 #[p] w fun e w' => e = .returned (.int .i64 0) ∧ Ext w w' := by
  go_enter Tryd.func24, Tryd.ntmps24
  go_wp2_with fail
  refine (given_nob h).mono ?_
  rintro e w1 ⟨rfl, rfl⟩
  go_wp2_with fail
  go_ret
  exact ⟨rfl, Ext.refl _⟩
theorem inuse_nob (h : Nob w p) : Calls Tryd.prog 18 #[p] w fun e w' => e = .returned (.slice none 0 0) ∧ Ext w w' := by
  have hX := Ext.refl w
  go_enter Tryd.func18, Tryd.ntmps18
  go_wp2_with fail
  refine (all_nob h).mono ?_
  rintro e w1 ⟨rfl, rfl⟩
  go_wp2_with fail
  go_loopw [3, 9] (fun v i wr => v = .slice none 0 0 ∧ i = .int .i64 0 ∧ Ext w wr) (fun _ i _ => 0)
  case atStart => exact ⟨rfl, rfl, hX⟩
  case round =>
    clear hX
    obtain ⟨rfl, rfl, hX⟩ := hrel
    go_wp2_with fail
    go_ret
    exact ⟨rfl, hX⟩
end
set_option maxRecDepth 100000 in
set_option maxHeartbeats 8000000 in
theorem lnobody_any (k0 n s : Int) (w : World) (hT : Tb w) : Calls Tryd.prog 6 #[.agg #[.int .u8 k0, .int .i64 n, .int .i64 s]] w fun e w' => e = .returned (.bool true) ∧ Ext w w' := by
  obtain ⟨zz, hz1, hz3, hz4, hz2⟩ : ∃ zz : Array Value, (∀ w, (zeroValue 63).run Tryd.prog w = .ok (.agg zz) w) ∧ ¬ zz = #[] ∧ ¬ zz.size < 2 ∧ zz = zc 0 0 := ⟨_, zv_t, by decide +kernel, by decide +kernel, rfl⟩
  have HZ := hide hz2
  clear hz2
  go_enter Tryd.func6, Tryd.ntmps6
  go_wp2_with fail
  go_loopw [14] (fun i wr => ∃ k : Nat, k ≤ 2 ∧ i = .int .i64 k ∧ Ext w wr ∧ Blk wr w.heap.size #[.int .u8 k0, .int .i64 n, .int .i64 s] 35 ∧ Blk wr (w.heap.size + 1) zz 63 ∧
    Blk wr (w.heap.size + 1 + 1) #[.pointer none, .pointer (some ⟨w.heap.size + 1, 0, none⟩)] 23) (fun i _ => 2 - (intOf i).toNat)
  case atStart =>
    have h1 := Blk.new (w.alloc (Obj.cells #[.int .u8 k0, .int .i64 n, .int .i64 s] 35)) zz 63
    have h2 := Blk.new ((w.alloc (Obj.cells #[.int .u8 k0, .int .i64 n, .int .i64 s] 35)).alloc (Obj.cells zz 63)) #[.pointer none, .pointer (some ⟨w.heap.size + 1, 0, none⟩)] 23
    simp only [World.size_alloc] at h1 h2
    exact ⟨0, by omega, rfl, ((Ext.alloc _ _).trans (Ext.alloc _ _)).trans (Ext.alloc _ _), ((Blk.new w _ _).ext (Ext.alloc _ _)).ext (Ext.alloc _ _), h1.ext (Ext.alloc _ _), h2⟩
  case round =>
    obtain ⟨k, hk, rfl, hX, hb0, hb1, hb2⟩ := hrel
    have r2 := hb2.cell
    have r0 := hb0.cell
    rcases (by omega : k = 0 ∨ k = 1 ∨ k = 2) with rfl | rfl | rfl
    · have hN : Nob wr (.pointer none) := .inl rfl
      go_wp2_with fail
      refine (take_nob _ hN).mono ?_
      rintro e w1 ⟨rfl, hx⟩
      have hN := hN.ext hx
      have hX := hX.trans hx
      have hb0 := hb0.ext hx
      have hb1 := hb1.ext hx
      have hb2 := hb2.ext hx
      have r0 := hb0.cell
      clear hx
      go_wp2_with fail
      refine (gen_nob _ hN).mono ?_
      rintro e w2 ⟨rfl, hx⟩
      have hN := hN.ext hx
      have hX := hX.trans hx
      have hb0 := hb0.ext hx
      have hb1 := hb1.ext hx
      have hb2 := hb2.ext hx
      clear hx r0
      have HN := hide hN
      have HX := hide hX
      have r0 := hb0.rule
      have hW := Ext.refl w2
      clear hN hX
      go_wp2_with fail
      refine wp_region_ext (by kernel_rfl) (by kernel_rfl) ?_
      repeat
        with_reducible refine wpQuiet_step (fun K hK => ?_)
        go_simp
        first
        | (refine hK _ ?_; clear hK K)
        | (apply Exists.intro
           refine ⟨fun w1 h1 => ?_, hK _ ?_⟩
           (have hW := Ext.trans2 hW (by repeat (first | exact Ext.refl _ | exact Ext.alloc _ _ | exact Ext.drewN _ _ | assumption | refine Ext.trans ?_ (Ext.alloc _ _) | refine Ext.trans ?_ (Ext.drew _) | refine Ext.trans ?_ (by assumption))) h1; (try have hV := Ext.trans2 hV (by repeat (first | exact Ext.refl _ | exact Ext.alloc _ _ | exact Ext.drewN _ _ | assumption | refine Ext.trans ?_ (Ext.alloc _ _) | refine Ext.trans ?_ (Ext.drew _) | refine Ext.trans ?_ (by assumption))) h1); (first | rfl | (go_simp; done) | (go_simp; rfl) | first | (go_at_call 11; (with_reducible refine (free_nob _ _ (HN.out.ext hW)).mono ?_); rintro e w4 ⟨rfl, hb⟩; exact ⟨rfl, h1.trans hb⟩) | (go_at_call 21; (with_reducible refine (used_nob _ (HN.out.ext hW)).mono ?_); rintro e w4 ⟨rfl, hb⟩; exact ⟨rfl, h1.trans hb⟩) | (go_at_call 23; (with_reducible refine (check_nob _ _ (HN.out.ext hW)).mono ?_); rintro e w4 ⟨rfl, hb⟩; exact ⟨rfl, h1.trans hb⟩) | (go_at_call 13; (with_reducible refine (flush_nob _ (HN.out.ext hW)).mono ?_); rintro e w4 ⟨rfl, hb⟩; exact ⟨rfl, h1.trans hb⟩) | (go_at_call 18; (with_reducible refine (inuse_nob (HN.out.ext hW)).mono ?_); rintro e w4 ⟨rfl, hb⟩; exact ⟨rfl, h1.trans hb⟩) | (go_at_call 19; (with_reducible refine (left_nob (HN.out.ext hW)).mono ?_); rintro e w4 ⟨rfl, hb⟩; exact ⟨rfl, h1.trans hb⟩) | (go_at_call 20; (with_reducible refine (own_nob _ (HN.out.ext hW)).mono ?_); rintro e w4 ⟨rfl, hb⟩; exact ⟨rfl, h1.trans hb⟩) | (go_at_call 24; (with_reducible refine (made_nob (HN.out.ext hW)).mono ?_); rintro e w4 ⟨rfl, hb⟩; exact ⟨rfl, h1.trans hb⟩)))
           clear hK K)
      refine wpQuiet_nil (fun w' hw' => ?_)
      have hW := Ext.trans2 hW (by repeat (first | exact Ext.refl _ | exact Ext.alloc _ _ | exact Ext.drewN _ _ | assumption | refine Ext.trans ?_ (Ext.alloc _ _) | refine Ext.trans ?_ (Ext.drew _) | refine Ext.trans ?_ (by assumption))) hw'
      try have hV := Ext.trans2 hV (by repeat (first | exact Ext.refl _ | exact Ext.alloc _ _ | exact Ext.drewN _ _ | assumption | refine Ext.trans ?_ (Ext.alloc _ _) | refine Ext.trans ?_ (Ext.drew _) | refine Ext.trans ?_ (by assumption))) hw'
      clear hw'
      have hX := HX.out.trans hW
      have hb0 := hb0.ext hW
      have hb1 := hb1.ext hW
      have hb2 := hb2.ext hW
      clear r0
      go_wp2_with fail
      go_roundw
      case rel => exact ⟨1, by omega, rfl, hX, hb0, hb1, hb2⟩
      case measure => simp [intOf]
    · have hN : Nob wr (.pointer (some ⟨w.heap.size + 1, 0, none⟩)) := .inr ⟨w.heap.size + 1, rfl, by rw [← HZ.out]; exact hb1⟩
      go_wp2_with fail
      refine (take_nob _ hN).mono ?_
      rintro e w1 ⟨rfl, hx⟩
      have hN := hN.ext hx
      have hX := hX.trans hx
      have hb0 := hb0.ext hx
      have hb1 := hb1.ext hx
      have hb2 := hb2.ext hx
      have r0 := hb0.cell
      clear hx
      go_wp2_with fail
      refine (gen_nob _ hN).mono ?_
      rintro e w2 ⟨rfl, hx⟩
      have hN := hN.ext hx
      have hX := hX.trans hx
      have hb0 := hb0.ext hx
      have hb1 := hb1.ext hx
      have hb2 := hb2.ext hx
      clear hx r0
      have HN := hide hN
      have HX := hide hX
      have r0 := hb0.rule
      have hW := Ext.refl w2
      clear hN hX
      go_wp2_with fail
      refine wp_region_ext (by kernel_rfl) (by kernel_rfl) ?_
      repeat
        with_reducible refine wpQuiet_step (fun K hK => ?_)
        go_simp
        first
        | (refine hK _ ?_; clear hK K)
        | (apply Exists.intro
           refine ⟨fun w1 h1 => ?_, hK _ ?_⟩
           (have hW := Ext.trans2 hW (by repeat (first | exact Ext.refl _ | exact Ext.alloc _ _ | exact Ext.drewN _ _ | assumption | refine Ext.trans ?_ (Ext.alloc _ _) | refine Ext.trans ?_ (Ext.drew _) | refine Ext.trans ?_ (by assumption))) h1; (try have hV := Ext.trans2 hV (by repeat (first | exact Ext.refl _ | exact Ext.alloc _ _ | exact Ext.drewN _ _ | assumption | refine Ext.trans ?_ (Ext.alloc _ _) | refine Ext.trans ?_ (Ext.drew _) | refine Ext.trans ?_ (by assumption))) h1); (first | rfl | (go_simp; done) | (go_simp; rfl) | first | (go_at_call 11; (with_reducible refine (free_nob _ _ (HN.out.ext hW)).mono ?_); rintro e w4 ⟨rfl, hb⟩; exact ⟨rfl, h1.trans hb⟩) | (go_at_call 21; (with_reducible refine (used_nob _ (HN.out.ext hW)).mono ?_); rintro e w4 ⟨rfl, hb⟩; exact ⟨rfl, h1.trans hb⟩) | (go_at_call 23; (with_reducible refine (check_nob _ _ (HN.out.ext hW)).mono ?_); rintro e w4 ⟨rfl, hb⟩; exact ⟨rfl, h1.trans hb⟩) | (go_at_call 13; (with_reducible refine (flush_nob _ (HN.out.ext hW)).mono ?_); rintro e w4 ⟨rfl, hb⟩; exact ⟨rfl, h1.trans hb⟩) | (go_at_call 18; (with_reducible refine (inuse_nob (HN.out.ext hW)).mono ?_); rintro e w4 ⟨rfl, hb⟩; exact ⟨rfl, h1.trans hb⟩) | (go_at_call 19; (with_reducible refine (left_nob (HN.out.ext hW)).mono ?_); rintro e w4 ⟨rfl, hb⟩; exact ⟨rfl, h1.trans hb⟩) | (go_at_call 20; (with_reducible refine (own_nob _ (HN.out.ext hW)).mono ?_); rintro e w4 ⟨rfl, hb⟩; exact ⟨rfl, h1.trans hb⟩) | (go_at_call 24; (with_reducible refine (made_nob (HN.out.ext hW)).mono ?_); rintro e w4 ⟨rfl, hb⟩; exact ⟨rfl, h1.trans hb⟩)))
           clear hK K)
      refine wpQuiet_nil (fun w' hw' => ?_)
      have hW := Ext.trans2 hW (by repeat (first | exact Ext.refl _ | exact Ext.alloc _ _ | exact Ext.drewN _ _ | assumption | refine Ext.trans ?_ (Ext.alloc _ _) | refine Ext.trans ?_ (Ext.drew _) | refine Ext.trans ?_ (by assumption))) hw'
      try have hV := Ext.trans2 hV (by repeat (first | exact Ext.refl _ | exact Ext.alloc _ _ | exact Ext.drewN _ _ | assumption | refine Ext.trans ?_ (Ext.alloc _ _) | refine Ext.trans ?_ (Ext.drew _) | refine Ext.trans ?_ (by assumption))) hw'
      clear hw'
      have hX := HX.out.trans hW
      have hb0 := hb0.ext hW
      have hb1 := hb1.ext hW
      have hb2 := hb2.ext hW
      clear r0
      go_wp2_with fail
      go_roundw
      case rel => exact ⟨2, by omega, rfl, hX, hb0, hb1, hb2⟩
      case measure => simp [intOf]
    · go_wp2_with fail
      refine (alive_any _ (hT.ext hX)).mono ?_
      rintro e w1 ⟨rfl, hx⟩
      go_wp2_with fail
      go_ret
      exact ⟨rfl, hX.trans hx⟩

theorem open_step {H : Type} {enc : TypeId × Value → H} {W : World} {base : Nat} {v : Value} {d : DataW H} {p : List MemPlace} (hv : Value.okWide Tryd.prog W .any base 35 v)
    (h : DataW.Trod enc Tryd.prog W 0 (fun _ => true) true 35 v d p) : ∃ s : Stp, v = .agg (sc s) := by
  obtain ⟨cs, rfl, hsz⟩ := okWide_struct Tryd.underlying35 hv
  obtain ⟨fuel, hf⟩ := h
  have hc : Tryd.prog.cellsOf 35 = 3 := by kernel_rfl
  have hcc : (Value.agg cs).cells = cs := rfl
  rw [hcc] at hf
  obtain ⟨s, e, _⟩ := open_cells (by simpa using hsz.trans hc) hf
  exact ⟨s, by rw [show cs = sc s from Array.toList_inj.1 e]⟩
theorem slotsNobody_walk {H : Type} {enc : TypeId × Value → H} (W : World) (base : Nat) (args : Array Value) (ds : List (DataW H)) (p : List MemPlace) (hG : Tb W)
    (hval0 : ∀ (j : Nat) t v, Tryd.f6.params[j]? = some t → args[j]? = some v → Value.okWide Tryd.prog W .any base t v)
    (hA0 : DataW.TrodAll enc Tryd.prog W 0 (fun _ => true) true Tryd.f6.params.toList args.toList ds p) (_hlt : ∀ x ∈ p, x.block < W.heap.size) :
    Calls Tryd.prog 6 args W fun e W' => e = .returned (.bool true) ∧ Ext W W' := by
  have hval := hval0
  have hA := hA0
  rw [Tryd.params6] at hA hval
  clear hval0 hA0
  obtain ⟨v0, d0, hargs, rfl, h0⟩ := trodAll_one hA
  obtain rfl : args = #[v0] := by cases args; simp_all
  obtain ⟨x, rfl⟩ := open_step (hval 0 35 v0 rfl rfl) h0
  exact lnobody_any x.k x.n x.s W hG
set_option maxRecDepth 100000 in
theorem slotsNobody_lifted (os : Os) (started : os.Started) (H : Type) (enc : TypeId × Value → H) :
    ReturnsInHanded {} Tryd.checked os 6 .any (fun w args => (Rows.slotsNobodySpec.pre enc Tryd.prog Tryd.f6 [] false w args ∧ laidMetH Tryd.prog laidL w) ∧ sizedMet enc Tryd.prog Tryd.f6 (OpenSpec.ofChange Rows.slotsNobodySpec) false w args) (Rows.slotsNobodySpec.post enc Tryd.prog Tryd.f6 false true false false) :=
  law_lifted_laid (fn := Tryd.f6) 4 os started (by kernel_rfl) Tryd.func6 rfl rfl Tryd.underlying4 (hread_of (by kernel_rfl))
    (fun l hl => by
      have hl2 : l.length = 1 := hl
      clear hl
      match l, hl2 with
      | [_], _ => rfl)
    (ChangeSpec.witness_shaped (enc := enc) (C := Tryd.checked) (os := os) (X := fun w _ => laidMetH Tryd.prog laidL w) false (World.doorLaid Tryd.prog 100 os) #[.agg #[.int .u8 0, .int .i64 0, .int .i64 0]] 8 rfl (World.shaped_of_RefB (by kernel_rfl) (by kernel_rfl)) (by kernel_rfl) (by kernel_rfl) (by kernel_rfl) (door_met os _))
    (fun W base args ds p hG hval hA hlt => slotsNobody_walk W base args ds p hG hval hA hlt)
theorem slotsNobody_row : Rows.SlotsNobodySaid :=
  OpenClaim.holds_of_wide 6 Tryd.f6 rfl rfl rfl rfl rfl rfl rfl ⟨rfl, rfl, rfl, rfl, rfl⟩ rfl rfl rfl rfl rfl (by kernel_rfl) Tryd.func6 (by kernel_rfl)
    (of_decide_eq_true (by kernel_rfl)) (by unfold Func.isWrapper; rw [if_neg (of_decide_eq_false (by kernel_rfl))]; exact ⟨rfl, rfl⟩)
    (fun os started H enc _ => slotsNobody_lifted os started H enc)
theorem slotsNobody_holds : Rows.SlotsNobodyCardSaid :=
  Claim7.holds_tied_plain_at .later [] Rows.slotsNobodyCard.laidKinds true Rows.slotsNobodyCard.stood.harness false
    slotsNobody_row (fun _ h => by cases h) (by kernel_rfl) (fun _ h => by cases h) slotsNobody_row_tie rfl ⟨rfl, rfl⟩ (by kernel_rfl) rfl
    (fun f fn hf hfn => by
      obtain rfl : f = 6 := Option.some.inj ((show Tryd.prog.funcNamed Tryd.f6.name = some 6 by kernel_rfl).symm.trans hf) |>.symm
      obtain rfl : fn = Tryd.f6 := (Option.some.inj (Tryd.func6.symm.trans hfn)).symm
      exact ⟨by kernel_rfl, fun j t ht => by
        rw [Tryd.params6] at ht
        have hm : t ∈ [35] := by simpa using Array.mem_of_getElem? ht
        have hall : ([35].all fun u => !Tryd.prog.wantsStandIn u) = true := by kernel_rfl
        exact (show Tryd.prog.wantsStandIn t = false by simpa using List.all_eq_true.1 hall t hm)⟩)
    (by kernel_rfl)
end Go.Proofs.YtpadepamknbkoaaDoor
