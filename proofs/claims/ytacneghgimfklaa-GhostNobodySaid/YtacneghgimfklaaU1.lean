/-
  A law of layer 15 holds of every input: GhostNobody. No condition.
-/
import Derived.Test.YtacneghgimfklaaV1
namespace Go.Proofs.Ytacneghgimfklaa
open Go.ChangeShapes Go.WideShapes Go.ChangeAt Go.RowKit Go.Deep Go.Joins
set_option linter.unusedVariables false
set_option linter.unusedSimpArgs false
set_option maxRecDepth 100000
set_option maxHeartbeats 8000000



theorem neq_op0 (w : World) : Sem.run Try.prog (binOp .neq 27 (.agg #[.int .i64 0, .int .i64 0, .int .i64 0]) (.agg #[.int .i64 0, .int .i64 0, .int .i64 0])) w = .ok (.bool false) w := by kernel_rfl
def nX : Ent := ⟨1, 0, 0, 1, 0, 0, 0, 0, 0, 0, 0, 0, 0⟩
def nS : St := st0 1 1 1
theorem no_1 : takeB nS D0 nX = true ∧ takeS nS D0 nX = nS := ⟨by decide, by unfold takeS; rw [if_neg (by simp [nX])]⟩
theorem no_2 : ownA true nS 0 = -1 := by decide
/-- The first entry of a row of one. -/
theorem one_row {w : World} {B : Nat} {v : Value} {x : Ent} (h : w.ownsRow B 36 13 v 1 (ecl [x])) : ∃ g c, v = .slice (some ⟨g, 0, none⟩) 1 c ∧ B ≤ g ∧ g < w.heap.size ∧ w.cell? ⟨g, 0, none⟩ = some (.int .i64 x.kd) ∧ w.frozen? ⟨g, 0, none⟩ = false := by
  rcases h.2 with ⟨_, h0⟩ | ⟨g, cap, cur, rfl, hb, hh, h3, h4, h5, h6⟩
  · omega
  · refine ⟨g, cap, rfl, hb, ?_, ?_, ?_⟩
    · have := Array.getElem?_eq_some_iff.1 hh; exact this.1
    · have h1 : (cur.toList.take (1 * 13))[0]? = (ecl [x])[0]? := by rw [h6]
      rw [List.getElem?_take_of_lt (by omega)] at h1
      rw [cell_of_row w g 0 cur 36 (0, 0) hh, ← Array.getElem?_toList, h1]; rfl
    · exact Blk.free (show Blk w g cur 36 from hh) 0
theorem inf_re (x : Ent) : (Try.prog.info? 31).map (·.size) = some (ec x).toList.length := by kernel_rfl
theorem rec_rng {w : World} {b : Nat} {x : Ent} (h : Blk w b (ec x) 31) : w.rangeAt b 0 (ec x).toList := fun j v hv => by rw [Nat.zero_add, h.cell, ← hv, Array.getElem?_toList]
theorem lnobody_any (x : Ent) (w : World) : Calls Try.prog 5 #[.agg (ec x)] w fun e w' => e = .returned (.bool true) ∧ Ext w w' := by
  have BU := built_l0
  have HB := hide (Blk.new w (ec x) 31)
  have HX := hide (Ext.alloc w (.cells (ec x) 31))
  have lw : w.heap.size < (w.alloc (.cells (ec x) 31)).heap.size := by simp
  obtain ⟨zl, hzl⟩ : ∃ zl, zl = gl 0 0 none D0 [.slice none 0 0] := ⟨_, rfl⟩
  rw [← hzl] at BU
  have HZ := hide hzl
  clear hzl
  go_enter Try.func5, Try.ntmps5
  go_upto_region 1 with fail
  generalize w.alloc (.cells (ec x) 31) = W0 at *
  go_wp2_with (with_reducible refine wpList_build rfl 71 _ rfl ?_ ?_; (simp [Act.eval, BU]); (simp [Act.eval, BU]; go_frame))
  have HL := hide ((Blk.new W0 zl 71).ext (Ext.alloc _ (.cells #[.pointer none, .pointer (some ⟨W0.heap.size, 0, none⟩)] 56)))
  have HP := hide (Blk.new (W0.alloc (.cells zl 71)) #[.pointer none, .pointer (some ⟨W0.heap.size, 0, none⟩)] 56)
  have HB := hide ((HB.out.ext (Ext.alloc W0 (.cells zl 71))).ext (Ext.alloc _ (.cells #[.pointer none, .pointer (some ⟨W0.heap.size, 0, none⟩)] 56)))
  have HX := hide ((HX.out.trans (Ext.alloc W0 (.cells zl 71))).trans (Ext.alloc _ (.cells #[.pointer none, .pointer (some ⟨W0.heap.size, 0, none⟩)] 56)))
  have hs0 : (W0.alloc (.cells zl 71)).heap.size = W0.heap.size + 1 := by simp
  rw [hs0] at HP
  generalize (W0.alloc (.cells zl 71)).alloc (.cells #[.pointer none, .pointer (some ⟨W0.heap.size, 0, none⟩)] 56) = W1 at *
  clear hs0 BU
  go_loopw [15] (fun i wr => ∃ j : Nat, j ≤ 2 ∧ i = .int .i64 (j : Int) ∧ Ext W1 wr) (fun i _ => 2 - (intOf i).toNat)
  case atStart => exact ⟨0, by omega, rfl, Ext.refl _⟩
  case round =>
    obtain ⟨j, hj, rfl, hX⟩ := hrel
    by_cases h2 : j = 2
    · subst h2
      clear hj
      have HX := hide (HX.out.trans hX)
      clear hX HL HP HB HZ
      have hn := gnew_ok (n := 1) (m := 1) (k := 1) (by decide) wr
      rw [show st0 1 1 1 = nS from rfl] at hn
      go_wp2_with fail
      refine hn.mono ?_
      rintro e w1 ⟨C, MB, W, L, rfl, hm, hC, hB, hW, hL, hX1⟩
      have hg : GT w1 wr.heap.size C MB W L (.slice none 0 0) nS D0 [] := ⟨hm, own_nil _ _ _ _, hC, hB, hW, hL⟩
      have HX1 := hide hX1
      clear hm hn hX1 hC hB hW hL
      have c1 := add_any hg nX wf0 bd_0 (by omega) (by simp) HX1.out.size
      rw [no_1.1, no_1.2] at c1
      generalize takeD nS D0 nX = D1 at *
      simp only [ec, nX, if_true] at c1
      clear hg
      go_wp2_with fail
      refine c1.mono ?_
      rintro e w2 ⟨rfl, ⟨v2, hg⟩, hu⟩
      have HX2 := hide (HX1.out.up hu (Nat.le_refl _))
      have HG2 := hide hg
      clear c1 hu hg HX1
      go_wp2_with fail
      refine (gall_any HG2.out (by simp)).mono ?_
      rintro e w3 ⟨v3, rfl, ho3, hx3⟩
      obtain ⟨g, c, rfl, hgb, hgl, hg0, hgf⟩ := one_row ho3
      have x4 := hx3.set (p := ⟨g, 0, none⟩) hgb (.int .i64 9)
      have HG4 := hide (HG2.out.ext x4)
      have HX4 := hide (HX2.out.trans x4)
      clear hx3 ho3 hgb HX2 x4
      go_wp2_with fail
      clear hg0 hgf HG2
      generalize w3.setCell ⟨g, 0, none⟩ (.int .i64 9) = w4 at *
      refine (gmodel_any HG4.out.c).mono ?_
      rintro e w5 ⟨B5, W5, L5, rfl, hm5, l1, l2, l3, hx5⟩
      have HM5 := hide hm5
      have HX5 := hide hx5
      have LT5 := hide (And.intro l1 (And.intro l2 l3))
      clear hm5 hx5 l1 l2 l3
      go_wp2_with fail
      refine (apply_any HM5.out 1 0 0 0 0 wf0).mono ?_
      rintro e w6 ⟨rfl, hm6, hc6⟩
      have x6 := HX5.out.turn hc6 (by have := LT5.out; simp; omega)
      have HG6 := hide (HG4.out.ext x6)
      have HX6 := hide (HX4.out.trans x6)
      clear hm6 hc6 x6 HX5 HM5 HX4 HG4
      go_wp2_with fail
      refine (gall_any HG6.out (by simp)).mono ?_
      rintro e w7 ⟨v7, rfl, ho7, hx7⟩
      obtain ⟨g7, c7, rfl, hgb7, hgl7, hg07, -⟩ := one_row ho7
      have HG7 := hide (HG6.out.ext hx7)
      have HX7 := hide (HX6.out.trans hx7)
      clear hx7 ho7 hgb7 HX6 HG6
      have hg07 : w7.cell? ⟨g7, 0, none⟩ = some (.int .i64 1) := hg07
      go_wp2_with fail
      refine (gmodel_any HG7.out.c).mono ?_
      rintro e w8 ⟨B8, W8, L8, rfl, hm8, l1, l2, l3, hx8⟩
      have HM8 := hide hm8
      have HX8 := hide (HX7.out.trans hx8)
      clear hm8 hx8 l1 l2 l3 HX7 HG7
      go_wp2_with fail
      have co := owner_any HM8.out.any 0
      rw [no_2] at co
      refine co.mono ?_
      rintro e w9 ⟨rfl, hx9⟩
      have HX9 := hide (HX8.out.trans hx9)
      clear hx9 HX8 HM8 co
      go_wp2_with fail
      refine (alive_any _).mono ?_
      rintro e w10 ⟨rfl, hx10⟩
      have HX10 := hide (HX9.out.trans hx10)
      clear hx10 HX9
      go_wp2_with fail
      go_ret
      exact ⟨by simp, HX.out.trans HX10.out⟩
    · have hj2 : j < 2 := by omega
      have c0 := ((HB.out.ext hX).cell 1).trans (show (ec x)[1]? = some (Value.int .i64 x.th) from rfl)
      have RG := hide (rec_rng (HB.out.ext hX))
      obtain ⟨p, hp, hN⟩ : ∃ p, wr.cell? ⟨W0.heap.size + 1, j, none⟩ = some p ∧ NobL wr p := by
        have hP := (HP.out.ext hX).cell
        rcases (by omega : j = 0 ∨ j = 1) with rfl | rfl
        · exact ⟨_, (hP 0).trans rfl, .inl rfl⟩
        · refine ⟨_, (hP 1).trans rfl, .inr ⟨_, rfl, ?_⟩⟩
          rw [← HZ.out]
          exact HL.out.ext hX
      have HN := hide hN
      have HXr := hide hX
      clear hN hX
      have nq := neq_op0
      have j2 : (j : Int) < 2 := by omega
      go_wp2_with (with_reducible refine wpList_load_mid rfl 31 _ rfl w.heap.size 0 rfl (ec x).toList _ RG.out Try.underlying31 rfl (inf_re x) ?_; rw [Array.toArray_toList]; go_frame)
      refine (open_no HN.out x.th).mono ?_
      rintro e w2 ⟨rfl, hx⟩
      have HN := hide (HN.out.ext hx)
      have HXr := hide (HXr.out.trans hx)
      have xo := Ext.alloc w2 (.cells #[.int .i64 0, .int .i64 0, .int .i64 0] 27)
      have RG := hide (rec_rng ((HB.out.ext HXr.out).ext xo))
      have HXr := hide (HXr.out.trans xo)
      have HN := hide (HN.out.ext xo)
      clear hx c0 hp xo
      have ho := (Blk.new w2 #[.int .i64 0, .int .i64 0, .int .i64 0] 27)
      have HO := hide ho
      have lo := ho.lt
      clear ho
      go_wp2_with (with_reducible refine wpList_load_mid rfl 31 _ rfl w.heap.size 0 rfl (ec x).toList _ RG.out Try.underlying31 rfl (inf_re x) ?_; rw [Array.toArray_toList]; go_frame)
      generalize w2.alloc (.cells #[.int .i64 0, .int .i64 0, .int .i64 0] 27) = w2a at *
      refine (theirs_any x _).mono ?_
      rintro e w3 ⟨rfl, hx⟩
      have HN := hide (HN.out.ext hx)
      have HXr := hide (HXr.out.trans hx)
      have HO := hide (HO.out.ext hx)
      clear hx
      go_wp2_with fail
      refine (add_no HN.out x).mono ?_
      rintro e w4 ⟨rfl, hx⟩
      have HN := hide (HN.out.ext hx)
      have HXr := hide (HXr.out.trans hx)
      have HO := hide (HO.out.ext hx)
      clear hx
      go_wp2_with fail
      refine (gall_no HN.out).mono ?_
      rintro e w5 ⟨rfl, rfl⟩
      go_wp2_with fail
      refine (glen_no HN.out).mono ?_
      rintro e w5 ⟨rfl, rfl⟩
      have o0 := (HO.out.cell 0).trans rfl
      have o1 := (HO.out.cell 1).trans rfl
      have o2 := (HO.out.cell 2).trans rfl
      go_wp2_with fail
      refine (gmodel_no HN.out).mono ?_
      rintro e w5 ⟨rfl, rfl⟩
      go_wp2_with fail
      go_roundw
      case rel => exact ⟨j + 1, by omega, by go_num, HXr.out⟩
      case measure => simp [intOf]; omega
set_option maxRecDepth 100000 in
theorem ghostNobody_walk {H : Type} {enc : TypeId × Value → H} (W : World) (base : Nat) (args : Array Value) (ds : List (DataW H)) (p : List MemPlace)
    (hval0 : ∀ (j : Nat) t v, Try.f5.params[j]? = some t → args[j]? = some v → Value.okWide Try.prog W .any base t v)
    (hA0 : DataW.TrodAll enc Try.prog W 0 (fun _ => true) true Try.f5.params.toList args.toList ds p) (_hlt : ∀ x ∈ p, x.block < W.heap.size) :
    Calls Try.prog 5 args W fun e W' => e = .returned (.bool true) ∧ Ext W W' := by
  have hval := hval0
  have hA := hA0
  rw [Try.params5] at hA hval
  clear hval0 hA0
  obtain ⟨v0, d0, rfl, rfl, h0⟩ := trodAll_one hA
  obtain ⟨x, rfl, hx⟩ := open_ent (hval 0 31 v0 rfl rfl) h0
  exact lnobody_any x W
set_option maxRecDepth 100000 in
theorem ghostNobody_lifted (os : Os) (started : os.Started) (H : Type) (enc : TypeId × Value → H) :
    ReturnsInHanded {} Try.checked os 5 .any (Rows.ghostNobodySpec.pre6 enc Try.prog Try.f5 Rows.ghostNobodyRow.domain false) (Rows.ghostNobodySpec.post enc Try.prog Try.f5 false true false false) :=
  law_lifted (fn := Try.f5) 4 os started (by kernel_rfl) Try.func5 rfl rfl Try.underlying4 (hread_of (by kernel_rfl))
    (fun l hl => by
      have hl2 : l.length = 1 := hl
      clear hl
      match l, hl2 with
      | [_], _ => rfl)
    (ChangeSpec.witness6 (enc := enc) (C := Try.checked) false ⟨#[], #[.agg (ec default)], []⟩ 8 (by kernel_rfl) (by kernel_rfl) (by kernel_rfl) (by kernel_rfl))
    (fun W base args ds p hval hA hlt => ghostNobody_walk W base args ds p hval hA hlt)
theorem ghostNobody_holds : Rows.GhostNobodySaid :=
  OpenClaim.holds_of_wide 5 Try.f5 rfl rfl rfl rfl rfl rfl rfl ⟨rfl, rfl, rfl, rfl, rfl⟩ rfl rfl rfl rfl rfl (by kernel_rfl) Try.func5 (by kernel_rfl)
    (of_decide_eq_true (by kernel_rfl)) (by unfold Func.isWrapper; rw [if_neg (of_decide_eq_false (by kernel_rfl))]; exact ⟨rfl, rfl⟩)
    (fun os started H enc _ => ghostNobody_lifted os started H enc)
end Go.Proofs.Ytacneghgimfklaa
