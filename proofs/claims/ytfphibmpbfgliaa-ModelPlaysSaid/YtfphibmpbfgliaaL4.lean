/-
  A law of layer 14 holds of every input: ModelPlays. No condition.
-/
import Derived.Test.YtfphibmpbfgliaaS1
import Derived.Test.YtfphibmpbfgliaaT1
import Derived.Test.YtfphibmpbfgliaaR19
import Derived.Test.YtfphibmpbfgliaaR20
namespace Go.Proofs.Ytfphibmpbfgliaa
open Go.ChangeShapes Go.WideShapes Go.ChangeAt Go.RowKit Go.Deep Go.Joins
set_option linter.unusedVariables false
set_option linter.unusedSimpArgs false
set_option maxRecDepth 100000
set_option maxHeartbeats 8000000



theorem plays_no {a b c : Int} (h : okN a b c = false) (v : Value) (w : World) : Calls Try.prog 3 #[.agg #[Value.int .i64 a, .int .i64 b, .int .i64 c], v] w fun e w' => e = .returned (.bool true) ∧ Ext w w' := by
  have cn := fun w' => new_no h w'
  have cr := fun w' => rnew_no h w'
  generalize st0 0 0 0 = S0 at *
  clear h
  obtain ⟨zz, hz1, hz2, hz3, hz4, -⟩ : ∃ zz : Array Value, (∀ w, (zeroValue 35).run Try.prog w = .ok (.agg zz) w) ∧ ¬ zz = #[] ∧ ¬ zz.size < 2 ∧ zz.size = 227 ∧ zz = zr := ⟨_, fun w => by kernel_rfl, by decide +kernel, by decide +kernel, by decide +kernel, rfl⟩
  have HZ := hide hz4
  clear hz4
  have r0 := (Blk.new w #[Value.int .i64 a, .int .i64 b, .int .i64 c] 22).cell
  have hx0 := Ext.alloc w (.cells #[Value.int .i64 a, .int .i64 b, .int .i64 c] 22)
  have HA0 := hide (Blk.new w #[Value.int .i64 a, .int .i64 b, .int .i64 c] 22)
  go_enter Try.func3, Try.ntmps3
  go_wp2_with fail
  refine (cn _).mono ?_
  rintro e w1 ⟨rfl, rfl⟩
  go_wp2_with fail
  refine (cr _).mono ?_
  rintro e w2 ⟨rfl, hx2⟩
  have HX2 := hide (hx0.trans hx2)
  clear hx0 hx2 r0 HA0
  go_wp2_with (first | (refine wpList_put rfl _ _ rfl w2.heap.size S0 rfl rfl zz (Blk.new w2 zz 35) HZ.out ?_; intro W3 hb3 hc3 hs3; have HX3 := hide (HX2.out.turn (((Ext.alloc w2 (.cells zz 35)).chg [w2.heap.size]).trans hc3) (by have := HX2.out.size; simp; omega)); clear hb3 hc3 hs3; go_frame))
  refine (alive_any _).mono ?_
  rintro e w4 ⟨rfl, hx4⟩
  go_wp2_with fail
  go_ret
  exact ⟨by simp, HX3.out.trans hx4⟩
theorem plays_ok {a b c : Nat} (h : okN a b c = true) (A : Option Addr) (n cc : Nat) (f : Nat → Evt) (w : World) (hn : n ≤ cc) (hc' : cc ≤ maxLen) (hs : Stps w w.heap.size A n f) (hf : ∀ k, k < n → Okst (f k)) :
    Calls Try.prog 3 #[.agg #[Value.int .i64 (a : Int), .int .i64 (b : Int), .int .i64 (c : Int)], .slice A n cc] w fun e w' => e = .returned (.bool true) ∧ Ext w w' := by
  have HF := hide hf
  clear hf
  have cn := fun w' => new_ok h w'
  have cr := fun w' => rnew_ok h w'
  generalize st0 a b c = S0 at *
  generalize (a : Int) = a at *
  generalize (b : Int) = b at *
  generalize (c : Int) = c at *
  clear h
  obtain ⟨zz, hz1, hz2, hz3, hz4, -⟩ : ∃ zz : Array Value, (∀ w, (zeroValue 35).run Try.prog w = .ok (.agg zz) w) ∧ ¬ zz = #[] ∧ ¬ zz.size < 2 ∧ zz.size = 227 ∧ zz = zr := ⟨_, fun w => by kernel_rfl, by decide +kernel, by decide +kernel, by decide +kernel, rfl⟩
  have HZ := hide hz4
  clear hz4
  have r0 := (Blk.new w #[Value.int .i64 a, .int .i64 b, .int .i64 c] 22).cell
  have hx0 := Ext.alloc w (.cells #[Value.int .i64 a, .int .i64 b, .int .i64 c] 22)
  have HA0 := hide (Blk.new w #[Value.int .i64 a, .int .i64 b, .int .i64 c] 22)
  go_enter Try.func3, Try.ntmps3
  go_wp2_with fail
  refine (cn _).mono ?_
  rintro e w1 ⟨B, W, L, rfl, hm1, hB, hW, hL, hx1⟩
  simp only [World.size_alloc] at hB hW hL
  have r0 := (HA0.out.ext hx1).cell
  go_wp2_with fail
  refine (cr _).mono ?_
  rintro e w2 ⟨rfl, hx2⟩
  have HX2 := hide ((hx0.trans hx1).trans hx2)
  have HM2 := hide (hm1.ext hx2)
  have l2 := HM2.out.lt
  clear hx0 hx1 hx2 r0 HA0 hm1 cn cr
  go_wp2_with (first | (refine wpList_put rfl _ _ rfl w2.heap.size S0 rfl rfl zz (Blk.new w2 zz 35) HZ.out ?_; intro W3 hb3 hc3 hs3; have hc4 := ((Ext.alloc w2 (.cells zz 35)).chg [w2.heap.size]).trans hc3; have HX3 := hide (HX2.out.turn hc4 (by have := HX2.out.size; simp; omega)); have HM3 := hide (HM2.out.chg hc4 (by simp; omega) (by simp; omega) (by simp; omega)); have HQ3 := hide hb3; clear hb3 hc3 hs3 hc4; go_frame))
  have l3 := HM3.out.lt
  have hQ := HQ3.out.lt
  have nQ : w2.heap.size ∉ [B, W, L] := by simp; omega
  have lo : ∀ t, t ∈ [B, W, L] → w.heap.size ≤ t := by simp; omega
  have loQ : w.heap.size ≤ w2.heap.size := HX2.out.size
  clear HX2 HM2 l3 hQ
  generalize w2.heap.size = bq at *
  refine (short_any A n cc _ hn hc').mono ?_
  rintro e w4 ⟨rfl, rfl⟩
  go_wp2_with fail
  go_loopw [60] (fun i wr => ∃ (j : Nat) (S : St), j ≤ min n 200 ∧ i = .int .i64 (j : Int) ∧ ModT wr B W L S ∧ Blk wr bq (rc S) 35 ∧ Ext w wr) (fun i _ => min n 200 - (intOf i).toNat)
  case atStart => exact ⟨0, S0, by omega, rfl, HM3.out, HQ3.out, HX3.out⟩
  case round =>
    clear HM3 HQ3 HX3
    obtain ⟨j, S, hj, rfl, hm, hq, hX⟩ := hrel
    by_cases hlt : j < min n 200
    · have hj2 : j < n := by omega
      obtain ⟨b, off, rfl, hb, r0, r1, r2, r3, r4⟩ := (hs.chg hX (Nat.le_refl _)).rules hj2
      have hok := HF.out j hj2
      have hx := Ext.alloc wr (.cells #[Value.int .i64 (f j).k, .int .i64 (f j).t, .int .i64 (f j).o, .int .i64 (f j).a, .int .i64 (f j).r] 41)
      have HE0 := hide (Blk.new wr #[Value.int .i64 (f j).k, .int .i64 (f j).t, .int .i64 (f j).o, .int .i64 (f j).a, .int .i64 (f j).r] 41)
      have ct := fun w' => theirs_any (f j) w'
      unfold sc at ct
      have ca := fun w' (h : ModT w' B W L S) => apply_any h (f j).k (f j).t (f j).o (f j).a (f j).r hok.a
      have cr := fun w' => rapply_any hm.ok (f j).k (f j).t (f j).o (f j).a (f j).r w'
      unfold RAp at cr
      have HQ := hide (hq.ext hx)
      have HM := hide hm
      have HX := hide hX
      have lq := hq.lt
      have lm := hm.lt
      generalize apS S (f j).k (f j).t (f j).o (f j).a (f j).r = S' at *
      generalize apE S (f j).k (f j).t (f j).o (f j).a (f j).r = er at *
      clear hm hq hX
      go_wp2_with (with_reducible refine wpList_get rfl _ rfl bq _ rfl HQ.out ?_; go_frame)
      refine (cr _).mono ?_
      rintro e w5 ⟨rfl, hx5⟩
      have hxx := hx.trans hx5
      have HM5 := hide (HM.out.ext hxx)
      have HQ5 := hide (HQ.out.ext hx5)
      have HE5 := hide (HE0.out.ext hx5)
      have HX5 := hide (HX.out.trans hxx)
      have ls := hxx.size
      clear cr hx hx5 hxx r0 r1 r2 r3 r4 HQ HE0 HM HX hs
      go_wp2_with (first | (refine wpList_put rfl _ _ rfl w5.heap.size S' rfl rfl zz (Blk.new w5 zz 35) HZ.out ?_; intro W6 hb6 hc6 hs6; have hc7 := ((Ext.alloc w5 (.cells zz 35)).chg [w5.heap.size]).trans hc6; have l5 := HE5.out.lt; have HX6 := hide (HX5.out.turn hc7 (by have := HX5.out.size; simp; omega)); have HM6 := hide (HM5.out.chg hc7 (by simp; omega) (by simp; omega) (by simp; omega)); have HQ6 := hide (HQ5.out.chg hc7 (by simp; omega)); have HE6 := hide (HE5.out.chg hc7 (by simp; omega)); have HP6 := hide hb6; have nP : w5.heap.size ∉ [B, W, L] := (by simp; omega); have nPQ : ¬ w5.heap.size = bq := (by omega); have loP : w.heap.size ≤ w5.heap.size := HX5.out.size; clear hb6 hc6 hs6 hc7 l5 HX5 HM5 HQ5 HE5; have re6 := HE6.out.cell; generalize w5.heap.size = bp at *; go_frame))
      refine (ct _).mono ?_
      rintro e w7 ⟨rfl, hx7⟩
      go_wp2_with fail
      refine (ca _ (HM6.out.ext hx7)).mono ?_
      rintro e w8 ⟨rfl, hm8, hc8⟩
      have HM8 := hide hm8
      have HQ8 := hide ((HQ6.out.ext hx7).chg hc8 nQ)
      have HP8 := hide ((HP6.out.ext hx7).chg hc8 nP)
      have HX8 := hide ((HX6.out.trans hx7).turn hc8 lo)
      clear ca ct hx7 hm8 hc8 re6 HM6 HQ6 HP6 HX6 HE6
      go_wp2_with fail
      refine wp_get _ rfl bp S' rfl HP8.out ?_
      go_frame
      go_wp2_with fail
      refine (same_any HM8.out).mono ?_
      rintro e w9 ⟨rfl, hx9⟩
      have HM9 := hide (HM8.out.ext hx9)
      have HQ9 := hide (HQ8.out.ext hx9)
      have HP9 := hide (HP8.out.ext hx9)
      have HX9 := hide (HX8.out.trans hx9)
      clear hx9 HM8 HQ8 HP8 HX8
      go_wp2_with (first | (with_reducible refine wpList_get rfl _ rfl bp _ rfl HP9.out ?_; go_frame) | (with_reducible refine wpList_put rfl _ _ rfl bq S' rfl rfl (rc S) HQ9.out rc_size ?_; intro W10 hb10 hc10 hs10; have HX10 := hide (HX9.out.turn hc10 (by simp; omega)); have HM10 := hide (HM9.out.chg hc10 (by simp at nQ ⊢; omega) (by simp at nQ ⊢; omega) (by simp at nQ ⊢; omega)); have HQ10 := hide hb10; clear hb10 hc10 hs10; go_frame))
      go_roundw
      case rel => exact ⟨j + 1, S', by omega, by go_num, HM10.out, HQ10.out, HX10.out⟩
      case measure => simp [intOf]; omega
    · clear hm hs hq
      go_wp2_with fail
      refine (alive_any _).mono ?_
      rintro e w2 ⟨rfl, hx⟩
      go_wp2_with fail
      go_ret
      exact ⟨rfl, hX.trans hx⟩
theorem lplays_any (a b c : Int) (A : Option Addr) (n cc : Nat) (f : Nat → Evt) (w : World) (hn : n ≤ cc) (hc' : cc ≤ maxLen) (hs : Stps w w.heap.size A n f) (hf : ∀ k, k < n → Okst (f k)) :
    Calls Try.prog 3 #[.agg #[Value.int .i64 a, .int .i64 b, .int .i64 c], .slice A n cc] w fun e w' => e = .returned (.bool true) ∧ Ext w w' := by
  cases h : okN a b c
  · exact plays_no h _ w
  · obtain ⟨h1, h2, h3, h4, h5, h6⟩ := (okN_iff a b c).1 h
    obtain ⟨a, rfl⟩ := Int.eq_ofNat_of_zero_le (show 0 ≤ a by omega)
    obtain ⟨b, rfl⟩ := Int.eq_ofNat_of_zero_le (show 0 ≤ b by omega)
    obtain ⟨c, rfl⟩ := Int.eq_ofNat_of_zero_le (show 0 ≤ c by omega)
    exact plays_ok h A n cc f w hn hc' hs hf
theorem okWide_array {w : World} {base : Nat} {n : Nat} {t e : TypeId} {v : Value} (ht : Try.prog.underlying t = some (.array n e)) (h : Value.okWide Try.prog w .any base t v) : ∃ cs, v = .agg cs ∧ cs.size = Try.prog.cellsOf t := by
  simp only [Value.okWide, ht] at h
  cases v <;> simp_all
theorem array3 {cs : Array Value} (h : cs.size = 3) : ∃ x y z, cs = #[x, y, z] := by
  obtain ⟨l⟩ := cs
  match l, h with
  | [x, y, z], _ => exact ⟨x, y, z, rfl⟩
theorem open_trip {H : Type} {enc : TypeId × Value → H} {W : World} {base : Nat} {v : Value} {d : DataW H} {p : List MemPlace} (hv : Value.okWide Try.prog W .any base 22 v) (h : DataW.Trod enc Try.prog W 0 (fun _ => true) true 22 v d p) :
    ∃ a b c : Int, v = .agg #[Value.int .i64 a, .int .i64 b, .int .i64 c] := by
  obtain ⟨cs, rfl, hsz⟩ := okWide_array Try.underlying22 hv
  have hsz3 : cs.size = 3 := hsz.trans (by kernel_rfl)
  obtain ⟨c0, c1, c2, rfl⟩ := array3 hsz3
  obtain ⟨fuel, hf⟩ := h
  obtain ⟨xs, m, _, _, _, hl, hel⟩ := DataW.trod_array Try.underlying22 hf
  have hc : Try.prog.cellsOf 3 = 1 := by kernel_rfl
  rw [hc] at hel
  have g0 := hel 0 (by omega)
  have g1 := hel 1 (by omega)
  have g2 := hel 2 (by omega)
  rw [List.getElem?_eq_getElem (by omega)] at g0 g1 g2
  obtain ⟨a, e0, _, wa⟩ := DataW.trod_int Try.underlying3 g0
  obtain ⟨b, e1, _, wb⟩ := DataW.trod_int Try.underlying3 g1
  obtain ⟨c, e2, _, wc⟩ := DataW.trod_int Try.underlying3 g2
  simp [Value.cells] at e0 e1 e2
  subst e0 e1 e2
  exact ⟨a, b, c, rfl⟩
set_option maxRecDepth 100000 in
theorem modelPlays_walk {H : Type} {enc : TypeId × Value → H} (W : World) (base : Nat) (args : Array Value) (ds : List (DataW H)) (p : List MemPlace)
    (hval0 : ∀ (j : Nat) t v, Try.f3.params[j]? = some t → args[j]? = some v → Value.okWide Try.prog W .any base t v)
    (hA0 : DataW.TrodAll enc Try.prog W 0 (fun _ => true) true Try.f3.params.toList args.toList ds p) (_hlt : ∀ x ∈ p, x.block < W.heap.size) :
    Calls Try.prog 3 args W fun e W' => e = .returned (.bool true) ∧ Ext W W' := by
  have hval := hval0
  have hA := hA0
  rw [Try.params3] at hA hval
  clear hval0 hA0
  obtain ⟨v0, v1, d0, d1, p0, p1, hargs, rfl, rfl, h0, h1⟩ := trodAll_two hA
  obtain rfl : args = #[v0, v1] := by cases args; simp_all
  obtain ⟨a, b, c, rfl⟩ := open_trip (hval 0 22 v0 rfl rfl) h0
  obtain ⟨A, n, cc, f, rfl, hn, hc, hs, hf⟩ := open_steps (hval 1 23 v1 rfl rfl) h1
  exact lplays_any a b c A n cc f W hn hc hs hf
set_option maxRecDepth 100000 in
theorem modelPlays_lifted (os : Os) (started : os.Started) (H : Type) (enc : TypeId × Value → H) :
    ReturnsInHanded {} Try.checked os 3 .any (Rows.modelPlaysSpec.pre6 enc Try.prog Try.f3 Rows.modelPlaysRow.domain false) (Rows.modelPlaysSpec.post enc Try.prog Try.f3 false true false false) :=
  law_lifted (fn := Try.f3) 4 os started (by kernel_rfl) Try.func3 rfl rfl Try.underlying4 (hread_of (by kernel_rfl))
    (fun l hl => by
      have hl2 : l.length = 2 := hl
      clear hl
      match l, hl2 with
      | [_, _], _ => rfl)
    (ChangeSpec.witness6 (enc := enc) (C := Try.checked) false ⟨#[], #[.agg #[.int .i64 0, .int .i64 0, .int .i64 0], .slice none 0 0], []⟩ 8 (by kernel_rfl) (by kernel_rfl) (by kernel_rfl) (by kernel_rfl))
    (fun W base args ds p hval hA hlt => modelPlays_walk W base args ds p hval hA hlt)
theorem modelPlays_holds : Rows.ModelPlaysSaid :=
  OpenClaim.holds_of_wide 3 Try.f3 rfl rfl rfl rfl rfl rfl rfl ⟨rfl, rfl, rfl, rfl, rfl⟩ rfl rfl rfl rfl rfl (by kernel_rfl) Try.func3 (by kernel_rfl)
    (of_decide_eq_true (by kernel_rfl)) (by unfold Func.isWrapper; rw [if_neg (of_decide_eq_false (by kernel_rfl))]; exact ⟨rfl, rfl⟩)
    (fun os started H enc _ => modelPlays_lifted os started H enc)
end Go.Proofs.Ytfphibmpbfgliaa
