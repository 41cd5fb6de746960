/-
  A law of layer 20 holds of every input: LayoutGrows. No condition.
-/
import Derived.Test.YtdcdjjdjgpfmdaaL2
import Derived.Test.YtdcdjjdjgpfmdaaM1
namespace Go.Proofs.Ytdcdjjdjgpfmdaa
open Go.ChangeShapes Go.WideShapes Go.ChangeAt Go.RowKit Go.Joins Go.Deep Go.Maps
set_option linter.unusedVariables false
set_option linter.unusedSimpArgs false
set_option maxRecDepth 100000
set_option maxHeartbeats 8000000

section
variable {H : Type} {enc : TypeId × Value → H} {W : World} {base : Nat}
theorem open_b4 {v : Value} {d : DataW H} {p : List MemPlace} (hv : Value.okWide Try.prog W .any base 33 v) (h : DataW.Trod enc Try.prog W 0 (fun _ => true) true 33 v d p) :
    ∃ a b c e : Nat, v = .agg #[.int .u8 (a : Int), .int .u8 (b : Int), .int .u8 (c : Int), .int .u8 (e : Int)] ∧ a ≤ 255 ∧ b ≤ 255 ∧ c ≤ 255 ∧ e ≤ 255 := by
  obtain ⟨cs, rfl, hsz⟩ := okWide_array Try.underlying33 hv
  have hsz2 : cs.size = 4 := hsz.trans (by kernel_rfl)
  obtain ⟨l⟩ := cs
  match l, hsz2 with
  | [c0, c1, c2, c3], _ =>
    obtain ⟨fuel, hf⟩ := h
    obtain ⟨xs, m, _, _, _, hl, hel⟩ := DataW.trod_array Try.underlying33 hf
    have hc : Try.prog.cellsOf 5 = 1 := by kernel_rfl
    rw [hc] at hel
    have g0 := hel 0 (by omega)
    have g1 := hel 1 (by omega)
    have g2 := hel 2 (by omega)
    have g3 := hel 3 (by omega)
    rw [List.getElem?_eq_getElem (by omega)] at g0 g1 g2 g3
    obtain ⟨a, e0, _, wa⟩ := DataW.trod_int Try.underlying5 g0
    obtain ⟨b, e1, _, wb⟩ := DataW.trod_int Try.underlying5 g1
    obtain ⟨c, e2, _, wc⟩ := DataW.trod_int Try.underlying5 g2
    obtain ⟨e, e3, _, we⟩ := DataW.trod_int Try.underlying5 g3
    simp [Value.cells] at e0 e1 e2 e3
    subst e0 e1 e2 e3
    obtain ⟨a, rfl, ha⟩ := nat_u8 wa
    obtain ⟨b, rfl, hb⟩ := nat_u8 wb
    obtain ⟨c, rfl, hc⟩ := nat_u8 wc
    obtain ⟨e, rfl, he⟩ := nat_u8 we
    exact ⟨a, b, c, e, rfl, ha, hb, hc, he⟩
end
theorem wr8 {n : Nat} (h : n ≤ 255) : IntKind.i64.wrap (n : Int) = n := by rw [IntKind.wrap_i64]; omega
theorem wr9 {n m : Nat} (h : n ≤ 255) (h2 : m ≤ 255) : IntKind.i64.wrap ((n : Int) + m) = (n : Int) + m := by rw [IntKind.wrap_i64]; omega
theorem lgrows_any (t o c s t' o' c' s' : Nat) (w : World) (ht : t ≤ 255) (ho : o ≤ 255) (hc : c ≤ 255) (hs : s ≤ 255) (ht' : t' ≤ 255) (ho' : o' ≤ 255) (hc' : c' ≤ 255) (hs' : s' ≤ 255) :
    Calls Try.prog 6 #[.agg #[.int .u8 (t : Int), .int .u8 (o : Int), .int .u8 (c : Int), .int .u8 (s : Int)], .agg #[.int .u8 (t' : Int), .int .u8 (o' : Int), .int .u8 (c' : Int), .int .u8 (s' : Int)]] w fun e w' => e = .returned (.bool true) ∧ Ext w w' := by
  have CA := hide (all_any t o c s)
  have CB := hide (all_any (t + t') (o + o') (c + c') (s + s'))
  have MS := hide (fun a (h : a ∈ allS t o c s 128) => show a ∈ allS (t + t') (o + o') (c + c') (s + s') 128 from mem_all.2 ⟨(mem_all.1 h).1, more_in (mem_all.1 h).2 (by omega) (by omega) (by omega) (by omega)⟩)
  have M2 := hide (fun a (h : a ∈ allS (t + t') (o + o') (c + c') (s + s') 128) => show (0 ≤ a ∧ a < 128) ∧ ¬ kN a = 0 from ⟨(mem_all.1 h).1, fun e => by have := (mem_all.1 h).2; rw [isIn_0 e] at this; cases this⟩)
  have LT := hide (all_lt (t + t') (o + o') (c + c') (s + s') 128)
  have N1 := hide (allS_len t o c s 128)
  have N2 := hide (allS_len (t + t') (o + o') (c + c') (s + s') 128)
  generalize allS t o c s 128 = l at *
  generalize allS (t + t') (o + o') (c + c') (s + s') 128 = l' at *
  have w1 := wr8 ht
  have w2 := wr8 ho
  have w3 := wr8 hc
  have w4 := wr8 hs
  have w1' := wr8 ht'
  have w2' := wr8 ho'
  have w3' := wr8 hc'
  have w4' := wr8 hs'
  have w5 := wr9 ht ht'
  have w6 := wr9 ho ho'
  have w7 := wr9 hc hc'
  have w8 := wr9 hs hs'
  go_enter Try.func6, Try.ntmps6
  go_wp2_with fail
  have hY := fun w' (h : Ext ((w.alloc (Obj.cells #[.int .u8 (t : Int), .int .u8 (o : Int), .int .u8 (c : Int), .int .u8 (s : Int)] 33)).alloc (Obj.cells #[.int .u8 (t' : Int), .int .u8 (o' : Int), .int .u8 (c' : Int), .int .u8 (s' : Int)] 33)) w') => h.boxCell
  have hYf := fun w' (h : Ext ((w.alloc (Obj.cells #[.int .u8 (t : Int), .int .u8 (o : Int), .int .u8 (c : Int), .int .u8 (s : Int)] 33)).alloc (Obj.cells #[.int .u8 (t' : Int), .int .u8 (o' : Int), .int .u8 (c' : Int), .int .u8 (s' : Int)] 33)) w') => h.boxFree
  simp only [World.size_alloc] at hY hYf
  have hX := fun w' (h : Ext ((w.alloc (Obj.cells #[.int .u8 (t : Int), .int .u8 (o : Int), .int .u8 (c : Int), .int .u8 (s : Int)] 33)).alloc (Obj.cells #[.int .u8 (t' : Int), .int .u8 (o' : Int), .int .u8 (c' : Int), .int .u8 (s' : Int)] 33)) w') => ((Ext.alloc (w.alloc (Obj.cells #[.int .u8 (t : Int), .int .u8 (o : Int), .int .u8 (c : Int), .int .u8 (s : Int)] 33)) (Obj.cells #[.int .u8 (t' : Int), .int .u8 (o' : Int), .int .u8 (c' : Int), .int .u8 (s' : Int)] 33)).trans h).boxCell
  have hXf := fun w' (h : Ext ((w.alloc (Obj.cells #[.int .u8 (t : Int), .int .u8 (o : Int), .int .u8 (c : Int), .int .u8 (s : Int)] 33)).alloc (Obj.cells #[.int .u8 (t' : Int), .int .u8 (o' : Int), .int .u8 (c' : Int), .int .u8 (s' : Int)] 33)) w') => ((Ext.alloc (w.alloc (Obj.cells #[.int .u8 (t : Int), .int .u8 (o : Int), .int .u8 (c : Int), .int .u8 (s : Int)] 33)) (Obj.cells #[.int .u8 (t' : Int), .int .u8 (o' : Int), .int .u8 (c' : Int), .int .u8 (s' : Int)] 33)).trans h).boxFree
  have hX0 : Ext w ((w.alloc (Obj.cells #[.int .u8 (t : Int), .int .u8 (o : Int), .int .u8 (c : Int), .int .u8 (s : Int)] 33)).alloc (Obj.cells #[.int .u8 (t' : Int), .int .u8 (o' : Int), .int .u8 (c' : Int), .int .u8 (s' : Int)] 33)) := (Ext.alloc _ _).trans (Ext.alloc _ _)
  generalize (w.alloc (Obj.cells #[.int .u8 (t : Int), .int .u8 (o : Int), .int .u8 (c : Int), .int .u8 (s : Int)] 33)).alloc (Obj.cells #[.int .u8 (t' : Int), .int .u8 (o' : Int), .int .u8 (c' : Int), .int .u8 (s' : Int)] 33) = W0 at *
  have hW := Ext.refl W0
  refine (CA.out _).mono ?_
  rintro e W1 ⟨v1, rfl, hr1, hb⟩
  have hW := hW.trans hb
  obtain ⟨A1, c1, rfl, hs1⟩ := Sl.of_own hr1
  have H1 := hide hs1
  clear hb hr1 hs1 CA
  go_wp2_with fail
  refine (CB.out _).mono ?_
  rintro e W2 ⟨v2, rfl, hr2, hb⟩
  have hW := hW.trans hb
  obtain ⟨A2, c2, rfl, hs2⟩ := Sl.of_own hr2
  have H2 := hide hs2
  have H1 := hide ((H1.out.ext hb (Nat.le_refl _)).more hb.size)
  clear hb hr2 hs2 CB hX hXf hY hYf w1 w2 w3 w4 w1' w2' w3' w4' w5 w6 w7 w8
  have hmm := @run_makeMap Try.prog
  have HW := hide hW
  have hm0 := BM.made W2
  have hx0 := Ext.alloc W2 (.map #[] 0)
  clear hW
  go_wp2_with fail
  clear hmm
  go_loopw [60] (fun i wr => ∃ j : Nat, j ≤ l'.length ∧ i = .int .i64 (j : Int) ∧ BM wr W2.heap.size j (memB (l'.take j)) ∧ Ext W2 wr) (fun i _ => l'.length - (intOf i).toNat)
  case atStart => exact ⟨0, by omega, rfl, hm0.eq (by funext z; simp [memB]), hx0⟩
  case round =>
    clear hm0 hx0
    obtain ⟨j, hj, rfl, hm, hx⟩ := hrel
    have HX := hide hx
    have HM := hide hm
    by_cases hlt : j < l'.length
    · obtain ⟨⟨x0, x1⟩, x2⟩ := M2.out _ (List.getElem_mem hlt)
      have hlast : ∀ k (h : k + 1 = j), l'[k]'(by omega) < l'[j] := fun k h => List.pairwise_iff_getElem.1 LT.out k j (by omega) hlt (by omega)
      obtain ⟨b2, o2, hA2, q2⟩ := (H2.out.ext hx (Nat.le_refl _)).ints hx.size hlt
      have CW := hide (fun w => what_any l'[j] w)
      obtain ⟨X, hX⟩ : ∃ X, X = l'[j] := ⟨_, rfl⟩
      have HE := hide (memB_snoc hlt)
      rw [← hX] at x0 x1 x2 q2 CW HE
      obtain ⟨P, hP⟩ : ∃ P, kN X = P := ⟨_, rfl⟩
      obtain ⟨Q, hQ⟩ : ∃ P, iN X = P := ⟨_, rfl⟩
      obtain ⟨R, hR⟩ : ∃ P, jN X = P := ⟨_, rfl⟩
      rw [hP, hQ, hR] at CW
      rw [hP] at x2
      have xp : (P == 0) = false := by simp [x2]
      have n2 := N2.out
      clear hP hQ hR H1 M2 MS hx hm
      have QK : ∀ k (hk : k < l'.length), ∀ w', Ext wr w' → w'.cell? ⟨b2, o2 + k, none⟩ = some (.int .i64 l'[k]) := fun k hk => by
        obtain ⟨b3, o3, e3, q3⟩ := (H2.out.ext HX.out (Nat.le_refl _)).ints HX.out.size hk
        rw [hA2] at e3
        cases e3
        exact q3
      subst hA2
      have q2' := q2 wr (Ext.refl wr)
      by_cases hj0 : j = 0
      · have hj1 : ¬ (0 : Int) < (j : Int) := by omega
        clear hlast hX H2 LT hj0
        go_wp2_with (go_at_call 7; (with_reducible refine (CW.out _).mono ?_); rintro e wa ⟨rfl, hb⟩; have q2 := fun w' h => q2 w' (hb.trans h); obtain ⟨wp, hrun, hm1, hg⟩ := (HM.out.ext hb).set (by unfold maxLen; omega) (a0 := X) (ky_wf (by omega) (by omega)) true; rw [HE.out] at hm1; have HM1 := hide hm1; have HX1 := hide ((HX.out.trans hb).turn (Chg.of_grown (T := [W2.heap.size]) hg (by simp)) (by simp)); have HV := Ext.refl wa; have r2 := q2 _ HV; clear hm1 hg hb; go_frame)
        exact ⟨⟨j + 1, by omega, by go_num, HM1.out, HX1.out⟩, by simp [intOf]; omega⟩
      · obtain ⟨k, hk⟩ : ∃ k, k + 1 = j := ⟨j - 1, by omega⟩
        have hj1 : (0 : Int) < (j : Int) := by omega
        have hk2 : k < l'.length := by omega
        have hw1 : IntKind.i64.wrap ((j : Int) - 1) = (k : Int) := by rw [IntKind.wrap_i64]; omega
        have hlt2 := hlast k hk
        rw [← hX] at hlt2
        have q3 := QK _ hk2
        obtain ⟨Y, hY⟩ : ∃ Y, Y = l'[k] := ⟨_, rfl⟩
        rw [← hY] at hlt2 q3
        clear hlast hX H2 LT hj0 hk hY QK
        go_wp2_with (go_at_call 7; (with_reducible refine (CW.out _).mono ?_); rintro e wa ⟨rfl, hb⟩; have q2 := fun w' h => q2 w' (hb.trans h); have r3 := q3 _ hb; obtain ⟨wp, hrun, hm1, hg⟩ := (HM.out.ext hb).set (by unfold maxLen; omega) (a0 := X) (ky_wf (by omega) (by omega)) true; rw [HE.out] at hm1; have HM1 := hide hm1; have HX1 := hide ((HX.out.trans hb).turn (Chg.of_grown (T := [W2.heap.size]) hg (by simp)) (by simp)); have HV := Ext.refl wa; have r2 := q2 _ HV; clear hm1 hg hb; go_frame)
        exact ⟨⟨j + 1, by omega, by go_num, HM1.out, HX1.out⟩, by simp [intOf]; omega⟩
    · obtain rfl : j = l'.length := by omega
      rw [List.take_length] at HM
      clear hm hx LT H2
      go_wp2_with fail
      obtain ⟨W3, hW3⟩ : ∃ W, W = wr := ⟨_, rfl⟩
      subst hW3
      go_loopw [99] (fun i wq => ∃ z : Nat, z ≤ l.length ∧ i = .int .i64 (z : Int) ∧ Ext W3 wq) (fun i _ => l.length - (intOf i).toNat)
      case atStart => exact ⟨0, by omega, rfl, Ext.refl _⟩
      case round =>
        obtain ⟨z, hz, rfl, hy⟩ := hrel
        have HY := hide hy
        by_cases hlt : z < l.length
        · have n1 := N1.out
          have hin := MS.out _ (List.getElem_mem hlt)
          obtain ⟨b1, o1, rfl, q1⟩ := (H1.out.ext (HX.out.trans hy) (Nat.le_refl _)).ints (HX.out.trans hy).size hlt
          obtain ⟨X, hX⟩ : ∃ X, X = l[z] := ⟨_, rfl⟩
          rw [← hX] at hin q1
          obtain ⟨⟨x0, x1⟩, _⟩ := M2.out _ hin
          have q2 := q1 wr (Ext.refl wr)
          have hlk := (HM.out.ext hy).look (a := X) (ky_wf (by omega) (by omega))
          rw [show memB l' X = true from decide_eq_true hin] at hlk
          clear hX hin hy q1
          go_wp2_with fail
          go_roundw
          case rel => exact ⟨z + 1, by omega, by go_num, HY.out⟩
          case measure => simp [intOf]; omega
        · have hW := (HW.out.trans HX.out).trans hy
          obtain rfl : z = l.length := by omega
          clear hy H1
          go_wp2_with (go_at_call 11; (with_reducible refine (alive_any _).mono ?_); rintro e w' ⟨rfl, hb⟩; have hW := Ext.trans2 hW (by repeat (first | exact Ext.refl _ | exact Ext.alloc _ _ | exact Ext.drewN _ _ | assumption | refine Ext.trans ?_ (Ext.alloc _ _) | refine Ext.trans ?_ (Ext.drew _) | refine Ext.trans ?_ (by assumption))) hb; (try have hV := Ext.trans2 hV (by repeat (first | exact Ext.refl _ | exact Ext.alloc _ _ | exact Ext.drewN _ _ | assumption | refine Ext.trans ?_ (Ext.alloc _ _) | refine Ext.trans ?_ (Ext.drew _) | refine Ext.trans ?_ (by assumption))) hb); clear hb)
          go_ret
          exact ⟨rfl, (hX0.trans (hW.trans (by repeat (first | exact Ext.refl _ | exact Ext.alloc _ _ | exact Ext.drewN _ _ | assumption | refine Ext.trans ?_ (Ext.alloc _ _) | refine Ext.trans ?_ (Ext.drew _) | refine Ext.trans ?_ (by assumption)))))⟩

set_option maxRecDepth 100000 in
theorem layoutGrows_walk {H : Type} {enc : TypeId × Value → H} (W : World) (base : Nat) (args : Array Value) (ds : List (DataW H)) (p : List MemPlace)
    (hval0 : ∀ (j : Nat) t v, Try.f6.params[j]? = some t → args[j]? = some v → Value.okWide Try.prog W .any base t v)
    (hA0 : DataW.TrodAll enc Try.prog W 0 (fun _ => true) true Try.f6.params.toList args.toList ds p) (_hlt : ∀ x ∈ p, x.block < W.heap.size) :
    Calls Try.prog 6 args W fun e W' => e = .returned (.bool true) ∧ Ext W W' := by
  have hval := hval0
  have hA := hA0
  rw [Try.params6] at hA hval
  clear hval0 hA0
  obtain ⟨v0, v1, d0, d1, p0, p1, hargs, rfl, rfl, h0, h1⟩ := trodAll_two hA
  obtain rfl : args = #[v0, v1] := by cases args; simp_all
  obtain ⟨t, o, c, s, rfl, ht, ho, hc, hs⟩ := open_b4 (hval 0 33 v0 rfl rfl) h0
  obtain ⟨t', o', c', s', rfl, ht', ho', hc', hs'⟩ := open_b4 (hval 1 33 v1 rfl rfl) h1
  exact lgrows_any t o c s t' o' c' s' W ht ho hc hs ht' ho' hc' hs'
set_option maxRecDepth 100000 in
theorem layoutGrows_lifted (os : Os) (started : os.Started) (H : Type) (enc : TypeId × Value → H) :
    ReturnsInHanded {} Try.checked os 6 .any (Rows.layoutGrowsSpec.pre6 enc Try.prog Try.f6 Rows.layoutGrowsRow.domain false) (Rows.layoutGrowsSpec.post enc Try.prog Try.f6 false true false false) :=
  law_lifted (fn := Try.f6) 4 os started (by kernel_rfl) Try.func6 rfl rfl Try.underlying4 (hread_of (by kernel_rfl))
    (fun l hl => by
      have hl2 : l.length = 2 := hl
      clear hl
      match l, hl2 with
      | [_, _], _ => rfl)
    (ChangeSpec.witness6 (enc := enc) (C := Try.checked) false ⟨#[], #[.agg #[.int .u8 0, .int .u8 0, .int .u8 0, .int .u8 0], .agg #[.int .u8 0, .int .u8 0, .int .u8 0, .int .u8 0]], []⟩ 8 (by kernel_rfl) (by kernel_rfl) (by kernel_rfl) (by kernel_rfl))
    (fun W base args ds p hval hA hlt => layoutGrows_walk W base args ds p hval hA hlt)
theorem layoutGrows_holds : Rows.LayoutGrowsSaid :=
  OpenClaim.holds_of_wide 6 Try.f6 rfl rfl rfl rfl rfl rfl rfl ⟨rfl, rfl, rfl, rfl, rfl⟩ rfl rfl rfl rfl rfl (by kernel_rfl) Try.func6 (by kernel_rfl)
    (of_decide_eq_true (by kernel_rfl)) (by unfold Func.isWrapper; rw [if_neg (of_decide_eq_false (by kernel_rfl))]; exact ⟨rfl, rfl⟩)
    (fun os started H enc _ => layoutGrows_lifted os started H enc)
end Go.Proofs.Ytdcdjjdjgpfmdaa
