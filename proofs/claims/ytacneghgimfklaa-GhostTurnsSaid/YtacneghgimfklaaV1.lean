/- What the laws of layer 15 share: a log that is alive; entries that are not too many; the entries that come in. -/
import Derived.Test.YtacneghgimfklaaG11
import Derived.Test.YtacneghgimfklaaOpens
import Derived.Deep.Strs
namespace Go.Proofs.Ytacneghgimfklaa
open Go.ChangeShapes Go.WideShapes Go.ChangeAt Go.RowKit Go.Deep Go.Joins
set_option linter.unusedVariables false
set_option linter.unusedSimpArgs false
set_option maxRecDepth 100000
set_option maxHeartbeats 4000000



def aX1 : Ent := ⟨1, 0, 0, 3, 0, 0, 0, 0, 0, 0, 0, 0, 0⟩
def aX2 : Ent := ⟨3, 0, 0, 0, 0, 0, 0, 0, 0, 0, 0, 0, 9⟩
def aX3 : Ent := ⟨2, 0, 0, 0, 0, 0, 3, 0, 0, 0, 9, 0, 0⟩
def aS0 : St := st0 2 1 3
def aD1 : Nat → Dg := takeD aS0 D0 aX1
def aD2 : Nat → Dg := takeD aS0 aD1 aX3
def aD3 : Nat → Dg := takeD aS0 aD2 aX2
theorem al_1 : takeB aS0 D0 aX1 = true ∧ takeS aS0 D0 aX1 = aS0 := ⟨by decide, by unfold takeS; rw [if_neg (by simp [aX1])]⟩
theorem al_2 : takeB aS0 aD1 aX2 = false ∧ takeS aS0 aD1 aX2 = aS0 ∧ takeD aS0 aD1 aX2 = aD1 := ⟨by decide, by unfold takeS; rw [if_neg (by simp [aX2])], by unfold takeD; rw [if_neg (by decide)]⟩
theorem al_s : apS aS0 3 0 0 0 9 = aS0 := by
  unfold apS
  split
  · rfl
  · rfl
theorem al_3 : takeB aS0 aD1 aX3 = true ∧ takeS aS0 aD1 aX3 = aS0 := ⟨by decide, by
  unfold takeS
  split
  · exact al_s
  · rfl⟩
theorem al_4 : takeB aS0 aD2 aX2 = true ∧ takeS aS0 aD2 aX2 = aS0 := ⟨by decide, by unfold takeS; rw [if_neg (by simp [aX2])]⟩
theorem wf0 : wfI 0 := wfI_of (by omega) (by omega)
theorem alive_any (w : World) : Calls Try.prog 10 #[] w fun e w' => e = .returned (.bool true) ∧ Ext w w' := by
  have hn := gnew_ok (n := 2) (m := 1) (k := 3) (by decide) w
  rw [show st0 2 1 3 = aS0 from rfl] at hn
  have b0 := hide bd_0
  have b1 := hide (bd_0.take aS0 aX1)
  have b2 := hide (b1.out.take aS0 aX3)
  rw [show takeD aS0 D0 aX1 = aD1 from rfl] at b1 b2
  rw [show takeD aS0 aD1 aX3 = aD2 from rfl] at b2
  go_enter Try.func10, Try.ntmps10
  go_wp2_with fail
  refine hn.mono ?_
  rintro e w1 ⟨C, MB, W, L, rfl, hm, hC, hB, hW, hL, hX⟩
  have hg : GT w1 w.heap.size C MB W L (.slice none 0 0) aS0 D0 [] := ⟨hm, own_nil _ _ _ _, hC, hB, hW, hL⟩
  have HX := hide hX
  clear hm hn hX hC hB hW hL
  have c1 := add_any hg aX1 wf0 b0.out (by omega) (by simp) HX.out.size
  rw [al_1.1, al_1.2, show takeD aS0 D0 aX1 = aD1 from rfl] at c1
  simp only [ec, aX1, if_true] at c1
  clear hg
  go_wp2_with fail
  refine c1.mono ?_
  rintro e w2 ⟨rfl, ⟨v2, hg⟩, hu⟩
  have HX := hide (HX.out.up hu (Nat.le_refl _))
  clear c1 hu
  go_wp2_with fail
  have c1 := add_any hg aX2 wf0 b1.out (by omega) (by simp) HX.out.size
  rw [al_2.1, al_2.2.1, al_2.2.2] at c1
  simp only [ec, aX2, Bool.false_eq_true, if_false] at c1
  clear hg
  refine c1.mono ?_
  rintro e w3 ⟨rfl, ⟨v3, hg⟩, hu⟩
  have HX := hide (HX.out.up hu (Nat.le_refl _))
  clear c1 hu
  go_wp2_with fail
  have c1 := add_any hg aX3 wf0 b1.out (by omega) (by simp) HX.out.size
  rw [al_3.1, al_3.2, show takeD aS0 aD1 aX3 = aD2 from rfl] at c1
  simp only [ec, aX3, if_true] at c1
  clear hg
  refine c1.mono ?_
  rintro e w4 ⟨rfl, ⟨v4, hg⟩, hu⟩
  have HX := hide (HX.out.up hu (Nat.le_refl _))
  clear c1 hu
  go_wp2_with fail
  have c1 := add_any hg aX2 wf0 b2.out (by omega) (by simp) HX.out.size
  rw [al_4.1, al_4.2, show takeD aS0 aD2 aX2 = aD3 from rfl] at c1
  simp only [ec, aX2, if_true] at c1
  clear hg
  refine c1.mono ?_
  rintro e w5 ⟨rfl, ⟨v5, hg⟩, hu⟩
  have HX := hide (HX.out.up hu (Nat.le_refl _))
  clear c1 hu
  go_wp2_with fail
  have c2 := glen_any hg
  clear hg
  refine c2.mono ?_
  rintro e w6 ⟨rfl, rfl⟩
  go_wp2_with fail
  go_ret
  exact ⟨by simp, HX.out⟩
theorem short_any (A : Option Addr) (n c : Nat) (w : World) (hn : n ≤ c) (hc : c ≤ maxLen) :
    Calls Try.prog 6 #[.slice A n c] w fun e w' => e = .returned (.slice A (min n 120) c) ∧ w = w' := by
  unfold maxLen at hc
  by_cases h : n ≤ 120
  · have h1 : (n : Int) ≤ 120 := by omega
    have E := hide (show min n 120 = n by omega)
    go_enter Try.func6, Try.ntmps6
    go_wp2
    go_ret
    exact ⟨by rw [E.out]; simp; omega, rfl⟩
  · have h1 : ¬ (n : Int) ≤ 120 := by omega
    have E := hide (show min n 120 = 120 by omega)
    have h2 : 120 ≤ c := by omega
    go_enter Try.func6, Try.ntmps6
    go_wp2
    go_ret
    exact ⟨by rw [E.out]; simp; omega, rfl⟩
theorem theirs_any (s : Ent) (w : World) : Calls Try.prog 7 #[.agg (ec s)] w fun e w' => e = .returned (.agg (ec s)) ∧ Ext w w' := by
  obtain ⟨kd, th, nu, ok, oo, oa, ek, et, eo, ea, er, va, rr⟩ := s
  unfold ec
  simp only
  go_enter Try.func7, Try.ntmps7
  go_wp2_with fail
  refine bodyPost_ret (v := .agg #[Value.int .i64 kd, .int .i64 th, .int .i64 nu, .int .i64 ok, .int .i64 oo, .int .i64 oa, .int .i64 ek, .int .i64 et, .int .i64 eo, .int .i64 ea, .int .i64 er, .int .i64 va, .int .i64 rr]) (by simp [results, Try.results7, go_sem, *]) rfl ?_
  exact ⟨rfl, by (repeat (with_reducible refine Ext.set ?_ (by simp) _)); exact ((Ext.alloc _ _).trans (Ext.alloc _ _)).trans (Ext.alloc _ _)⟩
/-- The entries that a slice reads as. -/
structure Okst (s : Ent) : Prop where
  a : wfI s.ea
def Stps (w : World) (B : Nat) (A : Option Addr) (n : Nat) (f : Nat → Ent) : Prop :=
  ∀ k, k < n → ∃ b off, A = some ⟨b, off, none⟩ ∧ b < B ∧ ∀ i, i < 13 → w.cell? ⟨b, off + (k * 13 + i), none⟩ = (ec (f k))[i]?
theorem Stps.chg {w w' : World} {B n : Nat} {A : Option Addr} {f : Nat → Ent} (h : Stps w B A n f) (x : Ext w w') (hB : B ≤ w.heap.size) : Stps w' B A n f := fun k hk => by
  obtain ⟨b, off, ha, hb, hc⟩ := h k hk
  exact ⟨b, off, ha, hb, fun i hi => (x.oldCell _ _ (by omega)).trans (hc i hi)⟩
/-- One of them, as it is loaded whole. -/
theorem Stps.rng {w : World} {B n : Nat} {A : Option Addr} {f : Nat → Ent} (h : Stps w B A n f) {k : Nat} (hk : k < n) : ∃ b off, A = some ⟨b, off, none⟩ ∧ b < B ∧ w.rangeAt b (off + k * 13) (ec (f k)).toList := by
  obtain ⟨b, off, ha, hb, hc⟩ := h k hk
  refine ⟨b, off, ha, hb, fun j v hv => ?_⟩
  have hj : j < 13 := (List.getElem?_eq_some_iff.1 hv).1
  rw [Nat.add_assoc, hc j hj, ← hv, Array.getElem?_toList]
section
variable {H : Type} {enc : TypeId × Value → H} {W : World} {base : Nat}
theorem c_int : Try.prog.cellsOf 3 = 1 := by kernel_rfl
theorem c_op : Try.prog.cellsOf 27 = 3 := by kernel_rfl
theorem c_re : Try.prog.cellsOf 29 = 5 := by kernel_rfl
theorem trod_i {fuel : Nat} {c : Value} {cs : List Value} {y : DataW H × List MemPlace} (h : DataW.trod enc Try.prog W 0 (fun _ => true) true fuel 3 (List.take (Try.prog.cellsOf 3) (c :: cs)) = some y) : ∃ q : Int, c = .int .i64 q ∧ wfI q := by
  obtain ⟨q, e, _, hw⟩ := DataW.trod_int Try.underlying3 h
  rw [c_int] at e
  simp at e
  exact ⟨q, e, hw⟩
theorem trod_op {fuel : Nat} {cs : List Value} {x : DataW H × List MemPlace} (h : DataW.trod enc Try.prog W 0 (fun _ => true) true fuel 27 cs = some x) (hl : cs.length = 3) : ∃ a b c : Int, cs = [.int .i64 a, .int .i64 b, .int .i64 c] := by
  obtain ⟨xs, n, _, rfl, hl2, hlen, hf⟩ := DataW.trod_struct Try.underlying27 h
  match cs, hl, xs, hlen with
  | [c0, c1, c2], _, [y0, y1, y2], _ =>
    have t0 := hf 0 _ rfl
    have t1 := hf 1 _ rfl
    have t2 := hf 2 _ rfl
    simp at t0 t1 t2
    obtain ⟨q0, rfl, _⟩ := trod_i t0
    obtain ⟨q1, rfl, _⟩ := trod_i t1
    obtain ⟨q2, rfl, _⟩ := trod_i t2
    exact ⟨q0, q1, q2, rfl⟩
theorem trod_ev {fuel : Nat} {cs : List Value} {x : DataW H × List MemPlace} (h : DataW.trod enc Try.prog W 0 (fun _ => true) true fuel 29 cs = some x) (hl : cs.length = 5) : ∃ a b c d e : Int, cs = [.int .i64 a, .int .i64 b, .int .i64 c, .int .i64 d, .int .i64 e] ∧ wfI d := by
  obtain ⟨xs, n, _, rfl, hl2, hlen, hf⟩ := DataW.trod_struct Try.underlying29 h
  match cs, hl, xs, hlen with
  | [c0, c1, c2, c3, c4], _, [y0, y1, y2, y3, y4], _ =>
    have t0 := hf 0 _ rfl
    have t1 := hf 1 _ rfl
    have t2 := hf 2 _ rfl
    have t3 := hf 3 _ rfl
    have t4 := hf 4 _ rfl
    simp at t0 t1 t2 t3 t4
    obtain ⟨q0, rfl, _⟩ := trod_i t0
    obtain ⟨q1, rfl, _⟩ := trod_i t1
    obtain ⟨q2, rfl, _⟩ := trod_i t2
    obtain ⟨q3, rfl, w3⟩ := trod_i t3
    obtain ⟨q4, rfl, _⟩ := trod_i t4
    exact ⟨q0, q1, q2, q3, q4, rfl, w3⟩
theorem open_cells {fuel : Nat} {cs : List Value} {x : DataW H × List MemPlace} (hl : cs.length = 13) (ht : DataW.trod enc Try.prog W 0 (fun _ => true) true fuel 31 cs = some x) : ∃ s : Ent, cs = (ec s).toList ∧ Okst s := by
  obtain ⟨xs, n, _, rfl, hl2, hlen, hf⟩ := DataW.trod_struct Try.underlying31 ht
  match cs, hl, xs, hlen with
  | [c0, c1, c2, c3, c4, c5, c6, c7, c8, c9, c10, c11, c12], _, [y0, y1, y2, y3, y4, y5, y6], _ =>
    have t0 := hf 0 _ rfl
    have t1 := hf 1 _ rfl
    have t2 := hf 2 _ rfl
    have t3 := hf 3 _ rfl
    have t4 := hf 4 _ rfl
    have t5 := hf 5 _ rfl
    have t6 := hf 6 _ rfl
    simp at t0 t1 t2 t3 t4 t5 t6
    obtain ⟨q0, rfl, _⟩ := trod_i t0
    obtain ⟨q1, rfl, _⟩ := trod_i t1
    obtain ⟨q2, rfl, _⟩ := trod_i t2
    obtain ⟨q5, rfl, _⟩ := trod_i t5
    obtain ⟨q6, rfl, _⟩ := trod_i t6
    rw [c_op] at t3
    rw [c_re] at t4
    simp at t3 t4
    obtain ⟨o0, o1, o2, e3⟩ := trod_op t3 rfl
    obtain ⟨e0, e1, e2, e3', e4, e5, w3⟩ := trod_ev t4 rfl
    simp at e3 e5
    obtain ⟨rfl, rfl, rfl⟩ := e3
    obtain ⟨rfl, rfl, rfl, rfl, rfl⟩ := e5
    exact ⟨⟨q0, q1, q2, o0, o1, o2, e0, e1, e2, e3', e4, q5, q6⟩, rfl, ⟨w3⟩⟩
theorem open_steps {v : Value} {d : DataW H} {p : List MemPlace} (hv : Value.okWide Try.prog W .any base 23 v) (h : DataW.Trod enc Try.prog W 0 (fun _ => true) true 23 v d p) :
    ∃ (A : Option Addr) (n c : Nat) (f : Nat → Ent), v = .slice A n c ∧ n ≤ c ∧ c ≤ maxLen ∧ Stps W W.heap.size A n f ∧ ∀ k, k < n → Okst (f k) := by
  obtain ⟨A, n, c, xs, rfl, hnc, hc, hs, hel⟩ := open_elems Try.underlying23 (sz := 13) (by kernel_rfl) (by omega) hv h
  have h1 : ∀ i, i < n → ∃ s : Ent, (∀ j, j < 13 → xs[i * 13 + j]? = (ec s)[j]?) ∧ Okst s := by
    intro i hi
    obtain ⟨m, y, ht⟩ := hel i hi
    have hl : ((xs.drop (i * 13)).take 13).length = 13 := by
      have := hs.1
      have : (i + 1) * 13 ≤ n * 13 := Nat.mul_le_mul_right _ hi
      simp; omega
    obtain ⟨s, hs2, ok⟩ := open_cells hl ht
    refine ⟨s, fun j hj => ?_, ok⟩
    have e := congrArg (·[j]?) hs2
    simp only [List.getElem?_take, if_pos hj, List.getElem?_drop, Array.getElem?_toList] at e
    exact e
  obtain ⟨f, hf⟩ := choose_lt h1
  refine ⟨A, n, c, f, rfl, hnc, hc, fun k hk => ?_, fun k hk => (hf k hk).2⟩
  obtain ⟨b, off, ha, hb, hcells⟩ := hs.at_ hk
  exact ⟨b, off, ha, hb, fun i hi => (hcells i hi).trans ((hf k hk).1 i hi)⟩
/-- One entry, by value. -/
theorem open_ent {v : Value} {d : DataW H} {p : List MemPlace} (hv : Value.okWide Try.prog W .any base 31 v) (h : DataW.Trod enc Try.prog W 0 (fun _ => true) true 31 v d p) : ∃ s : Ent, v = .agg (ec s) ∧ Okst s := by
  obtain ⟨cs, rfl, hsz⟩ := okWide_struct Try.underlying31 hv
  obtain ⟨fuel, hf⟩ := h
  have hl : cs.toList.length = 13 := by rw [Array.length_toList]; exact hsz.trans (by kernel_rfl)
  obtain ⟨s, e, ok⟩ := open_cells hl hf
  exact ⟨s, by rw [Array.toList_inj.1 e], ok⟩
end
end Go.Proofs.Ytacneghgimfklaa
