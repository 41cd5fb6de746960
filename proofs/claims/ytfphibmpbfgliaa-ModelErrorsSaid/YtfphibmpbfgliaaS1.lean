/- What the laws of layer 14 share: a model that is alive; events that are not too many; the events that come in; lists held against each other. -/
import Derived.Test.YtfphibmpbfgliaaN1
import Derived.Test.YtfphibmpbfgliaaW4
import Derived.Test.YtfphibmpbfgliaaOpens
import Derived.Deep.Strs
namespace Go.Proofs.Ytfphibmpbfgliaa
open Go.ChangeShapes Go.WideShapes Go.ChangeAt Go.RowKit Go.Deep Go.Joins
set_option linter.unusedVariables false
set_option linter.unusedSimpArgs false
set_option maxRecDepth 100000
set_option maxHeartbeats 4000000


def T0 : St := st0 2 1 3
def T1 : St := apS T0 1 0 0 0 0
def T2 : St := apS T1 3 0 0 0 0
theorem al_e1 : apE T0 1 0 0 0 0 = 0 ∧ apS T0 1 0 0 0 0 = T1 := ⟨by decide, rfl⟩
theorem al_e2 : ownA true T1 0 = 0 ∧ cntA true T1 0 = 1 := by decide
theorem al_e3 : apE T1 1 1 0 0 0 = 15 ∧ apS T1 1 1 0 0 0 = T1 := ⟨by decide, by unfold apS; rw [if_neg (by decide)]⟩
theorem al_e4 : apE T1 3 0 0 0 0 = 0 ∧ apS T1 3 0 0 0 0 = T2 := ⟨by decide, rfl⟩
theorem al_e5 : ownA true T2 0 = -1 := by decide
theorem wf0 : wfI 0 := wfI_of (by omega) (by omega)
def c3 (B W L : Nat) : List Nat := [B, W, L]
theorem alive_any (w : World) : Calls Try.prog 9 #[] w fun e w' => e = .returned (.bool true) ∧ Ext w w' := by
  have hn := new_ok (n := 2) (m := 1) (k := 3) (by decide) w
  rw [show st0 2 1 3 = T0 from rfl] at hn
  go_enter Try.func9, Try.ntmps9
  go_wp2_with fail
  refine hn.mono ?_
  rintro e w1 ⟨B, W, L, rfl, hm, hB, hW, hL, hX⟩
  have lo : ∀ t, t ∈ [B, W, L] → w.heap.size ≤ t := by simp; omega
  go_wp2_with fail
  have c1 := apply_any hm 1 0 0 0 0 wf0
  rw [al_e1.1, al_e1.2] at c1
  clear hm
  refine c1.mono ?_
  rintro e w2 ⟨rfl, hm, hc⟩
  have hX := hX.turn hc lo
  clear c1 hc
  go_wp2_with fail
  have c2 := owner_any hm.any 0
  rw [al_e2.1] at c2
  refine c2.mono ?_
  rintro e w3 ⟨rfl, hx⟩
  have hm := hm.ext hx
  have hX := hX.trans hx
  clear c2 hx
  go_wp2_with fail
  have c2 := count_any hm.any 0
  rw [al_e2.2] at c2
  refine c2.mono ?_
  rintro e w4 ⟨rfl, hx⟩
  have hm := hm.ext hx
  have hX := hX.trans hx
  clear c2 hx
  go_wp2_with fail
  have c1 := apply_any hm 1 1 0 0 0 wf0
  rw [al_e3.1, al_e3.2] at c1
  clear hm
  refine c1.mono ?_
  rintro e w5 ⟨rfl, hm, hc⟩
  have hX := hX.turn hc lo
  clear c1 hc
  go_wp2_with fail
  have c1 := apply_any hm 3 0 0 0 0 wf0
  rw [al_e4.1, al_e4.2] at c1
  clear hm
  refine c1.mono ?_
  rintro e w6 ⟨rfl, hm, hc⟩
  have hX := hX.turn hc lo
  clear c1 hc
  go_wp2_with fail
  have c2 := owner_any hm.any 0
  rw [al_e5] at c2
  refine c2.mono ?_
  rintro e w7 ⟨rfl, hx⟩
  have hX := hX.trans hx
  clear c2 hx hm
  go_wp2_with fail
  go_ret
  exact ⟨by simp, hX⟩
theorem short_any (A : Option Addr) (n c : Nat) (w : World) (hn : n ≤ c) (hc : c ≤ maxLen) :
    Calls Try.prog 10 #[.slice A n c] w fun e w' => e = .returned (.slice A (min n 200) c) ∧ w = w' := by
  unfold maxLen at hc
  by_cases h : n ≤ 200
  · have h1 : (n : Int) ≤ 200 := by omega
    have E := hide (show min n 200 = n by omega)
    go_enter Try.func10, Try.ntmps10
    go_wp2
    go_ret
    exact ⟨by rw [E.out]; simp; omega, rfl⟩
  · have h1 : ¬ (n : Int) ≤ 200 := by omega
    have E := hide (show min n 200 = 200 by omega)
    have h2 : 200 ≤ c := by omega
    go_enter Try.func10, Try.ntmps10
    go_wp2
    go_ret
    exact ⟨by rw [E.out]; simp; omega, rfl⟩
/-- An event. -/
structure Evt where
  k : Int
  t : Int
  o : Int
  a : Int
  r : Int
instance : Inhabited Evt := ⟨⟨0, 0, 0, 0, 0⟩⟩
def sc (s : Evt) : Array Value := #[.int .i64 s.k, .int .i64 s.t, .int .i64 s.o, .int .i64 s.a, .int .i64 s.r]
structure Okst (s : Evt) : Prop where
  k : wfI s.k
  t : wfI s.t
  o : wfI s.o
  a : wfI s.a
  r : wfI s.r
theorem theirs_any (s : Evt) (w : World) : Calls Try.prog 13 #[.agg (sc s)] w fun e w' => e = .returned (.agg (sc s)) ∧ Ext w w' := by
  obtain ⟨k, t, o, a, r⟩ := s
  unfold sc
  simp only
  go_enter Try.func13, Try.ntmps13
  go_wp2_with fail
  refine bodyPost_ret (v := .agg #[.int .i64 k, .int .i64 t, .int .i64 o, .int .i64 a, .int .i64 r]) (by simp [results, Try.results13, go_sem, *]) rfl ?_
  exact ⟨rfl, by ((repeat (with_reducible refine Ext.set ?_ (by simp) _)); exact (Ext.alloc _ _).trans (Ext.alloc _ _))⟩
/-- The events that a slice reads as. -/
def Stps (w : World) (B : Nat) (A : Option Addr) (n : Nat) (f : Nat → Evt) : Prop :=
  ∀ k, k < n → ∃ b off, A = some ⟨b, off, none⟩ ∧ b < B ∧ ∀ i, i < 5 → w.cell? ⟨b, off + (k * 5 + i), none⟩ = (sc (f k))[i]?
theorem Stps.chg {w w' : World} {B n : Nat} {A : Option Addr} {f : Nat → Evt} (h : Stps w B A n f) (x : Ext w w') (hB : B ≤ w.heap.size) : Stps w' B A n f := fun k hk => by
  obtain ⟨b, off, ha, hb, hc⟩ := h k hk
  exact ⟨b, off, ha, hb, fun i hi => (x.oldCell _ _ (by omega)).trans (hc i hi)⟩
theorem Stps.rules {w : World} {B n : Nat} {A : Option Addr} {f : Nat → Evt} (h : Stps w B A n f) {k : Nat} (hk : k < n) :
    ∃ b off, A = some ⟨b, off, none⟩ ∧ b < B ∧ w.cell? ⟨b, off + k * 5, none⟩ = some (.int .i64 (f k).k) ∧ w.cell? ⟨b, off + k * 5 + 1, none⟩ = some (.int .i64 (f k).t) ∧ w.cell? ⟨b, off + k * 5 + 2, none⟩ = some (.int .i64 (f k).o) ∧ w.cell? ⟨b, off + k * 5 + 3, none⟩ = some (.int .i64 (f k).a) ∧ w.cell? ⟨b, off + k * 5 + 4, none⟩ = some (.int .i64 (f k).r) := by
  obtain ⟨b, off, ha, hb, hc⟩ := h k hk
  refine ⟨b, off, ha, hb, hc 0 (by omega), ?_, ?_, ?_, ?_⟩
  · rw [Nat.add_assoc]; exact hc 1 (by omega)
  · rw [Nat.add_assoc]; exact hc 2 (by omega)
  · rw [Nat.add_assoc]; exact hc 3 (by omega)
  · rw [Nat.add_assoc]; exact hc 4 (by omega)
section
variable {H : Type} {enc : TypeId × Value → H} {W : World} {base : Nat}
theorem trod_struct5 {t : TypeId} {f0 f1 f2 f3 f4 : Field} {fuel : Nat} {cs : List Value} {x : DataW H × List MemPlace} (ht : Try.prog.underlying t = some (.struct #[f0, f1, f2, f3, f4])) (h : DataW.trod enc Try.prog W 0 (fun _ => true) true fuel t cs = some x) :
    ∃ y0 y1 y2 y3 y4 n, DataW.trod enc Try.prog W 0 (fun _ => true) true n f0.type ((cs.drop f0.offset).take (Try.prog.cellsOf f0.type)) = some y0 ∧
      DataW.trod enc Try.prog W 0 (fun _ => true) true n f1.type ((cs.drop f1.offset).take (Try.prog.cellsOf f1.type)) = some y1 ∧ DataW.trod enc Try.prog W 0 (fun _ => true) true n f2.type ((cs.drop f2.offset).take (Try.prog.cellsOf f2.type)) = some y2 ∧
      DataW.trod enc Try.prog W 0 (fun _ => true) true n f3.type ((cs.drop f3.offset).take (Try.prog.cellsOf f3.type)) = some y3 ∧ DataW.trod enc Try.prog W 0 (fun _ => true) true n f4.type ((cs.drop f4.offset).take (Try.prog.cellsOf f4.type)) = some y4 := by
  obtain ⟨xs, n, _, rfl, hl, hlen, hf⟩ := DataW.trod_struct ht h
  match xs, hlen with
  | [y0, y1, y2, y3, y4], _ => exact ⟨y0, y1, y2, y3, y4, n, by simpa using hf 0 f0 rfl, by simpa using hf 1 f1 rfl, by simpa using hf 2 f2 rfl, by simpa using hf 3 f3 rfl, by simpa using hf 4 f4 rfl⟩
theorem open_cells {fuel : Nat} {cs : List Value} {x : DataW H × List MemPlace} (hl : cs.length = 5) (ht : DataW.trod enc Try.prog W 0 (fun _ => true) true fuel 41 cs = some x) : ∃ s : Evt, cs = (sc s).toList ∧ Okst s := by
  obtain ⟨y0, y1, y2, y3, y4, k, t0, t1, t2, t3, t4⟩ := trod_struct5 Try.underlying41 ht
  obtain ⟨q0, e0, _, w0⟩ := DataW.trod_int Try.underlying3 t0
  obtain ⟨q1, e1, _, w1⟩ := DataW.trod_int Try.underlying3 t1
  obtain ⟨q2, e2, _, w2⟩ := DataW.trod_int Try.underlying3 t2
  obtain ⟨q3, e3, _, w3⟩ := DataW.trod_int Try.underlying3 t3
  obtain ⟨q4, e4, _, w4⟩ := DataW.trod_int Try.underlying3 t4
  match cs, hl with
  | [c0, c1, c2, c3, c4], _ =>
    simp [show Try.prog.cellsOf 3 = 1 from by kernel_rfl] at e0 e1 e2 e3 e4
    subst e0 e1 e2 e3 e4
    exact ⟨⟨q0, q1, q2, q3, q4⟩, rfl, w0, w1, w2, w3, w4⟩
theorem open_steps {v : Value} {d : DataW H} {p : List MemPlace} (hv : Value.okWide Try.prog W .any base 23 v) (h : DataW.Trod enc Try.prog W 0 (fun _ => true) true 23 v d p) :
    ∃ (A : Option Addr) (n c : Nat) (f : Nat → Evt), v = .slice A n c ∧ n ≤ c ∧ c ≤ maxLen ∧ Stps W W.heap.size A n f ∧ ∀ k, k < n → Okst (f k) := by
  obtain ⟨A, n, c, xs, rfl, hnc, hc, hs, hel⟩ := open_elems Try.underlying23 (sz := 5) (by kernel_rfl) (by omega) hv h
  have h1 : ∀ i, i < n → ∃ s : Evt, (∀ j, j < 5 → xs[i * 5 + j]? = (sc s)[j]?) ∧ Okst s := by
    intro i hi
    obtain ⟨m, y, ht⟩ := hel i hi
    have hl : ((xs.drop (i * 5)).take 5).length = 5 := by
      have := hs.1
      have : (i + 1) * 5 ≤ n * 5 := Nat.mul_le_mul_right _ hi
      simp; omega
    obtain ⟨s, hs2, ok⟩ := open_cells hl ht
    refine ⟨s, fun j hj => ?_, ok⟩
    have e := congrArg (·[j]?) hs2
    simp only [List.getElem?_take, if_pos hj, List.getElem?_drop, Array.getElem?_toList] at e
    exact e
  obtain ⟨f, hf⟩ := choose_lt h1
  refine ⟨A, n, c, f, rfl, hnc, hc, fun k hk => ?_, fun k hk => (hf k hk).2⟩
  obtain ⟨b, off, ha, hb, hcells⟩ := hs.at_ hk
  exact ⟨b, off, ha, hb, fun i hi => (hcells i hi).trans ((hf k hk).1 i hi)⟩
end
end Go.Proofs.Ytfphibmpbfgliaa
