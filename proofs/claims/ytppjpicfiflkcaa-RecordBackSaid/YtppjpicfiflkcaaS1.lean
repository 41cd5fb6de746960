/- What the laws of layer 9 share: a stack that is alive; steps that are not too many; the steps that come in. -/
import Derived.Test.YtppjpicfiflkcaaR2
import Derived.Test.YtppjpicfiflkcaaOpens
import Derived.Deep.Strs
namespace Go.Proofs.Ytppjpicfiflkcaa
set_option maxRecDepth 100000
open Go.ChangeShapes Go.WideShapes Go.ChangeAt Go.RowKit Go.Deep Go.Joins
set_option linter.unusedVariables false
set_option linter.unusedSimpArgs false

theorem low2 {w : World} {M g : Nat} (h : w.heap.size ≤ M) (k : w.heap.size ≤ g) : ∀ t, t ∈ [M, g] → w.heap.size ≤ t := by simp; exact ⟨h, k⟩
theorem al1 : pushE 5 [] 7 = 0 ∧ pushL 5 [] 7 1 = [(7, 1)] := by decide
theorem al2 : pushE 5 [(7, 1)] 8 = 0 ∧ pushL 5 [(7, 1)] 8 1 = [(7, 1), (8, 1)] := by decide
theorem al3 : pushE 5 [(7, 1), (8, 1)] 7 = 0 ∧ pushA 5 [(7, 1), (8, 1)] 7 = 2 ∧ pushL 5 [(7, 1), (8, 1)] 7 0 = [(7, 1), (8, 1), (7, 0)] := by decide
theorem al4 : cntL [(7, 1), (8, 1), (7, 0)] 7 = 2 := by decide
theorem al5 : topI [(7, 1), (8, 1), (7, 0)] 7 = 2 := by decide
theorem al6 : getR 5 [(7, 1), (8, 1), (7, 0)] 2 = (7, 0) ∧ erA 5 [(7, 1), (8, 1), (7, 0)] 2 = 0 := by decide
theorem al7 : popL 5 [(7, 1), (8, 1), (7, 0)] 7 = [(7, 1), (8, 1)] := by decide
set_option maxRecDepth 100000 in
theorem alive_any (w : World) : Calls Try.prog 9 #[] w fun e w' => e = .returned (.bool true) ∧ Ext w w' := by
  go_enter Try.func9, Try.ntmps9
  go_wp2_with fail
  refine (new_in 5 _ (by omega) (by omega)).mono ?_
  rintro e w1 ⟨M, rfl, hm, hM, hX⟩
  go_wp2_with fail
  refine (push_any 1 hm hM hM (by simp) (by omega)).mono ?_
  rintro e w2 ⟨rfl, g2, hm, hg2, hc⟩
  have hX := hX.turn hc (low2 hM hM)
  clear hc
  rw [show ((5 : Nat) : Int) = 5 from rfl] at hm
  rw [al1.2] at hm
  go_wp2_with fail
  refine (push_any 1 hm hM hg2 (by simp) (by omega)).mono ?_
  rintro e w3 ⟨rfl, g3, hm, hg3, hc⟩
  have hX := hX.turn hc (low2 hM hg2)
  clear hc
  rw [al2.2] at hm
  go_wp2_with fail
  refine (push_any 0 hm hM hg3 (by simp) (by omega)).mono ?_
  rw [al3.1, al3.2.1, al3.2.2]
  rintro e w4 ⟨rfl, g4, hm, hg4, hc⟩
  have hX := hX.turn hc (low2 hM hg3)
  clear hc
  go_wp2_with fail
  refine (count_any 7 hm.lst (by simp)).mono ?_
  rw [al4]
  rintro e w5 ⟨rfl, hx⟩
  have hm := hm.ext hx
  have hX := hX.trans hx
  clear hx
  go_wp2_with fail
  refine (pop_any hm (by simp)).mono ?_
  rw [al5, al6.1, al6.2, al7]
  rintro e w6 ⟨rfl, hm, hc⟩
  have hX := hX.turn hc (low2 hM hg4)
  clear hc
  have hm := hm.ext (Ext.alloc w6 (.cells #[.int .i64 7, .int .u64 0] 38))
  have hX := hX.trans (Ext.alloc w6 (.cells #[.int .i64 7, .int .u64 0] 38))
  go_wp2_with fail
  refine (len_any hm.lst).mono ?_
  rintro e w7 ⟨rfl, rfl⟩
  go_wp2_with fail
  go_ret
  exact ⟨by simp, hX⟩
theorem short_any (A : Option Addr) (n c : Nat) (w : World) (hn : n ≤ c) (hc : c ≤ maxLen) :
    Calls Try.prog 10 #[.slice A n c] w fun e w' => e = .returned (.slice A (min n 200) c) ∧ w = w' := by
  unfold maxLen at hc
  by_cases h : n ≤ 200
  · have h1 : (n : Int) ≤ 200 := by omega
    have E := hide (show min n 200 = n by omega)
    go_enter Try.func10, Try.ntmps10
    go_wp2
    go_ret
    exact ⟨by rw [E.out]; simp; omega, rfl⟩
  · have h1 : ¬ (n : Int) ≤ 200 := by omega
    have E := hide (show min n 200 = 200 by omega)
    have h2 : 200 ≤ c := by omega
    go_enter Try.func10, Try.ntmps10
    go_wp2
    go_ret
    exact ⟨by rw [E.out]; simp; omega, rfl⟩
/-- A step: its kind, object (or place), saved word. -/
structure Stp where
  k : Int
  n : Int
  s : Int
instance : Inhabited Stp := ⟨⟨0, 0, 0⟩⟩
def sc (s : Stp) : Array Value := #[.int .u8 s.k, .int .i64 s.n, .int .u64 s.s]
structure Okst (s : Stp) : Prop where
  k0 : 0 ≤ s.k
  k1 : s.k ≤ 255
  n0 : -9223372036854775808 ≤ s.n
  n1 : s.n ≤ 9223372036854775807
/-- The steps that a slice reads as. -/
def Stps (w : World) (B : Nat) (A : Option Addr) (n : Nat) (f : Nat → Stp) : Prop :=
  ∀ k, k < n → ∃ b off, A = some ⟨b, off, none⟩ ∧ b < B ∧ ∀ i, i < 3 → w.cell? ⟨b, off + (k * 3 + i), none⟩ = (sc (f k))[i]?
theorem Stps.chg {w w' : World} {B n : Nat} {A : Option Addr} {f : Nat → Stp} (h : Stps w B A n f) (x : Ext w w') (hB : B ≤ w.heap.size) : Stps w' B A n f := fun k hk => by
  obtain ⟨b, off, ha, hb, hc⟩ := h k hk
  exact ⟨b, off, ha, hb, fun i hi => (x.oldCell _ _ (by omega)).trans (hc i hi)⟩
theorem Stps.rules {w : World} {B n : Nat} {A : Option Addr} {f : Nat → Stp} (h : Stps w B A n f) {k : Nat} (hk : k < n) :
    ∃ b off, A = some ⟨b, off, none⟩ ∧ b < B ∧ w.cell? ⟨b, off + k * 3, none⟩ = some (.int .u8 (f k).k) ∧ w.cell? ⟨b, off + k * 3 + 1, none⟩ = some (.int .i64 (f k).n) ∧ w.cell? ⟨b, off + k * 3 + 2, none⟩ = some (.int .u64 (f k).s) := by
  obtain ⟨b, off, ha, hb, hc⟩ := h k hk
  refine ⟨b, off, ha, hb, hc 0 (by omega), ?_, ?_⟩
  · rw [Nat.add_assoc]; exact hc 1 (by omega)
  · rw [Nat.add_assoc]; exact hc 2 (by omega)
section
variable {H : Type} {enc : TypeId × Value → H} {W : World} {base : Nat}
theorem open_cells {fuel : Nat} {cs : List Value} {x : DataW H × List MemPlace} (hl : cs.length = 3) (ht : DataW.trod enc Try.prog W 0 (fun _ => true) true fuel 36 cs = some x) : ∃ s : Stp, cs = (sc s).toList ∧ Okst s := by
  obtain ⟨y0, y1, y2, k, _, _, t0, t1, t2⟩ := trod_struct3 Try.underlying36 ht
  obtain ⟨q0, e0, _, w0⟩ := DataW.trod_int Try.underlying5 t0
  obtain ⟨q1, e1, _, w1⟩ := DataW.trod_int Try.underlying3 t1
  obtain ⟨q2, e2, _, w2⟩ := DataW.trod_int Try.underlying34 t2
  have b0 := bounds_u8 w0
  have b1 := bounds_i64 w1
  match cs, hl with
  | [c0, c1, c2], _ =>
    simp [show Try.prog.cellsOf 5 = 1 from by kernel_rfl, show Try.prog.cellsOf 3 = 1 from by kernel_rfl, show Try.prog.cellsOf 34 = 1 from by kernel_rfl] at e0 e1 e2
    subst e0 e1 e2
    exact ⟨⟨q0, q1, q2⟩, rfl, by simp only; omega, by simp only; omega, by simp only; omega, by simp only; omega⟩
theorem open_steps {v : Value} {d : DataW H} {p : List MemPlace} (hv : Value.okWide Try.prog W .any base 22 v) (h : DataW.Trod enc Try.prog W 0 (fun _ => true) true 22 v d p) :
    ∃ (A : Option Addr) (n c : Nat) (f : Nat → Stp), v = .slice A n c ∧ n ≤ c ∧ c ≤ maxLen ∧ Stps W W.heap.size A n f ∧ ∀ k, k < n → Okst (f k) := by
  obtain ⟨A, n, c, xs, rfl, hnc, hc, hs, hel⟩ := open_elems Try.underlying22 (sz := 3) (by kernel_rfl) (by omega) hv h
  have h1 : ∀ i, i < n → ∃ s : Stp, (∀ j, j < 3 → xs[i * 3 + j]? = (sc s)[j]?) ∧ Okst s := by
    intro i hi
    obtain ⟨m, y, ht⟩ := hel i hi
    have hl : ((xs.drop (i * 3)).take 3).length = 3 := by
      have := hs.1
      have : (i + 1) * 3 ≤ n * 3 := Nat.mul_le_mul_right _ hi
      simp; omega
    obtain ⟨s, hs2, ok⟩ := open_cells hl ht
    refine ⟨s, fun j hj => ?_, ok⟩
    have e := congrArg (·[j]?) hs2
    simp only [List.getElem?_take, if_pos hj, List.getElem?_drop, Array.getElem?_toList] at e
    exact e
  obtain ⟨f, hf⟩ := choose_lt h1
  refine ⟨A, n, c, f, rfl, hnc, hc, fun k hk => ?_, fun k hk => (hf k hk).2⟩
  obtain ⟨b, off, ha, hb, hcells⟩ := hs.at_ hk
  exact ⟨b, off, ha, hb, fun i hi => (hcells i hi).trans ((hf k hk).1 i hi)⟩
end
end Go.Proofs.Ytppjpicfiflkcaa
