/- What the laws of layer 17 share: a rendezvous that is alive; steps that are not too many; the steps that come in. -/
import Derived.Test.YtndjlhnmpddpbaaR1
import Derived.Test.YtndjlhnmpddpbaaOpens
import Derived.Deep.Strs
namespace Go.Proofs.Ytndjlhnmpddpbaa
open Go.ChangeShapes Go.WideShapes Go.ChangeAt Go.RowKit Go.Deep Go.Joins
set_option linter.unusedVariables false
set_option linter.unusedSimpArgs false
set_option maxRecDepth 100000

theorem low2 {w : World} {M V : Nat} (h : w.heap.size ≤ M) (k : w.heap.size ≤ V) : ∀ t, t ∈ [M, V] → w.heap.size ≤ t := by simp; exact ⟨h, k⟩
def gA : Ti := putG 2 (fun _ => 0) 1 0 1
def gB : Ti := putG 2 gA 1 1 3
theorem al1 : don 2 (fun _ => 0) 1 = false := by decide
theorem al2 : don 2 gB 1 = true := by decide
theorem al3 : mayB 2 gB 0 0 = true := by decide
theorem al4 : mayB 2 gB 0 1 = false := by decide
theorem alive_any (w : World) : Calls Try.prog 9 #[] w fun e w' => e = .returned (.bool true) ∧ Ext w w' := by
  go_enter Try.func9, Try.ntmps9
  go_wp2_with fail
  refine (new_in 2 _ (by omega) (by omega)).mono ?_
  rintro e w1 ⟨M, V, rfl, hm, hM, hV, hX⟩
  have HT := hide (low2 hM hV)
  clear hM hV
  go_wp2_with fail
  refine (request_any hm (by omega)).mono ?_
  rintro e w2 ⟨rfl, hm, hc⟩
  have hX := hX.turn hc HT.out
  clear hc
  go_wp2_with fail
  refine (done_any hm (by omega)).mono ?_
  rw [al1, show dA false (0 + 1) = 0 from rfl, show dE false = 9 from rfl, show dW false (0 + 1) = 1 from rfl, show dR false 0 = 0 from rfl]
  rintro e w3 ⟨rfl, hm, hc⟩
  have hX := hX.turn hc HT.out
  clear hc
  go_wp2_with fail
  refine (put_any (z := 0) (s := 1) hm).mono ?_
  rw [show putG 2 (fun _ => 0) 1 0 1 = gA from rfl]
  rintro e w4 ⟨rfl, hm, hc⟩
  have hX := hX.turn hc HT.out
  clear hc
  go_wp2_with fail
  refine (put_any (z := 1) (s := 3) hm).mono ?_
  rw [show putG 2 gA 1 1 3 = gB from rfl]
  rintro e w5 ⟨rfl, hm, hc⟩
  have hX := hX.turn hc HT.out
  clear hc
  go_wp2_with fail
  refine (done_any hm (by omega)).mono ?_
  rw [al2, show dA true 1 = 1 from rfl, show dE true = 0 from rfl, show dW true 1 = 0 from rfl, show dR true 0 = 1 from rfl]
  rintro e w6 ⟨rfl, hm, hc⟩
  have hX := hX.turn hc HT.out
  clear hc
  go_wp2_with fail
  refine (rounds_any hm).mono ?_
  rintro e w7 ⟨rfl, rfl⟩
  go_wp2_with fail
  refine (may_any (z := 0) hm).mono ?_
  rw [al3]
  rintro e w7 ⟨rfl, rfl⟩
  go_wp2_with fail
  refine (may_any (z := 1) hm).mono ?_
  rw [al4]
  rintro e w7 ⟨rfl, rfl⟩
  go_wp2_with fail
  go_ret
  exact ⟨by simp, hX⟩
theorem short_any (A : Option Addr) (n c : Nat) (w : World) (hn : n ≤ c) (hc : c ≤ maxLen) :
    Calls Try.prog 10 #[.slice A n c] w fun e w' => e = .returned (.slice A (min n 300) c) ∧ w = w' := by
  unfold maxLen at hc
  by_cases h : n ≤ 300
  · have h1 : (n : Int) ≤ 300 := by omega
    have E := hide (show min n 300 = n by omega)
    go_enter Try.func10, Try.ntmps10
    go_wp2
    go_ret
    exact ⟨by rw [E.out]; simp, rfl⟩
  · have h1 : ¬ (n : Int) ≤ 300 := by omega
    have E := hide (show min n 300 = 300 by omega)
    have h2 : 300 ≤ c := by omega
    go_enter Try.func10, Try.ntmps10
    go_wp2
    go_ret
    exact ⟨by rw [E.out]; simp, rfl⟩
theorem and_low (n m : Int) (k : Nat) (hm : (BitVec.ofInt 64 m).toNat = 2 ^ k - 1) : bits .and .i64 n m = IntKind.i64.wrap (((n % ((2 ^ 64 : Nat) : Int)).toNat % 2 ^ k : Nat) : Int) := by
  show IntKind.i64.wrap ((BitVec.ofInt 64 n &&& BitVec.ofInt 64 m).toNat : Nat) = _
  rw [BitVec.toNat_and, BitVec.toNat_ofInt, hm, Nat.and_two_pow_sub_one_eq_mod]
theorem and3 (n : Int) : bits .and .i64 n 3 = n % 4 := by
  rw [and_low n 3 2 (by decide), IntKind.wrap_i64]; omega
theorem and7 (n : Int) : bits .and .i64 n 7 = n % 8 := by
  rw [and_low n 7 3 (by decide), IntKind.wrap_i64]; omega
/-- A step: its kind, thread, state. -/
structure Stp where
  k : Int
  n : Int
  s : Int
instance : Inhabited Stp := ⟨⟨0, 0, 0⟩⟩
def sc (s : Stp) : Array Value := #[.int .u8 s.k, .int .i64 s.n, .int .i64 s.s]
structure Okst (s : Stp) : Prop where
  k0 : 0 ≤ s.k
  k1 : s.k ≤ 255
  n0 : -9223372036854775808 ≤ s.n
  n1 : s.n ≤ 9223372036854775807
/-- The steps that a slice reads as. -/
def Stps (w : World) (B : Nat) (A : Option Addr) (n : Nat) (f : Nat → Stp) : Prop :=
  ∀ k, k < n → ∃ b off, A = some ⟨b, off, none⟩ ∧ b < B ∧ ∀ i, i < 3 → w.cell? ⟨b, off + (k * 3 + i), none⟩ = (sc (f k))[i]?
theorem Stps.chg {w w' : World} {B n : Nat} {A : Option Addr} {f : Nat → Stp} (h : Stps w B A n f) (x : Ext w w') (hB : B ≤ w.heap.size) : Stps w' B A n f := fun k hk => by
  obtain ⟨b, off, ha, hb, hc⟩ := h k hk
  exact ⟨b, off, ha, hb, fun i hi => (x.oldCell _ _ (by omega)).trans (hc i hi)⟩
theorem Stps.rules {w : World} {B n : Nat} {A : Option Addr} {f : Nat → Stp} (h : Stps w B A n f) {k : Nat} (hk : k < n) :
    ∃ b off, A = some ⟨b, off, none⟩ ∧ b < B ∧ w.cell? ⟨b, off + k * 3, none⟩ = some (.int .u8 (f k).k) ∧ w.cell? ⟨b, off + k * 3 + 1, none⟩ = some (.int .i64 (f k).n) ∧ w.cell? ⟨b, off + k * 3 + 2, none⟩ = some (.int .i64 (f k).s) := by
  obtain ⟨b, off, ha, hb, hc⟩ := h k hk
  refine ⟨b, off, ha, hb, hc 0 (by omega), ?_, ?_⟩
  · rw [Nat.add_assoc]; exact hc 1 (by omega)
  · rw [Nat.add_assoc]; exact hc 2 (by omega)
section
variable {H : Type} {enc : TypeId × Value → H} {W : World} {base : Nat}
theorem open_cells {fuel : Nat} {cs : List Value} {x : DataW H × List MemPlace} (hl : cs.length = 3) (ht : DataW.trod enc Try.prog W 0 (fun _ => true) true fuel 35 cs = some x) : ∃ s : Stp, cs = (sc s).toList ∧ Okst s := by
  obtain ⟨y0, y1, y2, k, _, _, t0, t1, t2⟩ := trod_struct3 Try.underlying35 ht
  obtain ⟨q0, e0, _, w0⟩ := DataW.trod_int Try.underlying5 t0
  obtain ⟨q1, e1, _, w1⟩ := DataW.trod_int Try.underlying3 t1
  obtain ⟨q2, e2, _, w2⟩ := DataW.trod_int Try.underlying3 t2
  have b0 := bounds_u8 w0
  have b1 := bounds_i64 w1
  match cs, hl with
  | [c0, c1, c2], _ =>
    simp [show Try.prog.cellsOf 5 = 1 from by kernel_rfl, show Try.prog.cellsOf 3 = 1 from by kernel_rfl] at e0 e1 e2
    subst e0 e1 e2
    exact ⟨⟨q0, q1, q2⟩, rfl, by simp only; omega, by simp only; omega, by simp only; omega, by simp only; omega⟩
theorem open_steps {v : Value} {d : DataW H} {p : List MemPlace} (hv : Value.okWide Try.prog W .any base 22 v) (h : DataW.Trod enc Try.prog W 0 (fun _ => true) true 22 v d p) :
    ∃ (A : Option Addr) (n c : Nat) (f : Nat → Stp), v = .slice A n c ∧ n ≤ c ∧ c ≤ maxLen ∧ Stps W W.heap.size A n f ∧ ∀ k, k < n → Okst (f k) := by
  obtain ⟨A, n, c, xs, rfl, hnc, hc, hs, hel⟩ := open_elems Try.underlying22 (sz := 3) (by kernel_rfl) (by omega) hv h
  have h1 : ∀ i, i < n → ∃ s : Stp, (∀ j, j < 3 → xs[i * 3 + j]? = (sc s)[j]?) ∧ Okst s := by
    intro i hi
    obtain ⟨m, y, ht⟩ := hel i hi
    have hl : ((xs.drop (i * 3)).take 3).length = 3 := by
      have := hs.1
      have : (i + 1) * 3 ≤ n * 3 := Nat.mul_le_mul_right _ hi
      simp; omega
    obtain ⟨s, hs2, ok⟩ := open_cells hl ht
    refine ⟨s, fun j hj => ?_, ok⟩
    have e := congrArg (·[j]?) hs2
    simp only [List.getElem?_take, if_pos hj, List.getElem?_drop, Array.getElem?_toList] at e
    exact e
  obtain ⟨f, hf⟩ := choose_lt h1
  refine ⟨A, n, c, f, rfl, hnc, hc, fun k hk => ?_, fun k hk => (hf k hk).2⟩
  obtain ⟨b, off, ha, hb, hcells⟩ := hs.at_ hk
  exact ⟨b, off, ha, hb, fun i hi => (hcells i hi).trans ((hf k hk).1 i hi)⟩
end
theorem open_step {H : Type} {enc : TypeId × Value → H} {W : World} {base : Nat} {v : Value} {d : DataW H} {p : List MemPlace} (hv : Value.okWide Try.prog W .any base 35 v)
    (h : DataW.Trod enc Try.prog W 0 (fun _ => true) true 35 v d p) : ∃ s : Stp, v = .agg (sc s) := by
  obtain ⟨cs, rfl, hsz⟩ := okWide_struct Try.underlying35 hv
  obtain ⟨fuel, hf⟩ := h
  have hc : Try.prog.cellsOf 35 = 3 := by kernel_rfl
  have hcc : (Value.agg cs).cells = cs := rfl
  rw [hcc] at hf
  obtain ⟨s, e, _⟩ := open_cells (by simpa using hsz.trans hc) hf
  exact ⟨s, by rw [show cs = sc s from Array.toList_inj.1 e]⟩
end Go.Proofs.Ytndjlhnmpddpbaa
