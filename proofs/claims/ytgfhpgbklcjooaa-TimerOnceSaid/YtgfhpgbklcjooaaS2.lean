/- The steps that come in. -/
import Derived.Test.YtgfhpgbklcjooaaS1
import Derived.Test.YtgfhpgbklcjooaaOpens
import Derived.Deep.Strs
namespace Go.Proofs.Ytgfhpgbklcjooaa
open Go.ChangeShapes Go.WideShapes Go.ChangeAt Go.RowKit Go.Deep Go.Joins
set_option linter.unusedVariables false
set_option linter.unusedSimpArgs false

theorem and_low (n m : Int) (k : Nat) (hm : (BitVec.ofInt 64 m).toNat = 2 ^ k - 1) : bits .and .i64 n m = IntKind.i64.wrap (((n % ((2 ^ 64 : Nat) : Int)).toNat % 2 ^ k : Nat) : Int) := by
  show IntKind.i64.wrap ((BitVec.ofInt 64 n &&& BitVec.ofInt 64 m).toNat : Nat) = _
  rw [BitVec.toNat_and, BitVec.toNat_ofInt, hm, Nat.and_two_pow_sub_one_eq_mod]
theorem and15 (n : Int) : bits .and .i64 n 15 = n % 16 := by
  rw [and_low n 15 4 (by decide), IntKind.wrap_i64]; omega
theorem and255 (n : Int) : bits .and .i64 n 255 = n % 256 := by
  rw [and_low n 255 8 (by decide), IntKind.wrap_i64]; omega
/-- A step: its kind, thread, number. -/
structure Stp where
  k : Int
  t : Int
  n : Int
instance : Inhabited Stp := ⟨⟨0, 0, 0⟩⟩
def sc (s : Stp) : Array Value := #[.int .u8 s.k, .int .i64 s.t, .int .i64 s.n]
structure Okst (s : Stp) : Prop where
  k0 : 0 ≤ s.k
  k1 : s.k ≤ 255
  wt : (ky s.t).wf = true
  wn : (ky s.n).wf = true
/-- The steps that a slice reads as. -/
def Stps (w : World) (B : Nat) (A : Option Addr) (n : Nat) (f : Nat → Stp) : Prop :=
  ∀ k, k < n → ∃ b off, A = some ⟨b, off, none⟩ ∧ b < B ∧ ∀ i, i < 3 → w.cell? ⟨b, off + (k * 3 + i), none⟩ = (sc (f k))[i]?
theorem Stps.chg {w w' : World} {B n : Nat} {A : Option Addr} {f : Nat → Stp} (h : Stps w B A n f) (x : Ext w w') (hB : B ≤ w.heap.size) : Stps w' B A n f := fun k hk => by
  obtain ⟨b, off, ha, hb, hc⟩ := h k hk
  exact ⟨b, off, ha, hb, fun i hi => (x.oldCell _ _ (by omega)).trans (hc i hi)⟩
theorem Stps.rules {w : World} {B n : Nat} {A : Option Addr} {f : Nat → Stp} (h : Stps w B A n f) {k : Nat} (hk : k < n) :
    ∃ b off, A = some ⟨b, off, none⟩ ∧ b < B ∧ w.cell? ⟨b, off + k * 3, none⟩ = some (.int .u8 (f k).k) ∧ w.cell? ⟨b, off + k * 3 + 1, none⟩ = some (.int .i64 (f k).t) ∧
      w.cell? ⟨b, off + k * 3 + 2, none⟩ = some (.int .i64 (f k).n) := by
  obtain ⟨b, off, ha, hb, hc⟩ := h k hk
  refine ⟨b, off, ha, hb, hc 0 (by omega), ?_, ?_⟩
  · rw [Nat.add_assoc]; exact hc 1 (by omega)
  · rw [Nat.add_assoc]; exact hc 2 (by omega)
section
variable {H : Type} {enc : TypeId × Value → H} {W : World} {base : Nat}
theorem open_cells {fuel : Nat} {cs : List Value} {x : DataW H × List MemPlace} (hl : cs.length = 3) (ht : DataW.trod enc Try.prog W 0 (fun _ => true) true fuel 30 cs = some x) : ∃ s : Stp, cs = (sc s).toList ∧ Okst s := by
  obtain ⟨y0, y1, y2, k, _, _, t0, t1, t2⟩ := trod_struct3 Try.underlying30 ht
  obtain ⟨q0, e0, _, w0⟩ := DataW.trod_int Try.underlying5 t0
  obtain ⟨q1, e1, _, w1⟩ := DataW.trod_int Try.underlying3 t1
  obtain ⟨q2, e2, _, w2⟩ := DataW.trod_int Try.underlying2 t2
  have b0 := bounds_u8 w0
  match cs, hl with
  | [c0, c1, c2], _ =>
    simp [show Try.prog.cellsOf 5 = 1 from by kernel_rfl, show Try.prog.cellsOf 3 = 1 from by kernel_rfl, show Try.prog.cellsOf 2 = 1 from by kernel_rfl] at e0 e1 e2
    subst e0 e1 e2
    exact ⟨⟨q0, q1, q2⟩, rfl, by simp only; omega, by simp only; omega, w1, w2⟩
theorem open_step {v : Value} {d : DataW H} {p : List MemPlace} (hv : Value.okWide Try.prog W .any base 30 v) (h : DataW.Trod enc Try.prog W 0 (fun _ => true) true 30 v d p) :
    ∃ s : Stp, v = .agg (sc s) ∧ Okst s := by
  obtain ⟨cs, rfl, hsz⟩ := okWide_struct Try.underlying30 hv
  obtain ⟨fuel, hf⟩ := h
  obtain ⟨l⟩ := cs
  obtain ⟨s, hs, ok⟩ := open_cells (cs := l) (by rw [show l.length = _ from hsz]; kernel_rfl) hf
  exact ⟨s, by rw [hs], ok⟩
theorem open_steps {v : Value} {d : DataW H} {p : List MemPlace} (hv : Value.okWide Try.prog W .any base 22 v) (h : DataW.Trod enc Try.prog W 0 (fun _ => true) true 22 v d p) :
    ∃ (A : Option Addr) (n c : Nat) (f : Nat → Stp), v = .slice A n c ∧ n ≤ c ∧ c ≤ maxLen ∧ Stps W W.heap.size A n f ∧ ∀ k, k < n → Okst (f k) := by
  obtain ⟨A, n, c, xs, rfl, hnc, hc, hs, hel⟩ := open_elems Try.underlying22 (sz := 3) (by kernel_rfl) (by omega) hv h
  have h1 : ∀ i, i < n → ∃ s : Stp, (∀ j, j < 3 → xs[i * 3 + j]? = (sc s)[j]?) ∧ Okst s := by
    intro i hi
    obtain ⟨m, y, ht⟩ := hel i hi
    have hl : ((xs.drop (i * 3)).take 3).length = 3 := by
      have := hs.1
      have : (i + 1) * 3 ≤ n * 3 := Nat.mul_le_mul_right _ hi
      simp; omega
    obtain ⟨s, hs2, ok⟩ := open_cells hl ht
    refine ⟨s, fun j hj => ?_, ok⟩
    have e := congrArg (·[j]?) hs2
    simp only [List.getElem?_take, if_pos hj, List.getElem?_drop, Array.getElem?_toList] at e
    exact e
  obtain ⟨f, hf⟩ := choose_lt h1
  refine ⟨A, n, c, f, rfl, hnc, hc, fun k hk => ?_, fun k hk => (hf k hk).2⟩
  obtain ⟨b, off, ha, hb, hcells⟩ := hs.at_ hk
  exact ⟨b, off, ha, hb, fun i hi => (hcells i hi).trans ((hf k hk).1 i hi)⟩
end
end Go.Proofs.Ytgfhpgbklcjooaa
