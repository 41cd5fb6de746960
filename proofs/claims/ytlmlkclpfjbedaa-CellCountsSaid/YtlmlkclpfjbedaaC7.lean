/- The steps that come in, and what the laws of layer 3 share of them. -/
import Derived.Test.YtlmlkclpfjbedaaC6
import Derived.Test.YtlmlkclpfjbedaaOpens
namespace Go.Proofs.Ytlmlkclpfjbedaa
open Go.ChangeShapes Go.WideShapes Go.ChangeAt Go.RowKit Go.Deep Go.Joins
set_option linter.unusedVariables false
set_option linter.unusedSimpArgs false

/-- A step: its kind, address, old word and new one. -/
structure Stp where
  k : Int
  a : Int
  o : Int
  x : Int
instance : Inhabited Stp := ⟨⟨0, 0, 0, 0⟩⟩
def sc (s : Stp) : Array Value := #[.int .u8 s.k, .int .i64 s.a, .int .u64 s.o, .int .u64 s.x]
structure Okst (s : Stp) : Prop where
  k0 : 0 ≤ s.k
  k1 : s.k ≤ 255
  a0 : -9223372036854775808 ≤ s.a
  a1 : s.a ≤ 9223372036854775807
/-- The steps that a slice reads as. -/
def Stps (w : World) (B : Nat) (A : Option Addr) (n : Nat) (f : Nat → Stp) : Prop :=
  ∀ k, k < n → ∃ b off, A = some ⟨b, off, none⟩ ∧ b < B ∧ ∀ i, i < 4 → w.cell? ⟨b, off + (k * 4 + i), none⟩ = (sc (f k))[i]?
theorem Stps.chg {w w' : World} {B n : Nat} {A : Option Addr} {f : Nat → Stp} (h : Stps w B A n f) (x : Ext w w') (hB : B ≤ w.heap.size) : Stps w' B A n f := fun k hk => by
  obtain ⟨b, off, ha, hb, hc⟩ := h k hk
  exact ⟨b, off, ha, hb, fun i hi => (x.oldCell _ _ (by omega)).trans (hc i hi)⟩
theorem Stps.rules {w : World} {B n : Nat} {A : Option Addr} {f : Nat → Stp} (h : Stps w B A n f) {k : Nat} (hk : k < n) :
    ∃ b off, A = some ⟨b, off, none⟩ ∧ b < B ∧ w.cell? ⟨b, off + k * 4, none⟩ = some (.int .u8 (f k).k) ∧ w.cell? ⟨b, off + k * 4 + 1, none⟩ = some (.int .i64 (f k).a) ∧
      w.cell? ⟨b, off + k * 4 + 2, none⟩ = some (.int .u64 (f k).o) ∧ w.cell? ⟨b, off + k * 4 + 3, none⟩ = some (.int .u64 (f k).x) := by
  obtain ⟨b, off, ha, hb, hc⟩ := h k hk
  refine ⟨b, off, ha, hb, hc 0 (by omega), ?_, ?_, ?_⟩
  · rw [Nat.add_assoc]; exact hc 1 (by omega)
  · rw [Nat.add_assoc]; exact hc 2 (by omega)
  · rw [Nat.add_assoc]; exact hc 3 (by omega)
section
variable {H : Type} {enc : TypeId × Value → H} {W : World} {base : Nat}
theorem open_steps {v : Value} {d : DataW H} {p : List MemPlace} (hv : Value.okWide Try.prog W .any base 22 v) (h : DataW.Trod enc Try.prog W 0 (fun _ => true) true 22 v d p) :
    ∃ (A : Option Addr) (n c : Nat) (f : Nat → Stp), v = .slice A n c ∧ n ≤ c ∧ c ≤ maxLen ∧ Stps W W.heap.size A n f ∧ ∀ k, k < n → Okst (f k) := by
  obtain ⟨A, n, c, xs, rfl, hnc, hc, hs, hel⟩ := open_elems Try.underlying22 (sz := 4) (by kernel_rfl) (by omega) hv h
  have h1 : ∀ i, i < n → ∃ s : Stp, (∀ j, j < 4 → xs[i * 4 + j]? = (sc s)[j]?) ∧ Okst s := by
    intro i hi
    obtain ⟨m, y, ht⟩ := hel i hi
    obtain ⟨y0, y1, y2, y3, k, _, _, t0, t1, t2, t3⟩ := trod_struct4 Try.underlying34 ht
    obtain ⟨q0, e0, _, w0⟩ := DataW.trod_int Try.underlying5 t0
    obtain ⟨q1, e1, _, w1⟩ := DataW.trod_int Try.underlying3 t1
    obtain ⟨q2, e2, _, w2⟩ := DataW.trod_int Try.underlying32 t2
    obtain ⟨q3, e3, _, w3⟩ := DataW.trod_int Try.underlying32 t3
    have b0 := bounds_u8 w0
    have b1 := bounds_i64 w1
    refine ⟨⟨q0, q1, q2, q3⟩, fun j hj => ?_, by simp only; omega, by simp only; omega, by simp only; omega, by simp only; omega⟩
    have f0 := congrArg (·[0]?) e0
    have f1 := congrArg (·[0]?) e1
    have f2 := congrArg (·[0]?) e2
    have f3 := congrArg (·[0]?) e3
    simp [show Try.prog.cellsOf 5 = 1 from by kernel_rfl, show Try.prog.cellsOf 3 = 1 from by kernel_rfl, show Try.prog.cellsOf 32 = 1 from by kernel_rfl] at f0 f1 f2 f3
    rcases (by omega : j = 0 ∨ j = 1 ∨ j = 2 ∨ j = 3) with rfl | rfl | rfl | rfl
    · simpa [sc] using f0
    · simpa [sc] using f1
    · simpa [sc] using f2
    · simpa [sc] using f3
  obtain ⟨f, hf⟩ := choose_lt h1
  refine ⟨A, n, c, f, rfl, hnc, hc, fun k hk => ?_, fun k hk => (hf k hk).2⟩
  obtain ⟨b, off, ha, hb, hcells⟩ := hs.at_ hk
  exact ⟨b, off, ha, hb, fun i hi => (hcells i hi).trans ((hf k hk).1 i hi)⟩
end
theorem new_i (k : Int) (w : World) (h1 : 1 ≤ k) (h2 : k ≤ 4096) :
    Calls Try.prog 7 #[.int .i64 k] w fun e w' => ∃ M V, e = .returned (.tuple #[.pointer (some ⟨M, 0, none⟩), .int .i64 0]) ∧ MemT w' M V 0 (zeros k.toNat) ∧ w.heap.size ≤ M ∧ w.heap.size ≤ V ∧ Ext w w' := by
  obtain ⟨n, rfl⟩ := Int.eq_ofNat_of_zero_le (show 0 ≤ k by omega)
  exact new_in n w (by omega) (by omega)
theorem low_MV {w : World} {M V : Nat} (h1 : w.heap.size ≤ M) (h2 : w.heap.size ≤ V) : ∀ t, t ∈ [M, V] → w.heap.size ≤ t := by simp; exact ⟨h1, h2⟩
theorem far_MV {w : World} {M V : Nat} {acc : Int} {ws : List Int} (h : MemT w M V acc ws) : w.heap.size ∉ [M, V] := by
  have h1 := h.m.lt
  have h2 := h.v.lt
  simp; omega
end Go.Proofs.Ytlmlkclpfjbedaa
