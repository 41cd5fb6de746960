/- The card's frame, and bytes that come in. -/
import Derived.Test.YtlgomkocalieeaaGreatDoorNB
import Derived.Test.YtlgomkocalieeaaGreatDoorLaid
import Derived.Test.YtlgomkocalieeaaGreatDoorOpens
import Derived.Test.YtlgomkocalieeaaGreatDoorTie
import Derived.Test.YtlgomkocalieeaaGreatDoorCards
import Derived.SevenTiedAt
import Derived.Deep.Strs
import Derived.ChangeSame
namespace Go.Proofs.YtlgomkocalieeaaGreatDoor
set_option maxRecDepth 100000
open Go.ChangeShapes Go.WideShapes Go.ChangeAt Go.RowKit Go.Joins Go.Deep
set_option linter.unusedVariables false
set_option linter.unusedSimpArgs false


def laidL : List (String × DataW Unit) := Rows.scriptOnceRow.laid

/-- What the row's condition gives the walks. -/
theorem glob_of_laid {W : World} (h : laidMetH Tryz.prog laidL W) : GlobW W := by
  rw [MakeChecks.laidMetH_plain _ _ _ (by kernel_rfl)] at h
  obtain ⟨ps, h, _⟩ := h
  obtain ⟨h1, q1, h⟩ := laid_bytes (a := 0) (d := 3) (g := 7) Tryz.underlying234 (by kernel_rfl) (by kernel_rfl) rfl rfl Tryz.underlying5 (by kernel_rfl) (by kernel_rfl) h
  obtain ⟨h2, q2, h⟩ := laid_bytes (a := 3) (d := 4) (g := 2) Tryz.underlying234 (by kernel_rfl) (by kernel_rfl) rfl rfl Tryz.underlying5 (by kernel_rfl) (by kernel_rfl) h
  obtain ⟨h3, q3, h⟩ := laid_bytes (a := 8) (d := 8) (g := 6) Tryz.underlying234 (by kernel_rfl) (by kernel_rfl) rfl rfl Tryz.underlying5 (by kernel_rfl) (by kernel_rfl) h
  obtain ⟨h4, q4, h⟩ := laid_bytes (a := 8) (d := 31) (g := 3) Tryz.underlying234 (by kernel_rfl) (by kernel_rfl) rfl rfl Tryz.underlying5 (by kernel_rfl) (by kernel_rfl) h
  obtain ⟨h5, q5, h⟩ := laid_bytes (a := 24) (d := 16) (g := 1) Tryz.underlying234 (by kernel_rfl) (by kernel_rfl) rfl rfl Tryz.underlying5 (by kernel_rfl) (by kernel_rfl) h
  obtain ⟨h6, q6, h⟩ := laid_bytes (a := 8) (d := 16) (g := 0) Tryz.underlying234 (by kernel_rfl) (by kernel_rfl) rfl rfl Tryz.underlying5 (by kernel_rfl) (by kernel_rfl) h
  obtain ⟨h7, q7, h⟩ := laid_bytes (a := 8) (d := 16) (g := 4) Tryz.underlying234 (by kernel_rfl) (by kernel_rfl) rfl rfl Tryz.underlying5 (by kernel_rfl) (by kernel_rfl) h
  obtain ⟨h8, _, _⟩ := laid_bytes (a := 24) (d := 24) (g := 5) Tryz.underlying234 (by kernel_rfl) (by kernel_rfl) rfl rfl Tryz.underlying5 (by kernel_rfl) (by kernel_rfl) h
  exact ⟨h1, h2, h3, h4, h5, h6, h7, h8⟩

/-- The heap that the program's own start leaves meets the condition. -/
theorem door_met (os : Os) (args : Array Value) : laidMetH Tryz.prog laidL ((World.doorLaid Tryz.prog 100 os).forCall (fun _ _ => 0) ⟨#[], args, []⟩).memory :=
  laidMetH_of_parts3 (fuel := 8) (laidMet_of_run' 8 (by kernel_rfl) (by kernel_rfl)) (by kernel_rfl) (by kernel_rfl)

section
variable {H : Type} {enc : TypeId × Value → H}
theorem law_lifted_laid {f : FuncId} {fn : Func} {s : ChangeSpec} (T : TypeId) (os : Os) (started : os.Started)
    (noInit : Tryz.prog.inits.idxOf? f = none) (hF : Tryz.prog.funcs[f]? = some fn)
    (hvars : s.vars = []) (hres : fn.resultTypes = #[T]) (hT : Tryz.prog.underlying T = some .bool)
    (hread : ∀ t ∈ fn.params.toList, Tryz.prog.readableRec t = true ∧ t < Tryz.prog.types.size)
    (hfn : ∀ l : List (DataW H), l.length = fn.params.size → s.fn H (l ++ []) = { results := [.lit (.bool true)], args := l })
    (witness : ∃ (w : World) (tape : Tape) (i : Input), w.os = os ∧ (w.forCall tape i).Shaped Tryz.checked.prog ∧ i.vars = [] ∧ Input.okWide Tryz.checked.prog (w.forCall tape i) .any w.heap.size f i ∧
      ((s.pre enc Tryz.checked.prog fn [] false (w.forCall tape i).memory i.args ∧ laidMetH Tryz.prog laidL (w.forCall tape i).memory) ∧ sizedMet enc Tryz.checked.prog fn (OpenSpec.ofChange s) false (w.forCall tape i).memory i.args) ∧ ({} : Assume).holds Tryz.checked.prog (lone (Frame.enter Tryz.checked.prog f i.args .normal) [] (w.forCall tape i)))
    (walk : ∀ (W : World) (base : Nat) (args : Array Value) (ds : List (DataW H)) (p : List MemPlace), GlobW W →
      (∀ (j : Nat) t v, fn.params[j]? = some t → args[j]? = some v → Value.okWide Tryz.prog W .any base t v) →
      DataW.TrodAll enc Tryz.prog W 0 (fun _ => true) true fn.params.toList args.toList ds p → (∀ x ∈ p, x.block < W.heap.size) →
      Calls Tryz.prog f args W fun e W' => e = .returned (.bool true) ∧ Ext W W') :
    ReturnsInHanded {} Tryz.checked os f .any (fun w args => (s.pre enc Tryz.prog fn [] false w args ∧ laidMetH Tryz.prog laidL w) ∧ sizedMet enc Tryz.prog fn (OpenSpec.ofChange s) false w args) (s.post enc Tryz.prog fn false true false false) := by
  refine returnsInHanded_of_change_and (C := Tryz.checked) (X := fun w _ => laidMetH Tryz.prog laidL w) (fun _ _ _ hh h => h.of_heap hh) own started noInit hF witness ?_
  intro W base args ds gs before hval hW _ _ hL _
  have hW0 : DataW.Whole enc Tryz.prog fn.params.toList s.vars false W args.toList ds gs before := hW
  have hlt : ∀ p ∈ before, p.block < W.heap.size := fun p hp => hW0.lt p hp
  have hW2 := hW0
  obtain ⟨p, q, hA, hV, rfl, _, _⟩ := hW2
  refine (walk W base args ds p (glob_of_laid hL) hval hA (fun x hx => hlt x (List.mem_append_left _ hx))).mono fun e W' ⟨he, hb⟩ => ?_
  subst he
  exact ⟨_, rfl, law_post T hvars hres hT hread hfn hW0 hb⟩
end
section
variable {H : Type} {enc : TypeId × Value → H} {W : World} {base : Nat}
theorem open_bytes {v : Value} {d : DataW H} {p : List MemPlace} (hv : Value.okWide Tryz.prog W .any base 31 v) (h : DataW.Trod enc Tryz.prog W 0 (fun _ => true) true 31 v d p) :
    ∃ (A : Option Addr) (l : List UInt8) (c : Nat), v = .slice A l.length c ∧ l.length ≤ c ∧ c ≤ maxLen ∧ By W A l ∧ (l.length = 0 ∨ ∀ b, A = some b → b.block < W.heap.size) := by
  obtain ⟨A, n, c, xs, rfl, hnc, hc, hs, hel⟩ := open_elems Tryz.underlying31 (sz := 1) (by kernel_rfl) (by omega) hv h
  have h1 : ∀ i, i < n → ∃ s : UInt8, xs[i]? = some (.int .u8 (s.toNat : Int)) := by
    intro i hi
    obtain ⟨m, y, ht⟩ := hel i hi
    obtain ⟨q, e, _, hw⟩ := DataW.trod_int Tryz.underlying5 ht
    have hq := bounds_u8 hw
    have hx : xs[i]? = some (.int .u8 q) := by
      have := congrArg (·[0]?) e
      simpa [List.getElem?_take, List.getElem?_drop] using this
    refine ⟨UInt8.ofNat q.toNat, ?_⟩
    rw [hx]
    congr 2
    simp only [UInt8.toNat_ofNat']
    omega
  obtain ⟨f, hf⟩ := choose_lt h1
  refine ⟨A, (List.range n).map f, c, by simp, by simpa using hnc, hc, ?_, ?_⟩
  rotate_left
  · rcases Nat.eq_zero_or_pos n with h0 | h0
    · exact .inl (by simp [h0])
    · obtain ⟨b, off, ha, hb, hcell⟩ := hs.2 h0
      refine .inr fun q hq => ?_
      rw [ha] at hq
      obtain rfl := Option.some.inj hq
      exact hb
  rcases Nat.eq_zero_or_pos n with h0 | h0
  · exact .inl (by simp [h0])
  · obtain ⟨b, off, ha, hb, hcell⟩ := hs.2 h0
    refine .inr ⟨b, off, ha, hb, fun j hj => ?_⟩
    have hj2 : j < n := by simpa using hj
    simp only [List.getElem_map, List.getElem_range]
    exact (hcell j (by omega)).trans (hf j hj2)
end
end Go.Proofs.YtlgomkocalieeaaGreatDoor
