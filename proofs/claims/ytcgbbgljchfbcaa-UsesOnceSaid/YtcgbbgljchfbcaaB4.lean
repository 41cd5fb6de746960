/- Those pairs that are wanted: collected out of a map, sorted by slots. -/
import Derived.Test.YtcgbbgljchfbcaaB3
import Derived.Test.YtcgbbgljchfbcaaShelf
import Derived.Shelf.SlSortCmp.NoneTotal
namespace Go.Proofs.Ytcgbbgljchfbcaa
open Go.RowKit Go.Maps
set_option linter.unusedSimpArgs false
set_option linter.unusedVariables false

def cmpZ (a b : Int) : Int := if a < b then -1 else if b < a then 1 else 0
theorem nanI_any (a : Int) (w : World) : Calls Try.prog 35 #[.int .i64 a] w fun e w' => e = .returned (.bool false) ∧ w = w' := by
  go_enter Try.func35, Try.ntmps35
  go_wp2
  go_ret
  exact ⟨by simp, rfl⟩
theorem cmpInt_any (a b : Int) (w : World) : Calls Try.prog 32 #[.int .i64 a, .int .i64 b] w fun e w' => e = .returned (.int .i64 (cmpZ a b)) ∧ w = w' := by
  by_cases h1 : a < b
  · have E0 : cmpZ a b = -1 := if_pos h1
    have E := hide E0
    go_enter Try.func32, Try.ntmps32
    go_wp2_with fail
    refine (nanI_any a w).mono ?_
    rintro e w1 ⟨rfl, rfl⟩
    go_wp2_with fail
    refine (nanI_any b w).mono ?_
    rintro e w1 ⟨rfl, rfl⟩
    go_wp2_with fail
    go_ret
    exact ⟨by rw [E.out]; rfl, rfl⟩
  · by_cases h2 : b < a
    · have E0 : cmpZ a b = 1 := by unfold cmpZ; rw [if_neg h1, if_pos h2]
      have E := hide E0
      go_enter Try.func32, Try.ntmps32
      go_wp2_with fail
      refine (nanI_any a w).mono ?_
      rintro e w1 ⟨rfl, rfl⟩
      go_wp2_with fail
      refine (nanI_any b w).mono ?_
      rintro e w1 ⟨rfl, rfl⟩
      go_wp2_with fail
      go_ret
      exact ⟨by rw [E.out]; rfl, rfl⟩
    · have E0 : cmpZ a b = 0 := by unfold cmpZ; rw [if_neg h1, if_neg h2]
      have E := hide E0
      go_enter Try.func32, Try.ntmps32
      go_wp2_with fail
      refine (nanI_any a w).mono ?_
      rintro e w1 ⟨rfl, rfl⟩
      go_wp2_with fail
      refine (nanI_any b w).mono ?_
      rintro e w1 ⟨rfl, rfl⟩
      go_wp2_with fail
      go_ret
      exact ⟨by rw [E.out]; rfl, rfl⟩
def enP (p : Pr) : List Value := [.int .i64 p.s, .int .i64 p.o, .int .i64 p.t]
def cfP (x y : Pr) : Int := cmpZ x.s y.s
theorem cmpf_any (p q : Pr) (w : World) : Calls Try.prog 31 #[(Value.agg #[.int .i64 p.s, .int .i64 p.o, .int .i64 p.t]), (Value.agg #[.int .i64 q.s, .int .i64 q.o, .int .i64 q.t])] w fun e w' => e = .returned (.int .i64 (cfP p q)) ∧ ∃ k os, w' = Sort.grow (w.drewN k) os := by
  have E := hide (show cfP p q = cmpZ p.s q.s from rfl)
  go_enter Try.func31, Try.ntmps31
  go_wp2_with fail
  refine (cmpInt_any _ _ _).mono ?_
  rintro e w1 ⟨rfl, rfl⟩
  go_wp2_with fail
  go_ret
  refine ⟨by rw [E.out]; rfl, 0, #[.cells #[.int .i64 p.s, .int .i64 p.o, .int .i64 p.t] 33] ++ #[.cells #[.int .i64 q.s, .int .i64 q.o, .int .i64 q.t] 33], ?_⟩
  rw [Sort.alloc_eq_grow, Sort.alloc_eq_grow, Sort.grow_grow]
  rfl
def fA (_ : Pr) : Bool := true
def fT (z : Int) (p : Pr) : Bool := p.t == z
theorem allf_any (p : Pr) (w : World) : Calls Try.prog 28 #[(Value.agg #[.int .i64 p.s, .int .i64 p.o, .int .i64 p.t])] w fun e w' => e = .returned (.bool (fA p)) ∧ Ext w w' := by
  go_enter Try.func28, Try.ntmps28
  go_wp2
  go_ret
  exact ⟨rfl, Ext.alloc _ _⟩
theorem off_any (p : Pr) {w : World} {B : Nat} {z : Int} (hB : Blk w B #[.int .i64 z] 3) : Calls Try.prog 29 #[(Value.agg #[.int .i64 p.s, .int .i64 p.o, .int .i64 p.t]), .pointer (some ⟨B, 0, none⟩)] w fun e w' => e = .returned (.bool (fT z p)) ∧ Ext w w' := by
  have E := hide (show fT z p = (p.t == z) from rfl)
  have r := (hB.ext (Ext.alloc w (.cells #[.int .i64 p.s, .int .i64 p.o, .int .i64 p.t] 33))).cell
  go_enter Try.func29, Try.ntmps29
  go_wp2
  go_ret
  exact ⟨by rw [E.out]; simp, Ext.alloc _ _⟩
end Go.Proofs.Ytcgbbgljchfbcaa
