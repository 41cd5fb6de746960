/- A memory of package cell in the world: its two blocks, and what its methods do. -/
import Derived.Test.YtlmlkclpfjbedaaTurn
namespace Go.Proofs.Ytlmlkclpfjbedaa
open Go.RowKit
set_option linter.unusedSimpArgs false
set_option linter.unusedVariables false


def wc (ws : List Int) : Array Value := (ws.map (Value.int .u64 ·)).toArray
/-- The memory of blocks M and V: so many accesses, these words. -/
structure MemT (w : World) (M V : Nat) (acc : Int) (ws : List Int) : Prop where
  m : Blk w M #[.slice (some ⟨V, 0, none⟩) ws.length ws.length, .int .i64 acc] 46
  v : Blk w V (wc ws) 32
  ne : M ≠ V
  acc0 : 0 ≤ acc
  acc1 : acc ≤ 9223372036854775807
  len : ws.length ≤ 4096
/-- One that nobody made. -/
def Nob (w : World) (p : Value) : Prop := p = .pointer none ∨ ∃ M, p = .pointer (some ⟨M, 0, none⟩) ∧ Blk w M #[.slice none 0 0, .int .i64 0] 46
def up (acc : Int) : Int := if acc < 9223372036854775807 then acc + 1 else acc

theorem alls_in (M V : Nat) (acc : Int) (ws : List Int) (w : World) (h : MemT w M V acc ws) :
    Calls Try.prog 26 #[.pointer (some ⟨M, 0, none⟩)] w fun e w' => e = .returned (.slice (some ⟨V, 0, none⟩) ws.length ws.length) ∧ w = w' := by
  have r := h.m.cell
  go_enter Try.func26, Try.ntmps26
  go_wp2
  go_ret
  exact ⟨by simp, rfl⟩
theorem alls_nob (p : Value) (w : World) (h : Nob w p) : Calls Try.prog 26 #[p] w fun e w' => e = .returned (.slice none 0 0) ∧ w = w' := by
  rcases h with rfl | ⟨M, rfl, h⟩
  · go_enter Try.func26, Try.ntmps26
    go_wp2
    go_ret
    exact ⟨rfl, rfl⟩
  · have r := h.cell
    go_enter Try.func26, Try.ntmps26
    go_wp2
    go_ret
    exact ⟨by simp, rfl⟩
theorem glance_any (p : Value) (w : World) : Calls Try.prog 25 #[p] w fun e w' => e = .returned (.tuple #[]) ∧ w = w' := by
  go_enter Try.func25, Try.ntmps25
  go_wp2
  go_end0
  exact ⟨rfl, rfl⟩
theorem access_in (M V : Nat) (acc : Int) (ws : List Int) (w : World) (h : MemT w M V acc ws) :
    Calls Try.prog 23 #[.pointer (some ⟨M, 0, none⟩)] w fun e w' => e = .returned (.tuple #[]) ∧ MemT w' M V (up acc) ws ∧ Chg [M] w w' := by
  have r := h.m.cell
  have f := h.m.free
  have h0 := h.acc0
  have h1 := h.acc1
  by_cases hlt : acc < 9223372036854775807
  · have e := h.m.set 1 (.int .i64 (acc + 1))
    have E := hide (show (#[Value.slice (some ⟨V, 0, none⟩) ws.length ws.length, .int .i64 acc].setIfInBounds 1 (.int .i64 (acc + 1))) = #[.slice (some ⟨V, 0, none⟩) ws.length ws.length, .int .i64 (up acc)] by simp [up, hlt])
    rw [E.out] at e
    have c := (Chg.refl [M] w).set (p := ⟨M, 1, none⟩) (.inl (by simp)) (.int .i64 (acc + 1))
    have v := h.v.far (p := ⟨M, 1, none⟩) (Ne.symm h.ne) (.int .i64 (acc + 1))
    go_enter Try.func23, Try.ntmps23
    go_wp2
    go_end0
    exact ⟨rfl, ⟨e, v, h.ne, by simp [up, hlt]; omega, by simp [up, hlt]; omega, h.len⟩, c⟩
  · have E := hide (show up acc = acc by simp [up, hlt])
    go_enter Try.func23, Try.ntmps23
    go_wp2
    go_end0
    exact ⟨rfl, by rw [E.out]; exact h, Chg.refl _ _⟩
def hasB (ws : List Int) (a : Int) : Bool := decide (0 ≤ a ∧ a < ws.length)
theorem cell_in (M V : Nat) (acc : Int) (ws : List Int) (a : Int) (w : World) (h : MemT w M V acc ws) (h0 : 0 ≤ a) (h1 : a < ws.length) :
    Calls Try.prog 22 #[.pointer (some ⟨M, 0, none⟩), .int .i64 a, .func (.func 23) #[.pointer (some ⟨M, 0, none⟩)] #[]] w fun e w' => e = .returned (.pointer (some ⟨V, a.toNat, none⟩)) ∧ MemT w' M V (up acc) ws ∧ Chg [M] w w' := by
  have n1 : a.toNat < ws.length := by omega
  go_enter Try.func22, Try.ntmps22
  go_wp2_with fail
  refine (alls_in M V acc ws w h).mono ?_
  rintro e w1 ⟨rfl, rfl⟩
  go_wp2_with fail
  refine (access_in M V acc ws _ h).mono ?_
  rintro e w1 ⟨rfl, hm, hc⟩
  go_wp2_with fail
  go_ret
  exact ⟨by simp, hm, hc⟩
theorem cell_gl (M V : Nat) (acc : Int) (ws : List Int) (a : Int) (w : World) (h : MemT w M V acc ws) (h0 : 0 ≤ a) (h1 : a < ws.length) :
    Calls Try.prog 22 #[.pointer (some ⟨M, 0, none⟩), .int .i64 a, .func (.func 25) #[.pointer (some ⟨M, 0, none⟩)] #[]] w fun e w' => e = .returned (.pointer (some ⟨V, a.toNat, none⟩)) ∧ w = w' := by
  go_enter Try.func22, Try.ntmps22
  go_wp2_with fail
  refine (alls_in M V acc ws w h).mono ?_
  rintro e w1 ⟨rfl, rfl⟩
  go_wp2_with fail
  refine (glance_any _ _).mono ?_
  rintro e w1 ⟨rfl, rfl⟩
  go_wp2_with fail
  go_ret
  exact ⟨by simp, rfl⟩
theorem cell_out (M V : Nat) (acc : Int) (ws : List Int) (a : Int) (f : Value) (w : World) (h : MemT w M V acc ws) (h1 : ¬ (0 ≤ a ∧ a < ws.length)) :
    Calls Try.prog 22 #[.pointer (some ⟨M, 0, none⟩), .int .i64 a, f] w fun e w' => e = .returned (.pointer none) ∧ w = w' := by
  by_cases h0 : a < 0
  · go_enter Try.func22, Try.ntmps22
    go_wp2_with fail
    refine (alls_in M V acc ws w h).mono ?_
    rintro e w1 ⟨rfl, rfl⟩
    go_wp2_with fail
    go_ret
    exact ⟨by simp, rfl⟩
  · have h2 : (ws.length : Int) ≤ a := by omega
    go_enter Try.func22, Try.ntmps22
    go_wp2_with fail
    refine (alls_in M V acc ws w h).mono ?_
    rintro e w1 ⟨rfl, rfl⟩
    go_wp2_with fail
    go_ret
    exact ⟨by simp, rfl⟩
theorem cell_nob (p : Value) (a : Int) (f : Value) (w : World) (h : Nob w p) :
    Calls Try.prog 22 #[p, .int .i64 a, f] w fun e w' => e = .returned (.pointer none) ∧ w = w' := by
  by_cases h0 : a < 0
  · go_enter Try.func22, Try.ntmps22
    go_wp2_with fail
    refine (alls_nob p w h).mono ?_
    rintro e w1 ⟨rfl, rfl⟩
    go_wp2_with fail
    go_ret
    exact ⟨by simp, rfl⟩
  · have h2 : (0 : Int) ≤ a := by omega
    go_enter Try.func22, Try.ntmps22
    go_wp2_with fail
    refine (alls_nob p w h).mono ?_
    rintro e w1 ⟨rfl, rfl⟩
    go_wp2_with fail
    go_ret
    exact ⟨by simp, rfl⟩
end Go.Proofs.Ytlmlkclpfjbedaa
