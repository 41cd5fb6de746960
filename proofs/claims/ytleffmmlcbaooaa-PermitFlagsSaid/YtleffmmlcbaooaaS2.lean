/- A table's methods, of a thread that is there. -/
import Derived.Test.YtleffmmlcbaooaaS1
namespace Go.Proofs.Ytleffmmlcbaooaa
open Go.RowKit
set_option linter.unusedVariables false
set_option linter.unusedSimpArgs false

section
variable {w w' : World} {M V N : Nat} {g : Tb} {t : Nat}
theorem nin {N t : Nat} (ht : t < N) : inB N (t : Int) = true := inB_yes (by omega) (by omega)
theorem toB_n (g : Tb) (f : B3 → Bool) (ht : t < N) : toB N g (t : Int) f = f (g t) := by unfold toB; rw [nin ht, Bool.true_and, Int.toNat_natCast]
theorem toG_n (g : Tb) (f : B3 → B3) (ht : t < N) : toG N g (t : Int) f = upd3 g t (f (g t)) := by unfold toG; rw [if_pos (nin ht), Int.toNat_natCast]
theorem atB_n (g : Tb) (ht : t < N) : atB N g (t : Int) = g t := by unfold atB; rw [if_pos (nin ht), Int.toNat_natCast]
theorem erI_n (ht : t < N) : erI N (t : Int) = 0 := if_pos (nin ht)
theorem park_n (h : TabT w M V N g) (ht : t < N) : Calls Try.prog 17 #[.pointer (some ⟨M, 0, none⟩), .int .i64 (t : Int)] w fun e w' => e = .returned (.tuple #[.bool (!(g t).y), .int .i64 0]) ∧ TabT w' M V N (upd3 g t (parkS (g t))) ∧ Chg [V] w w' := by
  have := park_any (z := (t : Int)) h
  rw [toB_n _ _ ht, toG_n _ _ ht, erI_n ht] at this
  exact this
theorem unpark_n (h : TabT w M V N g) (ht : t < N) : Calls Try.prog 11 #[.pointer (some ⟨M, 0, none⟩), .int .i64 (t : Int)] w fun e w' => e = .returned (.tuple #[.bool (g t).x, .int .i64 0]) ∧ TabT w' M V N (upd3 g t (unS (g t))) ∧ Chg [V] w w' := by
  have := unpark_any (z := (t : Int)) h
  rw [toB_n _ _ ht, toG_n _ _ ht, erI_n ht] at this
  exact this
theorem interrupt_n (h : TabT w M V N g) (ht : t < N) : Calls Try.prog 13 #[.pointer (some ⟨M, 0, none⟩), .int .i64 (t : Int)] w fun e w' => e = .returned (.tuple #[.bool (g t).x, .int .i64 0]) ∧ TabT w' M V N (upd3 g t (intS (g t))) ∧ Chg [V] w w' := by
  have := interrupt_any (z := (t : Int)) h
  rw [toB_n _ _ ht, toG_n _ _ ht, erI_n ht] at this
  exact this
theorem take_n (h : TabT w M V N g) (ht : t < N) : Calls Try.prog 15 #[.pointer (some ⟨M, 0, none⟩), .int .i64 (t : Int)] w fun e w' => e = .returned (.bool (g t).z) ∧ TabT w' M V N (upd3 g t (takS (g t))) ∧ Chg [V] w w' := by
  have := take_any (z := (t : Int)) h
  rw [toB_n _ _ ht, toG_n _ _ ht] at this
  exact this
theorem permit_n (h : TabT w M V N g) (ht : t < N) : Calls Try.prog 20 #[.pointer (some ⟨M, 0, none⟩), .int .i64 (t : Int)] w fun e w' => e = .returned (.bool (g t).y) ∧ Ext w w' := by
  have := permit_any (z := (t : Int)) h
  rw [atB_n _ ht] at this
  exact this
theorem flag_n (h : TabT w M V N g) (ht : t < N) : Calls Try.prog 21 #[.pointer (some ⟨M, 0, none⟩), .int .i64 (t : Int)] w fun e w' => e = .returned (.bool (g t).z) ∧ Ext w w' := by
  have := flag_any (z := (t : Int)) h
  rw [atB_n _ ht] at this
  exact this
theorem asleep_n (h : TabT w M V N g) (ht : t < N) : Calls Try.prog 22 #[.pointer (some ⟨M, 0, none⟩), .int .i64 (t : Int)] w fun e w' => e = .returned (.bool (g t).x) ∧ Ext w w' := by
  have := asleep_any (z := (t : Int)) h
  rw [atB_n _ ht] at this
  exact this
end
theorem row_upd (g : Tb) (t : Nat) (s : B3) (p : B3 → Bool) : (fun k => p (upd3 g t s k)) = upd1 (fun k => p (g k)) t (p s) := by
  funext k
  by_cases e : k = t
  · rw [e, upd3_same, upd1_same]
  · rw [upd3_other _ _ e, upd1_other _ _ e]
theorem row_stay (g : Tb) (t : Nat) (s : B3) (p : B3 → Bool) (hs : p s = p (g t)) : (fun k => p (upd3 g t s k)) = fun k => p (g k) := by
  rw [row_upd, hs]
  funext k
  unfold upd1
  split
  · rename_i e; rw [e]
  · rfl
/-- A local row of four. -/
def Ar4 (w : World) (Q : Nat) (a : Nat → Bool) : Prop := Blk w Q (rows1 4 a) 45
theorem Ar4.l {w : World} {Q : Nat} {a : Nat → Bool} (h : Ar4 w Q a) {t : Nat} (ht : t < 4) : w.cell? ⟨Q, t, none⟩ = some (.bool (a t)) := (Blk.cell h t).trans (rows1_at _ ht)
theorem Ar4.free {w : World} {Q : Nat} {a : Nat → Bool} (h : Ar4 w Q a) (t : Nat) : w.frozen? ⟨Q, t, none⟩ = false := Blk.free h t
theorem Ar4.chg {T : List Nat} {w w' : World} {Q : Nat} {a : Nat → Bool} (h : Ar4 w Q a) (x : Chg T w w') (hQ : Q ∉ T) : Ar4 w' Q a := Blk.chg h x hQ
theorem Ar4.ext {w w' : World} {Q : Nat} {a : Nat → Bool} (h : Ar4 w Q a) (x : Ext w w') : Ar4 w' Q a := Blk.ext h x
theorem Ar4.put {w : World} {Q : Nat} {a : Nat → Bool} (h : Ar4 w Q a) {t : Nat} (ht : t < 4) (v : Bool) : Ar4 (w.setCell ⟨Q, t, none⟩ (.bool v)) Q (upd1 a t v) ∧ Chg [Q] w (w.setCell ⟨Q, t, none⟩ (.bool v)) :=
  ⟨by have := Blk.set h t (.bool v); rwa [rows1_set a ht] at this, (Chg.refl [Q] w).set (p := ⟨Q, t, none⟩) (.inl (by simp)) (.bool v)⟩
theorem al_4 (w : World) : (zeroValue 45).run Try.prog w = .ok (.agg (rows1 4 (fun _ => false))) w := by kernel_rfl
end Go.Proofs.Ytleffmmlcbaooaa
