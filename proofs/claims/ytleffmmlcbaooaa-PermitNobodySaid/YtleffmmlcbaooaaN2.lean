/- A table's methods: Park, Unpark, Interrupt, Take, and what is looked at. -/
import Derived.Test.YtleffmmlcbaooaaN1
namespace Go.Proofs.Ytleffmmlcbaooaa
open Go.RowKit
set_option linter.unusedSimpArgs false
set_option linter.unusedVariables false

def inB (N : Nat) (z : Int) : Bool := decide (0 ≤ z) && decide (z < N)
def erI (N : Nat) (z : Int) : Int := if inB N z = true then 0 else 1
theorem inB_yes {N : Nat} {z : Int} (h0 : 0 ≤ z) (h1 : z < N) : inB N z = true := by unfold inB; rw [decide_eq_true h0, decide_eq_true h1]; rfl
theorem inB_no {N : Nat} {z : Int} (h : ¬ (0 ≤ z ∧ z < N)) : inB N z = false := by
  unfold inB
  by_cases h0 : 0 ≤ z
  · rw [decide_eq_false (show ¬ z < N from fun h1 => h ⟨h0, h1⟩), Bool.and_false]
  · rw [decide_eq_false h0, Bool.false_and]
theorem inB_of {N : Nat} {z : Int} (h : inB N z = true) : 0 ≤ z ∧ z < N := by
  refine Classical.byContradiction fun hn => ?_
  rw [inB_no hn] at h; cases h
theorem inB_not {N : Nat} {z : Int} (h : inB N z = false) : ¬ (0 ≤ z ∧ z < N) := fun hn => by
  rw [inB_yes hn.1 hn.2] at h; cases h
theorem erI_yes {N : Nat} {z : Int} (h0 : 0 ≤ z) (h1 : z < N) : erI N z = 0 := if_pos (inB_yes h0 h1)
theorem erI_no {N : Nat} {z : Int} (h : ¬ (0 ≤ z ∧ z < N)) : erI N z = 1 := if_neg (by rw [inB_no h]; simp)
/-- What a call answers, of a thread that is there. -/
def toB (N : Nat) (g : Tb) (z : Int) (f : B3 → Bool) : Bool := inB N z && f (g z.toNat)
/-- What a call leaves. -/
def toG (N : Nat) (g : Tb) (z : Int) (f : B3 → B3) : Tb := if inB N z = true then upd3 g z.toNat (f (g z.toNat)) else g
theorem toB_yes {N : Nat} {z : Int} (g : Tb) (f : B3 → Bool) (h0 : 0 ≤ z) (h1 : z < N) : toB N g z f = f (g z.toNat) := by unfold toB; rw [inB_yes h0 h1, Bool.true_and]
theorem toB_no {N : Nat} {z : Int} (g : Tb) (f : B3 → Bool) (h : ¬ (0 ≤ z ∧ z < N)) : toB N g z f = false := by unfold toB; rw [inB_no h, Bool.false_and]
theorem toG_yes {N : Nat} {z : Int} (g : Tb) (f : B3 → B3) (h0 : 0 ≤ z) (h1 : z < N) : toG N g z f = upd3 g z.toNat (f (g z.toNat)) := if_pos (inB_yes h0 h1)
theorem toG_no {N : Nat} {z : Int} (g : Tb) (f : B3 → B3) (h : ¬ (0 ≤ z ∧ z < N)) : toG N g z f = g := if_neg (by rw [inB_no h]; simp)
/-! A thread: asleep, permit, flag. -/
def parkS (s : B3) : B3 := ⟨!s.y, false, s.z⟩
def parkA (s : B3) : Bool := !s.y
def unS (s : B3) : B3 := ⟨false, !s.x, s.z⟩
def unA (s : B3) : Bool := s.x
def intS (s : B3) : B3 := ⟨false, !s.x, true⟩
def takS (s : B3) : B3 := ⟨s.x, s.y, false⟩
def takA (s : B3) : Bool := s.z
section
variable {w w' : World} {M V N : Nat} {g : Tb} {z : Int}
theorem TabT.park (h : TabT w M V N g) {t : Nat} (ht : t < N) : TabT ((w.setCell ⟨V, t * 3, none⟩ (.bool (!(g t).y))).setCell ⟨V, t * 3 + 1, none⟩ (.bool false)) M V N (upd3 g t (parkS (g t))) := by
  have h2 := (h.sx ht (!(g t).y)).sy ht false
  rw [upd3_upd3, upd3_same] at h2
  exact h2
theorem TabT.un (h : TabT w M V N g) {t : Nat} (ht : t < N) : TabT ((w.setCell ⟨V, t * 3, none⟩ (.bool false)).setCell ⟨V, t * 3 + 1, none⟩ (.bool (!(g t).x))) M V N (upd3 g t (unS (g t))) := by
  have h2 := (h.sx ht false).sy ht (!(g t).x)
  rw [upd3_upd3, upd3_same] at h2
  exact h2
theorem chg2 (w : World) (V o o' : Nat) (u u' : Value) : Chg [V] w ((w.setCell ⟨V, o, none⟩ u).setCell ⟨V, o', none⟩ u') := ((Chg.refl [V] w).setV u).setV u'
theorem sunpark_any {t : Nat} (h : TabT w M V N g) (ht : t < N) :
    Calls Try.prog 25 #[.pointer (some ⟨V, t * 3, none⟩)] w fun e w' => e = .returned (.bool (g t).x) ∧ TabT w' M V N (upd3 g t (unS (g t))) ∧ Chg [V] w w' := by
  have r0 := h.lx ht
  have r1 := h.ly ht
  have f0 := h.v.free (t * 3)
  have f1 := h.v.free (t * 3 + 1)
  have f2 := (h.sx ht false).v.free (t * 3 + 1)
  have H2 := hide (h.un ht)
  have C2 := hide (chg2 w V (t * 3) (t * 3 + 1) (.bool false) (.bool (!(g t).x)))
  go_enter Try.func25, Try.ntmps25
  go_wp2
  go_ret
  exact ⟨by simp, H2.out, C2.out⟩
theorem park_any (h : TabT w M V N g) :
    Calls Try.prog 17 #[.pointer (some ⟨M, 0, none⟩), .int .i64 z] w fun e w' => e = .returned (.tuple #[.bool (toB N g z parkA), .int .i64 (erI N z)]) ∧ TabT w' M V N (toG N g z parkS) ∧ Chg [V] w w' := by
  by_cases hh : 0 ≤ z ∧ z < N
  · obtain ⟨h0, h1⟩ := hh
    rw [toB_yes g parkA h0 h1, erI_yes h0 h1, toG_yes g parkS h0 h1]
    have ht : z.toNat < N := by omega
    have r0 := h.lx ht
    have r1 := h.ly ht
    have f0 := h.v.free (z.toNat * 3)
    have f1 := (h.sx ht (!(g z.toNat).y)).v.free (z.toNat * 3 + 1)
    have r2 := (h.park ht).lx ht
    rw [upd3_same] at r2
    have H2 := hide (h.park ht)
    have C2 := hide (chg2 w V (z.toNat * 3) (z.toNat * 3 + 1) (.bool (!(g z.toNat).y)) (.bool false))
    go_enter Try.func17, Try.ntmps17
    go_wp2_with fail
    refine (find_in h h0 h1).mono ?_
    rintro e w1 ⟨rfl, rfl⟩
    go_wp2_with fail
    go_ret2
    exact ⟨by simp [parkA, parkS], H2.out, C2.out⟩
  · rw [toB_no g parkA hh, erI_no hh, toG_no g parkS hh]
    go_enter Try.func17, Try.ntmps17
    go_wp2_with fail
    refine (find_out h hh).mono ?_
    rintro e w1 ⟨rfl, rfl⟩
    go_wp2_with fail
    go_ret2
    exact ⟨by simp, h, Chg.refl _ _⟩
theorem unpark_any (h : TabT w M V N g) :
    Calls Try.prog 11 #[.pointer (some ⟨M, 0, none⟩), .int .i64 z] w fun e w' => e = .returned (.tuple #[.bool (toB N g z unA), .int .i64 (erI N z)]) ∧ TabT w' M V N (toG N g z unS) ∧ Chg [V] w w' := by
  by_cases hh : 0 ≤ z ∧ z < N
  · obtain ⟨h0, h1⟩ := hh
    rw [toB_yes g unA h0 h1, erI_yes h0 h1, toG_yes g unS h0 h1]
    have ht : z.toNat < N := by omega
    go_enter Try.func11, Try.ntmps11
    go_wp2_with fail
    refine (find_in h h0 h1).mono ?_
    rintro e w1 ⟨rfl, rfl⟩
    go_wp2_with fail
    refine (sunpark_any h ht).mono ?_
    rintro e w1 ⟨rfl, h2, hc⟩
    go_wp2_with fail
    go_ret2
    exact ⟨by simp [unA], h2, hc⟩
  · rw [toB_no g unA hh, erI_no hh, toG_no g unS hh]
    go_enter Try.func11, Try.ntmps11
    go_wp2_with fail
    refine (find_out h hh).mono ?_
    rintro e w1 ⟨rfl, rfl⟩
    go_wp2_with fail
    go_ret2
    exact ⟨by simp, h, Chg.refl _ _⟩
theorem interrupt_any (h : TabT w M V N g) :
    Calls Try.prog 13 #[.pointer (some ⟨M, 0, none⟩), .int .i64 z] w fun e w' => e = .returned (.tuple #[.bool (toB N g z unA), .int .i64 (erI N z)]) ∧ TabT w' M V N (toG N g z intS) ∧ Chg [V] w w' := by
  by_cases hh : 0 ≤ z ∧ z < N
  · obtain ⟨h0, h1⟩ := hh
    rw [toB_yes g unA h0 h1, erI_yes h0 h1, toG_yes g intS h0 h1]
    have ht : z.toNat < N := by omega
    have r2 := h.lz ht
    have f2 := h.v.free (z.toNat * 3 + 2)
    have H3 := hide (h.sz ht true)
    have C3 := hide ((Chg.refl [V] w).setV (o := z.toNat * 3 + 2) (.bool true))
    have E3 := hide (upd3_upd3 g z.toNat ⟨(g z.toNat).x, (g z.toNat).y, true⟩ (intS (g z.toNat)))
    go_enter Try.func13, Try.ntmps13
    go_wp2_with fail
    refine (find_in h h0 h1).mono ?_
    rintro e w1 ⟨rfl, rfl⟩
    go_wp2_with fail
    refine (sunpark_any H3.out ht).mono ?_
    rintro e w1 ⟨rfl, h2, hc⟩
    rw [upd3_same] at h2 ⊢
    go_wp2_with fail
    go_ret2
    exact ⟨by simp [unA], by rw [← E3.out]; exact h2, C3.out.trans hc⟩
  · rw [toB_no g unA hh, erI_no hh, toG_no g intS hh]
    go_enter Try.func13, Try.ntmps13
    go_wp2_with fail
    refine (find_out h hh).mono ?_
    rintro e w1 ⟨rfl, rfl⟩
    go_wp2_with fail
    go_ret2
    exact ⟨by simp, h, Chg.refl _ _⟩
theorem take_any (h : TabT w M V N g) :
    Calls Try.prog 15 #[.pointer (some ⟨M, 0, none⟩), .int .i64 z] w fun e w' => e = .returned (.bool (toB N g z takA)) ∧ TabT w' M V N (toG N g z takS) ∧ Chg [V] w w' := by
  by_cases hh : 0 ≤ z ∧ z < N
  · obtain ⟨h0, h1⟩ := hh
    rw [toB_yes g takA h0 h1, toG_yes g takS h0 h1]
    have ht : z.toNat < N := by omega
    have r2 := h.lz ht
    have f2 := h.v.free (z.toNat * 3 + 2)
    have H3 := hide (h.sz ht false)
    have C3 := hide ((Chg.refl [V] w).setV (o := z.toNat * 3 + 2) (.bool false))
    go_enter Try.func15, Try.ntmps15
    go_wp2_with fail
    refine (find_in h h0 h1).mono ?_
    rintro e w1 ⟨rfl, rfl⟩
    go_wp2_with fail
    go_ret
    exact ⟨by simp [takA], H3.out, C3.out⟩
  · rw [toB_no g takA hh, toG_no g takS hh]
    go_enter Try.func15, Try.ntmps15
    go_wp2_with fail
    refine (find_out h hh).mono ?_
    rintro e w1 ⟨rfl, rfl⟩
    go_wp2_with fail
    go_ret
    exact ⟨by simp, h, Chg.refl _ _⟩
theorem run_f0 (a b c : Bool) (w : World) : Sem.run Try.prog (Instr.field 57 (.agg #[.bool a, .bool b, .bool c]) 0) w = .ok (.bool a) w := rfl
theorem run_f1 (a b c : Bool) (w : World) : Sem.run Try.prog (Instr.field 57 (.agg #[.bool a, .bool b, .bool c]) 1) w = .ok (.bool b) w := rfl
theorem run_f2 (a b c : Bool) (w : World) : Sem.run Try.prog (Instr.field 57 (.agg #[.bool a, .bool b, .bool c]) 2) w = .ok (.bool c) w := rfl
/-- What stands at a place; nothing, if there is none. -/
def atB (N : Nat) (g : Tb) (z : Int) : B3 := if inB N z = true then g z.toNat else no3
theorem look_any (h : TabT w M V N g) :
    Calls Try.prog 26 #[.pointer (some ⟨M, 0, none⟩), .int .i64 z] w fun e w' => e = .returned (.agg #[.bool (atB N g z).x, .bool (atB N g z).y, .bool (atB N g z).z]) ∧ Ext w w' := by
  by_cases hh : 0 ≤ z ∧ z < N
  · obtain ⟨h0, h1⟩ := hh
    have E := hide (show atB N g z = g z.toNat from if_pos (inB_yes h0 h1))
    rw [E.out]
    have ht : z.toNat < N := by omega
    have hk := h.ext (Ext.alloc w (.cells #[.bool false, .bool false, .bool false] 57))
    have r0 := hk.lx ht
    have r1 := hk.ly ht
    have r2 := hk.lz ht
    go_enter Try.func26, Try.ntmps26
    go_wp2_with fail
    refine (find_in hk h0 h1).mono ?_
    rintro e w1 ⟨rfl, rfl⟩
    go_wp2_with fail
    refine bodyPost_ret (v := .agg #[.bool (g z.toNat).x, .bool (g z.toNat).y, .bool (g z.toNat).z]) (by simp [results, Try.results26, go_sem, *]) rfl ⟨rfl, ?_⟩
    exact Ext.alloc _ _
  · have E := hide (show atB N g z = no3 from if_neg (by rw [inB_no hh]; simp))
    rw [E.out, show no3.x = false from rfl, show no3.y = false from rfl, show no3.z = false from rfl]
    have hk := h.ext (Ext.alloc w (.cells #[.bool false, .bool false, .bool false] 57))
    go_enter Try.func26, Try.ntmps26
    go_wp2_with fail
    refine (find_out hk hh).mono ?_
    rintro e w1 ⟨rfl, rfl⟩
    go_wp2_with fail
    refine bodyPost_ret (v := .agg #[.bool false, .bool false, .bool false]) (by simp [results, Try.results26, go_sem, *]) rfl ⟨rfl, ?_⟩
    exact Ext.alloc _ _
theorem permit_any (h : TabT w M V N g) : Calls Try.prog 20 #[.pointer (some ⟨M, 0, none⟩), .int .i64 z] w fun e w' => e = .returned (.bool (atB N g z).y) ∧ Ext w w' := by
  have hf := run_f1
  go_enter Try.func20, Try.ntmps20
  go_wp2_with fail
  refine (look_any h).mono ?_
  rintro e w1 ⟨rfl, hx⟩
  go_wp2_with fail
  go_ret
  exact ⟨rfl, hx⟩
theorem flag_any (h : TabT w M V N g) : Calls Try.prog 21 #[.pointer (some ⟨M, 0, none⟩), .int .i64 z] w fun e w' => e = .returned (.bool (atB N g z).z) ∧ Ext w w' := by
  have hf := run_f2
  go_enter Try.func21, Try.ntmps21
  go_wp2_with fail
  refine (look_any h).mono ?_
  rintro e w1 ⟨rfl, hx⟩
  go_wp2_with fail
  go_ret
  exact ⟨rfl, hx⟩
theorem asleep_any (h : TabT w M V N g) : Calls Try.prog 22 #[.pointer (some ⟨M, 0, none⟩), .int .i64 z] w fun e w' => e = .returned (.bool (atB N g z).x) ∧ Ext w w' := by
  have hf := run_f0
  go_enter Try.func22, Try.ntmps22
  go_wp2_with fail
  refine (look_any h).mono ?_
  rintro e w1 ⟨rfl, hx⟩
  go_wp2_with fail
  go_ret
  exact ⟨rfl, hx⟩
end
/-! Of one that New did not give. -/
section
variable {w : World} {p : Value} {z : Int} (h : Nob w p)
include h
theorem park_nob : Calls Try.prog 17 #[p, .int .i64 z] w fun e w' => e = .returned (.tuple #[.bool false, .int .i64 2]) ∧ w = w' := by
  go_enter Try.func17, Try.ntmps17
  go_wp2_with fail
  refine (find_nob h).mono ?_
  rintro e w1 ⟨rfl, rfl⟩
  go_wp2_with fail
  go_ret2
  exact ⟨by simp, rfl⟩
theorem unpark_nob : Calls Try.prog 11 #[p, .int .i64 z] w fun e w' => e = .returned (.tuple #[.bool false, .int .i64 2]) ∧ w = w' := by
  go_enter Try.func11, Try.ntmps11
  go_wp2_with fail
  refine (find_nob h).mono ?_
  rintro e w1 ⟨rfl, rfl⟩
  go_wp2_with fail
  go_ret2
  exact ⟨by simp, rfl⟩
theorem interrupt_nob : Calls Try.prog 13 #[p, .int .i64 z] w fun e w' => e = .returned (.tuple #[.bool false, .int .i64 2]) ∧ w = w' := by
  go_enter Try.func13, Try.ntmps13
  go_wp2_with fail
  refine (find_nob h).mono ?_
  rintro e w1 ⟨rfl, rfl⟩
  go_wp2_with fail
  go_ret2
  exact ⟨by simp, rfl⟩
theorem take_nob : Calls Try.prog 15 #[p, .int .i64 z] w fun e w' => e = .returned (.bool false) ∧ w = w' := by
  go_enter Try.func15, Try.ntmps15
  go_wp2_with fail
  refine (find_nob h).mono ?_
  rintro e w1 ⟨rfl, rfl⟩
  go_wp2_with fail
  go_ret
  exact ⟨by simp, rfl⟩
theorem look_nob : Calls Try.prog 26 #[p, .int .i64 z] w fun e w' => e = .returned (.agg #[.bool false, .bool false, .bool false]) ∧ Ext w w' := by
  have hk := h.ext (Ext.alloc w (.cells #[.bool false, .bool false, .bool false] 57))
  go_enter Try.func26, Try.ntmps26
  go_wp2_with fail
  refine (find_nob hk).mono ?_
  rintro e w1 ⟨rfl, rfl⟩
  go_wp2_with fail
  refine bodyPost_ret (v := .agg #[.bool false, .bool false, .bool false]) (by simp [results, Try.results26, go_sem, *]) rfl ⟨rfl, ?_⟩
  exact Ext.alloc _ _
theorem permit_nob : Calls Try.prog 20 #[p, .int .i64 z] w fun e w' => e = .returned (.bool false) ∧ Ext w w' := by
  have hf := run_f1
  go_enter Try.func20, Try.ntmps20
  go_wp2_with fail
  refine (look_nob h).mono ?_
  rintro e w1 ⟨rfl, hx⟩
  go_wp2_with fail
  go_ret
  exact ⟨rfl, hx⟩
theorem flag_nob : Calls Try.prog 21 #[p, .int .i64 z] w fun e w' => e = .returned (.bool false) ∧ Ext w w' := by
  have hf := run_f2
  go_enter Try.func21, Try.ntmps21
  go_wp2_with fail
  refine (look_nob h).mono ?_
  rintro e w1 ⟨rfl, hx⟩
  go_wp2_with fail
  go_ret
  exact ⟨rfl, hx⟩
theorem asleep_nob : Calls Try.prog 22 #[p, .int .i64 z] w fun e w' => e = .returned (.bool false) ∧ Ext w w' := by
  have hf := run_f0
  go_enter Try.func22, Try.ntmps22
  go_wp2_with fail
  refine (look_nob h).mono ?_
  rintro e w1 ⟨rfl, hx⟩
  go_wp2_with fail
  go_ret
  exact ⟨rfl, hx⟩
end
end Go.Proofs.Ytleffmmlcbaooaa
