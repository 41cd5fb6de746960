/- What a memory's methods answer, and what they turn. -/
import Derived.Test.YtlmlkclpfjbedaaC1
namespace Go.Proofs.Ytlmlkclpfjbedaa
open Go.RowKit
set_option linter.unusedSimpArgs false
set_option linter.unusedVariables false

def lookI (ws : List Int) (a : Int) : Int := if 0 ≤ a then ws.getD a.toNat 0 else 0
def setI (ws : List Int) (a x : Int) : List Int := if 0 ≤ a then ws.set a.toNat x else ws
def upI (ws : List Int) (a acc : Int) : Int := if hasB ws a = true then up acc else acc
def casB (ws : List Int) (a old : Int) : Bool := hasB ws a && decide (lookI ws a = old)
def casL (ws : List Int) (a old x : Int) : List Int := if casB ws a old = true then setI ws a x else ws
theorem hasB_yes {ws : List Int} {a : Int} (h : 0 ≤ a) (h1 : a < ws.length) : hasB ws a = true := decide_eq_true ⟨h, h1⟩
theorem hasB_no {ws : List Int} {a : Int} (h : ¬ (0 ≤ a ∧ a < ws.length)) : hasB ws a = false := decide_eq_false h
theorem upI_yes {ws : List Int} {a : Int} (acc : Int) (h : 0 ≤ a) (h1 : a < ws.length) : upI ws a acc = up acc := if_pos (hasB_yes h h1)
theorem upI_no {ws : List Int} {a : Int} (acc : Int) (h : ¬ (0 ≤ a ∧ a < ws.length)) : upI ws a acc = acc := if_neg (by rw [hasB_no h]; simp)
theorem lookI_no {ws : List Int} {a : Int} (h : ¬ (0 ≤ a ∧ a < ws.length)) : lookI ws a = 0 := by
  unfold lookI
  by_cases h0 : 0 ≤ a
  · rw [if_pos h0]; simp [List.getD, List.getElem?_eq_none (show ws.length ≤ a.toNat by omega)]
  · rw [if_neg h0]
theorem setI_no {ws : List Int} {a x : Int} (h : ¬ (0 ≤ a ∧ a < ws.length)) : setI ws a x = ws := by
  unfold setI
  by_cases h0 : 0 ≤ a
  · rw [if_pos h0, List.set_eq_of_length_le (by omega)]
  · rw [if_neg h0]
theorem setI_len (ws : List Int) (a x : Int) : (setI ws a x).length = ws.length := by unfold setI; split <;> simp
theorem casL_len (ws : List Int) (a old x : Int) : (casL ws a old x).length = ws.length := by unfold casL; split <;> simp [setI_len]
theorem wc_at {ws : List Int} {a : Int} (h : 0 ≤ a) (h1 : a < ws.length) : (wc ws)[a.toNat]? = some (.int .u64 (lookI ws a)) := by
  have n1 : a.toNat < ws.length := by omega
  unfold wc lookI
  rw [if_pos h]
  simp [n1]
theorem wc_set (ws : List Int) (a x : Int) (h : 0 ≤ a) : (wc ws).setIfInBounds a.toNat (.int .u64 x) = wc (setI ws a x) := by
  unfold wc setI
  rw [if_pos h]
  simp
section
variable {w w' : World} {M V : Nat} {acc : Int} {ws : List Int}
theorem MemT.chg {T : List Nat} (h : MemT w M V acc ws) (x : Chg T w w') (hM : M ∉ T) (hV : V ∉ T) : MemT w' M V acc ws := ⟨h.m.chg x hM, h.v.chg x hV, h.ne, h.acc0, h.acc1, h.len⟩
theorem MemT.ext (h : MemT w M V acc ws) (x : Ext w w') : MemT w' M V acc ws := h.chg (x.chg []) (by simp) (by simp)
theorem MemT.set (h : MemT w M V acc ws) (a x : Int) (h0 : 0 ≤ a) : MemT (w.setCell ⟨V, a.toNat, none⟩ (.int .u64 x)) M V acc (setI ws a x) := by
  refine ⟨?_, ?_, h.ne, h.acc0, h.acc1, by rw [setI_len]; exact h.len⟩
  · rw [setI_len]; exact h.m.far (p := ⟨V, a.toNat, none⟩) h.ne _
  · rw [← wc_set _ _ _ h0]; exact h.v.set a.toNat _
end
theorem sub_MV {M V : Nat} : ∀ k, k ∈ [M] → k ∈ [M, V] := by simp
theorem Chg.toMV {M V : Nat} {w w' : World} (h : Chg [M] w w') : Chg [M, V] w w' := h.mono sub_MV
theorem Chg.setV {M V o : Nat} {w w' : World} (h : Chg [M] w w') (u : Value) : Chg [M, V] w (w'.setCell ⟨V, o, none⟩ u) := h.toMV.set (p := ⟨V, o, none⟩) (.inl (by simp)) u

theorem load_any (M V : Nat) (acc : Int) (ws : List Int) (a : Int) (w : World) (h : MemT w M V acc ws) :
    Calls Try.prog 10 #[.pointer (some ⟨M, 0, none⟩), .int .i64 a] w fun e w' => e = .returned (.int .u64 (lookI ws a)) ∧ MemT w' M V (upI ws a acc) ws ∧ Chg [M, V] w w' := by
  by_cases hh : 0 ≤ a ∧ a < ws.length
  · obtain ⟨h0, h1⟩ := hh
    rw [upI_yes acc h0 h1]
    go_enter Try.func10, Try.ntmps10
    go_wp2_with fail
    refine (cell_in M V acc ws a w h h0 h1).mono ?_
    rintro e w1 ⟨rfl, hm, hc⟩
    have r : w1.cell? ⟨V, a.toNat, none⟩ = some (.int .u64 (lookI ws a)) := (hm.v.cell _).trans (wc_at h0 h1)
    go_wp2_with fail
    go_ret
    exact ⟨by simp, hm, hc.mono sub_MV⟩
  · rw [upI_no acc hh]
    have E := hide (lookI_no hh)
    go_enter Try.func10, Try.ntmps10
    go_wp2_with fail
    refine (cell_out M V acc ws a _ w h hh).mono ?_
    rintro e w1 ⟨rfl, rfl⟩
    go_wp2_with fail
    go_ret
    exact ⟨by rw [E.out]; simp, h, Chg.refl _ _⟩
theorem look_any (M V : Nat) (acc : Int) (ws : List Int) (a : Int) (w : World) (h : MemT w M V acc ws) :
    Calls Try.prog 17 #[.pointer (some ⟨M, 0, none⟩), .int .i64 a] w fun e w' => e = .returned (.int .u64 (lookI ws a)) ∧ Ext w w' := by
  by_cases hh : 0 ≤ a ∧ a < ws.length
  · obtain ⟨h0, h1⟩ := hh
    have r : w.cell? ⟨V, a.toNat, none⟩ = some (.int .u64 (lookI ws a)) := (h.v.cell _).trans (wc_at h0 h1)
    go_enter Try.func17, Try.ntmps17
    go_wp2_with fail
    refine (cell_gl M V acc ws a w h h0 h1).mono ?_
    rintro e w1 ⟨rfl, rfl⟩
    go_wp2_with fail
    go_ret
    exact ⟨by simp, Ext.refl _⟩
  · have E := hide (lookI_no hh)
    go_enter Try.func17, Try.ntmps17
    go_wp2_with fail
    refine (cell_out M V acc ws a _ w h hh).mono ?_
    rintro e w1 ⟨rfl, rfl⟩
    go_wp2_with fail
    go_ret
    exact ⟨by rw [E.out]; simp, Ext.refl _⟩
theorem store_any (M V : Nat) (acc : Int) (ws : List Int) (a x : Int) (w : World) (h : MemT w M V acc ws) :
    Calls Try.prog 12 #[.pointer (some ⟨M, 0, none⟩), .int .i64 a, .int .u64 x] w fun e w' => e = .returned (.bool (hasB ws a)) ∧ MemT w' M V (upI ws a acc) (setI ws a x) ∧ Chg [M, V] w w' := by
  by_cases hh : 0 ≤ a ∧ a < ws.length
  · obtain ⟨h0, h1⟩ := hh
    rw [upI_yes acc h0 h1, hasB_yes h0 h1]
    go_enter Try.func12, Try.ntmps12
    go_wp2_with fail
    refine (cell_in M V acc ws a w h h0 h1).mono ?_
    rintro e w1 ⟨rfl, hm, hc⟩
    have r : w1.cell? ⟨V, a.toNat, none⟩ = some (.int .u64 (lookI ws a)) := (hm.v.cell _).trans (wc_at h0 h1)
    have f := hm.v.free a.toNat
    have hs := hm.set a x h0
    have hc2 := hc.setV (V := V) (o := a.toNat) (.int .u64 x)
    go_wp2_with fail
    go_ret
    exact ⟨by simp, hs, hc2⟩
  · rw [upI_no acc hh, hasB_no hh, setI_no hh]
    go_enter Try.func12, Try.ntmps12
    go_wp2_with fail
    refine (cell_out M V acc ws a _ w h hh).mono ?_
    rintro e w1 ⟨rfl, rfl⟩
    go_wp2_with fail
    go_ret
    exact ⟨by simp, h, Chg.refl _ _⟩
theorem cas_any (M V : Nat) (acc : Int) (ws : List Int) (a old x : Int) (w : World) (h : MemT w M V acc ws) :
    Calls Try.prog 14 #[.pointer (some ⟨M, 0, none⟩), .int .i64 a, .int .u64 old, .int .u64 x] w fun e w' => e = .returned (.tuple #[.int .u64 (lookI ws a), .bool (casB ws a old)]) ∧ MemT w' M V (upI ws a acc) (casL ws a old x) ∧ Chg [M, V] w w' := by
  by_cases hh : 0 ≤ a ∧ a < ws.length
  · obtain ⟨h0, h1⟩ := hh
    by_cases ho : lookI ws a = old
    · have c : casB ws a old = true := by unfold casB; rw [hasB_yes h0 h1, decide_eq_true ho]; rfl
      have e2 : casL ws a old x = setI ws a x := if_pos c
      rw [upI_yes acc h0 h1, c, e2]
      clear c e2
      subst ho
      go_enter Try.func14, Try.ntmps14
      go_wp2_with fail
      refine (cell_in M V acc ws a w h h0 h1).mono ?_
      rintro e w1 ⟨rfl, hm, hc⟩
      have r : w1.cell? ⟨V, a.toNat, none⟩ = some (.int .u64 (lookI ws a)) := (hm.v.cell _).trans (wc_at h0 h1)
      have f := hm.v.free a.toNat
      have hs := hm.set a x h0
      have hc2 := hc.setV (V := V) (o := a.toNat) (.int .u64 x)
      go_wp2_with fail
      go_ret2
      exact ⟨by simp, hs, hc2⟩
    · have c : casB ws a old = false := by unfold casB; rw [decide_eq_false ho, Bool.and_false]
      have e2 : casL ws a old x = ws := if_neg (by rw [c]; simp)
      rw [upI_yes acc h0 h1, c, e2]
      clear c e2
      go_enter Try.func14, Try.ntmps14
      go_wp2_with fail
      refine (cell_in M V acc ws a w h h0 h1).mono ?_
      rintro e w1 ⟨rfl, hm, hc⟩
      have r : w1.cell? ⟨V, a.toNat, none⟩ = some (.int .u64 (lookI ws a)) := (hm.v.cell _).trans (wc_at h0 h1)
      go_wp2_with fail
      go_ret2
      exact ⟨by simp, hm, hc.mono sub_MV⟩
  · have c : casB ws a old = false := by unfold casB; rw [hasB_no hh]; rfl
    have e2 : casL ws a old x = ws := if_neg (by rw [c]; simp)
    rw [upI_no acc hh, c, e2, lookI_no hh]
    clear c e2
    go_enter Try.func14, Try.ntmps14
    go_wp2_with fail
    refine (cell_out M V acc ws a _ w h hh).mono ?_
    rintro e w1 ⟨rfl, rfl⟩
    go_wp2_with fail
    go_ret2
    exact ⟨by simp, h, Chg.refl _ _⟩
theorem count_any (M V : Nat) (acc : Int) (ws : List Int) (w : World) (h : MemT w M V acc ws) :
    Calls Try.prog 18 #[.pointer (some ⟨M, 0, none⟩)] w fun e w' => e = .returned (.int .i64 acc) ∧ Ext w w' := by
  have r := h.m.cell
  go_enter Try.func18, Try.ntmps18
  go_wp2
  go_ret
  exact ⟨by simp, Ext.refl _⟩
theorem len_any (M V : Nat) (acc : Int) (ws : List Int) (w : World) (h : MemT w M V acc ws) :
    Calls Try.prog 19 #[.pointer (some ⟨M, 0, none⟩)] w fun e w' => e = .returned (.int .i64 ws.length) ∧ Ext w w' := by
  go_enter Try.func19, Try.ntmps19
  go_wp2_with fail
  refine (alls_in M V acc ws w h).mono ?_
  rintro e w1 ⟨rfl, rfl⟩
  go_wp2_with fail
  go_ret
  exact ⟨by simp, Ext.refl _⟩

/-! Of one that nobody made. -/
section
variable (p : Value) (w : World) (h : Nob w p)
include h
theorem load_nob (a : Int) : Calls Try.prog 10 #[p, .int .i64 a] w fun e w' => e = .returned (.int .u64 0) ∧ Ext w w' := by
  go_enter Try.func10, Try.ntmps10
  go_wp2_with fail
  refine (cell_nob p a _ w h).mono ?_
  rintro e w1 ⟨rfl, rfl⟩
  go_wp2_with fail
  go_ret
  exact ⟨by simp, Ext.refl _⟩
theorem look_nob (a : Int) : Calls Try.prog 17 #[p, .int .i64 a] w fun e w' => e = .returned (.int .u64 0) ∧ Ext w w' := by
  go_enter Try.func17, Try.ntmps17
  go_wp2_with fail
  refine (cell_nob p a _ w h).mono ?_
  rintro e w1 ⟨rfl, rfl⟩
  go_wp2_with fail
  go_ret
  exact ⟨by simp, Ext.refl _⟩
theorem store_nob (a x : Int) : Calls Try.prog 12 #[p, .int .i64 a, .int .u64 x] w fun e w' => e = .returned (.bool false) ∧ Ext w w' := by
  go_enter Try.func12, Try.ntmps12
  go_wp2_with fail
  refine (cell_nob p a _ w h).mono ?_
  rintro e w1 ⟨rfl, rfl⟩
  go_wp2_with fail
  go_ret
  exact ⟨by simp, Ext.refl _⟩
theorem cas_nob (a old x : Int) : Calls Try.prog 14 #[p, .int .i64 a, .int .u64 old, .int .u64 x] w fun e w' => e = .returned (.tuple #[.int .u64 0, .bool false]) ∧ Ext w w' := by
  go_enter Try.func14, Try.ntmps14
  go_wp2_with fail
  refine (cell_nob p a _ w h).mono ?_
  rintro e w1 ⟨rfl, rfl⟩
  go_wp2_with fail
  go_ret2
  exact ⟨by simp, Ext.refl _⟩
theorem len_nob : Calls Try.prog 19 #[p] w fun e w' => e = .returned (.int .i64 0) ∧ Ext w w' := by
  go_enter Try.func19, Try.ntmps19
  go_wp2_with fail
  refine (alls_nob p w h).mono ?_
  rintro e w1 ⟨rfl, rfl⟩
  go_wp2_with fail
  go_ret
  exact ⟨by simp, Ext.refl _⟩
theorem count_nob : Calls Try.prog 18 #[p] w fun e w' => e = .returned (.int .i64 0) ∧ Ext w w' := by
  rcases h with rfl | ⟨M, rfl, h⟩
  · go_enter Try.func18, Try.ntmps18
    go_wp2
    go_ret
    exact ⟨by simp, Ext.refl _⟩
  · have r := h.cell
    go_enter Try.func18, Try.ntmps18
    go_wp2
    go_ret
    exact ⟨by simp, Ext.refl _⟩
end
end Go.Proofs.Ytlmlkclpfjbedaa
