/- A memory of package cell in the world: its two blocks, and what its methods do. -/
import Derived.Test.YtlgomkocalieeaaGreatDoorTurn
import Derived.Laws.MakeOwn
import Derived.Laws.CopyOwn
import Derived.Deep.QuietTactic
namespace Go.Proofs.YtlgomkocalieeaaGreatDoor.Ce
set_option maxRecDepth 100000
open Go.RowKit
set_option linter.unusedSimpArgs false
set_option linter.unusedVariables false


def wc (ws : List Int) : Array Value := (ws.map (Value.int .u64 ·)).toArray
/-- The memory of blocks M and V: so many accesses, these words. -/
structure MemT (w : World) (M V : Nat) (acc : Int) (ws : List Int) : Prop where
  m : Blk w M #[.slice (some ⟨V, 0, none⟩) ws.length ws.length, .int .i64 acc] 164
  v : Blk w V (wc ws) 22
  ne : M ≠ V
  acc0 : 0 ≤ acc
  acc1 : acc ≤ 9223372036854775807
  len : ws.length ≤ 4096
/-- One that nobody made. -/
def Nob (w : World) (p : Value) : Prop := p = .pointer none ∨ ∃ M, p = .pointer (some ⟨M, 0, none⟩) ∧ Blk w M #[.slice none 0 0, .int .i64 0] 164
def up (acc : Int) : Int := if acc < 9223372036854775807 then acc + 1 else acc

theorem alls_in (M V : Nat) (acc : Int) (ws : List Int) (w : World) (h : MemT w M V acc ws) :
    Calls Tryz.prog 99 #[.pointer (some ⟨M, 0, none⟩)] w fun e w' => e = .returned (.slice (some ⟨V, 0, none⟩) ws.length ws.length) ∧ w = w' := by
  have r := h.m.cell
  go_enter Tryz.func99, Tryz.ntmps99
  go_wp2
  go_ret
  exact ⟨by simp, rfl⟩
theorem alls_nob (p : Value) (w : World) (h : Nob w p) : Calls Tryz.prog 99 #[p] w fun e w' => e = .returned (.slice none 0 0) ∧ w = w' := by
  rcases h with rfl | ⟨M, rfl, h⟩
  · go_enter Tryz.func99, Tryz.ntmps99
    go_wp2
    go_ret
    exact ⟨rfl, rfl⟩
  · have r := h.cell
    go_enter Tryz.func99, Tryz.ntmps99
    go_wp2
    go_ret
    exact ⟨by simp, rfl⟩
theorem access_in (M V : Nat) (acc : Int) (ws : List Int) (w : World) (h : MemT w M V acc ws) :
    Calls Tryz.prog 92 #[.pointer (some ⟨M, 0, none⟩)] w fun e w' => e = .returned (.tuple #[]) ∧ MemT w' M V (up acc) ws ∧ Chg [M] w w' := by
  have r := h.m.cell
  have f := h.m.free
  have h0 := h.acc0
  have h1 := h.acc1
  by_cases hlt : acc < 9223372036854775807
  · have e := h.m.set 1 (.int .i64 (acc + 1))
    have E := hide (show (#[Value.slice (some ⟨V, 0, none⟩) ws.length ws.length, .int .i64 acc].setIfInBounds 1 (.int .i64 (acc + 1))) = #[.slice (some ⟨V, 0, none⟩) ws.length ws.length, .int .i64 (up acc)] by simp [up, hlt])
    rw [E.out] at e
    have c := (Chg.refl [M] w).set (p := ⟨M, 1, none⟩) (.inl (by simp)) (.int .i64 (acc + 1))
    have v := h.v.far (p := ⟨M, 1, none⟩) (Ne.symm h.ne) (.int .i64 (acc + 1))
    go_enter Tryz.func92, Tryz.ntmps92
    go_wp2
    go_end0
    exact ⟨rfl, ⟨e, v, h.ne, by simp [up, hlt]; omega, by simp [up, hlt]; omega, h.len⟩, c⟩
  · have E := hide (show up acc = acc by simp [up, hlt])
    go_enter Tryz.func92, Tryz.ntmps92
    go_wp2
    go_end0
    exact ⟨rfl, by rw [E.out]; exact h, Chg.refl _ _⟩
def hasB (ws : List Int) (a : Int) : Bool := decide (0 ≤ a ∧ a < ws.length)
theorem cell_in (M V : Nat) (acc : Int) (ws : List Int) (a : Int) (w : World) (h : MemT w M V acc ws) (h0 : 0 ≤ a) (h1 : a < ws.length) :
    Calls Tryz.prog 91 #[.pointer (some ⟨M, 0, none⟩), .int .i64 a, .func (.func 92) #[.pointer (some ⟨M, 0, none⟩)] #[]] w fun e w' => e = .returned (.pointer (some ⟨V, a.toNat, none⟩)) ∧ MemT w' M V (up acc) ws ∧ Chg [M] w w' := by
  have n1 : a.toNat < ws.length := by omega
  go_enter Tryz.func91, Tryz.ntmps91
  go_wp2_with fail
  refine (alls_in M V acc ws w h).mono ?_
  rintro e w1 ⟨rfl, rfl⟩
  go_wp2_with fail
  refine (access_in M V acc ws _ h).mono ?_
  rintro e w1 ⟨rfl, hm, hc⟩
  go_wp2_with fail
  go_ret
  exact ⟨by simp, hm, hc⟩
theorem cell_out (M V : Nat) (acc : Int) (ws : List Int) (a : Int) (f : Value) (w : World) (h : MemT w M V acc ws) (h1 : ¬ (0 ≤ a ∧ a < ws.length)) :
    Calls Tryz.prog 91 #[.pointer (some ⟨M, 0, none⟩), .int .i64 a, f] w fun e w' => e = .returned (.pointer none) ∧ w = w' := by
  by_cases h0 : a < 0
  · go_enter Tryz.func91, Tryz.ntmps91
    go_wp2_with fail
    refine (alls_in M V acc ws w h).mono ?_
    rintro e w1 ⟨rfl, rfl⟩
    go_wp2_with fail
    go_ret
    exact ⟨by simp, rfl⟩
  · have h2 : (ws.length : Int) ≤ a := by omega
    go_enter Tryz.func91, Tryz.ntmps91
    go_wp2_with fail
    refine (alls_in M V acc ws w h).mono ?_
    rintro e w1 ⟨rfl, rfl⟩
    go_wp2_with fail
    go_ret
    exact ⟨by simp, rfl⟩
theorem cell_nob (p : Value) (a : Int) (f : Value) (w : World) (h : Nob w p) :
    Calls Tryz.prog 91 #[p, .int .i64 a, f] w fun e w' => e = .returned (.pointer none) ∧ w = w' := by
  by_cases h0 : a < 0
  · go_enter Tryz.func91, Tryz.ntmps91
    go_wp2_with fail
    refine (alls_nob p w h).mono ?_
    rintro e w1 ⟨rfl, rfl⟩
    go_wp2_with fail
    go_ret
    exact ⟨by simp, rfl⟩
  · have h2 : (0 : Int) ≤ a := by omega
    go_enter Tryz.func91, Tryz.ntmps91
    go_wp2_with fail
    refine (alls_nob p w h).mono ?_
    rintro e w1 ⟨rfl, rfl⟩
    go_wp2_with fail
    go_ret
    exact ⟨by simp, rfl⟩
end Go.Proofs.YtlgomkocalieeaaGreatDoor.Ce

namespace Go.Proofs.YtlgomkocalieeaaGreatDoor.Ce
set_option maxRecDepth 100000
open Go.RowKit
set_option linter.unusedSimpArgs false
set_option linter.unusedVariables false

def lookI (ws : List Int) (a : Int) : Int := if 0 ≤ a then ws.getD a.toNat 0 else 0
def setI (ws : List Int) (a x : Int) : List Int := if 0 ≤ a then ws.set a.toNat x else ws
def upI (ws : List Int) (a acc : Int) : Int := if hasB ws a = true then up acc else acc
def casB (ws : List Int) (a old : Int) : Bool := hasB ws a && decide (lookI ws a = old)
def casL (ws : List Int) (a old x : Int) : List Int := if casB ws a old = true then setI ws a x else ws
theorem hasB_yes {ws : List Int} {a : Int} (h : 0 ≤ a) (h1 : a < ws.length) : hasB ws a = true := decide_eq_true ⟨h, h1⟩
theorem hasB_no {ws : List Int} {a : Int} (h : ¬ (0 ≤ a ∧ a < ws.length)) : hasB ws a = false := decide_eq_false h
theorem upI_yes {ws : List Int} {a : Int} (acc : Int) (h : 0 ≤ a) (h1 : a < ws.length) : upI ws a acc = up acc := if_pos (hasB_yes h h1)
theorem upI_no {ws : List Int} {a : Int} (acc : Int) (h : ¬ (0 ≤ a ∧ a < ws.length)) : upI ws a acc = acc := if_neg (by rw [hasB_no h]; simp)
theorem lookI_no {ws : List Int} {a : Int} (h : ¬ (0 ≤ a ∧ a < ws.length)) : lookI ws a = 0 := by
  unfold lookI
  by_cases h0 : 0 ≤ a
  · rw [if_pos h0]; simp [List.getD, List.getElem?_eq_none (show ws.length ≤ a.toNat by omega)]
  · rw [if_neg h0]
theorem setI_no {ws : List Int} {a x : Int} (h : ¬ (0 ≤ a ∧ a < ws.length)) : setI ws a x = ws := by
  unfold setI
  by_cases h0 : 0 ≤ a
  · rw [if_pos h0, List.set_eq_of_length_le (by omega)]
  · rw [if_neg h0]
theorem setI_len (ws : List Int) (a x : Int) : (setI ws a x).length = ws.length := by unfold setI; split <;> simp
theorem casL_len (ws : List Int) (a old x : Int) : (casL ws a old x).length = ws.length := by unfold casL; split <;> simp [setI_len]
theorem wc_at {ws : List Int} {a : Int} (h : 0 ≤ a) (h1 : a < ws.length) : (wc ws)[a.toNat]? = some (.int .u64 (lookI ws a)) := by
  have n1 : a.toNat < ws.length := by omega
  unfold wc lookI
  rw [if_pos h]
  simp [n1]
theorem wc_set (ws : List Int) (a x : Int) (h : 0 ≤ a) : (wc ws).setIfInBounds a.toNat (.int .u64 x) = wc (setI ws a x) := by
  unfold wc setI
  rw [if_pos h]
  simp
section
variable {w w' : World} {M V : Nat} {acc : Int} {ws : List Int}
theorem MemT.chg {T : List Nat} (h : MemT w M V acc ws) (x : Chg T w w') (hM : M ∉ T) (hV : V ∉ T) : MemT w' M V acc ws := ⟨h.m.chg x hM, h.v.chg x hV, h.ne, h.acc0, h.acc1, h.len⟩
theorem MemT.ext (h : MemT w M V acc ws) (x : Ext w w') : MemT w' M V acc ws := h.chg (x.chg []) (by simp) (by simp)
theorem MemT.set (h : MemT w M V acc ws) (a x : Int) (h0 : 0 ≤ a) : MemT (w.setCell ⟨V, a.toNat, none⟩ (.int .u64 x)) M V acc (setI ws a x) := by
  refine ⟨?_, ?_, h.ne, h.acc0, h.acc1, by rw [setI_len]; exact h.len⟩
  · rw [setI_len]; exact h.m.far (p := ⟨V, a.toNat, none⟩) h.ne _
  · rw [← wc_set _ _ _ h0]; exact h.v.set a.toNat _
end
theorem sub_MV {M V : Nat} : ∀ k, k ∈ [M] → k ∈ [M, V] := by simp
theorem _root_.Go.Proofs.YtlgomkocalieeaaGreatDoor.Chg.toMV {M V : Nat} {w w' : World} (h : Chg [M] w w') : Chg [M, V] w w' := h.mono sub_MV
theorem _root_.Go.Proofs.YtlgomkocalieeaaGreatDoor.Chg.setV {M V o : Nat} {w w' : World} (h : Chg [M] w w') (u : Value) : Chg [M, V] w (w'.setCell ⟨V, o, none⟩ u) := h.toMV.set (p := ⟨V, o, none⟩) (.inl (by simp)) u

theorem store_any (M V : Nat) (acc : Int) (ws : List Int) (a x : Int) (w : World) (h : MemT w M V acc ws) :
    Calls Tryz.prog 85 #[.pointer (some ⟨M, 0, none⟩), .int .i64 a, .int .u64 x] w fun e w' => e = .returned (.bool (hasB ws a)) ∧ MemT w' M V (upI ws a acc) (setI ws a x) ∧ Chg [M, V] w w' := by
  by_cases hh : 0 ≤ a ∧ a < ws.length
  · obtain ⟨h0, h1⟩ := hh
    rw [upI_yes acc h0 h1, hasB_yes h0 h1]
    go_enter Tryz.func85, Tryz.ntmps85
    go_wp2_with fail
    refine (cell_in M V acc ws a w h h0 h1).mono ?_
    rintro e w1 ⟨rfl, hm, hc⟩
    have r : w1.cell? ⟨V, a.toNat, none⟩ = some (.int .u64 (lookI ws a)) := (hm.v.cell _).trans (wc_at h0 h1)
    have f := hm.v.free a.toNat
    have hs := hm.set a x h0
    have hc2 := hc.setV (V := V) (o := a.toNat) (.int .u64 x)
    go_wp2_with fail
    go_ret
    exact ⟨by simp, hs, hc2⟩
  · rw [upI_no acc hh, hasB_no hh, setI_no hh]
    go_enter Tryz.func85, Tryz.ntmps85
    go_wp2_with fail
    refine (cell_out M V acc ws a _ w h hh).mono ?_
    rintro e w1 ⟨rfl, rfl⟩
    go_wp2_with fail
    go_ret
    exact ⟨by simp, h, Chg.refl _ _⟩
/-! Of one that nobody made. -/
section
variable (p : Value) (w : World) (h : Nob w p)
include h
theorem store_nob (a x : Int) : Calls Tryz.prog 85 #[p, .int .i64 a, .int .u64 x] w fun e w' => e = .returned (.bool false) ∧ Ext w w' := by
  go_enter Tryz.func85, Tryz.ntmps85
  go_wp2_with fail
  refine (cell_nob p a _ w h).mono ?_
  rintro e w1 ⟨rfl, rfl⟩
  go_wp2_with fail
  go_ret
  exact ⟨by simp, Ext.refl _⟩
end
end Go.Proofs.YtlgomkocalieeaaGreatDoor.Ce

namespace Go.Proofs.YtlgomkocalieeaaGreatDoor.Ce
set_option maxRecDepth 100000
open Go.RowKit
set_option linter.unusedSimpArgs false
set_option linter.unusedVariables false

theorem inf_u64 : (Tryz.prog.info? 22).map (fun i => (i.zero, i.size, i.bytes)) = some (some (.int .u64 0), 1, 8) := by kernel_rfl
def zeros (n : Nat) : List Int := List.replicate n 0
theorem made_zeros (n : Nat) : madeCells (Value.cells (.int .u64 0)) (n * 1) = wc (zeros n) := by
  apply Array.ext'
  simp only [madeCells, wc, zeros, Value.cells, Array.toList_map, Array.toList_range, List.map_replicate, Nat.mul_one]
  apply List.ext_getElem
  · simp
  · intro i h1 h2
    simp [Nat.mod_one]
theorem run_mk (w : World) (n : Nat) (hn : n ≤ 4096) :
    (Instr.makeSlice 162 (.int .i64 n) (.int .i64 n)).run Tryz.prog w = .ok (.slice (some ⟨w.heap.size, 0, none⟩) n n) (w.alloc (.cells (wc (zeros n)) 22)) := by
  obtain ⟨i, hi, hz, hsize, hb⟩ := info_parts inf_u64
  have h := run_make (P := Tryz.prog) w 162 22 i (.int .u64 0) Tryz.underlying162 hi hz .i64 .i64 n n (by omega) (by omega) (by rw [hb]; omega) (by omega)
  rw [hsize, Int.toNat_natCast, made_zeros] at h
  exact h
theorem new_in (n : Nat) (w : World) (h1 : 1 ≤ n) (h2 : n ≤ 4096) :
    Calls Tryz.prog 55 #[.int .i64 n] w fun e w' => ∃ M V, e = .returned (.tuple #[.pointer (some ⟨M, 0, none⟩), .int .i64 0]) ∧ MemT w' M V 0 (zeros n) ∧ w.heap.size ≤ M ∧ w.heap.size ≤ V ∧ Ext w w' := by
  have r := run_mk w n h2
  have hx : (1 : Int) ≤ n := by omega
  have hy : (n : Int) ≤ 4096 := by omega
  have hm := Blk.new (w.alloc (.cells (wc (zeros n)) 22)) #[.slice (some ⟨w.heap.size, 0, none⟩) n n, .int .i64 0] 164
  have hv := (Blk.new w (wc (zeros n)) 22).ext (Ext.alloc _ (.cells #[.slice (some ⟨w.heap.size, 0, none⟩) n n, .int .i64 0] 164))
  have hl : (zeros n).length = n := by simp [zeros]
  have hM : MemT ((w.alloc (.cells (wc (zeros n)) 22)).alloc (.cells #[.slice (some ⟨w.heap.size, 0, none⟩) n n, .int .i64 0] 164)) (w.heap.size + 1) w.heap.size 0 (zeros n) := by
    refine ⟨?_, hv, by omega, by omega, by omega, by omega⟩
    rw [hl]
    simpa using hm
  have HM := hide hM
  clear hM hm hv hl
  go_enter Tryz.func55, Tryz.ntmps55
  go_wp2
  go_ret2
  exact ⟨w.heap.size + 1, w.heap.size, by simp, HM.out, by omega, by omega, (Ext.alloc _ _).trans (Ext.alloc _ _)⟩
theorem new_out (n : Int) (w : World) (h : ¬ (1 ≤ n ∧ n ≤ 4096)) :
    Calls Tryz.prog 55 #[.int .i64 n] w fun e w' => e = .returned (.tuple #[.pointer none, .int .i64 1]) ∧ Ext w w' := by
  by_cases h1 : n < 1
  · go_enter Tryz.func55, Tryz.ntmps55
    go_wp2
    go_ret2
    exact ⟨by simp, Ext.refl _⟩
  · have h2 : 4096 < n := by omega
    go_enter Tryz.func55, Tryz.ntmps55
    go_wp2
    go_ret2
    exact ⟨by simp, Ext.refl _⟩
theorem Nob.ext {w w' : World} {p : Value} (h : Nob w p) (x : Ext w w') : Nob w' p := by
  rcases h with rfl | ⟨M, rfl, h⟩
  · exact .inl rfl
  · exact .inr ⟨M, rfl, h.ext x⟩
theorem splice_all {α : Type} (L cs : Array α) (h : cs.toList.length = L.toList.length) : (splice L.toList 0 cs.toList).toArray = cs := by
  unfold splice
  rw [List.take_zero, List.nil_append, Nat.zero_add, h, List.drop_length, List.append_nil]
def ucells (l : List Int) : List Value := l.map (.int .u64 ·)
theorem wc_list (l : List Int) : (wc l).toList = ucells l := rfl
def nth (l : List Int) (k : Nat) : Int := l.getD k 0
theorem _root_.Go.Proofs.YtlgomkocalieeaaGreatDoor.Sl.words {w : World} {B n : Nat} {A : Option Addr} {vs : List Int} (h : Sl w B 1 A n (ucells vs)) {k : Nat} (hk : k < n) :
    ∃ b off, A = some ⟨b, off, none⟩ ∧ b < B ∧ w.cell? ⟨b, off + k, none⟩ = some (.int .u64 (nth vs k)) := by
  have hn : n = vs.length := by have := h.1; simp [ucells] at this; omega
  subst hn
  obtain ⟨b, off, ha, hb, hc⟩ := h.at_ hk
  refine ⟨b, off, ha, hb, ?_⟩
  have := hc 0 (by omega)
  simpa [ucells, hk, nth] using this
theorem _root_.Go.Proofs.YtlgomkocalieeaaGreatDoor.Sl.ruleD {w : World} {B b off n : Nat} {vs : List Int} (h : Sl w B 1 (some ⟨b, off, none⟩) n (ucells vs)) (hB : B ≤ w.heap.size) :
    ∀ w', Ext w w' → ∀ k, k < n → w'.cell? ⟨b, off + k, none⟩ = some (.int .u64 (nth vs k)) := fun w' e k hk => by
  obtain ⟨b', off', e', _, c0⟩ := (h.ext e hB).words hk
  cases e'
  exact c0
theorem _root_.Go.Proofs.YtlgomkocalieeaaGreatDoor.Sl.lenW {w : World} {B n : Nat} {A : Option Addr} {vs : List Int} (h : Sl w B 1 A n (ucells vs)) : n = vs.length := by have := h.1; simp [ucells] at this; omega
theorem eq_lists {xs ys : List Int} (hl : xs.length = ys.length) (h : ∀ k, k < xs.length → nth xs k = nth ys k) : xs = ys := by
  apply List.ext_getElem hl
  intro i h1 h2
  have := h i h1
  simpa [nth, List.getD, h1, h2] using this

theorem MemT.sl {w : World} {M V : Nat} {acc : Int} {ws : List Int} (h : MemT w M V acc ws) : Sl w w.heap.size 1 (some ⟨V, 0, none⟩) ws.length (ucells ws) :=
  ⟨by simp [ucells], fun _ => ⟨V, 0, rfl, h.v.lt, fun j hj => by rw [Nat.zero_add, h.v.cell, ← wc_list, Array.getElem?_toList]⟩⟩
end Go.Proofs.YtlgomkocalieeaaGreatDoor.Ce
