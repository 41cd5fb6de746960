/- Rows of ints in a block, by a function on places; what a rendezvous answers, as functions of its state: states of threads, how many requests wait. -/
import Derived.Test.YtlgomkocalieeaaGreatDoorTurn
import Derived.Laws.MakeOwn
import Derived.Deep.QuietTactic
namespace Go.Proofs.YtlgomkocalieeaaGreatDoor.Sf
set_option maxRecDepth 100000
open Go.RowKit
set_option linter.unusedSimpArgs false
set_option linter.unusedVariables false

abbrev Ti := Nat → Int
def upI (g : Ti) (t : Nat) (s : Int) : Ti := fun k => if k = t then s else g k
theorem upI_same (g : Ti) (t : Nat) (s : Int) : upI g t s t = s := if_pos rfl
theorem upI_other (g : Ti) {t k : Nat} (s : Int) (h : k ≠ t) : upI g t s k = g k := if_neg h
theorem upI_self (g : Ti) (t : Nat) : upI g t (g t) = g := by funext k; unfold upI; split <;> simp_all
def irow (N : Nat) (g : Ti) : Array Value := ((List.range N).map fun j => Value.int .i64 (g j)).toArray
theorem irow_at {N : Nat} (g : Ti) {t : Nat} (h : t < N) : (irow N g)[t]? = some (.int .i64 (g t)) := by
  unfold irow
  rw [List.getElem?_toArray, List.getElem?_map, List.getElem?_range h]; rfl
theorem irow_set {N : Nat} (g : Ti) {t : Nat} (h : t < N) (v : Int) : (irow N g).setIfInBounds t (.int .i64 v) = irow N (upI g t v) := by
  apply Array.ext'
  apply List.ext_getElem?
  intro j
  rw [Array.toList_setIfInBounds, List.getElem?_set]
  simp only [irow, List.getElem?_map, List.length_map, List.length_range]
  by_cases hj : j < N
  · rw [List.getElem?_range hj]
    by_cases e : t = j
    · subst e; simp [upI, hj]
    · have e2 : j ≠ t := Ne.symm e
      simp [upI, e, e2]
  · have e : t ≠ j := by omega
    simp [e, List.getElem?_eq_none (show (List.range N).length ≤ j by simp; omega)]
theorem made_irow (N : Nat) (z : Value) (hz : z.cells = #[.int .i64 0]) : madeCells z.cells (N * 1) = irow N (fun _ => 0) := by
  rw [hz]
  apply Array.ext'
  apply List.ext_getElem
  · simp [madeCells, irow]
  · intro i h1 h2
    simp [madeCells, irow, Nat.mod_one]
theorem inf_int : (Tryz.prog.info? 3).map (fun i => (i.zero, i.size, i.bytes)) = some (some (.int .i64 0), 1, 8) := by kernel_rfl
/-! Which threads there are. -/
def inB (N : Nat) (z : Int) : Bool := decide (0 ≤ z) && decide (z < N)
theorem inB_yes {N : Nat} {z : Int} (h0 : 0 ≤ z) (h1 : z < N) : inB N z = true := by unfold inB; rw [decide_eq_true h0, decide_eq_true h1]; rfl
theorem inB_no {N : Nat} {z : Int} (h : ¬ (0 ≤ z ∧ z < N)) : inB N z = false := by
  unfold inB
  by_cases h0 : 0 ≤ z
  · rw [decide_eq_false (show ¬ z < N from fun h1 => h ⟨h0, h1⟩), Bool.and_false]
  · rw [decide_eq_false h0, Bool.false_and]
theorem inB_of {N : Nat} {z : Int} (h : inB N z = true) : 0 ≤ z ∧ z < N := by
  refine Classical.byContradiction fun hn => ?_
  rw [inB_no hn] at h; cases h
theorem inB_not {N : Nat} {z : Int} (h : inB N z = false) : ¬ (0 ≤ z ∧ z < N) := fun hn => by
  rw [inB_yes hn.1 hn.2] at h; cases h
theorem nin {N t : Nat} (ht : t < N) : inB N (t : Int) = true := inB_yes (by omega) (by omega)
/-- A thread's state. -/
def stI (N : Nat) (g : Ti) (z : Int) : Int := if inB N z = true then g z.toNat else -1
theorem stI_yes {N : Nat} {z : Int} (g : Ti) (h0 : 0 ≤ z) (h1 : z < N) : stI N g z = g z.toNat := if_pos (inB_yes h0 h1)
theorem stI_no {N : Nat} {z : Int} (g : Ti) (h : ¬ (0 ≤ z ∧ z < N)) : stI N g z = -1 := if_neg (by rw [inB_no h]; simp)
theorem stI_n {N t : Nat} (g : Ti) (ht : t < N) : stI N g (t : Int) = g t := by rw [stI_yes g (by omega) (by omega), Int.toNat_natCast]
/-- Is something requested? -/
def wnt (a : Nat) : Bool := decide (0 < a)
theorem wnt_yes {a : Nat} (h : 0 < a) : wnt a = true := decide_eq_true h
theorem wnt_no : wnt 0 = false := rfl
theorem wnt_of {a : Nat} (h : wnt a = true) : 0 < a := of_decide_eq_true h
theorem wnt_not {a : Nat} (h : wnt a = false) : a = 0 := by have := of_decide_eq_false h; omega
/-- Do all stand still? -/
def stl (N : Nat) (g : Ti) : Bool := (List.range N).all fun k => g k != 0
theorem stl_yes {N : Nat} {g : Ti} (h : ∀ k, k < N → g k ≠ 0) : stl N g = true := by
  unfold stl
  rw [List.all_eq_true]
  intro k hk
  have := h k (List.mem_range.1 hk)
  simpa using this
theorem stl_no {N : Nat} {g : Ti} {k : Nat} (hk : k < N) (h : g k = 0) : stl N g = false := by
  cases e : stl N g
  · rfl
  · unfold stl at e
    rw [List.all_eq_true] at e
    have := e k (List.mem_range.2 hk)
    simp [h] at this
theorem stl_of {N : Nat} {g : Ti} (h : stl N g = true) : ∀ k, k < N → g k ≠ 0 := fun k hk e => by rw [stl_no hk e] at h; cases h
theorem stl_ex {N : Nat} {g : Ti} (h : stl N g = false) : ∃ k, k < N ∧ g k = 0 := by
  refine Classical.byContradiction fun hn => ?_
  have := stl_yes (N := N) (g := g) fun k hk e => hn ⟨k, hk, e⟩
  rw [h] at this; cases this
/-- Is there such a state? -/
def isS (s : Int) : Bool := decide (0 ≤ s) && decide (s ≤ 3)
theorem isS_yes {s : Int} (h0 : 0 ≤ s) (h1 : s ≤ 3) : isS s = true := by unfold isS; rw [decide_eq_true h0, decide_eq_true h1]; rfl
theorem isS_no {s : Int} (h : ¬ (0 ≤ s ∧ s ≤ 3)) : isS s = false := by
  unfold isS
  by_cases h0 : 0 ≤ s
  · rw [decide_eq_false (show ¬ s ≤ 3 from fun h1 => h ⟨h0, h1⟩), Bool.and_false]
  · rw [decide_eq_false h0, Bool.false_and]
theorem isS_of {s : Int} (h : isS s = true) : 0 ≤ s ∧ s ≤ 3 := by
  refine Classical.byContradiction fun hn => ?_
  rw [isS_no hn] at h; cases h
theorem isS_not {s : Int} (h : isS s = false) : ¬ (0 ≤ s ∧ s ≤ 3) := fun hn => by
  rw [isS_yes hn.1 hn.2] at h; cases h
/-- May a thread be put from a state into another one? -/
def gsB (a : Nat) (x s : Int) : Bool := if x = 3 then s == 3 else if x = 1 then (s != 0 || !wnt a) else true
theorem gsB_3 (a : Nat) (s : Int) : gsB a 3 s = (s == 3) := rfl
theorem gsB_1 (a : Nat) (s : Int) : gsB a 1 s = (s != 0 || !wnt a) := rfl
theorem gsB_e {a : Nat} {x s : Int} (h3 : x ≠ 3) (h1 : x ≠ 1) : gsB a x s = true := by unfold gsB; rw [if_neg h3, if_neg h1]
/-- What Put answers, and leaves. -/
def putE (N : Nat) (g : Ti) (a : Nat) (z s : Int) : Int := if inB N z = true ∧ isS s = true then (if gsB a (g z.toNat) s = true then 0 else 9) else 1
def putG (N : Nat) (g : Ti) (a : Nat) (z s : Int) : Ti := if inB N z = true ∧ isS s = true ∧ gsB a (g z.toNat) s = true then upI g z.toNat s else g
theorem putE_no {N : Nat} {g : Ti} {a : Nat} {z s : Int} (h : ¬ (inB N z = true ∧ isS s = true)) : putE N g a z s = 1 := if_neg h
theorem putG_no {N : Nat} {g : Ti} {a : Nat} {z s : Int} (h : ¬ (inB N z = true ∧ isS s = true)) : putG N g a z s = g := if_neg fun k => h ⟨k.1, k.2.1⟩
theorem putE_9 {N : Nat} {g : Ti} {a : Nat} {z s : Int} (h : inB N z = true ∧ isS s = true) (k : gsB a (g z.toNat) s = false) : putE N g a z s = 9 := by
  unfold putE; rw [if_pos h, if_neg (by rw [k]; decide)]
theorem putG_9 {N : Nat} {g : Ti} {a : Nat} {z s : Int} (k : gsB a (g z.toNat) s = false) : putG N g a z s = g := if_neg fun h => by rw [k] at h; exact absurd h.2.2 (by decide)
theorem putE_0 {N : Nat} {g : Ti} {a : Nat} {z s : Int} (h : inB N z = true ∧ isS s = true) (k : gsB a (g z.toNat) s = true) : putE N g a z s = 0 := by
  unfold putE; rw [if_pos h, if_pos k]
theorem putG_0 {N : Nat} {g : Ti} {a : Nat} {z s : Int} (h : inB N z = true ∧ isS s = true) (k : gsB a (g z.toNat) s = true) : putG N g a z s = upI g z.toNat s := if_pos ⟨h.1, h.2, k⟩
def OkI (N : Nat) (g : Ti) : Prop := ∀ k, k < N → 0 ≤ g k ∧ g k ≤ 3
theorem okI_up {N : Nat} {g : Ti} (h : OkI N g) (t : Nat) {s : Int} (h0 : 0 ≤ s) (h1 : s ≤ 3) : OkI N (upI g t s) := fun k hk => by
  by_cases e : k = t
  · rw [e, upI_same]; exact ⟨h0, h1⟩
  · rw [upI_other _ _ e]; exact h k hk
theorem okI_put {N : Nat} {g : Ti} (h : OkI N g) (a : Nat) (z s : Int) : OkI N (putG N g a z s) := by
  unfold putG
  split
  · rename_i k; obtain ⟨h0, h1⟩ := isS_of k.2.1; exact okI_up h _ h0 h1
  · exact h
/-- May a thread go on? -/
def mayB (N : Nat) (g : Ti) (a : Nat) (z : Int) : Bool := stI N g z == 0 || (stI N g z == 1 && !wnt a)
/-- Is a round done? What Done answers, and leaves. -/
def don (N : Nat) (g : Ti) (a : Nat) : Bool := wnt a && stl N g
def dA (b : Bool) (a : Nat) : Int := if b = true then a else 0
def dE (b : Bool) : Int := if b = true then 0 else 9
def dW (b : Bool) (a : Nat) : Nat := if b = true then 0 else a
def dR (b : Bool) (r : Nat) : Nat := if b = true then r + 1 else r
end Go.Proofs.YtlgomkocalieeaaGreatDoor.Sf

namespace Go.Proofs.YtlgomkocalieeaaGreatDoor.Sf
set_option maxRecDepth 100000
open Go.RowKit
set_option linter.unusedSimpArgs false
set_option linter.unusedVariables false
set_option maxRecDepth 100000

/-- A rendezvous of type T: its block, its threads' block, so many of them, their states, how many requests wait, how many rounds there were. -/
structure MT (T : TypeId) (w : World) (M V N : Nat) (g : Ti) (a r : Nat) : Prop where
  m : Blk w M #[.slice (some ⟨V, 0, none⟩) N N, .int .i64 (a : Int), .int .i64 (r : Int)] T
  v : Blk w V (irow N g) 3
  ne : M ≠ V
  n1 : 1 ≤ N
  n2 : N ≤ 256
  ok : OkI N g
/-- One that New did not give. -/
def Nob (w : World) (p : Value) : Prop := p = .pointer none ∨ ∃ M, p = (.pointer (some ⟨M, 0, none⟩)) ∧ Blk w M #[.slice none 0 0, .int .i64 0, .int .i64 0] 152
section
variable {T : TypeId} {w w' : World} {M V N : Nat} {g : Ti} {a r : Nat} {z s : Int}
theorem MT.chg {L : List Nat} (h : MT T w M V N g a r) (x : Chg L w w') (hM : M ∉ L) (hV : V ∉ L) : MT T w' M V N g a r := ⟨h.m.chg x hM, h.v.chg x hV, h.ne, h.n1, h.n2, h.ok⟩
theorem MT.ext (h : MT T w M V N g a r) (x : Ext w w') : MT T w' M V N g a r := h.chg (x.chg []) (by simp) (by simp)
theorem MT.l0 (h : MT T w M V N g a r) : w.cell? ⟨M, 0, none⟩ = some (.slice (some ⟨V, 0, none⟩) N N) := h.m.cell 0
theorem MT.l1 (h : MT T w M V N g a r) : w.cell? ⟨M, 1, none⟩ = some (.int .i64 (a : Int)) := h.m.cell 1
theorem MT.l2 (h : MT T w M V N g a r) : w.cell? ⟨M, 2, none⟩ = some (.int .i64 (r : Int)) := h.m.cell 2
theorem MT.lv (h : MT T w M V N g a r) {t : Nat} (ht : t < N) : w.cell? ⟨V, t, none⟩ = some (.int .i64 (g t)) := (h.v.cell t).trans (irow_at g ht)
theorem MT.sv (h : MT T w M V N g a r) {t : Nat} (ht : t < N) {s : Int} (h0 : 0 ≤ s) (h1 : s ≤ 3) : MT T (w.setCell ⟨V, t, none⟩ (.int .i64 s)) M V N (upI g t s) a r :=
  ⟨h.m.far (p := ⟨V, t, none⟩) h.ne _, by rw [← irow_set g ht]; exact h.v.set _ _, h.ne, h.n1, h.n2, okI_up h.ok t h0 h1⟩
theorem MT.s1 (h : MT T w M V N g a r) (a' : Nat) : MT T (w.setCell ⟨M, 1, none⟩ (.int .i64 (a' : Int))) M V N g a' r :=
  ⟨h.m.set 1 (.int .i64 (a' : Int)), h.v.far (p := ⟨M, 1, none⟩) h.ne.symm _, h.ne, h.n1, h.n2, h.ok⟩
theorem MT.s2 (h : MT T w M V N g a r) (r' : Nat) : MT T (w.setCell ⟨M, 2, none⟩ (.int .i64 (r' : Int))) M V N g a r' :=
  ⟨h.m.set 2 (.int .i64 (r' : Int)), h.v.far (p := ⟨M, 2, none⟩) h.ne.symm _, h.ne, h.n1, h.n2, h.ok⟩
theorem Nob.ext {p : Value} (h : Nob w p) (x : Ext w w') : Nob w' p := by
  rcases h with rfl | ⟨M, rfl, h⟩
  · exact .inl rfl
  · exact .inr ⟨M, rfl, h.ext x⟩
theorem chg_at {L : List Nat} (w : World) (V o : Nat) (u : Value) (h : V ∈ L) : Chg L w (w.setCell ⟨V, o, none⟩ u) := (Chg.refl L w).set (p := ⟨V, o, none⟩) (.inl h) u
theorem _root_.Go.Proofs.YtlgomkocalieeaaGreatDoor.Chg.setAt {L : List Nat} {V o : Nat} (h : Chg L w w') (hV : V ∈ L) (u : Value) : Chg L w (w'.setCell ⟨V, o, none⟩ u) := h.set (p := ⟨V, o, none⟩) (.inl hV) u
end
theorem run_mk (w : World) (n : Nat) (hn : n ≤ 4096) :
    (Instr.makeSlice 98 (.int .i64 n) (.int .i64 n)).run Tryz.prog w = .ok (.slice (some ⟨w.heap.size, 0, none⟩) n n) (w.alloc (.cells (irow n (fun _ => 0)) 3)) := by
  obtain ⟨i, hi, hz, hsize, hb⟩ := info_parts inf_int
  have h := run_make (P := Tryz.prog) w 98 3 i _ Tryz.underlying98 hi hz .i64 .i64 n n (by omega) (by omega) (by rw [hb]; omega) (by omega)
  rw [hsize, Int.toNat_natCast, made_irow _ _ rfl] at h
  exact h
theorem new_in (n : Nat) (w : World) (h1 : 1 ≤ n) (h2 : n ≤ 256) :
    Calls Tryz.prog 59 #[.int .i64 n] w fun e w' => ∃ M V, e = .returned (.tuple #[(.pointer (some ⟨M, 0, none⟩)), .int .i64 0]) ∧ MT 152 w' M V n (fun _ => 0) 0 0 ∧ w.heap.size ≤ M ∧ w.heap.size ≤ V ∧ Ext w w' := by
  have r := run_mk w n (by omega)
  have hx : (1 : Int) ≤ n := by omega
  have hy : (n : Int) ≤ 256 := by omega
  have hm := Blk.new (w.alloc (.cells (irow n (fun _ => 0)) 3)) #[.slice (some ⟨w.heap.size, 0, none⟩) n n, .int .i64 ((0 : Nat) : Int), .int .i64 ((0 : Nat) : Int)] 152
  have hv := (Blk.new w (irow n (fun _ => 0)) 3).ext (Ext.alloc _ (.cells #[.slice (some ⟨w.heap.size, 0, none⟩) n n, .int .i64 0, .int .i64 0] 152))
  have hM : MT 152 ((w.alloc (.cells (irow n (fun _ => 0)) 3)).alloc (.cells #[.slice (some ⟨w.heap.size, 0, none⟩) n n, .int .i64 0, .int .i64 0] 152)) (w.heap.size + 1) w.heap.size n (fun _ => 0) 0 0 := by
    refine ⟨?_, hv, by omega, h1, h2, fun k _ => by omega⟩
    simpa using hm
  have HM := hide hM
  clear hM hm hv
  go_enter Tryz.func59, Tryz.ntmps59
  go_wp2
  go_ret2
  exact ⟨w.heap.size + 1, rfl, w.heap.size, HM.out, by omega, by omega, (Ext.alloc _ _).trans (Ext.alloc _ _)⟩
theorem new_out (n : Int) (w : World) (h : ¬ (1 ≤ n ∧ n ≤ 256)) :
    Calls Tryz.prog 59 #[.int .i64 n] w fun e w' => e = .returned (.tuple #[.pointer none, .int .i64 1]) ∧ w = w' := by
  by_cases h1 : n < 1
  · go_enter Tryz.func59, Tryz.ntmps59
    go_wp2
    go_ret2
    exact ⟨by simp, rfl⟩
  · have h2 : 256 < n := by omega
    go_enter Tryz.func59, Tryz.ntmps59
    go_wp2
    go_ret2
    exact ⟨by simp, rfl⟩
section
variable {w w' : World} {M V N : Nat} {g : Ti} {a r : Nat} {z s : Int}
theorem made_in (h : MT 152 w M V N g a r) : Calls Tryz.prog 67 #[(.pointer (some ⟨M, 0, none⟩))] w fun e w' => e = .returned (.bool true) ∧ w = w' := by
  have r0 := h.l0
  have n1 := h.n1
  have hx : (0 : Int) < N := by omega
  go_enter Tryz.func67, Tryz.ntmps67
  go_wp2
  go_ret
  exact ⟨by simp; omega, rfl⟩
theorem made_nob {p : Value} (h : Nob w p) : Calls Tryz.prog 67 #[p] w fun e w' => e = .returned (.bool false) ∧ w = w' := by
  rcases h with rfl | ⟨M, rfl, h⟩
  · go_enter Tryz.func67, Tryz.ntmps67
    go_wp2
    go_ret
    exact ⟨rfl, rfl⟩
  · have r := h.cell 0
    go_enter Tryz.func67, Tryz.ntmps67
    go_wp2
    go_ret
    exact ⟨by simp, rfl⟩
theorem has_any (h : MT 152 w M V N g a r) : Calls Tryz.prog 68 #[(.pointer (some ⟨M, 0, none⟩)), .int .i64 z] w fun e w' => e = .returned (.bool (inB N z)) ∧ w = w' := by
  have r0 := h.l0
  by_cases h0 : 0 ≤ z
  · by_cases h1 : z < N
    · have E := hide (inB_yes h0 h1)
      go_enter Tryz.func68, Tryz.ntmps68
      go_wp2_with fail
      refine (made_in h).mono ?_
      rintro e w1 ⟨rfl, rfl⟩
      go_wp2_with fail
      go_ret
      exact ⟨by rw [E.out]; simp, rfl⟩
    · have E := hide (inB_no (N := N) (z := z) (by omega))
      go_enter Tryz.func68, Tryz.ntmps68
      go_wp2_with fail
      refine (made_in h).mono ?_
      rintro e w1 ⟨rfl, rfl⟩
      go_wp2_with fail
      go_ret
      exact ⟨by rw [E.out]; simp; omega, rfl⟩
  · have E := hide (inB_no (N := N) (z := z) (by omega))
    go_enter Tryz.func68, Tryz.ntmps68
    go_wp2_with fail
    refine (made_in h).mono ?_
    rintro e w1 ⟨rfl, rfl⟩
    go_wp2_with fail
    go_ret
    exact ⟨by rw [E.out]; simp, rfl⟩
theorem has_nob {p : Value} (h : Nob w p) : Calls Tryz.prog 68 #[p, .int .i64 z] w fun e w' => e = .returned (.bool false) ∧ w = w' := by
  go_enter Tryz.func68, Tryz.ntmps68
  go_wp2_with fail
  refine (made_nob h).mono ?_
  rintro e w1 ⟨rfl, rfl⟩
  go_wp2_with fail
  go_ret
  exact ⟨by simp, rfl⟩
theorem wanted_any (h : MT 152 w M V N g a r) : Calls Tryz.prog 84 #[(.pointer (some ⟨M, 0, none⟩))] w fun e w' => e = .returned (.bool (wnt a)) ∧ w = w' := by
  have r1 := h.l1
  by_cases ha : 0 < a
  · have E := hide (wnt_yes ha)
    have hx : (0 : Int) < a := by omega
    go_enter Tryz.func84, Tryz.ntmps84
    go_wp2_with fail
    refine (made_in h).mono ?_
    rintro e w1 ⟨rfl, rfl⟩
    go_wp2_with fail
    go_ret
    exact ⟨by rw [E.out]; simp, rfl⟩
  · obtain rfl : a = 0 := by omega
    have E := hide wnt_no
    go_enter Tryz.func84, Tryz.ntmps84
    go_wp2_with fail
    refine (made_in h).mono ?_
    rintro e w1 ⟨rfl, rfl⟩
    go_wp2_with fail
    go_ret
    exact ⟨by rw [E.out]; simp, rfl⟩
theorem wanted_nob {p : Value} (h : Nob w p) : Calls Tryz.prog 84 #[p] w fun e w' => e = .returned (.bool false) ∧ w = w' := by
  go_enter Tryz.func84, Tryz.ntmps84
  go_wp2_with fail
  refine (made_nob h).mono ?_
  rintro e w1 ⟨rfl, rfl⟩
  go_wp2_with fail
  go_ret
  exact ⟨by simp, rfl⟩
end
theorem isState_any (s : Int) (w : World) : Calls Tryz.prog 69 #[.int .i64 s] w fun e w' => e = .returned (.bool (isS s)) ∧ w = w' := by
  by_cases h0 : 0 ≤ s
  · by_cases h1 : s ≤ 3
    · have E := hide (isS_yes h0 h1)
      go_enter Tryz.func69, Tryz.ntmps69
      go_wp2
      go_ret
      exact ⟨by rw [E.out]; simp, rfl⟩
    · have E := hide (isS_no (s := s) (by omega))
      go_enter Tryz.func69, Tryz.ntmps69
      go_wp2
      go_ret
      exact ⟨by rw [E.out]; simp, rfl⟩
  · have E := hide (isS_no (s := s) (by omega))
    go_enter Tryz.func69, Tryz.ntmps69
    go_wp2
    go_ret
    exact ⟨by rw [E.out]; simp, rfl⟩
end Go.Proofs.YtlgomkocalieeaaGreatDoor.Sf

namespace Go.Proofs.YtlgomkocalieeaaGreatDoor.Sf
set_option maxRecDepth 100000
open Go.RowKit
set_option linter.unusedSimpArgs false
set_option linter.unusedVariables false
set_option maxRecDepth 100000

section
variable {w w' : World} {M V N : Nat} {g : Ti} {a r : Nat} {z s : Int}
theorem goes_any (x : Int) (h : MT 152 w M V N g a r) : Calls Tryz.prog 70 #[(.pointer (some ⟨M, 0, none⟩)), .int .i64 x, .int .i64 s] w fun e w' => e = .returned (.bool (gsB a x s)) ∧ w = w' := by
  by_cases h3 : x = 3
  · subst h3
    rw [gsB_3]
    go_enter Tryz.func70, Tryz.ntmps70
    go_wp2_with fail
    go_ret
    exact ⟨by simp, rfl⟩
  · by_cases h1 : x = 1
    · subst h1
      rw [gsB_1]
      by_cases hs : s = 0
      · subst hs
        go_enter Tryz.func70, Tryz.ntmps70
        go_wp2_with fail
        refine (wanted_any h).mono ?_
        rintro e w1 ⟨rfl, rfl⟩
        go_wp2_with fail
        go_ret
        exact ⟨by simp, rfl⟩
      · have E := hide (show (s != 0 || !wnt a) = true by simp [hs])
        have hs1 : (s != 0) = true := by simpa using hs
        clear hs
        go_enter Tryz.func70, Tryz.ntmps70
        go_wp2_with fail
        go_ret
        exact ⟨by rw [E.out]; simp, rfl⟩
    · rw [gsB_e h3 h1]
      go_enter Tryz.func70, Tryz.ntmps70
      go_wp2_with fail
      go_ret
      exact ⟨by simp, rfl⟩
theorem put_any (h : MT 152 w M V N g a r) : Calls Tryz.prog 43 #[(.pointer (some ⟨M, 0, none⟩)), .int .i64 z, .int .i64 s] w fun e w' => e = .returned (.int .i64 (putE N g a z s)) ∧ MT 152 w' M V N (putG N g a z s) a r ∧ Chg [M, V] w w' := by
  by_cases hh : 0 ≤ z ∧ z < N
  · obtain ⟨h0, h1⟩ := hh
    have hB := inB_yes h0 h1
    by_cases hq : 0 ≤ s ∧ s ≤ 3
    · obtain ⟨s0, s1⟩ := hq
      have hS := isS_yes s0 s1
      have ht : z.toNat < N := by omega
      have n2 := h.n2
      have r0 := h.l0
      have rv := h.lv ht
      have hgo := goes_any (s := s) (g z.toNat) h
      cases hg : gsB a (g z.toNat) s
      · rw [putE_9 ⟨hB, hS⟩ hg, putG_9 hg]
        rw [hg] at hgo
        clear hg
        go_enter Tryz.func43, Tryz.ntmps43
        go_wp2_with fail
        refine (made_in h).mono ?_
        rintro e w1 ⟨rfl, rfl⟩
        go_wp2_with fail
        refine (has_any h).mono ?_
        rw [hB]
        rintro e w1 ⟨rfl, rfl⟩
        go_wp2_with fail
        refine (isState_any s _).mono ?_
        rw [hS]
        rintro e w1 ⟨rfl, rfl⟩
        go_wp2_with fail
        refine hgo.mono ?_
        rintro e w1 ⟨rfl, rfl⟩
        go_wp2_with fail
        go_ret
        exact ⟨by simp, h, Chg.refl _ _⟩
      · rw [putE_0 ⟨hB, hS⟩ hg, putG_0 ⟨hB, hS⟩ hg]
        rw [hg] at hgo
        clear hg
        have fv := h.v.free z.toNat
        have H2 := hide (h.sv ht s0 s1)
        have C2 := hide (chg_at (L := [M, V]) w V z.toNat (.int .i64 s) (by simp))
        go_enter Tryz.func43, Tryz.ntmps43
        go_wp2_with fail
        refine (made_in h).mono ?_
        rintro e w1 ⟨rfl, rfl⟩
        go_wp2_with fail
        refine (has_any h).mono ?_
        rw [hB]
        rintro e w1 ⟨rfl, rfl⟩
        go_wp2_with fail
        refine (isState_any s _).mono ?_
        rw [hS]
        rintro e w1 ⟨rfl, rfl⟩
        go_wp2_with fail
        refine hgo.mono ?_
        rintro e w1 ⟨rfl, rfl⟩
        go_wp2_with fail
        go_ret
        exact ⟨by simp, H2.out, C2.out⟩
    · have hS := isS_no hq
      rw [putE_no (by rw [hS]; simp), putG_no (by rw [hS]; simp)]
      go_enter Tryz.func43, Tryz.ntmps43
      go_wp2_with fail
      refine (made_in h).mono ?_
      rintro e w1 ⟨rfl, rfl⟩
      go_wp2_with fail
      refine (has_any h).mono ?_
      rw [hB]
      rintro e w1 ⟨rfl, rfl⟩
      go_wp2_with fail
      refine (isState_any s _).mono ?_
      rw [hS]
      rintro e w1 ⟨rfl, rfl⟩
      go_wp2_with fail
      go_ret
      exact ⟨by simp, h, Chg.refl _ _⟩
  · have hB := inB_no hh
    rw [putE_no (by rw [hB]; simp), putG_no (by rw [hB]; simp)]
    go_enter Tryz.func43, Tryz.ntmps43
    go_wp2_with fail
    refine (made_in h).mono ?_
    rintro e w1 ⟨rfl, rfl⟩
    go_wp2_with fail
    refine (has_any h).mono ?_
    rw [hB]
    rintro e w1 ⟨rfl, rfl⟩
    go_wp2_with fail
    go_ret
    exact ⟨by simp, h, Chg.refl _ _⟩
theorem put_nob {p : Value} (h : Nob w p) : Calls Tryz.prog 43 #[p, .int .i64 z, .int .i64 s] w fun e w' => e = .returned (.int .i64 2) ∧ w = w' := by
  go_enter Tryz.func43, Tryz.ntmps43
  go_wp2_with fail
  refine (made_nob h).mono ?_
  rintro e w1 ⟨rfl, rfl⟩
  go_wp2_with fail
  go_ret
  exact ⟨by simp, rfl⟩
end
end Go.Proofs.YtlgomkocalieeaaGreatDoor.Sf
