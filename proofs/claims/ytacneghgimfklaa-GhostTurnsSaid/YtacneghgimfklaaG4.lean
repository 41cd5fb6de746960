/- A course in memory; threads, operations that may be, and a Call. -/
import Derived.Test.YtacneghgimfklaaG3
import Derived.Test.YtacneghgimfklaaW4
namespace Go.Proofs.Ytacneghgimfklaa
open Go.RowKit Go.Maps
set_option linter.unusedSimpArgs false
set_option linter.unusedVariables false
set_option maxRecDepth 100000
set_option maxHeartbeats 4000000


structure CT (w : World) (C : Nat) (ty : TypeId) (tl : List Value) (MB W L : Nat) (S : St) (D : Nat → Dg) : Prop where
  b : Blk w C (gl S.N S.M (some ⟨MB, 0, none⟩) D tl) ty
  m : ModT w MB W L S
  ne : C ∉ [MB, W, L]
section
variable {w w' : World} {C : Nat} {ty : TypeId} {tl : List Value} {MB W L : Nat} {S : St} {D : Nat → Dg}
theorem CT.chg {T : List Nat} (h : CT w C ty tl MB W L S D) (x : Chg T w w') (h0 : C ∉ T) (h1 : MB ∉ T) (h2 : W ∉ T) (h3 : L ∉ T) : CT w' C ty tl MB W L S D := ⟨h.b.chg x h0, h.m.chg x h1 h2 h3, h.ne⟩
theorem CT.ext (h : CT w C ty tl MB W L S D) (x : Ext w w') : CT w' C ty tl MB W L S D := ⟨h.b.ext x, h.m.ext x, h.ne⟩
theorem CT.lt (h : CT w C ty tl MB W L S D) : C < w.heap.size ∧ MB < w.heap.size ∧ W < w.heap.size ∧ L < w.heap.size := ⟨h.b.lt, h.m.lt⟩
theorem CT.n (h : CT w C ty tl MB W L S D) : w.cell? ⟨C, 0, none⟩ = some (.int .i64 (S.N : Int)) := by rw [h.b.cell, gl_at (by omega)]; rfl
theorem CT.mm (h : CT w C ty tl MB W L S D) : w.cell? ⟨C, 1, none⟩ = some (.int .i64 (S.M : Int)) := by rw [h.b.cell, gl_at (by omega)]; rfl
theorem CT.p (h : CT w C ty tl MB W L S D) : w.cell? ⟨C, 2, none⟩ = some (.pointer (some ⟨MB, 0, none⟩)) := by rw [h.b.cell, gl_at (by omega)]; rfl
theorem CT.db (h : CT w C ty tl MB W L S D) {t : Nat} (ht : t < 8) : DB w C (3 + t * 9) (D t) (gl S.N S.M (some ⟨MB, 0, none⟩) D tl) ty := ⟨h.b, fun k hk => gl_dg ht hk⟩
/-- Where one thread's part has turned. -/
theorem CT.turn (h : CT w C ty tl MB W L S D) {t : Nat} (ht : t < 8) {d : Dg} (hd : DB w' C (3 + t * 9) d (layC (gl S.N S.M (some ⟨MB, 0, none⟩) D tl) (3 + t * 9) (dgc d).toList) ty) (x : Chg [C] w w') : CT w' C ty tl MB W L S (upd D t d) :=
  have hn := h.ne
  ⟨by have := hd.b; rwa [gl_lay ht] at this, h.m.chg x (by simp at hn ⊢; omega) (by simp at hn ⊢; omega) (by simp at hn ⊢; omega), h.ne⟩
theorem CT.turnM (h : CT w C ty tl MB W L S D) {S' : St} (hN : S'.N = S.N) (hM : S'.M = S.M) (m : ModT w' MB W L S') (x : Chg [MB, W, L] w w') : CT w' C ty tl MB W L S' D :=
  ⟨by rw [hN, hM]; exact h.b.chg x h.ne, m, h.ne⟩
theorem CT.dr (h : CT w C ty tl MB W L S D) {t k : Nat} (ht : t < 8) (hk : k < 9) : w.cell? ⟨C, 3 + t * 9 + k, none⟩ = some (dgv (D t) k) := by rw [(h.db ht).dt k hk, dgc_at _ hk]
end
theorem chast_any {w : World} {C : Nat} {N : Nat} (r : w.cell? ⟨C, 0, none⟩ = some (.int .i64 (N : Int))) (a : Int) : Calls Try.prog 29 #[.pointer (some ⟨C, 0, none⟩), .int .i64 a] w fun e w' => e = .returned (.bool (decide (0 ≤ a) && decide (a < (N : Int)))) ∧ w = w' := by
  generalize (N : Int) = n at *
  by_cases a0 : 0 ≤ a
  · have q1 := decide_eq_true a0
    go_enter Try.func29, Try.ntmps29
    go_wp2
    go_ret
    exact ⟨by simp [*], rfl⟩
  · have q1 := decide_eq_false a0
    go_enter Try.func29, Try.ntmps29
    go_wp2
    go_ret
    exact ⟨by simp [*], rfl⟩
theorem cmay_any {w : World} {C : Nat} {ty : TypeId} {tl : List Value} {MB W L : Nat} {S : St} {D : Nat → Dg} (h : CT w C ty tl MB W L S D) (k o a : Int) :
    Calls Try.prog 59 #[.pointer (some ⟨C, 0, none⟩), .agg #[.int .i64 k, .int .i64 o, .int .i64 a]] w fun e w' => e = .returned (.bool (mayO S k o a)) ∧ Ext w w' := by
  have E : mayO S k o a = if isO S o = false then false else if k = 1 ∨ k = 2 ∨ k = 3 ∨ k = 5 ∨ k = 6 ∨ k = 7 ∨ k = 8 then a == 0 else if k = 4 then decide (0 ≤ a) else if k = 9 then isT S a else false := rfl
  have x1 := Ext.alloc w (.cells #[.int .i64 k, .int .i64 o, .int .i64 a] 27)
  have HN := hide (h.ext (x1.trans (Ext.drew _))).n
  have rM := (h.ext x1).mm
  have CH := fun (w' : World) (r : w'.cell? ⟨C, 0, none⟩ = some (.int .i64 (S.N : Int))) => chast_any r a
  have eT : isT S a = (decide (0 ≤ a) && decide (a < (S.N : Int))) := rfl
  rw [← eT] at CH
  have eO : isO S o = (decide (0 ≤ o) && decide (o < (S.M : Int))) := rfl
  generalize mayO S k o a = res at *
  generalize isT S a = tB at *
  generalize isO S o = oB at *
  generalize (S.M : Int) = mm at *
  have lC := h.b.lt
  have hne : ¬ C = w.heap.size := by omega
  have hne' : ¬ w.heap.size = C := by omega
  clear h x1 eT
  by_cases o0 : o < 0
  · have q1 := decide_eq_true o0
    have : oB = false := by rw [eO]; simp; omega
    subst this
    clear eO
    rw [if_pos rfl] at E
    subst E
    go_enter Try.func59, Try.ntmps59
    go_wp2_with fail
    go_region
    go_wp2_with fail
    go_ret
    exact ⟨rfl, (Ext.alloc _ _).trans (Ext.drew _)⟩
  have q1 := decide_eq_false o0
  by_cases o1 : mm ≤ o
  · have q2 := decide_eq_true o1
    have : oB = false := by rw [eO]; simp; omega
    subst this
    clear eO
    rw [if_pos rfl] at E
    subst E
    go_enter Try.func59, Try.ntmps59
    go_wp2_with fail
    go_region
    go_wp2_with fail
    go_ret
    exact ⟨rfl, (Ext.alloc _ _).trans (Ext.drew _)⟩
  have q2 := decide_eq_false o1
  have : oB = true := by rw [eO]; simp; omega
  subst this
  rw [if_neg (by simp)] at E
  clear eO
  by_cases q : k = 1
  · subst q
    rw [if_pos (by omega)] at E
    subst E
    go_enter Try.func59, Try.ntmps59
    go_wp2_with fail
    go_region
    go_wp2_with fail
    go_ret
    exact ⟨rfl, (Ext.alloc _ _).trans (Ext.drew _)⟩
  by_cases q : k = 2
  · subst q
    rw [if_pos (by omega)] at E
    subst E
    go_enter Try.func59, Try.ntmps59
    go_wp2_with fail
    go_region
    go_wp2_with fail
    go_ret
    exact ⟨rfl, (Ext.alloc _ _).trans (Ext.drew _)⟩
  by_cases q : k = 3
  · subst q
    rw [if_pos (by omega)] at E
    subst E
    go_enter Try.func59, Try.ntmps59
    go_wp2_with fail
    go_region
    go_wp2_with fail
    go_ret
    exact ⟨rfl, (Ext.alloc _ _).trans (Ext.drew _)⟩
  by_cases q : k = 5
  · subst q
    rw [if_pos (by omega)] at E
    subst E
    go_enter Try.func59, Try.ntmps59
    go_wp2_with fail
    go_region
    go_wp2_with fail
    go_ret
    exact ⟨rfl, (Ext.alloc _ _).trans (Ext.drew _)⟩
  by_cases q : k = 6
  · subst q
    rw [if_pos (by omega)] at E
    subst E
    go_enter Try.func59, Try.ntmps59
    go_wp2_with fail
    go_region
    go_wp2_with fail
    go_ret
    exact ⟨rfl, (Ext.alloc _ _).trans (Ext.drew _)⟩
  by_cases q : k = 7
  · subst q
    rw [if_pos (by omega)] at E
    subst E
    go_enter Try.func59, Try.ntmps59
    go_wp2_with fail
    go_region
    go_wp2_with fail
    go_ret
    exact ⟨rfl, (Ext.alloc _ _).trans (Ext.drew _)⟩
  by_cases q : k = 8
  · subst q
    rw [if_pos (by omega)] at E
    subst E
    go_enter Try.func59, Try.ntmps59
    go_wp2_with fail
    go_region
    go_wp2_with fail
    go_ret
    exact ⟨rfl, (Ext.alloc _ _).trans (Ext.drew _)⟩
  rw [if_neg (by omega)] at E
  by_cases q : k = 4
  · subst q
    rw [if_pos (by omega)] at E
    subst E
    go_enter Try.func59, Try.ntmps59
    go_wp2_with fail
    go_region
    go_wp2_with fail
    go_ret
    exact ⟨rfl, (Ext.alloc _ _).trans (Ext.drew _)⟩
  rw [if_neg (by omega)] at E
  by_cases k9 : k = 9
  · subst k9
    rw [if_pos rfl] at E
    subst E
    go_enter Try.func59, Try.ntmps59
    go_wp2_with fail
    go_region
    go_wp2_with fail
    refine (CH _ HN.out).mono ?_
    rintro e w1 ⟨rfl, rfl⟩
    go_wp2_with fail
    go_ret
    exact ⟨by simp, (Ext.alloc _ _).trans (Ext.drew _)⟩
  · rw [if_neg k9] at E
    subst E
    go_enter Try.func59, Try.ntmps59
    go_wp2_with fail
    go_region
    go_wp2_with fail
    go_ret
    exact ⟨rfl, (Ext.alloc _ _).trans (Ext.drew _)⟩
end Go.Proofs.Ytacneghgimfklaa
