/- Entries held against each other; what a thread does, in memory: the methods that read. -/
import Derived.Test.YtibeahofikcnnaaG1
import Derived.Test.YtibeahofikcnnaaP1
import Derived.Deep.MidRow
import Derived.BigRegion
namespace Go.Proofs.Ytibeahofikcnnaa
open Go.RowKit Go.Maps
set_option linter.unusedSimpArgs false
set_option linter.unusedVariables false
set_option maxRecDepth 100000
set_option maxHeartbeats 4000000


theorem ite_one (a b : Int) (w : World) : (if a = b then Result.ok (Value.bool true) w else Result.ok (Value.bool false) w) = Result.ok (Value.bool (a == b)) w := by
  by_cases h : a = b <;> simp [h]
theorem ite_two (a b : Int) (p : Bool) (w : World) : (if a = b then Result.ok (Value.bool p) w else Result.ok (Value.bool false) w) = Result.ok (Value.bool (a == b && p)) w := by
  by_cases h : a = b <;> simp [h]
theorem ite_one' (a b : Int) (w : World) : (if a = b then Result.ok (Value.bool false) w else Result.ok (Value.bool true) w) = Result.ok (Value.bool (!(a == b))) w := by
  by_cases h : a = b <;> simp [h]
theorem ite_two' (a b : Int) (p : Bool) (w : World) : (if a = b then Result.ok (Value.bool (!p)) w else Result.ok (Value.bool true) w) = Result.ok (Value.bool (!(a == b && p))) w := by
  by_cases h : a = b <;> simp [h]
theorem eq_ent (x y : Ent) (w : World) : Sem.run Try.prog (binOp .eql 38 (.agg (ec x)) (.agg (ec y))) w = .ok (.bool (eqE x y)) w := by
  obtain ⟨a0, a1, a2, a3, a4, a5, a6, a7, a8, a9, a10, a11, a12⟩ := x
  obtain ⟨b0, b1, b2, b3, b4, b5, b6, b7, b8, b9, b10, b11, b12⟩ := y
  unfold ec eqE
  simp only
  go_simp
  rw [ite_one]
  iterate 12 rw [ite_two]
theorem neq_ent (x y : Ent) (w : World) : Sem.run Try.prog (binOp .neq 38 (.agg (ec x)) (.agg (ec y))) w = .ok (.bool (!eqE x y)) w := by
  obtain ⟨a0, a1, a2, a3, a4, a5, a6, a7, a8, a9, a10, a11, a12⟩ := x
  obtain ⟨b0, b1, b2, b3, b4, b5, b6, b7, b8, b9, b10, b11, b12⟩ := y
  unfold ec eqE
  simp only
  go_simp
  rw [ite_one']
  iterate 12 rw [ite_two']
  simp only [Bool.not_and]
/-! ### What a thread does, from place o of block C on -/
def DT (w : World) (C o : Nat) (d : Dg) : Prop := ∀ k, k < 9 → w.cell? ⟨C, o + k, none⟩ = (dgc d)[k]?
section
variable {w w' : World} {C o : Nat} {d : Dg}
theorem DT.ext (h : DT w C o d) (hC : C < w.heap.size) (x : Ext w w') : DT w' C o d := fun k hk => (x.oldCell C (o + k) hC).trans (h k hk)
end
theorem tells_any {w : World} {C o : Nat} {d : Dg} (h : DT w C o d) (hC : C < w.heap.size) (k t p a r : Int) : Calls Try.prog 56 #[.pointer (some ⟨C, o, none⟩), (Value.agg #[.int .i64 k, .int .i64 t, .int .i64 p, .int .i64 a, .int .i64 r])] w fun e w' => e = .returned (.int .i64 (telI d a)) ∧ Ext w w' := by
  have E : telI d a = if d.kd = 5 ∨ d.kd = 7 ∨ d.kd = 8 then a else if d.kd = 6 then d.wo else 0 := rfl
  generalize telI d a = res at *
  have hd := h.ext hC (Ext.alloc w (.cells #[Value.int .i64 k, .int .i64 t, .int .i64 p, .int .i64 a, .int .i64 r] 36))
  have s0 := hd 0 (by omega)
  have s1 := hd 1 (by omega)
  have s2 := hd 2 (by omega)
  have s4 := hd 4 (by omega)
  have s5 := hd 5 (by omega)
  have s6 := hd 6 (by omega)
  have lC : C < (w.alloc (.cells #[Value.int .i64 k, .int .i64 t, .int .i64 p, .int .i64 a, .int .i64 r] 36)).heap.size := by rw [World.size_alloc]; omega
  clear h hd
  obtain ⟨kd, ob, ar, nu, st, wo, la, va, er⟩ := d
  simp only [dgc, List.getElem?_toArray, List.getElem?_cons_zero, List.getElem?_cons_succ, Nat.add_zero] at s0 s1 s2 s4 s5 s6
  simp only at E
  by_cases k5 : kd = 5
  · subst k5
    rw [if_pos (.inl rfl)] at E
    subst E
    go_enter Try.func56, Try.ntmps56
    go_wp2
    go_ret
    exact ⟨rfl, Ext.alloc _ _⟩
  by_cases k7 : kd = 7
  · subst k7
    rw [if_pos (.inr (.inl rfl))] at E
    subst E
    go_enter Try.func56, Try.ntmps56
    go_wp2
    go_ret
    exact ⟨rfl, Ext.alloc _ _⟩
  by_cases k8 : kd = 8
  · subst k8
    rw [if_pos (.inr (.inr rfl))] at E
    subst E
    go_enter Try.func56, Try.ntmps56
    go_wp2
    go_ret
    exact ⟨rfl, Ext.alloc _ _⟩
  rw [if_neg (by omega)] at E
  by_cases k6 : kd = 6
  · subst k6
    rw [if_pos rfl] at E
    subst E
    go_enter Try.func56, Try.ntmps56
    go_wp2
    go_ret
    exact ⟨rfl, Ext.alloc _ _⟩
  · rw [if_neg k6] at E
    subst E
    go_enter Try.func56, Try.ntmps56
    go_wp2
    go_ret
    exact ⟨rfl, Ext.alloc _ _⟩
theorem first_any {w : World} {C o : Nat} {d : Dg} (h : DT w C o d) (hC : C < w.heap.size) (k t p a r : Int) : Calls Try.prog 55 #[.pointer (some ⟨C, o, none⟩), (Value.agg #[.int .i64 k, .int .i64 t, .int .i64 p, .int .i64 a, .int .i64 r])] w fun e w' => e = .returned (.bool (tfB d k a)) ∧ Ext w w' := by
  have E : tfB d k a = if d.kd = 1 then k == 1 else if d.kd = 2 then k == 2 else if d.kd = 3 then k == 3 else if d.kd = 4 then k == 4
    else if d.kd = 5 then (k == 7 && d.wo == 0) || (k == 8 && a == d.la)
    else if d.kd = 6 then k == 7 || k == 9
    else if d.kd = 7 then k == 10 else if d.kd = 8 then k == 11
    else if d.kd = 9 then k == 12 && a == d.ar
    else false := rfl
  generalize tfB d k a = res at *
  have hd := h.ext hC (Ext.alloc w (.cells #[Value.int .i64 k, .int .i64 t, .int .i64 p, .int .i64 a, .int .i64 r] 36))
  have s0 := hd 0 (by omega)
  have s1 := hd 1 (by omega)
  have s2 := hd 2 (by omega)
  have s4 := hd 4 (by omega)
  have s5 := hd 5 (by omega)
  have s6 := hd 6 (by omega)
  have lC : C < (w.alloc (.cells #[Value.int .i64 k, .int .i64 t, .int .i64 p, .int .i64 a, .int .i64 r] 36)).heap.size := by rw [World.size_alloc]; omega
  clear h hd
  obtain ⟨kd, ob, ar, nu, st, wo, la, va, er⟩ := d
  simp only [dgc, List.getElem?_toArray, List.getElem?_cons_zero, List.getElem?_cons_succ, Nat.add_zero] at s0 s1 s2 s4 s5 s6
  simp only at E
  by_cases q : kd = 1
  · subst q
    rw [if_pos rfl] at E
    subst E
    go_enter Try.func55, Try.ntmps55
    go_wp2
    go_ret
    exact ⟨rfl, Ext.alloc _ _⟩
  rw [if_neg q] at E
  by_cases q : kd = 2
  · subst q
    rw [if_pos rfl] at E
    subst E
    go_enter Try.func55, Try.ntmps55
    go_wp2
    go_ret
    exact ⟨rfl, Ext.alloc _ _⟩
  rw [if_neg q] at E
  by_cases q : kd = 3
  · subst q
    rw [if_pos rfl] at E
    subst E
    go_enter Try.func55, Try.ntmps55
    go_wp2
    go_ret
    exact ⟨rfl, Ext.alloc _ _⟩
  rw [if_neg q] at E
  by_cases q : kd = 4
  · subst q
    rw [if_pos rfl] at E
    subst E
    go_enter Try.func55, Try.ntmps55
    go_wp2
    go_ret
    exact ⟨rfl, Ext.alloc _ _⟩
  rw [if_neg q] at E
  by_cases q5 : kd = 5
  · subst q5
    rw [if_pos rfl] at E
    cases p1 : (k == 7) <;> cases p2 : (wo == 0) <;> cases p3 : (k == 8)
    all_goals
      rw [p1, p2, p3] at E
      simp only [Bool.and_true, Bool.and_false, Bool.true_and, Bool.false_and, Bool.or_true, Bool.or_false, Bool.true_or, Bool.false_or] at E
      subst E
      go_enter Try.func55, Try.ntmps55
      go_wp2_with fail
      go_region
      go_wp2_with fail
      go_ret
      exact ⟨by simp, (Ext.alloc _ _).trans (Ext.drew _)⟩
  rw [if_neg q5] at E
  by_cases q6 : kd = 6
  · subst q6
    rw [if_pos rfl] at E
    cases p1 : (k == 7)
    all_goals
      rw [p1] at E
      subst E
      go_enter Try.func55, Try.ntmps55
      go_wp2_with fail
      go_ret
      exact ⟨by simp, Ext.alloc _ _⟩
  rw [if_neg q6] at E
  by_cases q : kd = 7
  · subst q
    rw [if_pos rfl] at E
    subst E
    go_enter Try.func55, Try.ntmps55
    go_wp2
    go_ret
    exact ⟨rfl, Ext.alloc _ _⟩
  rw [if_neg q] at E
  by_cases q : kd = 8
  · subst q
    rw [if_pos rfl] at E
    subst E
    go_enter Try.func55, Try.ntmps55
    go_wp2
    go_ret
    exact ⟨rfl, Ext.alloc _ _⟩
  rw [if_neg q] at E
  by_cases q9 : kd = 9
  · subst q9
    rw [if_pos rfl] at E
    cases p1 : (k == 12)
    all_goals
      rw [p1] at E
      subst E
      go_enter Try.func55, Try.ntmps55
      go_wp2_with fail
      go_region
      go_wp2_with fail
      go_ret
      exact ⟨by simp, (Ext.alloc _ _).trans (Ext.drew _)⟩
  rw [if_neg q9] at E
  subst E
  go_enter Try.func55, Try.ntmps55
  go_wp2
  go_ret
  exact ⟨rfl, Ext.alloc _ _⟩
theorem takes_any {w : World} {C o : Nat} {d : Dg} (h : DT w C o d) (hC : C < w.heap.size) (k t p a r : Int) : Calls Try.prog 44 #[.pointer (some ⟨C, o, none⟩), (Value.agg #[.int .i64 k, .int .i64 t, .int .i64 p, .int .i64 a, .int .i64 r])] w fun e w' => e = .returned (.bool (tkB d k p a)) ∧ Ext w w' := by
  have E : tkB d k p a = if (p != d.ob) = true then false else if d.st = 1 then tfB d k a else if d.st = 2 then k == 5 || k == 6 else false := rfl
  have HF := hide (h.ext hC (Ext.alloc w (.cells #[Value.int .i64 k, .int .i64 t, .int .i64 p, .int .i64 a, .int .i64 r] 36)))
  have CF := fun w' (h : DT w' C o d) (hC : C < w'.heap.size) => first_any h hC k t p a r
  generalize tkB d k p a = res at *
  generalize tfB d k a = rf at *
  have hd := h.ext hC (Ext.alloc w (.cells #[Value.int .i64 k, .int .i64 t, .int .i64 p, .int .i64 a, .int .i64 r] 36))
  have s0 := hd 0 (by omega)
  have s1 := hd 1 (by omega)
  have s2 := hd 2 (by omega)
  have s4 := hd 4 (by omega)
  have s5 := hd 5 (by omega)
  have s6 := hd 6 (by omega)
  have lC : C < (w.alloc (.cells #[Value.int .i64 k, .int .i64 t, .int .i64 p, .int .i64 a, .int .i64 r] 36)).heap.size := by rw [World.size_alloc]; omega
  clear h hd
  obtain ⟨kd, ob, ar, nu, st, wo, la, va, er⟩ := d
  simp only [dgc, List.getElem?_toArray, List.getElem?_cons_zero, List.getElem?_cons_succ, Nat.add_zero] at s0 s1 s2 s4 s5 s6
  simp only at E
  cases p1 : (p != ob)
  · rw [p1, if_neg (by simp)] at E
    by_cases t1 : st = 1
    · subst t1
      rw [if_pos rfl] at E
      subst E
      go_enter Try.func44, Try.ntmps44
      go_wp2_with fail
      go_region
      go_wp2_with fail
      refine (CF _ (HF.out.ext lC (Ext.drew _)) lC).mono ?_
      rintro e w1 ⟨rfl, hx⟩
      go_wp2_with fail
      go_ret
      exact ⟨rfl, ((Ext.alloc _ _).trans (Ext.drew _)).trans hx⟩
    · rw [if_neg t1] at E
      by_cases t2 : st = 2
      · subst t2
        rw [if_pos rfl] at E
        cases p2 : (k == 5)
        all_goals
          rw [p2] at E
          subst E
          go_enter Try.func44, Try.ntmps44
          go_wp2_with fail
          go_region
          go_wp2_with fail
          go_ret
          exact ⟨by simp, (Ext.alloc _ _).trans (Ext.drew _)⟩
      · rw [if_neg t2] at E
        subst E
        go_enter Try.func44, Try.ntmps44
        go_wp2_with fail
        go_region
        go_wp2_with fail
        go_ret
        exact ⟨rfl, (Ext.alloc _ _).trans (Ext.drew _)⟩
  · rw [p1, if_pos rfl] at E
    subst E
    go_enter Try.func44, Try.ntmps44
    go_wp2_with fail
    go_region
    go_wp2_with fail
    go_ret
    exact ⟨rfl, (Ext.alloc _ _).trans (Ext.drew _)⟩
end Go.Proofs.Ytibeahofikcnnaa
