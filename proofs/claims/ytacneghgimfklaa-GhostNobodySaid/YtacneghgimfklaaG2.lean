/- Entries held against each other; what a thread does, in memory: the methods that read. -/
import Derived.Test.YtacneghgimfklaaG1
import Derived.Test.YtacneghgimfklaaP1
import Derived.Deep.MidRow
import Derived.BigRegion
namespace Go.Proofs.Ytacneghgimfklaa
open Go.RowKit Go.Maps
set_option linter.unusedSimpArgs false
set_option linter.unusedVariables false
set_option maxRecDepth 100000
set_option maxHeartbeats 4000000


theorem ite_one (a b : Int) (w : World) : (if a = b then Result.ok (Value.bool true) w else Result.ok (Value.bool false) w) = Result.ok (Value.bool (a == b)) w := by
  by_cases h : a = b <;> simp [h]
theorem ite_two (a b : Int) (p : Bool) (w : World) : (if a = b then Result.ok (Value.bool p) w else Result.ok (Value.bool false) w) = Result.ok (Value.bool (a == b && p)) w := by
  by_cases h : a = b <;> simp [h]
theorem ite_one' (a b : Int) (w : World) : (if a = b then Result.ok (Value.bool false) w else Result.ok (Value.bool true) w) = Result.ok (Value.bool (!(a == b))) w := by
  by_cases h : a = b <;> simp [h]
theorem ite_two' (a b : Int) (p : Bool) (w : World) : (if a = b then Result.ok (Value.bool (!p)) w else Result.ok (Value.bool true) w) = Result.ok (Value.bool (!(a == b && p))) w := by
  by_cases h : a = b <;> simp [h]
theorem eq_ent (x y : Ent) (w : World) : Sem.run Try.prog (binOp .eql 36 (.agg (ec x)) (.agg (ec y))) w = .ok (.bool (eqE x y)) w := by
  obtain ⟨a0, a1, a2, a3, a4, a5, a6, a7, a8, a9, a10, a11, a12⟩ := x
  obtain ⟨b0, b1, b2, b3, b4, b5, b6, b7, b8, b9, b10, b11, b12⟩ := y
  unfold ec eqE
  simp only
  go_simp
  rw [ite_one]
  iterate 12 rw [ite_two]
theorem neq_ent (x y : Ent) (w : World) : Sem.run Try.prog (binOp .neq 36 (.agg (ec x)) (.agg (ec y))) w = .ok (.bool (!eqE x y)) w := by
  obtain ⟨a0, a1, a2, a3, a4, a5, a6, a7, a8, a9, a10, a11, a12⟩ := x
  obtain ⟨b0, b1, b2, b3, b4, b5, b6, b7, b8, b9, b10, b11, b12⟩ := y
  unfold ec eqE
  simp only
  go_simp
  rw [ite_one']
  iterate 12 rw [ite_two']
  simp only [Bool.not_and]
/-! ### What a thread does, from place o of block C on -/
def DT (w : World) (C o : Nat) (d : Dg) : Prop := ∀ k, k < 9 → w.cell? ⟨C, o + k, none⟩ = (dgc d)[k]?
section
variable {w w' : World} {C o : Nat} {d : Dg}
theorem DT.ext (h : DT w C o d) (hC : C < w.heap.size) (x : Ext w w') : DT w' C o d := fun k hk => (x.oldCell C (o + k) hC).trans (h k hk)
end
theorem tells_any {w : World} {C o : Nat} {d : Dg} (h : DT w C o d) (hC : C < w.heap.size) (k t p a r : Int) : Calls Try.prog 75 #[.pointer (some ⟨C, o, none⟩), (Value.agg #[.int .i64 k, .int .i64 t, .int .i64 p, .int .i64 a, .int .i64 r])] w fun e w' => e = .returned (.int .i64 (telI d a)) ∧ Ext w w' := by
  have E : telI d a = if d.kd = 5 ∨ d.kd = 7 ∨ d.kd = 8 then a else if d.kd = 6 then d.wo else 0 := rfl
  generalize telI d a = res at *
  have hd := h.ext hC (Ext.alloc w (.cells #[Value.int .i64 k, .int .i64 t, .int .i64 p, .int .i64 a, .int .i64 r] 34))
  have s0 := hd 0 (by omega)
  have s1 := hd 1 (by omega)
  have s2 := hd 2 (by omega)
  have s4 := hd 4 (by omega)
  have s5 := hd 5 (by omega)
  have s6 := hd 6 (by omega)
  have lC : C < (w.alloc (.cells #[Value.int .i64 k, .int .i64 t, .int .i64 p, .int .i64 a, .int .i64 r] 34)).heap.size := by rw [World.size_alloc]; omega
  clear h hd
  obtain ⟨kd, ob, ar, nu, st, wo, la, va, er⟩ := d
  simp only [dgc, List.getElem?_toArray, List.getElem?_cons_zero, List.getElem?_cons_succ, Nat.add_zero] at s0 s1 s2 s4 s5 s6
  simp only at E
  by_cases k5 : kd = 5
  · subst k5
    rw [if_pos (.inl rfl)] at E
    subst E
    go_enter Try.func75, Try.ntmps75
    go_wp2
    go_ret
    exact ⟨rfl, Ext.alloc _ _⟩
  by_cases k7 : kd = 7
  · subst k7
    rw [if_pos (.inr (.inl rfl))] at E
    subst E
    go_enter Try.func75, Try.ntmps75
    go_wp2
    go_ret
    exact ⟨rfl, Ext.alloc _ _⟩
  by_cases k8 : kd = 8
  · subst k8
    rw [if_pos (.inr (.inr rfl))] at E
    subst E
    go_enter Try.func75, Try.ntmps75
    go_wp2
    go_ret
    exact ⟨rfl, Ext.alloc _ _⟩
  rw [if_neg (by omega)] at E
  by_cases k6 : kd = 6
  · subst k6
    rw [if_pos rfl] at E
    subst E
    go_enter Try.func75, Try.ntmps75
    go_wp2
    go_ret
    exact ⟨rfl, Ext.alloc _ _⟩
  · rw [if_neg k6] at E
    subst E
    go_enter Try.func75, Try.ntmps75
    go_wp2
    go_ret
    exact ⟨rfl, Ext.alloc _ _⟩
theorem first_any {w : World} {C o : Nat} {d : Dg} (h : DT w C o d) (hC : C < w.heap.size) (k t p a r : Int) : Calls Try.prog 74 #[.pointer (some ⟨C, o, none⟩), (Value.agg #[.int .i64 k, .int .i64 t, .int .i64 p, .int .i64 a, .int .i64 r])] w fun e w' => e = .returned (.bool (tfB d k a)) ∧ Ext w w' := by
  have E : tfB d k a = if d.kd = 1 then k == 1 else if d.kd = 2 then k == 2 else if d.kd = 3 then k == 3 else if d.kd = 4 then k == 4
    else if d.kd = 5 then (k == 7 && d.wo == 0) || (k == 8 && a == d.la)
    else if d.kd = 6 then k == 7 || k == 9
    else if d.kd = 7 then k == 10 else if d.kd = 8 then k == 11
    else if d.kd = 9 then k == 12 && a == d.ar
    else false := rfl
  generalize tfB d k a = res at *
  have hd := h.ext hC (Ext.alloc w (.cells #[Value.int .i64 k, .int .i64 t, .int .i64 p, .int .i64 a, .int .i64 r] 34))
  have s0 := hd 0 (by omega)
  have s1 := hd 1 (by omega)
  have s2 := hd 2 (by omega)
  have s4 := hd 4 (by omega)
  have s5 := hd 5 (by omega)
  have s6 := hd 6 (by omega)
  have lC : C < (w.alloc (.cells #[Value.int .i64 k, .int .i64 t, .int .i64 p, .int .i64 a, .int .i64 r] 34)).heap.size := by rw [World.size_alloc]; omega
  clear h hd
  obtain ⟨kd, ob, ar, nu, st, wo, la, va, er⟩ := d
  simp only [dgc, List.getElem?_toArray, List.getElem?_cons_zero, List.getElem?_cons_succ, Nat.add_zero] at s0 s1 s2 s4 s5 s6
  simp only at E
  by_cases q : kd = 1
  · subst q
    rw [if_pos rfl] at E
    subst E
    go_enter Try.func74, Try.ntmps74
    go_wp2
    go_ret
    exact ⟨rfl, Ext.alloc _ _⟩
  rw [if_neg q] at E
  by_cases q : kd = 2
  · subst q
    rw [if_pos rfl] at E
    subst E
    go_enter Try.func74, Try.ntmps74
    go_wp2
    go_ret
    exact ⟨rfl, Ext.alloc _ _⟩
  rw [if_neg q] at E
  by_cases q : kd = 3
  · subst q
    rw [if_pos rfl] at E
    subst E
    go_enter Try.func74, Try.ntmps74
    go_wp2
    go_ret
    exact ⟨rfl, Ext.alloc _ _⟩
  rw [if_neg q] at E
  by_cases q : kd = 4
  · subst q
    rw [if_pos rfl] at E
    subst E
    go_enter Try.func74, Try.ntmps74
    go_wp2
    go_ret
    exact ⟨rfl, Ext.alloc _ _⟩
  rw [if_neg q] at E
  by_cases q5 : kd = 5
  · subst q5
    rw [if_pos rfl] at E
    cases p1 : (k == 7) <;> cases p2 : (wo == 0) <;> cases p3 : (k == 8)
    all_goals
      rw [p1, p2, p3] at E
      simp only [Bool.and_true, Bool.and_false, Bool.true_and, Bool.false_and, Bool.or_true, Bool.or_false, Bool.true_or, Bool.false_or] at E
      subst E
      go_enter Try.func74, Try.ntmps74
      go_wp2_with fail
      go_region
      go_wp2_with fail
      go_ret
      exact ⟨by simp, (Ext.alloc _ _).trans (Ext.drew _)⟩
  rw [if_neg q5] at E
  by_cases q6 : kd = 6
  · subst q6
    rw [if_pos rfl] at E
    cases p1 : (k == 7)
    all_goals
      rw [p1] at E
      subst E
      go_enter Try.func74, Try.ntmps74
      go_wp2_with fail
      go_ret
      exact ⟨by simp, Ext.alloc _ _⟩
  rw [if_neg q6] at E
  by_cases q : kd = 7
  · subst q
    rw [if_pos rfl] at E
    subst E
    go_enter Try.func74, Try.ntmps74
    go_wp2
    go_ret
    exact ⟨rfl, Ext.alloc _ _⟩
  rw [if_neg q] at E
  by_cases q : kd = 8
  · subst q
    rw [if_pos rfl] at E
    subst E
    go_enter Try.func74, Try.ntmps74
    go_wp2
    go_ret
    exact ⟨rfl, Ext.alloc _ _⟩
  rw [if_neg q] at E
  by_cases q9 : kd = 9
  · subst q9
    rw [if_pos rfl] at E
    cases p1 : (k == 12)
    all_goals
      rw [p1] at E
      subst E
      go_enter Try.func74, Try.ntmps74
      go_wp2_with fail
      go_region
      go_wp2_with fail
      go_ret
      exact ⟨by simp, (Ext.alloc _ _).trans (Ext.drew _)⟩
  rw [if_neg q9] at E
  subst E
  go_enter Try.func74, Try.ntmps74
  go_wp2
  go_ret
  exact ⟨rfl, Ext.alloc _ _⟩
theorem isof_any {w : World} {C o : Nat} {d : Dg} (h : DT w C o d) : Calls Try.prog 73 #[.pointer (some ⟨C, o, none⟩)] w fun e w' => e = .returned (.int .i64 (obO d)) ∧ w = w' := by
  have E : obO d = if d.kd = 9 then 0 else d.ob := rfl
  generalize obO d = res at *
  have s0 := h 0 (by omega)
  have s1 := h 1 (by omega)
  clear h
  obtain ⟨kd, ob, ar, nu, st, wo, la, va, er⟩ := d
  simp only [dgc, List.getElem?_toArray, List.getElem?_cons_zero, List.getElem?_cons_succ, Nat.add_zero] at s0 s1
  simp only at E
  by_cases k9 : kd = 9
  · subst k9
    rw [if_pos rfl] at E
    subst E
    go_enter Try.func73, Try.ntmps73
    go_wp2
    go_ret
    exact ⟨rfl, rfl⟩
  · rw [if_neg k9] at E
    subst E
    go_enter Try.func73, Try.ntmps73
    go_wp2
    go_ret
    exact ⟨rfl, rfl⟩
theorem takes_any {w : World} {C o : Nat} {d : Dg} (h : DT w C o d) (hC : C < w.heap.size) (hwf : d.st = 2 → d.kd = 4) (k t p a r : Int) : Calls Try.prog 61 #[.pointer (some ⟨C, o, none⟩), (Value.agg #[.int .i64 k, .int .i64 t, .int .i64 p, .int .i64 a, .int .i64 r])] w fun e w' => e = .returned (.bool (tkB d k p a)) ∧ Ext w w' := by
  have E : tkB d k p a = if (p != obO d) = true then false else if d.st = 1 then tfB d k a else if d.st = 2 then k == 5 || k == 6 else false := rfl
  have lC : C < (w.alloc (.cells #[Value.int .i64 k, .int .i64 t, .int .i64 p, .int .i64 a, .int .i64 r] 34)).heap.size := by rw [World.size_alloc]; omega
  have HD := hide (h.ext hC (Ext.alloc w (.cells #[Value.int .i64 k, .int .i64 t, .int .i64 p, .int .i64 a, .int .i64 r] 34)))
  have CI := fun w' (x : Ext (w.alloc (.cells #[Value.int .i64 k, .int .i64 t, .int .i64 p, .int .i64 a, .int .i64 r] 34)) w') => isof_any (HD.out.ext lC x)
  have CF := fun w' (x : Ext (w.alloc (.cells #[Value.int .i64 k, .int .i64 t, .int .i64 p, .int .i64 a, .int .i64 r] 34)) w') => first_any (HD.out.ext lC x) (Nat.lt_of_lt_of_le lC x.size) k t p a r
  have s4 := fun w' (x : Ext (w.alloc (.cells #[Value.int .i64 k, .int .i64 t, .int .i64 p, .int .i64 a, .int .i64 r] 34)) w') => (HD.out.ext lC x) 4 (by omega)
  clear h lC HD hwf
  generalize tkB d k p a = res at *
  generalize tfB d k a = rf at *
  generalize obO d = ob at *
  obtain ⟨kd, ob0, ar, nu, st, wo, la, va, er⟩ := d
  simp only [dgc, List.getElem?_toArray, List.getElem?_cons_zero, List.getElem?_cons_succ] at s4
  simp only at E
  cases p1 : (p != ob)
  · rw [p1, if_neg (by simp)] at E
    by_cases t1 : st = 1
    · subst t1
      rw [if_pos rfl] at E
      subst E
      go_enter Try.func61, Try.ntmps61
      go_wp2_with fail
      have hX := fun w' (h : Ext (w.alloc (Obj.cells #[Value.int .i64 k, .int .i64 t, .int .i64 p, .int .i64 a, .int .i64 r] 34)) w') => h.boxCell
      have hXf := fun w' (h : Ext (w.alloc (Obj.cells #[Value.int .i64 k, .int .i64 t, .int .i64 p, .int .i64 a, .int .i64 r] 34)) w') => h.boxFree
      have hX0 : Ext w (w.alloc (Obj.cells #[Value.int .i64 k, .int .i64 t, .int .i64 p, .int .i64 a, .int .i64 r] 34)) := Ext.alloc _ _
      generalize w.alloc (Obj.cells #[Value.int .i64 k, .int .i64 t, .int .i64 p, .int .i64 a, .int .i64 r] 34) = W0 at *
      have hW := Ext.refl W0
      refine wp_region_ext (by kernel_rfl) (by kernel_rfl) ?_
      repeat
        with_reducible refine wpQuiet_step (fun K hK => ?_)
        go_simp
        first
        | (refine hK _ ?_; clear hK K)
        | (apply Exists.intro
           refine ⟨fun w1 h1 => ?_, hK _ ?_⟩
           (have hW := Ext.trans2 hW (by repeat (first | exact Ext.refl _ | exact Ext.alloc _ _ | exact Ext.drewN _ _ | assumption | refine Ext.trans ?_ (Ext.alloc _ _) | refine Ext.trans ?_ (Ext.drew _) | refine Ext.trans ?_ (by assumption))) h1; (try have hV := Ext.trans2 hV (by repeat (first | exact Ext.refl _ | exact Ext.alloc _ _ | exact Ext.drewN _ _ | assumption | refine Ext.trans ?_ (Ext.alloc _ _) | refine Ext.trans ?_ (Ext.drew _) | refine Ext.trans ?_ (by assumption))) h1); (first | rfl | (go_simp; done) | (go_simp; rfl) | (go_at_call 73; (with_reducible refine (CI _ (hW.trans (by repeat (first | exact Ext.refl _ | exact Ext.alloc _ _ | exact Ext.drewN _ _ | assumption | refine Ext.trans ?_ (Ext.alloc _ _) | refine Ext.trans ?_ (Ext.drew _) | refine Ext.trans ?_ (by assumption))))).mono ?_); rintro e w2 ⟨rfl, rfl⟩; exact ⟨rfl, h1⟩)))
           clear hK K)
      refine wpQuiet_nil (fun w' hw' => ?_)
      have hW := Ext.trans2 hW (by repeat (first | exact Ext.refl _ | exact Ext.alloc _ _ | exact Ext.drewN _ _ | assumption | refine Ext.trans ?_ (Ext.alloc _ _) | refine Ext.trans ?_ (Ext.drew _) | refine Ext.trans ?_ (by assumption))) hw'
      try have hV := Ext.trans2 hV (by repeat (first | exact Ext.refl _ | exact Ext.alloc _ _ | exact Ext.drewN _ _ | assumption | refine Ext.trans ?_ (Ext.alloc _ _) | refine Ext.trans ?_ (Ext.drew _) | refine Ext.trans ?_ (by assumption))) hw'
      clear hw'
      go_wp2_with (go_at_call 74; (with_reducible refine (CF _ (hW.trans (by repeat (first | exact Ext.refl _ | exact Ext.alloc _ _ | exact Ext.drewN _ _ | assumption | refine Ext.trans ?_ (Ext.alloc _ _) | refine Ext.trans ?_ (Ext.drew _) | refine Ext.trans ?_ (by assumption))))).mono ?_); rintro e w' ⟨rfl, hb⟩; have hW := Ext.trans2 hW (by repeat (first | exact Ext.refl _ | exact Ext.alloc _ _ | exact Ext.drewN _ _ | assumption | refine Ext.trans ?_ (Ext.alloc _ _) | refine Ext.trans ?_ (Ext.drew _) | refine Ext.trans ?_ (by assumption))) hb; (try have hV := Ext.trans2 hV (by repeat (first | exact Ext.refl _ | exact Ext.alloc _ _ | exact Ext.drewN _ _ | assumption | refine Ext.trans ?_ (Ext.alloc _ _) | refine Ext.trans ?_ (Ext.drew _) | refine Ext.trans ?_ (by assumption))) hb); clear hb)
      go_ret
      exact ⟨rfl, (hX0.trans (hW.trans (by repeat (first | exact Ext.refl _ | exact Ext.alloc _ _ | exact Ext.drewN _ _ | assumption | refine Ext.trans ?_ (Ext.alloc _ _) | refine Ext.trans ?_ (Ext.drew _) | refine Ext.trans ?_ (by assumption)))))⟩
    · rw [if_neg t1] at E
      by_cases t2 : st = 2
      · subst t2
        rw [if_pos rfl] at E
        cases p2 : (k == 5)
        all_goals
          rw [p2] at E
          subst E
          go_enter Try.func61, Try.ntmps61
          go_wp2_with fail
          have hX := fun w' (h : Ext (w.alloc (Obj.cells #[Value.int .i64 k, .int .i64 t, .int .i64 p, .int .i64 a, .int .i64 r] 34)) w') => h.boxCell
          have hXf := fun w' (h : Ext (w.alloc (Obj.cells #[Value.int .i64 k, .int .i64 t, .int .i64 p, .int .i64 a, .int .i64 r] 34)) w') => h.boxFree
          have hX0 : Ext w (w.alloc (Obj.cells #[Value.int .i64 k, .int .i64 t, .int .i64 p, .int .i64 a, .int .i64 r] 34)) := Ext.alloc _ _
          generalize w.alloc (Obj.cells #[Value.int .i64 k, .int .i64 t, .int .i64 p, .int .i64 a, .int .i64 r] 34) = W0 at *
          have hW := Ext.refl W0
          refine wp_region_ext (by kernel_rfl) (by kernel_rfl) ?_
          repeat
            with_reducible refine wpQuiet_step (fun K hK => ?_)
            go_simp
            first
            | (refine hK _ ?_; clear hK K)
            | (apply Exists.intro
               refine ⟨fun w1 h1 => ?_, hK _ ?_⟩
               (have hW := Ext.trans2 hW (by repeat (first | exact Ext.refl _ | exact Ext.alloc _ _ | exact Ext.drewN _ _ | assumption | refine Ext.trans ?_ (Ext.alloc _ _) | refine Ext.trans ?_ (Ext.drew _) | refine Ext.trans ?_ (by assumption))) h1; (try have hV := Ext.trans2 hV (by repeat (first | exact Ext.refl _ | exact Ext.alloc _ _ | exact Ext.drewN _ _ | assumption | refine Ext.trans ?_ (Ext.alloc _ _) | refine Ext.trans ?_ (Ext.drew _) | refine Ext.trans ?_ (by assumption))) h1); (first | rfl | (go_simp; done) | (go_simp; rfl) | (go_at_call 73; (with_reducible refine (CI _ (hW.trans (by repeat (first | exact Ext.refl _ | exact Ext.alloc _ _ | exact Ext.drewN _ _ | assumption | refine Ext.trans ?_ (Ext.alloc _ _) | refine Ext.trans ?_ (Ext.drew _) | refine Ext.trans ?_ (by assumption))))).mono ?_); rintro e w2 ⟨rfl, rfl⟩; exact ⟨rfl, h1⟩)))
               clear hK K)
          refine wpQuiet_nil (fun w' hw' => ?_)
          have hW := Ext.trans2 hW (by repeat (first | exact Ext.refl _ | exact Ext.alloc _ _ | exact Ext.drewN _ _ | assumption | refine Ext.trans ?_ (Ext.alloc _ _) | refine Ext.trans ?_ (Ext.drew _) | refine Ext.trans ?_ (by assumption))) hw'
          try have hV := Ext.trans2 hV (by repeat (first | exact Ext.refl _ | exact Ext.alloc _ _ | exact Ext.drewN _ _ | assumption | refine Ext.trans ?_ (Ext.alloc _ _) | refine Ext.trans ?_ (Ext.drew _) | refine Ext.trans ?_ (by assumption))) hw'
          clear hw'
          go_wp2_with (go_at_call 74; (with_reducible refine (CF _ (hW.trans (by repeat (first | exact Ext.refl _ | exact Ext.alloc _ _ | exact Ext.drewN _ _ | assumption | refine Ext.trans ?_ (Ext.alloc _ _) | refine Ext.trans ?_ (Ext.drew _) | refine Ext.trans ?_ (by assumption))))).mono ?_); rintro e w' ⟨rfl, hb⟩; have hW := Ext.trans2 hW (by repeat (first | exact Ext.refl _ | exact Ext.alloc _ _ | exact Ext.drewN _ _ | assumption | refine Ext.trans ?_ (Ext.alloc _ _) | refine Ext.trans ?_ (Ext.drew _) | refine Ext.trans ?_ (by assumption))) hb; (try have hV := Ext.trans2 hV (by repeat (first | exact Ext.refl _ | exact Ext.alloc _ _ | exact Ext.drewN _ _ | assumption | refine Ext.trans ?_ (Ext.alloc _ _) | refine Ext.trans ?_ (Ext.drew _) | refine Ext.trans ?_ (by assumption))) hb); clear hb)
          go_ret
          exact ⟨by simp, (hX0.trans (hW.trans (by repeat (first | exact Ext.refl _ | exact Ext.alloc _ _ | exact Ext.drewN _ _ | assumption | refine Ext.trans ?_ (Ext.alloc _ _) | refine Ext.trans ?_ (Ext.drew _) | refine Ext.trans ?_ (by assumption)))))⟩
      · rw [if_neg t2] at E
        subst E
        go_enter Try.func61, Try.ntmps61
        go_wp2_with fail
        have hX := fun w' (h : Ext (w.alloc (Obj.cells #[Value.int .i64 k, .int .i64 t, .int .i64 p, .int .i64 a, .int .i64 r] 34)) w') => h.boxCell
        have hXf := fun w' (h : Ext (w.alloc (Obj.cells #[Value.int .i64 k, .int .i64 t, .int .i64 p, .int .i64 a, .int .i64 r] 34)) w') => h.boxFree
        have hX0 : Ext w (w.alloc (Obj.cells #[Value.int .i64 k, .int .i64 t, .int .i64 p, .int .i64 a, .int .i64 r] 34)) := Ext.alloc _ _
        generalize w.alloc (Obj.cells #[Value.int .i64 k, .int .i64 t, .int .i64 p, .int .i64 a, .int .i64 r] 34) = W0 at *
        have hW := Ext.refl W0
        refine wp_region_ext (by kernel_rfl) (by kernel_rfl) ?_
        repeat
          with_reducible refine wpQuiet_step (fun K hK => ?_)
          go_simp
          first
          | (refine hK _ ?_; clear hK K)
          | (apply Exists.intro
             refine ⟨fun w1 h1 => ?_, hK _ ?_⟩
             (have hW := Ext.trans2 hW (by repeat (first | exact Ext.refl _ | exact Ext.alloc _ _ | exact Ext.drewN _ _ | assumption | refine Ext.trans ?_ (Ext.alloc _ _) | refine Ext.trans ?_ (Ext.drew _) | refine Ext.trans ?_ (by assumption))) h1; (try have hV := Ext.trans2 hV (by repeat (first | exact Ext.refl _ | exact Ext.alloc _ _ | exact Ext.drewN _ _ | assumption | refine Ext.trans ?_ (Ext.alloc _ _) | refine Ext.trans ?_ (Ext.drew _) | refine Ext.trans ?_ (by assumption))) h1); (first | rfl | (go_simp; done) | (go_simp; rfl) | (go_at_call 73; (with_reducible refine (CI _ (hW.trans (by repeat (first | exact Ext.refl _ | exact Ext.alloc _ _ | exact Ext.drewN _ _ | assumption | refine Ext.trans ?_ (Ext.alloc _ _) | refine Ext.trans ?_ (Ext.drew _) | refine Ext.trans ?_ (by assumption))))).mono ?_); rintro e w2 ⟨rfl, rfl⟩; exact ⟨rfl, h1⟩)))
             clear hK K)
        refine wpQuiet_nil (fun w' hw' => ?_)
        have hW := Ext.trans2 hW (by repeat (first | exact Ext.refl _ | exact Ext.alloc _ _ | exact Ext.drewN _ _ | assumption | refine Ext.trans ?_ (Ext.alloc _ _) | refine Ext.trans ?_ (Ext.drew _) | refine Ext.trans ?_ (by assumption))) hw'
        try have hV := Ext.trans2 hV (by repeat (first | exact Ext.refl _ | exact Ext.alloc _ _ | exact Ext.drewN _ _ | assumption | refine Ext.trans ?_ (Ext.alloc _ _) | refine Ext.trans ?_ (Ext.drew _) | refine Ext.trans ?_ (by assumption))) hw'
        clear hw'
        go_wp2_with (go_at_call 74; (with_reducible refine (CF _ (hW.trans (by repeat (first | exact Ext.refl _ | exact Ext.alloc _ _ | exact Ext.drewN _ _ | assumption | refine Ext.trans ?_ (Ext.alloc _ _) | refine Ext.trans ?_ (Ext.drew _) | refine Ext.trans ?_ (by assumption))))).mono ?_); rintro e w' ⟨rfl, hb⟩; have hW := Ext.trans2 hW (by repeat (first | exact Ext.refl _ | exact Ext.alloc _ _ | exact Ext.drewN _ _ | assumption | refine Ext.trans ?_ (Ext.alloc _ _) | refine Ext.trans ?_ (Ext.drew _) | refine Ext.trans ?_ (by assumption))) hb; (try have hV := Ext.trans2 hV (by repeat (first | exact Ext.refl _ | exact Ext.alloc _ _ | exact Ext.drewN _ _ | assumption | refine Ext.trans ?_ (Ext.alloc _ _) | refine Ext.trans ?_ (Ext.drew _) | refine Ext.trans ?_ (by assumption))) hb); clear hb)
        go_ret
        exact ⟨rfl, (hX0.trans (hW.trans (by repeat (first | exact Ext.refl _ | exact Ext.alloc _ _ | exact Ext.drewN _ _ | assumption | refine Ext.trans ?_ (Ext.alloc _ _) | refine Ext.trans ?_ (Ext.drew _) | refine Ext.trans ?_ (by assumption)))))⟩
  · rw [p1, if_pos rfl] at E
    subst E
    go_enter Try.func61, Try.ntmps61
    go_wp2_with fail
    have hX := fun w' (h : Ext (w.alloc (Obj.cells #[Value.int .i64 k, .int .i64 t, .int .i64 p, .int .i64 a, .int .i64 r] 34)) w') => h.boxCell
    have hXf := fun w' (h : Ext (w.alloc (Obj.cells #[Value.int .i64 k, .int .i64 t, .int .i64 p, .int .i64 a, .int .i64 r] 34)) w') => h.boxFree
    have hX0 : Ext w (w.alloc (Obj.cells #[Value.int .i64 k, .int .i64 t, .int .i64 p, .int .i64 a, .int .i64 r] 34)) := Ext.alloc _ _
    generalize w.alloc (Obj.cells #[Value.int .i64 k, .int .i64 t, .int .i64 p, .int .i64 a, .int .i64 r] 34) = W0 at *
    have hW := Ext.refl W0
    refine wp_region_ext (by kernel_rfl) (by kernel_rfl) ?_
    repeat
      with_reducible refine wpQuiet_step (fun K hK => ?_)
      go_simp
      first
      | (refine hK _ ?_; clear hK K)
      | (apply Exists.intro
         refine ⟨fun w1 h1 => ?_, hK _ ?_⟩
         (have hW := Ext.trans2 hW (by repeat (first | exact Ext.refl _ | exact Ext.alloc _ _ | exact Ext.drewN _ _ | assumption | refine Ext.trans ?_ (Ext.alloc _ _) | refine Ext.trans ?_ (Ext.drew _) | refine Ext.trans ?_ (by assumption))) h1; (try have hV := Ext.trans2 hV (by repeat (first | exact Ext.refl _ | exact Ext.alloc _ _ | exact Ext.drewN _ _ | assumption | refine Ext.trans ?_ (Ext.alloc _ _) | refine Ext.trans ?_ (Ext.drew _) | refine Ext.trans ?_ (by assumption))) h1); (first | rfl | (go_simp; done) | (go_simp; rfl) | (go_at_call 73; (with_reducible refine (CI _ (hW.trans (by repeat (first | exact Ext.refl _ | exact Ext.alloc _ _ | exact Ext.drewN _ _ | assumption | refine Ext.trans ?_ (Ext.alloc _ _) | refine Ext.trans ?_ (Ext.drew _) | refine Ext.trans ?_ (by assumption))))).mono ?_); rintro e w2 ⟨rfl, rfl⟩; exact ⟨rfl, h1⟩)))
         clear hK K)
    refine wpQuiet_nil (fun w' hw' => ?_)
    have hW := Ext.trans2 hW (by repeat (first | exact Ext.refl _ | exact Ext.alloc _ _ | exact Ext.drewN _ _ | assumption | refine Ext.trans ?_ (Ext.alloc _ _) | refine Ext.trans ?_ (Ext.drew _) | refine Ext.trans ?_ (by assumption))) hw'
    try have hV := Ext.trans2 hV (by repeat (first | exact Ext.refl _ | exact Ext.alloc _ _ | exact Ext.drewN _ _ | assumption | refine Ext.trans ?_ (Ext.alloc _ _) | refine Ext.trans ?_ (Ext.drew _) | refine Ext.trans ?_ (by assumption))) hw'
    clear hw'
    go_wp2_with (go_at_call 74; (with_reducible refine (CF _ (hW.trans (by repeat (first | exact Ext.refl _ | exact Ext.alloc _ _ | exact Ext.drewN _ _ | assumption | refine Ext.trans ?_ (Ext.alloc _ _) | refine Ext.trans ?_ (Ext.drew _) | refine Ext.trans ?_ (by assumption))))).mono ?_); rintro e w' ⟨rfl, hb⟩; have hW := Ext.trans2 hW (by repeat (first | exact Ext.refl _ | exact Ext.alloc _ _ | exact Ext.drewN _ _ | assumption | refine Ext.trans ?_ (Ext.alloc _ _) | refine Ext.trans ?_ (Ext.drew _) | refine Ext.trans ?_ (by assumption))) hb; (try have hV := Ext.trans2 hV (by repeat (first | exact Ext.refl _ | exact Ext.alloc _ _ | exact Ext.drewN _ _ | assumption | refine Ext.trans ?_ (Ext.alloc _ _) | refine Ext.trans ?_ (Ext.drew _) | refine Ext.trans ?_ (by assumption))) hb); clear hb)
    go_ret
    exact ⟨rfl, (hX0.trans (hW.trans (by repeat (first | exact Ext.refl _ | exact Ext.alloc _ _ | exact Ext.drewN _ _ | assumption | refine Ext.trans ?_ (Ext.alloc _ _) | refine Ext.trans ?_ (Ext.drew _) | refine Ext.trans ?_ (by assumption)))))⟩
end Go.Proofs.Ytacneghgimfklaa
