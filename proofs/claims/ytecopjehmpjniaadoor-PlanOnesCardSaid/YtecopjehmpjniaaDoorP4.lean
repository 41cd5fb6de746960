/- The reference's kept and May, walked. -/
import Derived.Test.YtecopjehmpjniaaDoorP3
namespace Go.Proofs.YtecopjehmpjniaaDoor
open Go.RowKit
set_option linter.unusedSimpArgs false
set_option linter.unusedVariables false



theorem run_neqR (k a e h o r s g k' a' e' h' o' r' s' g' : Int) (w : World) :
    Sem.run Tryd.prog (binOp .neq 57 (Value.agg #[.int .i64 (k), .int .u8 (a), .int .u8 (e), .int .u32 (h), .int .u16 (o), .int .u16 (r), .int .u16 (s), .int .u32 (g)]) (Value.agg #[.int .i64 (k'), .int .u8 (a'), .int .u8 (e'), .int .u32 (h'), .int .u16 (o'), .int .u16 (r'), .int .u16 (s'), .int .u32 (g')])) w = .ok (.bool (!eqB k a e h o r s g k' a' e' h' o' r' s' g')) w := by
  unfold eqB
  go_simp
  by_cases c1 : k = k'
  · by_cases c2 : a = a'
    · by_cases c3 : e = e'
      · by_cases c4 : h = h'
        · by_cases c5 : o = o'
          · by_cases c6 : r = r'
            · by_cases c7 : s = s'
              · by_cases c8 : g = g' <;> simp [c1, c2, c3, c4, c5, c6, c7, c8]
              · simp [c1, c2, c3, c4, c5, c6, c7]
            · simp [c1, c2, c3, c4, c5, c6]
          · simp [c1, c2, c3, c4, c5]
        · simp [c1, c2, c3, c4]
      · simp [c1, c2, c3]
    · simp [c1, c2]
  · simp [c1]

theorem uK_cases (v : Int) : uK v = 0 ∨ uK v = 1 ∨ uK v = 2 ∨ uK v = 3 ∨ uK v = 4 ∨ uK v = 5 := by
  unfold uK; (repeat' split) <;> simp
theorem gW_kind {v : Int} (hg : gW v) : ¬ uK v = 0 := by
  intro h
  have h2 := hg
  unfold gW pI at h2
  rw [h] at h2
  simp at h2
  rw [← h2] at h
  simp [uK] at h

/-- The reference's kept: which parts count. -/
def kA (k x : Int) : Int := if k = 2 ∨ k = 4 then x else 0
def kE (k x : Int) : Int := if k = 4 then x else 0
def kH (k x : Int) : Int := if k = 2 then x else 0
def kO (k x : Int) : Int := if k = 1 ∨ k = 4 then x else 0
def kR (k x : Int) : Int := if k = 1 then x else 0
def kS (k x : Int) : Int := if k = 3 then x else 0
theorem rkept_any (k a e h o r s g : Int) (w : World) (b : OkH k a e h o r s g) :
    Calls Tryd.prog 40 #[Value.agg #[.int .i64 (k), .int .u8 (a), .int .u8 (e), .int .u32 (h), .int .u16 (o), .int .u16 (r), .int .u16 (s), .int .u32 (g)]] w fun x w' => x = .returned (Value.agg #[.int .i64 (k), .int .u8 (kA k a), .int .u8 (kE k e), .int .u32 (kH k h), .int .u16 (kO k o), .int .u16 (kR k r), .int .u16 (kS k s), .int .u32 (kS k g)]) ∧ Ext w w' := by
  have hX0 := Ext.refl w
  have hW := Ext.refl w
  by_cases k1 : k = 1
  · subst k1
    go_enter Tryd.func40, Tryd.ntmps40
    go_wp2
    refine bodyPost_ret (v := Value.agg #[.int .i64 (1), .int .u8 (0), .int .u8 (0), .int .u32 (0), .int .u16 (o), .int .u16 (r), .int .u16 (0), .int .u32 (0)]) (by simp [results, Tryd.results40, go_sem, *]) rfl ⟨rfl, ?_⟩
    ((repeat (with_reducible refine Ext.set ?_ (by simp) _)); exact (Ext.alloc _ _).trans (Ext.alloc _ _))
  by_cases k2 : k = 2
  · subst k2
    go_enter Tryd.func40, Tryd.ntmps40
    go_wp2
    refine bodyPost_ret (v := Value.agg #[.int .i64 (2), .int .u8 (a), .int .u8 (0), .int .u32 (h), .int .u16 (0), .int .u16 (0), .int .u16 (0), .int .u32 (0)]) (by simp [results, Tryd.results40, go_sem, *]) rfl ⟨rfl, ?_⟩
    ((repeat (with_reducible refine Ext.set ?_ (by simp) _)); exact (Ext.alloc _ _).trans (Ext.alloc _ _))
  by_cases k3 : k = 3
  · subst k3
    go_enter Tryd.func40, Tryd.ntmps40
    go_wp2
    refine bodyPost_ret (v := Value.agg #[.int .i64 (3), .int .u8 (0), .int .u8 (0), .int .u32 (0), .int .u16 (0), .int .u16 (0), .int .u16 (s), .int .u32 (g)]) (by simp [results, Tryd.results40, go_sem, *]) rfl ⟨rfl, ?_⟩
    ((repeat (with_reducible refine Ext.set ?_ (by simp) _)); exact (Ext.alloc _ _).trans (Ext.alloc _ _))
  by_cases k4 : k = 4
  · subst k4
    go_enter Tryd.func40, Tryd.ntmps40
    go_wp2
    refine bodyPost_ret (v := Value.agg #[.int .i64 (4), .int .u8 (a), .int .u8 (e), .int .u32 (0), .int .u16 (o), .int .u16 (0), .int .u16 (0), .int .u32 (0)]) (by simp [results, Tryd.results40, go_sem, *]) rfl ⟨rfl, ?_⟩
    ((repeat (with_reducible refine Ext.set ?_ (by simp) _)); exact (Ext.alloc _ _).trans (Ext.alloc _ _))
  · have E : Value.agg #[.int .i64 (k), .int .u8 (kA k a), .int .u8 (kE k e), .int .u32 (kH k h), .int .u16 (kO k o), .int .u16 (kR k r), .int .u16 (kS k s), .int .u32 (kS k g)] = Value.agg #[.int .i64 (k), .int .u8 (0), .int .u8 (0), .int .u32 (0), .int .u16 (0), .int .u16 (0), .int .u16 (0), .int .u32 (0)] := by simp [kA, kE, kH, kO, kR, kS, k1, k2, k3, k4]
    rw [E]
    go_enter Tryd.func40, Tryd.ntmps40
    go_wp2
    refine bodyPost_ret (v := Value.agg #[.int .i64 (k), .int .u8 (0), .int .u8 (0), .int .u32 (0), .int .u16 (0), .int .u16 (0), .int .u16 (0), .int .u32 (0)]) (by simp [results, Tryd.results40, go_sem, *]) rfl ⟨rfl, ?_⟩
    ((repeat (with_reducible refine Ext.set ?_ (by simp) _)); exact (Ext.alloc _ _).trans (Ext.alloc _ _))

/-- What kept leaves alone. -/
def keptB (k a e h o r s g : Int) : Bool := eqB k (kA k a) (kE k e) (kH k h) (kO k o) (kR k r) (kS k s) (kS k g) k a e h o r s g
theorem kept_may {k a e h o r s g : Int} (b : OkH k a e h o r s g) : hMayB k a e h o r s g = (decide (1 ≤ k ∧ k ≤ 5) && (keptB k a e h o r s g && (decide (a < 16) && (decide (h < 2147483648) && (decide (g < 16777216) && (decide (k ≠ 1) || decide (0 < o))))))) := by
  obtain ⟨a0, a1, e0, e1, h0, h1, o0, o1, r0, r1, s0, s1, g0, g1⟩ := b
  rw [Bool.eq_iff_iff]
  simp only [keptB, eqB, hMayB, hMay, kA, kE, kH, kO, kR, kS, decide_eq_true_eq, Bool.and_eq_true, Bool.or_eq_true, beq_iff_eq]
  by_cases k1 : k = 1
  · subst k1; simp; omega
  by_cases k2 : k = 2
  · subst k2; simp; omega
  by_cases k3 : k = 3
  · subst k3; simp; omega
  by_cases k4 : k = 4
  · subst k4; simp; omega
  by_cases k5 : k = 5
  · subst k5; simp; omega
  · simp [k1, k2, k3, k4, k5]; omega
set_option maxHeartbeats 2000000 in
theorem rmay_any (k a e h o r s g : Int) (w : World) (b : OkH k a e h o r s g) :
    Calls Tryd.prog 36 #[Value.agg #[.int .i64 (k), .int .u8 (a), .int .u8 (e), .int .u32 (h), .int .u16 (o), .int .u16 (r), .int .u16 (s), .int .u32 (g)]] w fun x w' => x = .returned (.bool (hMayB k a e h o r s g)) ∧ Ext w w' := by
  have M := kept_may b
  by_cases k1 : k < 1
  · have E : Hid (false = hMayB k a e h o r s g) := by
      have : ¬ 1 ≤ k := by omega
      rw [M]; simp [Hid, this]
    clear M
    go_enter Tryd.func36, Tryd.ntmps36
    go_wp2_with fail
    have hX := fun w' (h : Ext (w.alloc (Obj.cells #[.int .i64 (k), .int .u8 (a), .int .u8 (e), .int .u32 (h), .int .u16 (o), .int .u16 (r), .int .u16 (s), .int .u32 (g)] 57)) w') => h.boxCell
    have hXf := fun w' (h : Ext (w.alloc (Obj.cells #[.int .i64 (k), .int .u8 (a), .int .u8 (e), .int .u32 (h), .int .u16 (o), .int .u16 (r), .int .u16 (s), .int .u32 (g)] 57)) w') => h.boxFree
    have hX0 : Ext w (w.alloc (Obj.cells #[.int .i64 (k), .int .u8 (a), .int .u8 (e), .int .u32 (h), .int .u16 (o), .int .u16 (r), .int .u16 (s), .int .u32 (g)] 57)) := Ext.alloc _ _
    generalize w.alloc (Obj.cells #[.int .i64 (k), .int .u8 (a), .int .u8 (e), .int .u32 (h), .int .u16 (o), .int .u16 (r), .int .u16 (s), .int .u32 (g)] 57) = W0 at *
    have hW := Ext.refl W0
    refine wp_region_ext (by kernel_rfl) (by kernel_rfl) ?_
    repeat
      with_reducible refine wpQuiet_step (fun K hK => ?_)
      go_simp
      first
      | (refine hK _ ?_; clear hK K)
      | (apply Exists.intro
         refine ⟨fun w1 h1 => ?_, hK _ ?_⟩
         (have hW := Ext.trans2 hW (by repeat (first | exact Ext.refl _ | exact Ext.alloc _ _ | exact Ext.drewN _ _ | assumption | refine Ext.trans ?_ (Ext.alloc _ _) | refine Ext.trans ?_ (Ext.drew _) | refine Ext.trans ?_ (by assumption))) h1; (try have hV := Ext.trans2 hV (by repeat (first | exact Ext.refl _ | exact Ext.alloc _ _ | exact Ext.drewN _ _ | assumption | refine Ext.trans ?_ (Ext.alloc _ _) | refine Ext.trans ?_ (Ext.drew _) | refine Ext.trans ?_ (by assumption))) h1); (first | rfl | (go_simp; done) | (go_simp; rfl) | (go_at_call 40; refine (rkept_any _ _ _ _ _ _ _ _ _ b).mono ?_; rintro e w2 ⟨rfl, hb⟩; exact ⟨rfl, h1.trans hb⟩)))
         clear hK K)
    refine wpQuiet_nil (fun w' hw' => ?_)
    have hW := Ext.trans2 hW (by repeat (first | exact Ext.refl _ | exact Ext.alloc _ _ | exact Ext.drewN _ _ | assumption | refine Ext.trans ?_ (Ext.alloc _ _) | refine Ext.trans ?_ (Ext.drew _) | refine Ext.trans ?_ (by assumption))) hw'
    try have hV := Ext.trans2 hV (by repeat (first | exact Ext.refl _ | exact Ext.alloc _ _ | exact Ext.drewN _ _ | assumption | refine Ext.trans ?_ (Ext.alloc _ _) | refine Ext.trans ?_ (Ext.drew _) | refine Ext.trans ?_ (by assumption))) hw'
    clear hw'
    go_wp2
    go_ret
    exact ⟨by rw [← E.out]; rfl, (hX0.trans (hW.trans (by repeat (first | exact Ext.refl _ | exact Ext.alloc _ _ | exact Ext.drewN _ _ | assumption | refine Ext.trans ?_ (Ext.alloc _ _) | refine Ext.trans ?_ (Ext.drew _) | refine Ext.trans ?_ (by assumption)))))⟩
  by_cases k5 : 5 < k
  · have E : Hid (false = hMayB k a e h o r s g) := by
      have : ¬ k ≤ 5 := by omega
      rw [M]; simp [Hid, this]
    clear M
    go_enter Tryd.func36, Tryd.ntmps36
    go_wp2_with fail
    have hX := fun w' (h : Ext (w.alloc (Obj.cells #[.int .i64 (k), .int .u8 (a), .int .u8 (e), .int .u32 (h), .int .u16 (o), .int .u16 (r), .int .u16 (s), .int .u32 (g)] 57)) w') => h.boxCell
    have hXf := fun w' (h : Ext (w.alloc (Obj.cells #[.int .i64 (k), .int .u8 (a), .int .u8 (e), .int .u32 (h), .int .u16 (o), .int .u16 (r), .int .u16 (s), .int .u32 (g)] 57)) w') => h.boxFree
    have hX0 : Ext w (w.alloc (Obj.cells #[.int .i64 (k), .int .u8 (a), .int .u8 (e), .int .u32 (h), .int .u16 (o), .int .u16 (r), .int .u16 (s), .int .u32 (g)] 57)) := Ext.alloc _ _
    generalize w.alloc (Obj.cells #[.int .i64 (k), .int .u8 (a), .int .u8 (e), .int .u32 (h), .int .u16 (o), .int .u16 (r), .int .u16 (s), .int .u32 (g)] 57) = W0 at *
    have hW := Ext.refl W0
    refine wp_region_ext (by kernel_rfl) (by kernel_rfl) ?_
    repeat
      with_reducible refine wpQuiet_step (fun K hK => ?_)
      go_simp
      first
      | (refine hK _ ?_; clear hK K)
      | (apply Exists.intro
         refine ⟨fun w1 h1 => ?_, hK _ ?_⟩
         (have hW := Ext.trans2 hW (by repeat (first | exact Ext.refl _ | exact Ext.alloc _ _ | exact Ext.drewN _ _ | assumption | refine Ext.trans ?_ (Ext.alloc _ _) | refine Ext.trans ?_ (Ext.drew _) | refine Ext.trans ?_ (by assumption))) h1; (try have hV := Ext.trans2 hV (by repeat (first | exact Ext.refl _ | exact Ext.alloc _ _ | exact Ext.drewN _ _ | assumption | refine Ext.trans ?_ (Ext.alloc _ _) | refine Ext.trans ?_ (Ext.drew _) | refine Ext.trans ?_ (by assumption))) h1); (first | rfl | (go_simp; done) | (go_simp; rfl) | (go_at_call 40; refine (rkept_any _ _ _ _ _ _ _ _ _ b).mono ?_; rintro e w2 ⟨rfl, hb⟩; exact ⟨rfl, h1.trans hb⟩)))
         clear hK K)
    refine wpQuiet_nil (fun w' hw' => ?_)
    have hW := Ext.trans2 hW (by repeat (first | exact Ext.refl _ | exact Ext.alloc _ _ | exact Ext.drewN _ _ | assumption | refine Ext.trans ?_ (Ext.alloc _ _) | refine Ext.trans ?_ (Ext.drew _) | refine Ext.trans ?_ (by assumption))) hw'
    try have hV := Ext.trans2 hV (by repeat (first | exact Ext.refl _ | exact Ext.alloc _ _ | exact Ext.drewN _ _ | assumption | refine Ext.trans ?_ (Ext.alloc _ _) | refine Ext.trans ?_ (Ext.drew _) | refine Ext.trans ?_ (by assumption))) hw'
    clear hw'
    go_wp2
    go_ret
    exact ⟨by rw [← E.out]; rfl, (hX0.trans (hW.trans (by repeat (first | exact Ext.refl _ | exact Ext.alloc _ _ | exact Ext.drewN _ _ | assumption | refine Ext.trans ?_ (Ext.alloc _ _) | refine Ext.trans ?_ (Ext.drew _) | refine Ext.trans ?_ (by assumption)))))⟩
  have hk : decide (1 ≤ k ∧ k ≤ 5) = true := by simp; omega
  rw [hk, Bool.true_and] at M
  clear hk
  have hE : ∀ w, Sem.run Tryd.prog (binOp .neq 57 (Value.agg #[.int .i64 (k), .int .u8 (kA k a), .int .u8 (kE k e), .int .u32 (kH k h), .int .u16 (kO k o), .int .u16 (kR k r), .int .u16 (kS k s), .int .u32 (kS k g)]) (Value.agg #[.int .i64 (k), .int .u8 (a), .int .u8 (e), .int .u32 (h), .int .u16 (o), .int .u16 (r), .int .u16 (s), .int .u32 (g)])) w = .ok (.bool (!keptB k a e h o r s g)) w := fun w =>
    run_neqR k (kA k a) (kE k e) (kH k h) (kO k o) (kR k r) (kS k s) (kS k g) k a e h o r s g w
  cases hq : keptB k a e h o r s g
  · rw [hq] at M hE
    have E : Hid (false = hMayB k a e h o r s g) := by rw [M]; rfl
    clear M hq
    go_enter Tryd.func36, Tryd.ntmps36
    go_wp2_with fail
    have hX := fun w' (h : Ext (w.alloc (Obj.cells #[.int .i64 (k), .int .u8 (a), .int .u8 (e), .int .u32 (h), .int .u16 (o), .int .u16 (r), .int .u16 (s), .int .u32 (g)] 57)) w') => h.boxCell
    have hXf := fun w' (h : Ext (w.alloc (Obj.cells #[.int .i64 (k), .int .u8 (a), .int .u8 (e), .int .u32 (h), .int .u16 (o), .int .u16 (r), .int .u16 (s), .int .u32 (g)] 57)) w') => h.boxFree
    have hX0 : Ext w (w.alloc (Obj.cells #[.int .i64 (k), .int .u8 (a), .int .u8 (e), .int .u32 (h), .int .u16 (o), .int .u16 (r), .int .u16 (s), .int .u32 (g)] 57)) := Ext.alloc _ _
    generalize w.alloc (Obj.cells #[.int .i64 (k), .int .u8 (a), .int .u8 (e), .int .u32 (h), .int .u16 (o), .int .u16 (r), .int .u16 (s), .int .u32 (g)] 57) = W0 at *
    have hW := Ext.refl W0
    refine wp_region_ext (by kernel_rfl) (by kernel_rfl) ?_
    repeat
      with_reducible refine wpQuiet_step (fun K hK => ?_)
      go_simp
      first
      | (refine hK _ ?_; clear hK K)
      | (apply Exists.intro
         refine ⟨fun w1 h1 => ?_, hK _ ?_⟩
         (have hW := Ext.trans2 hW (by repeat (first | exact Ext.refl _ | exact Ext.alloc _ _ | exact Ext.drewN _ _ | assumption | refine Ext.trans ?_ (Ext.alloc _ _) | refine Ext.trans ?_ (Ext.drew _) | refine Ext.trans ?_ (by assumption))) h1; (try have hV := Ext.trans2 hV (by repeat (first | exact Ext.refl _ | exact Ext.alloc _ _ | exact Ext.drewN _ _ | assumption | refine Ext.trans ?_ (Ext.alloc _ _) | refine Ext.trans ?_ (Ext.drew _) | refine Ext.trans ?_ (by assumption))) h1); (first | rfl | (go_simp; done) | (go_simp; rfl) | (go_at_call 40; refine (rkept_any _ _ _ _ _ _ _ _ _ b).mono ?_; rintro e w2 ⟨rfl, hb⟩; exact ⟨rfl, h1.trans hb⟩)))
         clear hK K)
    refine wpQuiet_nil (fun w' hw' => ?_)
    have hW := Ext.trans2 hW (by repeat (first | exact Ext.refl _ | exact Ext.alloc _ _ | exact Ext.drewN _ _ | assumption | refine Ext.trans ?_ (Ext.alloc _ _) | refine Ext.trans ?_ (Ext.drew _) | refine Ext.trans ?_ (by assumption))) hw'
    try have hV := Ext.trans2 hV (by repeat (first | exact Ext.refl _ | exact Ext.alloc _ _ | exact Ext.drewN _ _ | assumption | refine Ext.trans ?_ (Ext.alloc _ _) | refine Ext.trans ?_ (Ext.drew _) | refine Ext.trans ?_ (by assumption))) hw'
    clear hw'
    go_wp2
    go_ret
    exact ⟨by rw [← E.out]; rfl, (hX0.trans (hW.trans (by repeat (first | exact Ext.refl _ | exact Ext.alloc _ _ | exact Ext.drewN _ _ | assumption | refine Ext.trans ?_ (Ext.alloc _ _) | refine Ext.trans ?_ (Ext.drew _) | refine Ext.trans ?_ (by assumption)))))⟩
  rw [hq, Bool.true_and] at M
  rw [hq] at hE
  clear hq
  obtain ⟨a0, a1, e0, e1, h0, h1, o0, o1, r0, r1, s0, s1, g0, g1⟩ := id b
  by_cases c1 : a < 16
  · rw [decide_eq_true c1, Bool.true_and] at M
    by_cases c2 : h < 2147483648
    · rw [decide_eq_true c2, Bool.true_and] at M
      by_cases c3 : g < 16777216
      · rw [decide_eq_true c3, Bool.true_and] at M
        by_cases c4 : k = 1
        · rw [decide_eq_false (by simp [c4]), Bool.false_or] at M
          subst c4
          have E := hide M.symm
          clear M
          go_enter Tryd.func36, Tryd.ntmps36
          go_wp2_with fail
          have hX := fun w' (h : Ext (w.alloc (Obj.cells #[.int .i64 (1), .int .u8 (a), .int .u8 (e), .int .u32 (h), .int .u16 (o), .int .u16 (r), .int .u16 (s), .int .u32 (g)] 57)) w') => h.boxCell
          have hXf := fun w' (h : Ext (w.alloc (Obj.cells #[.int .i64 (1), .int .u8 (a), .int .u8 (e), .int .u32 (h), .int .u16 (o), .int .u16 (r), .int .u16 (s), .int .u32 (g)] 57)) w') => h.boxFree
          have hX0 : Ext w (w.alloc (Obj.cells #[.int .i64 (1), .int .u8 (a), .int .u8 (e), .int .u32 (h), .int .u16 (o), .int .u16 (r), .int .u16 (s), .int .u32 (g)] 57)) := Ext.alloc _ _
          generalize w.alloc (Obj.cells #[.int .i64 (1), .int .u8 (a), .int .u8 (e), .int .u32 (h), .int .u16 (o), .int .u16 (r), .int .u16 (s), .int .u32 (g)] 57) = W0 at *
          have hW := Ext.refl W0
          refine wp_region_ext (by kernel_rfl) (by kernel_rfl) ?_
          repeat
            with_reducible refine wpQuiet_step (fun K hK => ?_)
            go_simp
            first
            | (refine hK _ ?_; clear hK K)
            | (apply Exists.intro
               refine ⟨fun w1 h1 => ?_, hK _ ?_⟩
               (have hW := Ext.trans2 hW (by repeat (first | exact Ext.refl _ | exact Ext.alloc _ _ | exact Ext.drewN _ _ | assumption | refine Ext.trans ?_ (Ext.alloc _ _) | refine Ext.trans ?_ (Ext.drew _) | refine Ext.trans ?_ (by assumption))) h1; (try have hV := Ext.trans2 hV (by repeat (first | exact Ext.refl _ | exact Ext.alloc _ _ | exact Ext.drewN _ _ | assumption | refine Ext.trans ?_ (Ext.alloc _ _) | refine Ext.trans ?_ (Ext.drew _) | refine Ext.trans ?_ (by assumption))) h1); (first | rfl | (go_simp; done) | (go_simp; rfl) | (go_at_call 40; refine (rkept_any _ _ _ _ _ _ _ _ _ b).mono ?_; rintro e w2 ⟨rfl, hb⟩; exact ⟨rfl, h1.trans hb⟩)))
               clear hK K)
          refine wpQuiet_nil (fun w' hw' => ?_)
          have hW := Ext.trans2 hW (by repeat (first | exact Ext.refl _ | exact Ext.alloc _ _ | exact Ext.drewN _ _ | assumption | refine Ext.trans ?_ (Ext.alloc _ _) | refine Ext.trans ?_ (Ext.drew _) | refine Ext.trans ?_ (by assumption))) hw'
          try have hV := Ext.trans2 hV (by repeat (first | exact Ext.refl _ | exact Ext.alloc _ _ | exact Ext.drewN _ _ | assumption | refine Ext.trans ?_ (Ext.alloc _ _) | refine Ext.trans ?_ (Ext.drew _) | refine Ext.trans ?_ (by assumption))) hw'
          clear hw'
          go_wp2
          go_ret
          exact ⟨by rw [← E.out]; rfl, (hX0.trans (hW.trans (by repeat (first | exact Ext.refl _ | exact Ext.alloc _ _ | exact Ext.drewN _ _ | assumption | refine Ext.trans ?_ (Ext.alloc _ _) | refine Ext.trans ?_ (Ext.drew _) | refine Ext.trans ?_ (by assumption)))))⟩
        · rw [decide_eq_true c4, Bool.true_or] at M
          have E := hide M.symm
          clear M
          go_enter Tryd.func36, Tryd.ntmps36
          go_wp2_with fail
          have hX := fun w' (h : Ext (w.alloc (Obj.cells #[.int .i64 (k), .int .u8 (a), .int .u8 (e), .int .u32 (h), .int .u16 (o), .int .u16 (r), .int .u16 (s), .int .u32 (g)] 57)) w') => h.boxCell
          have hXf := fun w' (h : Ext (w.alloc (Obj.cells #[.int .i64 (k), .int .u8 (a), .int .u8 (e), .int .u32 (h), .int .u16 (o), .int .u16 (r), .int .u16 (s), .int .u32 (g)] 57)) w') => h.boxFree
          have hX0 : Ext w (w.alloc (Obj.cells #[.int .i64 (k), .int .u8 (a), .int .u8 (e), .int .u32 (h), .int .u16 (o), .int .u16 (r), .int .u16 (s), .int .u32 (g)] 57)) := Ext.alloc _ _
          generalize w.alloc (Obj.cells #[.int .i64 (k), .int .u8 (a), .int .u8 (e), .int .u32 (h), .int .u16 (o), .int .u16 (r), .int .u16 (s), .int .u32 (g)] 57) = W0 at *
          have hW := Ext.refl W0
          refine wp_region_ext (by kernel_rfl) (by kernel_rfl) ?_
          repeat
            with_reducible refine wpQuiet_step (fun K hK => ?_)
            go_simp
            first
            | (refine hK _ ?_; clear hK K)
            | (apply Exists.intro
               refine ⟨fun w1 h1 => ?_, hK _ ?_⟩
               (have hW := Ext.trans2 hW (by repeat (first | exact Ext.refl _ | exact Ext.alloc _ _ | exact Ext.drewN _ _ | assumption | refine Ext.trans ?_ (Ext.alloc _ _) | refine Ext.trans ?_ (Ext.drew _) | refine Ext.trans ?_ (by assumption))) h1; (try have hV := Ext.trans2 hV (by repeat (first | exact Ext.refl _ | exact Ext.alloc _ _ | exact Ext.drewN _ _ | assumption | refine Ext.trans ?_ (Ext.alloc _ _) | refine Ext.trans ?_ (Ext.drew _) | refine Ext.trans ?_ (by assumption))) h1); (first | rfl | (go_simp; done) | (go_simp; rfl) | (go_at_call 40; refine (rkept_any _ _ _ _ _ _ _ _ _ b).mono ?_; rintro e w2 ⟨rfl, hb⟩; exact ⟨rfl, h1.trans hb⟩)))
               clear hK K)
          refine wpQuiet_nil (fun w' hw' => ?_)
          have hW := Ext.trans2 hW (by repeat (first | exact Ext.refl _ | exact Ext.alloc _ _ | exact Ext.drewN _ _ | assumption | refine Ext.trans ?_ (Ext.alloc _ _) | refine Ext.trans ?_ (Ext.drew _) | refine Ext.trans ?_ (by assumption))) hw'
          try have hV := Ext.trans2 hV (by repeat (first | exact Ext.refl _ | exact Ext.alloc _ _ | exact Ext.drewN _ _ | assumption | refine Ext.trans ?_ (Ext.alloc _ _) | refine Ext.trans ?_ (Ext.drew _) | refine Ext.trans ?_ (by assumption))) hw'
          clear hw'
          go_wp2
          go_ret
          exact ⟨by rw [← E.out]; rfl, (hX0.trans (hW.trans (by repeat (first | exact Ext.refl _ | exact Ext.alloc _ _ | exact Ext.drewN _ _ | assumption | refine Ext.trans ?_ (Ext.alloc _ _) | refine Ext.trans ?_ (Ext.drew _) | refine Ext.trans ?_ (by assumption)))))⟩
      · rw [decide_eq_false c3, Bool.false_and] at M
        have E := hide M.symm
        clear M
        go_enter Tryd.func36, Tryd.ntmps36
        go_wp2_with fail
        have hX := fun w' (h : Ext (w.alloc (Obj.cells #[.int .i64 (k), .int .u8 (a), .int .u8 (e), .int .u32 (h), .int .u16 (o), .int .u16 (r), .int .u16 (s), .int .u32 (g)] 57)) w') => h.boxCell
        have hXf := fun w' (h : Ext (w.alloc (Obj.cells #[.int .i64 (k), .int .u8 (a), .int .u8 (e), .int .u32 (h), .int .u16 (o), .int .u16 (r), .int .u16 (s), .int .u32 (g)] 57)) w') => h.boxFree
        have hX0 : Ext w (w.alloc (Obj.cells #[.int .i64 (k), .int .u8 (a), .int .u8 (e), .int .u32 (h), .int .u16 (o), .int .u16 (r), .int .u16 (s), .int .u32 (g)] 57)) := Ext.alloc _ _
        generalize w.alloc (Obj.cells #[.int .i64 (k), .int .u8 (a), .int .u8 (e), .int .u32 (h), .int .u16 (o), .int .u16 (r), .int .u16 (s), .int .u32 (g)] 57) = W0 at *
        have hW := Ext.refl W0
        refine wp_region_ext (by kernel_rfl) (by kernel_rfl) ?_
        repeat
          with_reducible refine wpQuiet_step (fun K hK => ?_)
          go_simp
          first
          | (refine hK _ ?_; clear hK K)
          | (apply Exists.intro
             refine ⟨fun w1 h1 => ?_, hK _ ?_⟩
             (have hW := Ext.trans2 hW (by repeat (first | exact Ext.refl _ | exact Ext.alloc _ _ | exact Ext.drewN _ _ | assumption | refine Ext.trans ?_ (Ext.alloc _ _) | refine Ext.trans ?_ (Ext.drew _) | refine Ext.trans ?_ (by assumption))) h1; (try have hV := Ext.trans2 hV (by repeat (first | exact Ext.refl _ | exact Ext.alloc _ _ | exact Ext.drewN _ _ | assumption | refine Ext.trans ?_ (Ext.alloc _ _) | refine Ext.trans ?_ (Ext.drew _) | refine Ext.trans ?_ (by assumption))) h1); (first | rfl | (go_simp; done) | (go_simp; rfl) | (go_at_call 40; refine (rkept_any _ _ _ _ _ _ _ _ _ b).mono ?_; rintro e w2 ⟨rfl, hb⟩; exact ⟨rfl, h1.trans hb⟩)))
             clear hK K)
        refine wpQuiet_nil (fun w' hw' => ?_)
        have hW := Ext.trans2 hW (by repeat (first | exact Ext.refl _ | exact Ext.alloc _ _ | exact Ext.drewN _ _ | assumption | refine Ext.trans ?_ (Ext.alloc _ _) | refine Ext.trans ?_ (Ext.drew _) | refine Ext.trans ?_ (by assumption))) hw'
        try have hV := Ext.trans2 hV (by repeat (first | exact Ext.refl _ | exact Ext.alloc _ _ | exact Ext.drewN _ _ | assumption | refine Ext.trans ?_ (Ext.alloc _ _) | refine Ext.trans ?_ (Ext.drew _) | refine Ext.trans ?_ (by assumption))) hw'
        clear hw'
        go_wp2
        go_ret
        exact ⟨by rw [← E.out]; rfl, (hX0.trans (hW.trans (by repeat (first | exact Ext.refl _ | exact Ext.alloc _ _ | exact Ext.drewN _ _ | assumption | refine Ext.trans ?_ (Ext.alloc _ _) | refine Ext.trans ?_ (Ext.drew _) | refine Ext.trans ?_ (by assumption)))))⟩
    · rw [decide_eq_false c2, Bool.false_and] at M
      have E := hide M.symm
      clear M
      go_enter Tryd.func36, Tryd.ntmps36
      go_wp2_with fail
      have hX := fun w' (h : Ext (w.alloc (Obj.cells #[.int .i64 (k), .int .u8 (a), .int .u8 (e), .int .u32 (h), .int .u16 (o), .int .u16 (r), .int .u16 (s), .int .u32 (g)] 57)) w') => h.boxCell
      have hXf := fun w' (h : Ext (w.alloc (Obj.cells #[.int .i64 (k), .int .u8 (a), .int .u8 (e), .int .u32 (h), .int .u16 (o), .int .u16 (r), .int .u16 (s), .int .u32 (g)] 57)) w') => h.boxFree
      have hX0 : Ext w (w.alloc (Obj.cells #[.int .i64 (k), .int .u8 (a), .int .u8 (e), .int .u32 (h), .int .u16 (o), .int .u16 (r), .int .u16 (s), .int .u32 (g)] 57)) := Ext.alloc _ _
      generalize w.alloc (Obj.cells #[.int .i64 (k), .int .u8 (a), .int .u8 (e), .int .u32 (h), .int .u16 (o), .int .u16 (r), .int .u16 (s), .int .u32 (g)] 57) = W0 at *
      have hW := Ext.refl W0
      refine wp_region_ext (by kernel_rfl) (by kernel_rfl) ?_
      repeat
        with_reducible refine wpQuiet_step (fun K hK => ?_)
        go_simp
        first
        | (refine hK _ ?_; clear hK K)
        | (apply Exists.intro
           refine ⟨fun w1 h1 => ?_, hK _ ?_⟩
           (have hW := Ext.trans2 hW (by repeat (first | exact Ext.refl _ | exact Ext.alloc _ _ | exact Ext.drewN _ _ | assumption | refine Ext.trans ?_ (Ext.alloc _ _) | refine Ext.trans ?_ (Ext.drew _) | refine Ext.trans ?_ (by assumption))) h1; (try have hV := Ext.trans2 hV (by repeat (first | exact Ext.refl _ | exact Ext.alloc _ _ | exact Ext.drewN _ _ | assumption | refine Ext.trans ?_ (Ext.alloc _ _) | refine Ext.trans ?_ (Ext.drew _) | refine Ext.trans ?_ (by assumption))) h1); (first | rfl | (go_simp; done) | (go_simp; rfl) | (go_at_call 40; refine (rkept_any _ _ _ _ _ _ _ _ _ b).mono ?_; rintro e w2 ⟨rfl, hb⟩; exact ⟨rfl, h1.trans hb⟩)))
           clear hK K)
      refine wpQuiet_nil (fun w' hw' => ?_)
      have hW := Ext.trans2 hW (by repeat (first | exact Ext.refl _ | exact Ext.alloc _ _ | exact Ext.drewN _ _ | assumption | refine Ext.trans ?_ (Ext.alloc _ _) | refine Ext.trans ?_ (Ext.drew _) | refine Ext.trans ?_ (by assumption))) hw'
      try have hV := Ext.trans2 hV (by repeat (first | exact Ext.refl _ | exact Ext.alloc _ _ | exact Ext.drewN _ _ | assumption | refine Ext.trans ?_ (Ext.alloc _ _) | refine Ext.trans ?_ (Ext.drew _) | refine Ext.trans ?_ (by assumption))) hw'
      clear hw'
      go_wp2
      go_ret
      exact ⟨by rw [← E.out]; rfl, (hX0.trans (hW.trans (by repeat (first | exact Ext.refl _ | exact Ext.alloc _ _ | exact Ext.drewN _ _ | assumption | refine Ext.trans ?_ (Ext.alloc _ _) | refine Ext.trans ?_ (Ext.drew _) | refine Ext.trans ?_ (by assumption)))))⟩
  · rw [decide_eq_false c1, Bool.false_and] at M
    have E := hide M.symm
    clear M
    go_enter Tryd.func36, Tryd.ntmps36
    go_wp2_with fail
    have hX := fun w' (h : Ext (w.alloc (Obj.cells #[.int .i64 (k), .int .u8 (a), .int .u8 (e), .int .u32 (h), .int .u16 (o), .int .u16 (r), .int .u16 (s), .int .u32 (g)] 57)) w') => h.boxCell
    have hXf := fun w' (h : Ext (w.alloc (Obj.cells #[.int .i64 (k), .int .u8 (a), .int .u8 (e), .int .u32 (h), .int .u16 (o), .int .u16 (r), .int .u16 (s), .int .u32 (g)] 57)) w') => h.boxFree
    have hX0 : Ext w (w.alloc (Obj.cells #[.int .i64 (k), .int .u8 (a), .int .u8 (e), .int .u32 (h), .int .u16 (o), .int .u16 (r), .int .u16 (s), .int .u32 (g)] 57)) := Ext.alloc _ _
    generalize w.alloc (Obj.cells #[.int .i64 (k), .int .u8 (a), .int .u8 (e), .int .u32 (h), .int .u16 (o), .int .u16 (r), .int .u16 (s), .int .u32 (g)] 57) = W0 at *
    have hW := Ext.refl W0
    refine wp_region_ext (by kernel_rfl) (by kernel_rfl) ?_
    repeat
      with_reducible refine wpQuiet_step (fun K hK => ?_)
      go_simp
      first
      | (refine hK _ ?_; clear hK K)
      | (apply Exists.intro
         refine ⟨fun w1 h1 => ?_, hK _ ?_⟩
         (have hW := Ext.trans2 hW (by repeat (first | exact Ext.refl _ | exact Ext.alloc _ _ | exact Ext.drewN _ _ | assumption | refine Ext.trans ?_ (Ext.alloc _ _) | refine Ext.trans ?_ (Ext.drew _) | refine Ext.trans ?_ (by assumption))) h1; (try have hV := Ext.trans2 hV (by repeat (first | exact Ext.refl _ | exact Ext.alloc _ _ | exact Ext.drewN _ _ | assumption | refine Ext.trans ?_ (Ext.alloc _ _) | refine Ext.trans ?_ (Ext.drew _) | refine Ext.trans ?_ (by assumption))) h1); (first | rfl | (go_simp; done) | (go_simp; rfl) | (go_at_call 40; refine (rkept_any _ _ _ _ _ _ _ _ _ b).mono ?_; rintro e w2 ⟨rfl, hb⟩; exact ⟨rfl, h1.trans hb⟩)))
         clear hK K)
    refine wpQuiet_nil (fun w' hw' => ?_)
    have hW := Ext.trans2 hW (by repeat (first | exact Ext.refl _ | exact Ext.alloc _ _ | exact Ext.drewN _ _ | assumption | refine Ext.trans ?_ (Ext.alloc _ _) | refine Ext.trans ?_ (Ext.drew _) | refine Ext.trans ?_ (by assumption))) hw'
    try have hV := Ext.trans2 hV (by repeat (first | exact Ext.refl _ | exact Ext.alloc _ _ | exact Ext.drewN _ _ | assumption | refine Ext.trans ?_ (Ext.alloc _ _) | refine Ext.trans ?_ (Ext.drew _) | refine Ext.trans ?_ (by assumption))) hw'
    clear hw'
    go_wp2
    go_ret
    exact ⟨by rw [← E.out]; rfl, (hX0.trans (hW.trans (by repeat (first | exact Ext.refl _ | exact Ext.alloc _ _ | exact Ext.drewN _ _ | assumption | refine Ext.trans ?_ (Ext.alloc _ _) | refine Ext.trans ?_ (Ext.drew _) | refine Ext.trans ?_ (by assumption)))))⟩
end Go.Proofs.YtecopjehmpjniaaDoor
