/- What the reference's Code, Read and Older answer. -/
import Derived.Test.YtecopjehmpjniaaDoorP4
namespace Go.Proofs.YtecopjehmpjniaaDoor
open Go.RowKit
set_option linter.unusedSimpArgs false
set_option linter.unusedVariables false



set_option maxHeartbeats 2000000 in
theorem rcode_any (k a e h o r s g : Int) (w : World) (b : OkH k a e h o r s g) :
    Calls Tryd.prog 23 #[Value.agg #[.int .i64 (k), .int .u8 (a), .int .u8 (e), .int .u32 (h), .int .u16 (o), .int .u16 (r), .int .u16 (s), .int .u32 (g)]] w fun x w' => x = .returned (.tuple #[.int .u64 (codeW k a e h o r s g), .int .i64 (codeE k a e h o r s g)]) ∧ Ext w w' := by
  cases hm : hMayB k a e h o r s g
  · have e1 : codeW k a e h o r s g = 0 := by unfold codeW; rw [hm]; rfl
    have e2 : codeE k a e h o r s g = 1 := by unfold codeE; rw [hm]; rfl
    rw [e1, e2]
    clear e1 e2
    go_enter Tryd.func23, Tryd.ntmps23
    go_wp2_with fail
    have hX := fun w' (h : Ext (w.alloc (Obj.cells #[.int .i64 (k), .int .u8 (a), .int .u8 (e), .int .u32 (h), .int .u16 (o), .int .u16 (r), .int .u16 (s), .int .u32 (g)] 57)) w') => h.boxCell
    have hXf := fun w' (h : Ext (w.alloc (Obj.cells #[.int .i64 (k), .int .u8 (a), .int .u8 (e), .int .u32 (h), .int .u16 (o), .int .u16 (r), .int .u16 (s), .int .u32 (g)] 57)) w') => h.boxFree
    have hX0 : Ext w (w.alloc (Obj.cells #[.int .i64 (k), .int .u8 (a), .int .u8 (e), .int .u32 (h), .int .u16 (o), .int .u16 (r), .int .u16 (s), .int .u32 (g)] 57)) := Ext.alloc _ _
    generalize w.alloc (Obj.cells #[.int .i64 (k), .int .u8 (a), .int .u8 (e), .int .u32 (h), .int .u16 (o), .int .u16 (r), .int .u16 (s), .int .u32 (g)] 57) = W0 at *
    have hW := Ext.refl W0
    go_wp2_with (go_at_call 36; (with_reducible refine (rmay_any _ _ _ _ _ _ _ _ _ b).mono ?_); rintro e w' ⟨rfl, hb⟩; have hW := Ext.trans2 hW (by repeat (first | exact Ext.refl _ | exact Ext.alloc _ _ | exact Ext.drewN _ _ | assumption | refine Ext.trans ?_ (Ext.alloc _ _) | refine Ext.trans ?_ (Ext.drew _) | refine Ext.trans ?_ (by assumption))) hb; (try have hV := Ext.trans2 hV (by repeat (first | exact Ext.refl _ | exact Ext.alloc _ _ | exact Ext.drewN _ _ | assumption | refine Ext.trans ?_ (Ext.alloc _ _) | refine Ext.trans ?_ (Ext.drew _) | refine Ext.trans ?_ (by assumption))) hb); clear hb)
    go_ret2
    exact ⟨by simp, (hX0.trans (hW.trans (by repeat (first | exact Ext.refl _ | exact Ext.alloc _ _ | exact Ext.drewN _ _ | assumption | refine Ext.trans ?_ (Ext.alloc _ _) | refine Ext.trans ?_ (Ext.drew _) | refine Ext.trans ?_ (by assumption)))))⟩
  · have e1 : codeW k a e h o r s g = pI k a h o r s g e := by unfold codeW; rw [hm]; rfl
    have e2 : codeE k a e h o r s g = 0 := by unfold codeE; rw [hm]; rfl
    rw [e1, e2]
    clear e1 e2
    have hc : hMay k a e h o r s g := of_decide_eq_true hm
    unfold hMay at hc
    have b2 := b
    obtain ⟨a0, a1, e0, e1, h0, h1, o0, o1, r0, r1, s0, s1, g0, g1⟩ := b2
    rcases hc with ⟨rfl, rfl, rfl, rfl, rfl, rfl, c⟩ | ⟨rfl, rfl, rfl, rfl, rfl, rfl, c, c2⟩ | ⟨rfl, rfl, rfl, rfl, rfl, rfl, c⟩ | ⟨rfl, rfl, rfl, rfl, rfl, c⟩ | ⟨rfl, rfl, rfl, rfl, rfl, rfl, rfl, rfl⟩
    · have E : Hid (256 * r + 16777216 * o = pI 1 0 0 o r 0 0 0) := by unfold Hid pI; simp; omega
      go_enter Tryd.func23, Tryd.ntmps23
      go_wp2_with fail
      have hX := fun w' (h : Ext (w.alloc (Obj.cells #[.int .i64 (1), .int .u8 (0), .int .u8 (0), .int .u32 (0), .int .u16 (o), .int .u16 (r), .int .u16 (0), .int .u32 (0)] 57)) w') => h.boxCell
      have hXf := fun w' (h : Ext (w.alloc (Obj.cells #[.int .i64 (1), .int .u8 (0), .int .u8 (0), .int .u32 (0), .int .u16 (o), .int .u16 (r), .int .u16 (0), .int .u32 (0)] 57)) w') => h.boxFree
      have hX0 : Ext w (w.alloc (Obj.cells #[.int .i64 (1), .int .u8 (0), .int .u8 (0), .int .u32 (0), .int .u16 (o), .int .u16 (r), .int .u16 (0), .int .u32 (0)] 57)) := Ext.alloc _ _
      generalize w.alloc (Obj.cells #[.int .i64 (1), .int .u8 (0), .int .u8 (0), .int .u32 (0), .int .u16 (o), .int .u16 (r), .int .u16 (0), .int .u32 (0)] 57) = W0 at *
      have hW := Ext.refl W0
      go_wp2_with ((go_at_call 36; (with_reducible refine (rmay_any _ _ _ _ _ _ _ _ _ b).mono ?_); rintro e w' ⟨rfl, hb⟩; have hW := Ext.trans2 hW (by repeat (first | exact Ext.refl _ | exact Ext.alloc _ _ | exact Ext.drewN _ _ | assumption | refine Ext.trans ?_ (Ext.alloc _ _) | refine Ext.trans ?_ (Ext.drew _) | refine Ext.trans ?_ (by assumption))) hb; (try have hV := Ext.trans2 hV (by repeat (first | exact Ext.refl _ | exact Ext.alloc _ _ | exact Ext.drewN _ _ | assumption | refine Ext.trans ?_ (Ext.alloc _ _) | refine Ext.trans ?_ (Ext.drew _) | refine Ext.trans ?_ (by assumption))) hb); clear hb); have hWA := fun o => hW.trans (Ext.alloc _ o))
      go_ret2
      exact ⟨by rw [← E.out]; rfl, (hX0.trans (hW.trans (by repeat (first | exact Ext.refl _ | exact Ext.alloc _ _ | exact Ext.drewN _ _ | assumption | refine Ext.trans ?_ (Ext.alloc _ _) | refine Ext.trans ?_ (Ext.drew _) | refine Ext.trans ?_ (by assumption)))))⟩
    · have E : Hid (1 + 8 * a + 256 * h = pI 2 a h 0 0 0 0 0) := by unfold Hid pI; simp; omega
      go_enter Tryd.func23, Tryd.ntmps23
      go_wp2_with fail
      have hX := fun w' (h : Ext (w.alloc (Obj.cells #[.int .i64 (2), .int .u8 (a), .int .u8 (0), .int .u32 (h), .int .u16 (0), .int .u16 (0), .int .u16 (0), .int .u32 (0)] 57)) w') => h.boxCell
      have hXf := fun w' (h : Ext (w.alloc (Obj.cells #[.int .i64 (2), .int .u8 (a), .int .u8 (0), .int .u32 (h), .int .u16 (0), .int .u16 (0), .int .u16 (0), .int .u32 (0)] 57)) w') => h.boxFree
      have hX0 : Ext w (w.alloc (Obj.cells #[.int .i64 (2), .int .u8 (a), .int .u8 (0), .int .u32 (h), .int .u16 (0), .int .u16 (0), .int .u16 (0), .int .u32 (0)] 57)) := Ext.alloc _ _
      generalize w.alloc (Obj.cells #[.int .i64 (2), .int .u8 (a), .int .u8 (0), .int .u32 (h), .int .u16 (0), .int .u16 (0), .int .u16 (0), .int .u32 (0)] 57) = W0 at *
      have hW := Ext.refl W0
      go_wp2_with ((go_at_call 36; (with_reducible refine (rmay_any _ _ _ _ _ _ _ _ _ b).mono ?_); rintro e w' ⟨rfl, hb⟩; have hW := Ext.trans2 hW (by repeat (first | exact Ext.refl _ | exact Ext.alloc _ _ | exact Ext.drewN _ _ | assumption | refine Ext.trans ?_ (Ext.alloc _ _) | refine Ext.trans ?_ (Ext.drew _) | refine Ext.trans ?_ (by assumption))) hb; (try have hV := Ext.trans2 hV (by repeat (first | exact Ext.refl _ | exact Ext.alloc _ _ | exact Ext.drewN _ _ | assumption | refine Ext.trans ?_ (Ext.alloc _ _) | refine Ext.trans ?_ (Ext.drew _) | refine Ext.trans ?_ (by assumption))) hb); clear hb); have hWA := fun o => hW.trans (Ext.alloc _ o))
      go_ret2
      exact ⟨by rw [← E.out]; rfl, (hX0.trans (hW.trans (by repeat (first | exact Ext.refl _ | exact Ext.alloc _ _ | exact Ext.drewN _ _ | assumption | refine Ext.trans ?_ (Ext.alloc _ _) | refine Ext.trans ?_ (Ext.drew _) | refine Ext.trans ?_ (by assumption)))))⟩
    · have E : Hid (2 + 256 * s + 16777216 * g = pI 3 0 0 0 0 s g 0) := by unfold Hid pI; simp; omega
      go_enter Tryd.func23, Tryd.ntmps23
      go_wp2_with fail
      have hX := fun w' (h : Ext (w.alloc (Obj.cells #[.int .i64 (3), .int .u8 (0), .int .u8 (0), .int .u32 (0), .int .u16 (0), .int .u16 (0), .int .u16 (s), .int .u32 (g)] 57)) w') => h.boxCell
      have hXf := fun w' (h : Ext (w.alloc (Obj.cells #[.int .i64 (3), .int .u8 (0), .int .u8 (0), .int .u32 (0), .int .u16 (0), .int .u16 (0), .int .u16 (s), .int .u32 (g)] 57)) w') => h.boxFree
      have hX0 : Ext w (w.alloc (Obj.cells #[.int .i64 (3), .int .u8 (0), .int .u8 (0), .int .u32 (0), .int .u16 (0), .int .u16 (0), .int .u16 (s), .int .u32 (g)] 57)) := Ext.alloc _ _
      generalize w.alloc (Obj.cells #[.int .i64 (3), .int .u8 (0), .int .u8 (0), .int .u32 (0), .int .u16 (0), .int .u16 (0), .int .u16 (s), .int .u32 (g)] 57) = W0 at *
      have hW := Ext.refl W0
      go_wp2_with ((go_at_call 36; (with_reducible refine (rmay_any _ _ _ _ _ _ _ _ _ b).mono ?_); rintro e w' ⟨rfl, hb⟩; have hW := Ext.trans2 hW (by repeat (first | exact Ext.refl _ | exact Ext.alloc _ _ | exact Ext.drewN _ _ | assumption | refine Ext.trans ?_ (Ext.alloc _ _) | refine Ext.trans ?_ (Ext.drew _) | refine Ext.trans ?_ (by assumption))) hb; (try have hV := Ext.trans2 hV (by repeat (first | exact Ext.refl _ | exact Ext.alloc _ _ | exact Ext.drewN _ _ | assumption | refine Ext.trans ?_ (Ext.alloc _ _) | refine Ext.trans ?_ (Ext.drew _) | refine Ext.trans ?_ (by assumption))) hb); clear hb); have hWA := fun o => hW.trans (Ext.alloc _ o))
      go_ret2
      exact ⟨by rw [← E.out]; rfl, (hX0.trans (hW.trans (by repeat (first | exact Ext.refl _ | exact Ext.alloc _ _ | exact Ext.drewN _ _ | assumption | refine Ext.trans ?_ (Ext.alloc _ _) | refine Ext.trans ?_ (Ext.drew _) | refine Ext.trans ?_ (by assumption)))))⟩
    · have E : Hid (5 + 8 * a + 256 * e + 16777216 * o = pI 4 a 0 o 0 0 0 e) := by unfold Hid pI; simp; omega
      go_enter Tryd.func23, Tryd.ntmps23
      go_wp2_with fail
      have hX := fun w' (h : Ext (w.alloc (Obj.cells #[.int .i64 (4), .int .u8 (a), .int .u8 (e), .int .u32 (0), .int .u16 (o), .int .u16 (0), .int .u16 (0), .int .u32 (0)] 57)) w') => h.boxCell
      have hXf := fun w' (h : Ext (w.alloc (Obj.cells #[.int .i64 (4), .int .u8 (a), .int .u8 (e), .int .u32 (0), .int .u16 (o), .int .u16 (0), .int .u16 (0), .int .u32 (0)] 57)) w') => h.boxFree
      have hX0 : Ext w (w.alloc (Obj.cells #[.int .i64 (4), .int .u8 (a), .int .u8 (e), .int .u32 (0), .int .u16 (o), .int .u16 (0), .int .u16 (0), .int .u32 (0)] 57)) := Ext.alloc _ _
      generalize w.alloc (Obj.cells #[.int .i64 (4), .int .u8 (a), .int .u8 (e), .int .u32 (0), .int .u16 (o), .int .u16 (0), .int .u16 (0), .int .u32 (0)] 57) = W0 at *
      have hW := Ext.refl W0
      go_wp2_with ((go_at_call 36; (with_reducible refine (rmay_any _ _ _ _ _ _ _ _ _ b).mono ?_); rintro e w' ⟨rfl, hb⟩; have hW := Ext.trans2 hW (by repeat (first | exact Ext.refl _ | exact Ext.alloc _ _ | exact Ext.drewN _ _ | assumption | refine Ext.trans ?_ (Ext.alloc _ _) | refine Ext.trans ?_ (Ext.drew _) | refine Ext.trans ?_ (by assumption))) hb; (try have hV := Ext.trans2 hV (by repeat (first | exact Ext.refl _ | exact Ext.alloc _ _ | exact Ext.drewN _ _ | assumption | refine Ext.trans ?_ (Ext.alloc _ _) | refine Ext.trans ?_ (Ext.drew _) | refine Ext.trans ?_ (by assumption))) hb); clear hb); have hWA := fun o => hW.trans (Ext.alloc _ o))
      go_ret2
      exact ⟨by rw [← E.out]; rfl, (hX0.trans (hW.trans (by repeat (first | exact Ext.refl _ | exact Ext.alloc _ _ | exact Ext.drewN _ _ | assumption | refine Ext.trans ?_ (Ext.alloc _ _) | refine Ext.trans ?_ (Ext.drew _) | refine Ext.trans ?_ (by assumption)))))⟩
    · have E := hide (show 0 = pI 5 0 0 0 0 0 0 0 by decide)
      go_enter Tryd.func23, Tryd.ntmps23
      go_wp2_with fail
      have hX := fun w' (h : Ext (w.alloc (Obj.cells #[.int .i64 (5), .int .u8 (0), .int .u8 (0), .int .u32 (0), .int .u16 (0), .int .u16 (0), .int .u16 (0), .int .u32 (0)] 57)) w') => h.boxCell
      have hXf := fun w' (h : Ext (w.alloc (Obj.cells #[.int .i64 (5), .int .u8 (0), .int .u8 (0), .int .u32 (0), .int .u16 (0), .int .u16 (0), .int .u16 (0), .int .u32 (0)] 57)) w') => h.boxFree
      have hX0 : Ext w (w.alloc (Obj.cells #[.int .i64 (5), .int .u8 (0), .int .u8 (0), .int .u32 (0), .int .u16 (0), .int .u16 (0), .int .u16 (0), .int .u32 (0)] 57)) := Ext.alloc _ _
      generalize w.alloc (Obj.cells #[.int .i64 (5), .int .u8 (0), .int .u8 (0), .int .u32 (0), .int .u16 (0), .int .u16 (0), .int .u16 (0), .int .u32 (0)] 57) = W0 at *
      have hW := Ext.refl W0
      go_wp2_with ((go_at_call 36; (with_reducible refine (rmay_any _ _ _ _ _ _ _ _ _ b).mono ?_); rintro e w' ⟨rfl, hb⟩; have hW := Ext.trans2 hW (by repeat (first | exact Ext.refl _ | exact Ext.alloc _ _ | exact Ext.drewN _ _ | assumption | refine Ext.trans ?_ (Ext.alloc _ _) | refine Ext.trans ?_ (Ext.drew _) | refine Ext.trans ?_ (by assumption))) hb; (try have hV := Ext.trans2 hV (by repeat (first | exact Ext.refl _ | exact Ext.alloc _ _ | exact Ext.drewN _ _ | assumption | refine Ext.trans ?_ (Ext.alloc _ _) | refine Ext.trans ?_ (Ext.drew _) | refine Ext.trans ?_ (by assumption))) hb); clear hb); have hWA := fun o => hW.trans (Ext.alloc _ o))
      go_ret2
      exact ⟨by rw [← E.out]; rfl, (hX0.trans (hW.trans (by repeat (first | exact Ext.refl _ | exact Ext.alloc _ _ | exact Ext.drewN _ _ | assumption | refine Ext.trans ?_ (Ext.alloc _ _) | refine Ext.trans ?_ (Ext.drew _) | refine Ext.trans ?_ (by assumption)))))⟩

theorem u_may {v : Int} (hv : InW v) (h : ¬ uK v = 0) : hMayB (uK v) (uA v) (uE v) (uH v) (uO v) (uR v) (uS v) (uG v) = true := by
  have hv1 := hv.1
  refine decide_eq_true ?_
  unfold hMay
  by_cases h0 : v = 0
  · subst h0; simp [uK, uA, uE, uH, uO, uR, uS, uG]
  by_cases t0 : v % 8 = 0
  · by_cases q : v / 16777216 % 65536 = 0
    · simp [uK, h0, t0, q] at h
    · simp [uK, uA, uE, uH, uO, uR, uS, uG, h0, t0, q]; omega
  by_cases t1 : v % 8 = 1
  · simp [uK, uA, uE, uH, uO, uR, uS, uG, h0, t1]; omega
  by_cases t2 : v % 8 = 2
  · simp [uK, uA, uE, uH, uO, uR, uS, uG, h0, t2]; omega
  by_cases t5 : v % 8 = 5
  · simp [uK, uA, uE, uH, uO, uR, uS, uG, h0, t5]; omega
  · simp [uK, h0, t0, t1, t2, t5] at h

theorem code_u {v : Int} (hv : InW v) (h : ¬ uK v = 0) : codeE (uK v) (uA v) (uE v) (uH v) (uO v) (uR v) (uS v) (uG v) = 0 ∧ codeW (uK v) (uA v) (uE v) (uH v) (uO v) (uR v) (uS v) (uG v) = pI (uK v) (uA v) (uH v) (uO v) (uR v) (uS v) (uG v) (uE v) := by
  unfold codeE codeW
  rw [u_may hv h]
  exact ⟨rfl, rfl⟩
theorem agg_inj {k a e h o r s g k' a' e' h' o' r' s' g' : Int} (H : Value.agg #[.int .i64 (k), .int .u8 (a), .int .u8 (e), .int .u32 (h), .int .u16 (o), .int .u16 (r), .int .u16 (s), .int .u32 (g)] = Value.agg #[.int .i64 (k'), .int .u8 (a'), .int .u8 (e'), .int .u32 (h'), .int .u16 (o'), .int .u16 (r'), .int .u16 (s'), .int .u32 (g')]) : k = k' ∧ a = a' ∧ e = e' ∧ h = h' ∧ o = o' ∧ r = r' ∧ s = s' ∧ g = g' := by simpa using H

theorem q_eq {v : Int} (hv : InW v) (a b c : Int) (ha : 0 < a) (hb : 0 < b) (hc : b ≤ c) (hb2 : b ≤ 18446744073709551616) : (IntKind.u64.wrap (v.tdiv a)).tmod b % c = v / a % b := by
  obtain ⟨h0, h1⟩ := hv
  unfold two64 at h1
  have e1 : v.tdiv a = v / a := Int.tdiv_eq_ediv_of_nonneg h0
  have p0 : 0 ≤ v / a := Int.ediv_nonneg h0 (by omega)
  have p1 : v / a ≤ v := Int.ediv_le_self _ h0
  rw [e1, w_in p0 (by omega), Int.tmod_eq_emod_of_nonneg p0]
  have m0 := Int.emod_nonneg (v / a) (show b ≠ 0 by omega)
  have m1 := Int.emod_lt_of_pos (v / a) hb
  exact Int.emod_eq_of_lt m0 (by omega)

theorem uK_at {v t : Int} (ht : v % 8 = t) (h : t = 1 ∨ t = 2 ∨ t = 5) : ¬ uK v = 0 := by
  have : ¬ v = 0 := by omega
  rcases h with rfl | rfl | rfl <;> simp [uK, this, ht]
set_option maxHeartbeats 1000000 in
theorem rread_t_yes (v : Int) (w : World) (hv : InW v) (h0 : ¬ v = 0) (ht : v % 8 = 0) (ho : ¬ v / 16777216 % 65536 = 0) (hg : gW v) :
    Calls Tryd.prog 18 #[.int .u64 v] w fun x w' => x = .returned (.tuple #[Value.agg #[.int .i64 (uK (v)), .int .u8 (uA (v)), .int .u8 (uE (v)), .int .u32 (uH (v)), .int .u16 (uO (v)), .int .u16 (uR (v)), .int .u16 (uS (v)), .int .u32 (uG (v))], .int .i64 0]) ∧ Ext w w' := by
  have hv0 := hv.1
  have U := u_t h0 ht ho
  obtain ⟨e1, e2, e3, e4, e5, e6, e7, e8⟩ := agg_inj U
  obtain ⟨c1, c2⟩ := code_u hv (gW_kind hg)
  have b := u_ok hv
  have h0 : ¬ v = 0 := h0
  have c2 := c2.trans hg
  rw [← U]
  rw [← e1, ← e2, ← e3, ← e4, ← e5, ← e6, ← e7, ← e8] at c1 c2 b
  clear e1 e2 e3 e4 e5 e6 e7 e8 U
  have qr : IntKind.u16.wrap ((IntKind.u64.wrap (v.tdiv 256)).tmod 65536) = v / 256 % 65536 := (IntKind.wrap_u16 _).trans (q_eq hv 256 65536 65536 (by decide) (by decide) (by decide) (by decide))
  have qo : IntKind.u16.wrap ((IntKind.u64.wrap (v.tdiv 16777216)).tmod 65536) = v / 16777216 % 65536 := (IntKind.wrap_u16 _).trans (q_eq hv 16777216 65536 65536 (by decide) (by decide) (by decide) (by decide))
  go_enter Tryd.func18, Tryd.ntmps18
  go_wp2_with fail
  have hY := fun w' (h : Ext ((w.alloc (Obj.cells #[.int .i64 (0), .int .u8 (0), .int .u8 (0), .int .u32 (0), .int .u16 (0), .int .u16 (0), .int .u16 (0), .int .u32 (0)] 57)).alloc (Obj.cells #[.int .i64 (1), .int .u8 (0), .int .u8 (0), .int .u32 (0), .int .u16 ((v / 16777216 % 65536)), .int .u16 ((v / 256 % 65536)), .int .u16 (0), .int .u32 (0)] 57)) w') => h.boxCell
  have hYf := fun w' (h : Ext ((w.alloc (Obj.cells #[.int .i64 (0), .int .u8 (0), .int .u8 (0), .int .u32 (0), .int .u16 (0), .int .u16 (0), .int .u16 (0), .int .u32 (0)] 57)).alloc (Obj.cells #[.int .i64 (1), .int .u8 (0), .int .u8 (0), .int .u32 (0), .int .u16 ((v / 16777216 % 65536)), .int .u16 ((v / 256 % 65536)), .int .u16 (0), .int .u32 (0)] 57)) w') => h.boxFree
  simp only [World.size_alloc] at hY hYf
  have hX := fun w' (h : Ext ((w.alloc (Obj.cells #[.int .i64 (0), .int .u8 (0), .int .u8 (0), .int .u32 (0), .int .u16 (0), .int .u16 (0), .int .u16 (0), .int .u32 (0)] 57)).alloc (Obj.cells #[.int .i64 (1), .int .u8 (0), .int .u8 (0), .int .u32 (0), .int .u16 ((v / 16777216 % 65536)), .int .u16 ((v / 256 % 65536)), .int .u16 (0), .int .u32 (0)] 57)) w') => ((Ext.alloc (w.alloc (Obj.cells #[.int .i64 (0), .int .u8 (0), .int .u8 (0), .int .u32 (0), .int .u16 (0), .int .u16 (0), .int .u16 (0), .int .u32 (0)] 57)) (Obj.cells #[.int .i64 (1), .int .u8 (0), .int .u8 (0), .int .u32 (0), .int .u16 ((v / 16777216 % 65536)), .int .u16 ((v / 256 % 65536)), .int .u16 (0), .int .u32 (0)] 57)).trans h).boxCell
  have hXf := fun w' (h : Ext ((w.alloc (Obj.cells #[.int .i64 (0), .int .u8 (0), .int .u8 (0), .int .u32 (0), .int .u16 (0), .int .u16 (0), .int .u16 (0), .int .u32 (0)] 57)).alloc (Obj.cells #[.int .i64 (1), .int .u8 (0), .int .u8 (0), .int .u32 (0), .int .u16 ((v / 16777216 % 65536)), .int .u16 ((v / 256 % 65536)), .int .u16 (0), .int .u32 (0)] 57)) w') => ((Ext.alloc (w.alloc (Obj.cells #[.int .i64 (0), .int .u8 (0), .int .u8 (0), .int .u32 (0), .int .u16 (0), .int .u16 (0), .int .u16 (0), .int .u32 (0)] 57)) (Obj.cells #[.int .i64 (1), .int .u8 (0), .int .u8 (0), .int .u32 (0), .int .u16 ((v / 16777216 % 65536)), .int .u16 ((v / 256 % 65536)), .int .u16 (0), .int .u32 (0)] 57)).trans h).boxFree
  have hX0 : Ext w ((w.alloc (Obj.cells #[.int .i64 (0), .int .u8 (0), .int .u8 (0), .int .u32 (0), .int .u16 (0), .int .u16 (0), .int .u16 (0), .int .u32 (0)] 57)).alloc (Obj.cells #[.int .i64 (1), .int .u8 (0), .int .u8 (0), .int .u32 (0), .int .u16 ((v / 16777216 % 65536)), .int .u16 ((v / 256 % 65536)), .int .u16 (0), .int .u32 (0)] 57)) := (Ext.alloc _ _).trans (Ext.alloc _ _)
  generalize (w.alloc (Obj.cells #[.int .i64 (0), .int .u8 (0), .int .u8 (0), .int .u32 (0), .int .u16 (0), .int .u16 (0), .int .u16 (0), .int .u32 (0)] 57)).alloc (Obj.cells #[.int .i64 (1), .int .u8 (0), .int .u8 (0), .int .u32 (0), .int .u16 ((v / 16777216 % 65536)), .int .u16 ((v / 256 % 65536)), .int .u16 (0), .int .u32 (0)] 57) = W0 at *
  have hW := Ext.refl W0
  go_wp2_with (go_at_call 23; (with_reducible refine (rcode_any _ _ _ _ _ _ _ _ _ b).mono ?_); rintro e w' ⟨rfl, hb⟩; have hW := Ext.trans2 hW (by repeat (first | exact Ext.refl _ | exact Ext.alloc _ _ | exact Ext.drewN _ _ | assumption | refine Ext.trans ?_ (Ext.alloc _ _) | refine Ext.trans ?_ (Ext.drew _) | refine Ext.trans ?_ (by assumption))) hb; (try have hV := Ext.trans2 hV (by repeat (first | exact Ext.refl _ | exact Ext.alloc _ _ | exact Ext.drewN _ _ | assumption | refine Ext.trans ?_ (Ext.alloc _ _) | refine Ext.trans ?_ (Ext.drew _) | refine Ext.trans ?_ (by assumption))) hb); clear hb)
  refine bodyPost_ret (v := .tuple #[Value.agg #[.int .i64 (1), .int .u8 (0), .int .u8 (0), .int .u32 (0), .int .u16 ((v / 16777216 % 65536)), .int .u16 ((v / 256 % 65536)), .int .u16 (0), .int .u32 (0)], .int .i64 0]) (by simp [results, Tryd.results18, go_sem, *]) rfl ⟨rfl, ?_⟩
  ((repeat (with_reducible refine Ext.set ?_ (by simp) _)); exact (hX0.trans (hW.trans (by repeat (first | exact Ext.refl _ | exact Ext.alloc _ _ | exact Ext.drewN _ _ | assumption | refine Ext.trans ?_ (Ext.alloc _ _) | refine Ext.trans ?_ (Ext.drew _) | refine Ext.trans ?_ (by assumption))))))
set_option maxHeartbeats 1000000 in
theorem rread_t_no (v : Int) (w : World) (hv : InW v) (h0 : ¬ v = 0) (ht : v % 8 = 0) (ho : ¬ v / 16777216 % 65536 = 0) (hg : ¬ gW v) :
    Calls Tryd.prog 18 #[.int .u64 v] w fun x w' => x = .returned (.tuple #[Value.agg #[.int .i64 (0), .int .u8 (0), .int .u8 (0), .int .u32 (0), .int .u16 (0), .int .u16 (0), .int .u16 (0), .int .u32 (0)], .int .i64 3]) ∧ Ext w w' := by
  have hv0 := hv.1
  have U := u_t h0 ht ho
  obtain ⟨e1, e2, e3, e4, e5, e6, e7, e8⟩ := agg_inj U
  obtain ⟨c1, c2⟩ := code_u hv (by simp [uK, h0, ht, ho])
  have b := u_ok hv
  have h0 : ¬ v = 0 := h0
  have c2 : (codeW (uK v) (uA v) (uE v) (uH v) (uO v) (uR v) (uS v) (uG v) != v) = true := by rw [c2]; simpa [gW] using hg
  rw [← e1, ← e2, ← e3, ← e4, ← e5, ← e6, ← e7, ← e8] at c1 c2 b
  clear e1 e2 e3 e4 e5 e6 e7 e8 U
  have qr : IntKind.u16.wrap ((IntKind.u64.wrap (v.tdiv 256)).tmod 65536) = v / 256 % 65536 := (IntKind.wrap_u16 _).trans (q_eq hv 256 65536 65536 (by decide) (by decide) (by decide) (by decide))
  have qo : IntKind.u16.wrap ((IntKind.u64.wrap (v.tdiv 16777216)).tmod 65536) = v / 16777216 % 65536 := (IntKind.wrap_u16 _).trans (q_eq hv 16777216 65536 65536 (by decide) (by decide) (by decide) (by decide))
  go_enter Tryd.func18, Tryd.ntmps18
  go_wp2_with fail
  have hY := fun w' (h : Ext ((w.alloc (Obj.cells #[.int .i64 (0), .int .u8 (0), .int .u8 (0), .int .u32 (0), .int .u16 (0), .int .u16 (0), .int .u16 (0), .int .u32 (0)] 57)).alloc (Obj.cells #[.int .i64 (1), .int .u8 (0), .int .u8 (0), .int .u32 (0), .int .u16 ((v / 16777216 % 65536)), .int .u16 ((v / 256 % 65536)), .int .u16 (0), .int .u32 (0)] 57)) w') => h.boxCell
  have hYf := fun w' (h : Ext ((w.alloc (Obj.cells #[.int .i64 (0), .int .u8 (0), .int .u8 (0), .int .u32 (0), .int .u16 (0), .int .u16 (0), .int .u16 (0), .int .u32 (0)] 57)).alloc (Obj.cells #[.int .i64 (1), .int .u8 (0), .int .u8 (0), .int .u32 (0), .int .u16 ((v / 16777216 % 65536)), .int .u16 ((v / 256 % 65536)), .int .u16 (0), .int .u32 (0)] 57)) w') => h.boxFree
  simp only [World.size_alloc] at hY hYf
  have hX := fun w' (h : Ext ((w.alloc (Obj.cells #[.int .i64 (0), .int .u8 (0), .int .u8 (0), .int .u32 (0), .int .u16 (0), .int .u16 (0), .int .u16 (0), .int .u32 (0)] 57)).alloc (Obj.cells #[.int .i64 (1), .int .u8 (0), .int .u8 (0), .int .u32 (0), .int .u16 ((v / 16777216 % 65536)), .int .u16 ((v / 256 % 65536)), .int .u16 (0), .int .u32 (0)] 57)) w') => ((Ext.alloc (w.alloc (Obj.cells #[.int .i64 (0), .int .u8 (0), .int .u8 (0), .int .u32 (0), .int .u16 (0), .int .u16 (0), .int .u16 (0), .int .u32 (0)] 57)) (Obj.cells #[.int .i64 (1), .int .u8 (0), .int .u8 (0), .int .u32 (0), .int .u16 ((v / 16777216 % 65536)), .int .u16 ((v / 256 % 65536)), .int .u16 (0), .int .u32 (0)] 57)).trans h).boxCell
  have hXf := fun w' (h : Ext ((w.alloc (Obj.cells #[.int .i64 (0), .int .u8 (0), .int .u8 (0), .int .u32 (0), .int .u16 (0), .int .u16 (0), .int .u16 (0), .int .u32 (0)] 57)).alloc (Obj.cells #[.int .i64 (1), .int .u8 (0), .int .u8 (0), .int .u32 (0), .int .u16 ((v / 16777216 % 65536)), .int .u16 ((v / 256 % 65536)), .int .u16 (0), .int .u32 (0)] 57)) w') => ((Ext.alloc (w.alloc (Obj.cells #[.int .i64 (0), .int .u8 (0), .int .u8 (0), .int .u32 (0), .int .u16 (0), .int .u16 (0), .int .u16 (0), .int .u32 (0)] 57)) (Obj.cells #[.int .i64 (1), .int .u8 (0), .int .u8 (0), .int .u32 (0), .int .u16 ((v / 16777216 % 65536)), .int .u16 ((v / 256 % 65536)), .int .u16 (0), .int .u32 (0)] 57)).trans h).boxFree
  have hX0 : Ext w ((w.alloc (Obj.cells #[.int .i64 (0), .int .u8 (0), .int .u8 (0), .int .u32 (0), .int .u16 (0), .int .u16 (0), .int .u16 (0), .int .u32 (0)] 57)).alloc (Obj.cells #[.int .i64 (1), .int .u8 (0), .int .u8 (0), .int .u32 (0), .int .u16 ((v / 16777216 % 65536)), .int .u16 ((v / 256 % 65536)), .int .u16 (0), .int .u32 (0)] 57)) := (Ext.alloc _ _).trans (Ext.alloc _ _)
  generalize (w.alloc (Obj.cells #[.int .i64 (0), .int .u8 (0), .int .u8 (0), .int .u32 (0), .int .u16 (0), .int .u16 (0), .int .u16 (0), .int .u32 (0)] 57)).alloc (Obj.cells #[.int .i64 (1), .int .u8 (0), .int .u8 (0), .int .u32 (0), .int .u16 ((v / 16777216 % 65536)), .int .u16 ((v / 256 % 65536)), .int .u16 (0), .int .u32 (0)] 57) = W0 at *
  have hW := Ext.refl W0
  go_wp2_with (go_at_call 23; (with_reducible refine (rcode_any _ _ _ _ _ _ _ _ _ b).mono ?_); rintro e w' ⟨rfl, hb⟩; have hW := Ext.trans2 hW (by repeat (first | exact Ext.refl _ | exact Ext.alloc _ _ | exact Ext.drewN _ _ | assumption | refine Ext.trans ?_ (Ext.alloc _ _) | refine Ext.trans ?_ (Ext.drew _) | refine Ext.trans ?_ (by assumption))) hb; (try have hV := Ext.trans2 hV (by repeat (first | exact Ext.refl _ | exact Ext.alloc _ _ | exact Ext.drewN _ _ | assumption | refine Ext.trans ?_ (Ext.alloc _ _) | refine Ext.trans ?_ (Ext.drew _) | refine Ext.trans ?_ (by assumption))) hb); clear hb)
  refine bodyPost_ret (v := .tuple #[Value.agg #[.int .i64 (0), .int .u8 (0), .int .u8 (0), .int .u32 (0), .int .u16 (0), .int .u16 (0), .int .u16 (0), .int .u32 (0)], .int .i64 3]) (by simp [results, Tryd.results18, go_sem, *]) rfl ⟨rfl, ?_⟩
  ((repeat (with_reducible refine Ext.set ?_ (by simp) _)); exact (hX0.trans (hW.trans (by repeat (first | exact Ext.refl _ | exact Ext.alloc _ _ | exact Ext.drewN _ _ | assumption | refine Ext.trans ?_ (Ext.alloc _ _) | refine Ext.trans ?_ (Ext.drew _) | refine Ext.trans ?_ (by assumption))))))
set_option maxHeartbeats 1000000 in
theorem rread_n_yes (v : Int) (w : World) (hv : InW v) (ht : v % 8 = 1) (hg : gW v) :
    Calls Tryd.prog 18 #[.int .u64 v] w fun x w' => x = .returned (.tuple #[Value.agg #[.int .i64 (uK (v)), .int .u8 (uA (v)), .int .u8 (uE (v)), .int .u32 (uH (v)), .int .u16 (uO (v)), .int .u16 (uR (v)), .int .u16 (uS (v)), .int .u32 (uG (v))], .int .i64 0]) ∧ Ext w w' := by
  have hv0 := hv.1
  have U := u_n ht
  obtain ⟨e1, e2, e3, e4, e5, e6, e7, e8⟩ := agg_inj U
  obtain ⟨c1, c2⟩ := code_u hv (gW_kind hg)
  have b := u_ok hv
  have h0 : ¬ v = 0 := by omega
  have c2 := c2.trans hg
  rw [← U]
  rw [← e1, ← e2, ← e3, ← e4, ← e5, ← e6, ← e7, ← e8] at c1 c2 b
  clear e1 e2 e3 e4 e5 e6 e7 e8 U
  have qa : (IntKind.u64.wrap (v.tdiv 8)).tmod 16 % 256 = v / 8 % 16 := q_eq hv 8 16 256 (by decide) (by decide) (by decide) (by decide)
  have qh : (IntKind.u64.wrap (v.tdiv 256)).tmod 2147483648 % 4294967296 = v / 256 % 2147483648 := q_eq hv 256 2147483648 4294967296 (by decide) (by decide) (by decide) (by decide)
  go_enter Tryd.func18, Tryd.ntmps18
  go_wp2_with fail
  have hY := fun w' (h : Ext ((w.alloc (Obj.cells #[.int .i64 (0), .int .u8 (0), .int .u8 (0), .int .u32 (0), .int .u16 (0), .int .u16 (0), .int .u16 (0), .int .u32 (0)] 57)).alloc (Obj.cells #[.int .i64 (2), .int .u8 ((v / 8 % 16)), .int .u8 (0), .int .u32 ((v / 256 % 2147483648)), .int .u16 (0), .int .u16 (0), .int .u16 (0), .int .u32 (0)] 57)) w') => h.boxCell
  have hYf := fun w' (h : Ext ((w.alloc (Obj.cells #[.int .i64 (0), .int .u8 (0), .int .u8 (0), .int .u32 (0), .int .u16 (0), .int .u16 (0), .int .u16 (0), .int .u32 (0)] 57)).alloc (Obj.cells #[.int .i64 (2), .int .u8 ((v / 8 % 16)), .int .u8 (0), .int .u32 ((v / 256 % 2147483648)), .int .u16 (0), .int .u16 (0), .int .u16 (0), .int .u32 (0)] 57)) w') => h.boxFree
  simp only [World.size_alloc] at hY hYf
  have hX := fun w' (h : Ext ((w.alloc (Obj.cells #[.int .i64 (0), .int .u8 (0), .int .u8 (0), .int .u32 (0), .int .u16 (0), .int .u16 (0), .int .u16 (0), .int .u32 (0)] 57)).alloc (Obj.cells #[.int .i64 (2), .int .u8 ((v / 8 % 16)), .int .u8 (0), .int .u32 ((v / 256 % 2147483648)), .int .u16 (0), .int .u16 (0), .int .u16 (0), .int .u32 (0)] 57)) w') => ((Ext.alloc (w.alloc (Obj.cells #[.int .i64 (0), .int .u8 (0), .int .u8 (0), .int .u32 (0), .int .u16 (0), .int .u16 (0), .int .u16 (0), .int .u32 (0)] 57)) (Obj.cells #[.int .i64 (2), .int .u8 ((v / 8 % 16)), .int .u8 (0), .int .u32 ((v / 256 % 2147483648)), .int .u16 (0), .int .u16 (0), .int .u16 (0), .int .u32 (0)] 57)).trans h).boxCell
  have hXf := fun w' (h : Ext ((w.alloc (Obj.cells #[.int .i64 (0), .int .u8 (0), .int .u8 (0), .int .u32 (0), .int .u16 (0), .int .u16 (0), .int .u16 (0), .int .u32 (0)] 57)).alloc (Obj.cells #[.int .i64 (2), .int .u8 ((v / 8 % 16)), .int .u8 (0), .int .u32 ((v / 256 % 2147483648)), .int .u16 (0), .int .u16 (0), .int .u16 (0), .int .u32 (0)] 57)) w') => ((Ext.alloc (w.alloc (Obj.cells #[.int .i64 (0), .int .u8 (0), .int .u8 (0), .int .u32 (0), .int .u16 (0), .int .u16 (0), .int .u16 (0), .int .u32 (0)] 57)) (Obj.cells #[.int .i64 (2), .int .u8 ((v / 8 % 16)), .int .u8 (0), .int .u32 ((v / 256 % 2147483648)), .int .u16 (0), .int .u16 (0), .int .u16 (0), .int .u32 (0)] 57)).trans h).boxFree
  have hX0 : Ext w ((w.alloc (Obj.cells #[.int .i64 (0), .int .u8 (0), .int .u8 (0), .int .u32 (0), .int .u16 (0), .int .u16 (0), .int .u16 (0), .int .u32 (0)] 57)).alloc (Obj.cells #[.int .i64 (2), .int .u8 ((v / 8 % 16)), .int .u8 (0), .int .u32 ((v / 256 % 2147483648)), .int .u16 (0), .int .u16 (0), .int .u16 (0), .int .u32 (0)] 57)) := (Ext.alloc _ _).trans (Ext.alloc _ _)
  generalize (w.alloc (Obj.cells #[.int .i64 (0), .int .u8 (0), .int .u8 (0), .int .u32 (0), .int .u16 (0), .int .u16 (0), .int .u16 (0), .int .u32 (0)] 57)).alloc (Obj.cells #[.int .i64 (2), .int .u8 ((v / 8 % 16)), .int .u8 (0), .int .u32 ((v / 256 % 2147483648)), .int .u16 (0), .int .u16 (0), .int .u16 (0), .int .u32 (0)] 57) = W0 at *
  have hW := Ext.refl W0
  go_wp2_with (go_at_call 23; (with_reducible refine (rcode_any _ _ _ _ _ _ _ _ _ b).mono ?_); rintro e w' ⟨rfl, hb⟩; have hW := Ext.trans2 hW (by repeat (first | exact Ext.refl _ | exact Ext.alloc _ _ | exact Ext.drewN _ _ | assumption | refine Ext.trans ?_ (Ext.alloc _ _) | refine Ext.trans ?_ (Ext.drew _) | refine Ext.trans ?_ (by assumption))) hb; (try have hV := Ext.trans2 hV (by repeat (first | exact Ext.refl _ | exact Ext.alloc _ _ | exact Ext.drewN _ _ | assumption | refine Ext.trans ?_ (Ext.alloc _ _) | refine Ext.trans ?_ (Ext.drew _) | refine Ext.trans ?_ (by assumption))) hb); clear hb)
  refine bodyPost_ret (v := .tuple #[Value.agg #[.int .i64 (2), .int .u8 ((v / 8 % 16)), .int .u8 (0), .int .u32 ((v / 256 % 2147483648)), .int .u16 (0), .int .u16 (0), .int .u16 (0), .int .u32 (0)], .int .i64 0]) (by simp [results, Tryd.results18, go_sem, *]) rfl ⟨rfl, ?_⟩
  ((repeat (with_reducible refine Ext.set ?_ (by simp) _)); exact (hX0.trans (hW.trans (by repeat (first | exact Ext.refl _ | exact Ext.alloc _ _ | exact Ext.drewN _ _ | assumption | refine Ext.trans ?_ (Ext.alloc _ _) | refine Ext.trans ?_ (Ext.drew _) | refine Ext.trans ?_ (by assumption))))))
set_option maxHeartbeats 1000000 in
theorem rread_n_no (v : Int) (w : World) (hv : InW v) (ht : v % 8 = 1) (hg : ¬ gW v) :
    Calls Tryd.prog 18 #[.int .u64 v] w fun x w' => x = .returned (.tuple #[Value.agg #[.int .i64 (0), .int .u8 (0), .int .u8 (0), .int .u32 (0), .int .u16 (0), .int .u16 (0), .int .u16 (0), .int .u32 (0)], .int .i64 3]) ∧ Ext w w' := by
  have hv0 := hv.1
  have U := u_n ht
  obtain ⟨e1, e2, e3, e4, e5, e6, e7, e8⟩ := agg_inj U
  obtain ⟨c1, c2⟩ := code_u hv (uK_at ht (by decide))
  have b := u_ok hv
  have h0 : ¬ v = 0 := by omega
  have c2 : (codeW (uK v) (uA v) (uE v) (uH v) (uO v) (uR v) (uS v) (uG v) != v) = true := by rw [c2]; simpa [gW] using hg
  rw [← e1, ← e2, ← e3, ← e4, ← e5, ← e6, ← e7, ← e8] at c1 c2 b
  clear e1 e2 e3 e4 e5 e6 e7 e8 U
  have qa : (IntKind.u64.wrap (v.tdiv 8)).tmod 16 % 256 = v / 8 % 16 := q_eq hv 8 16 256 (by decide) (by decide) (by decide) (by decide)
  have qh : (IntKind.u64.wrap (v.tdiv 256)).tmod 2147483648 % 4294967296 = v / 256 % 2147483648 := q_eq hv 256 2147483648 4294967296 (by decide) (by decide) (by decide) (by decide)
  go_enter Tryd.func18, Tryd.ntmps18
  go_wp2_with fail
  have hY := fun w' (h : Ext ((w.alloc (Obj.cells #[.int .i64 (0), .int .u8 (0), .int .u8 (0), .int .u32 (0), .int .u16 (0), .int .u16 (0), .int .u16 (0), .int .u32 (0)] 57)).alloc (Obj.cells #[.int .i64 (2), .int .u8 ((v / 8 % 16)), .int .u8 (0), .int .u32 ((v / 256 % 2147483648)), .int .u16 (0), .int .u16 (0), .int .u16 (0), .int .u32 (0)] 57)) w') => h.boxCell
  have hYf := fun w' (h : Ext ((w.alloc (Obj.cells #[.int .i64 (0), .int .u8 (0), .int .u8 (0), .int .u32 (0), .int .u16 (0), .int .u16 (0), .int .u16 (0), .int .u32 (0)] 57)).alloc (Obj.cells #[.int .i64 (2), .int .u8 ((v / 8 % 16)), .int .u8 (0), .int .u32 ((v / 256 % 2147483648)), .int .u16 (0), .int .u16 (0), .int .u16 (0), .int .u32 (0)] 57)) w') => h.boxFree
  simp only [World.size_alloc] at hY hYf
  have hX := fun w' (h : Ext ((w.alloc (Obj.cells #[.int .i64 (0), .int .u8 (0), .int .u8 (0), .int .u32 (0), .int .u16 (0), .int .u16 (0), .int .u16 (0), .int .u32 (0)] 57)).alloc (Obj.cells #[.int .i64 (2), .int .u8 ((v / 8 % 16)), .int .u8 (0), .int .u32 ((v / 256 % 2147483648)), .int .u16 (0), .int .u16 (0), .int .u16 (0), .int .u32 (0)] 57)) w') => ((Ext.alloc (w.alloc (Obj.cells #[.int .i64 (0), .int .u8 (0), .int .u8 (0), .int .u32 (0), .int .u16 (0), .int .u16 (0), .int .u16 (0), .int .u32 (0)] 57)) (Obj.cells #[.int .i64 (2), .int .u8 ((v / 8 % 16)), .int .u8 (0), .int .u32 ((v / 256 % 2147483648)), .int .u16 (0), .int .u16 (0), .int .u16 (0), .int .u32 (0)] 57)).trans h).boxCell
  have hXf := fun w' (h : Ext ((w.alloc (Obj.cells #[.int .i64 (0), .int .u8 (0), .int .u8 (0), .int .u32 (0), .int .u16 (0), .int .u16 (0), .int .u16 (0), .int .u32 (0)] 57)).alloc (Obj.cells #[.int .i64 (2), .int .u8 ((v / 8 % 16)), .int .u8 (0), .int .u32 ((v / 256 % 2147483648)), .int .u16 (0), .int .u16 (0), .int .u16 (0), .int .u32 (0)] 57)) w') => ((Ext.alloc (w.alloc (Obj.cells #[.int .i64 (0), .int .u8 (0), .int .u8 (0), .int .u32 (0), .int .u16 (0), .int .u16 (0), .int .u16 (0), .int .u32 (0)] 57)) (Obj.cells #[.int .i64 (2), .int .u8 ((v / 8 % 16)), .int .u8 (0), .int .u32 ((v / 256 % 2147483648)), .int .u16 (0), .int .u16 (0), .int .u16 (0), .int .u32 (0)] 57)).trans h).boxFree
  have hX0 : Ext w ((w.alloc (Obj.cells #[.int .i64 (0), .int .u8 (0), .int .u8 (0), .int .u32 (0), .int .u16 (0), .int .u16 (0), .int .u16 (0), .int .u32 (0)] 57)).alloc (Obj.cells #[.int .i64 (2), .int .u8 ((v / 8 % 16)), .int .u8 (0), .int .u32 ((v / 256 % 2147483648)), .int .u16 (0), .int .u16 (0), .int .u16 (0), .int .u32 (0)] 57)) := (Ext.alloc _ _).trans (Ext.alloc _ _)
  generalize (w.alloc (Obj.cells #[.int .i64 (0), .int .u8 (0), .int .u8 (0), .int .u32 (0), .int .u16 (0), .int .u16 (0), .int .u16 (0), .int .u32 (0)] 57)).alloc (Obj.cells #[.int .i64 (2), .int .u8 ((v / 8 % 16)), .int .u8 (0), .int .u32 ((v / 256 % 2147483648)), .int .u16 (0), .int .u16 (0), .int .u16 (0), .int .u32 (0)] 57) = W0 at *
  have hW := Ext.refl W0
  go_wp2_with (go_at_call 23; (with_reducible refine (rcode_any _ _ _ _ _ _ _ _ _ b).mono ?_); rintro e w' ⟨rfl, hb⟩; have hW := Ext.trans2 hW (by repeat (first | exact Ext.refl _ | exact Ext.alloc _ _ | exact Ext.drewN _ _ | assumption | refine Ext.trans ?_ (Ext.alloc _ _) | refine Ext.trans ?_ (Ext.drew _) | refine Ext.trans ?_ (by assumption))) hb; (try have hV := Ext.trans2 hV (by repeat (first | exact Ext.refl _ | exact Ext.alloc _ _ | exact Ext.drewN _ _ | assumption | refine Ext.trans ?_ (Ext.alloc _ _) | refine Ext.trans ?_ (Ext.drew _) | refine Ext.trans ?_ (by assumption))) hb); clear hb)
  refine bodyPost_ret (v := .tuple #[Value.agg #[.int .i64 (0), .int .u8 (0), .int .u8 (0), .int .u32 (0), .int .u16 (0), .int .u16 (0), .int .u16 (0), .int .u32 (0)], .int .i64 3]) (by simp [results, Tryd.results18, go_sem, *]) rfl ⟨rfl, ?_⟩
  ((repeat (with_reducible refine Ext.set ?_ (by simp) _)); exact (hX0.trans (hW.trans (by repeat (first | exact Ext.refl _ | exact Ext.alloc _ _ | exact Ext.drewN _ _ | assumption | refine Ext.trans ?_ (Ext.alloc _ _) | refine Ext.trans ?_ (Ext.drew _) | refine Ext.trans ?_ (by assumption))))))
set_option maxHeartbeats 1000000 in
theorem rread_f_yes (v : Int) (w : World) (hv : InW v) (ht : v % 8 = 2) (hg : gW v) :
    Calls Tryd.prog 18 #[.int .u64 v] w fun x w' => x = .returned (.tuple #[Value.agg #[.int .i64 (uK (v)), .int .u8 (uA (v)), .int .u8 (uE (v)), .int .u32 (uH (v)), .int .u16 (uO (v)), .int .u16 (uR (v)), .int .u16 (uS (v)), .int .u32 (uG (v))], .int .i64 0]) ∧ Ext w w' := by
  have hv0 := hv.1
  have U := u_f ht
  obtain ⟨e1, e2, e3, e4, e5, e6, e7, e8⟩ := agg_inj U
  obtain ⟨c1, c2⟩ := code_u hv (gW_kind hg)
  have b := u_ok hv
  have h0 : ¬ v = 0 := by omega
  have c2 := c2.trans hg
  rw [← U]
  rw [← e1, ← e2, ← e3, ← e4, ← e5, ← e6, ← e7, ← e8] at c1 c2 b
  clear e1 e2 e3 e4 e5 e6 e7 e8 U
  have qr : IntKind.u16.wrap ((IntKind.u64.wrap (v.tdiv 256)).tmod 65536) = v / 256 % 65536 := (IntKind.wrap_u16 _).trans (q_eq hv 256 65536 65536 (by decide) (by decide) (by decide) (by decide))
  have qg : (IntKind.u64.wrap (v.tdiv 16777216)).tmod 16777216 % 4294967296 = v / 16777216 % 16777216 := q_eq hv 16777216 16777216 4294967296 (by decide) (by decide) (by decide) (by decide)
  go_enter Tryd.func18, Tryd.ntmps18
  go_wp2_with fail
  have hY := fun w' (h : Ext ((w.alloc (Obj.cells #[.int .i64 (0), .int .u8 (0), .int .u8 (0), .int .u32 (0), .int .u16 (0), .int .u16 (0), .int .u16 (0), .int .u32 (0)] 57)).alloc (Obj.cells #[.int .i64 (3), .int .u8 (0), .int .u8 (0), .int .u32 (0), .int .u16 (0), .int .u16 (0), .int .u16 ((v / 256 % 65536)), .int .u32 ((v / 16777216 % 16777216))] 57)) w') => h.boxCell
  have hYf := fun w' (h : Ext ((w.alloc (Obj.cells #[.int .i64 (0), .int .u8 (0), .int .u8 (0), .int .u32 (0), .int .u16 (0), .int .u16 (0), .int .u16 (0), .int .u32 (0)] 57)).alloc (Obj.cells #[.int .i64 (3), .int .u8 (0), .int .u8 (0), .int .u32 (0), .int .u16 (0), .int .u16 (0), .int .u16 ((v / 256 % 65536)), .int .u32 ((v / 16777216 % 16777216))] 57)) w') => h.boxFree
  simp only [World.size_alloc] at hY hYf
  have hX := fun w' (h : Ext ((w.alloc (Obj.cells #[.int .i64 (0), .int .u8 (0), .int .u8 (0), .int .u32 (0), .int .u16 (0), .int .u16 (0), .int .u16 (0), .int .u32 (0)] 57)).alloc (Obj.cells #[.int .i64 (3), .int .u8 (0), .int .u8 (0), .int .u32 (0), .int .u16 (0), .int .u16 (0), .int .u16 ((v / 256 % 65536)), .int .u32 ((v / 16777216 % 16777216))] 57)) w') => ((Ext.alloc (w.alloc (Obj.cells #[.int .i64 (0), .int .u8 (0), .int .u8 (0), .int .u32 (0), .int .u16 (0), .int .u16 (0), .int .u16 (0), .int .u32 (0)] 57)) (Obj.cells #[.int .i64 (3), .int .u8 (0), .int .u8 (0), .int .u32 (0), .int .u16 (0), .int .u16 (0), .int .u16 ((v / 256 % 65536)), .int .u32 ((v / 16777216 % 16777216))] 57)).trans h).boxCell
  have hXf := fun w' (h : Ext ((w.alloc (Obj.cells #[.int .i64 (0), .int .u8 (0), .int .u8 (0), .int .u32 (0), .int .u16 (0), .int .u16 (0), .int .u16 (0), .int .u32 (0)] 57)).alloc (Obj.cells #[.int .i64 (3), .int .u8 (0), .int .u8 (0), .int .u32 (0), .int .u16 (0), .int .u16 (0), .int .u16 ((v / 256 % 65536)), .int .u32 ((v / 16777216 % 16777216))] 57)) w') => ((Ext.alloc (w.alloc (Obj.cells #[.int .i64 (0), .int .u8 (0), .int .u8 (0), .int .u32 (0), .int .u16 (0), .int .u16 (0), .int .u16 (0), .int .u32 (0)] 57)) (Obj.cells #[.int .i64 (3), .int .u8 (0), .int .u8 (0), .int .u32 (0), .int .u16 (0), .int .u16 (0), .int .u16 ((v / 256 % 65536)), .int .u32 ((v / 16777216 % 16777216))] 57)).trans h).boxFree
  have hX0 : Ext w ((w.alloc (Obj.cells #[.int .i64 (0), .int .u8 (0), .int .u8 (0), .int .u32 (0), .int .u16 (0), .int .u16 (0), .int .u16 (0), .int .u32 (0)] 57)).alloc (Obj.cells #[.int .i64 (3), .int .u8 (0), .int .u8 (0), .int .u32 (0), .int .u16 (0), .int .u16 (0), .int .u16 ((v / 256 % 65536)), .int .u32 ((v / 16777216 % 16777216))] 57)) := (Ext.alloc _ _).trans (Ext.alloc _ _)
  generalize (w.alloc (Obj.cells #[.int .i64 (0), .int .u8 (0), .int .u8 (0), .int .u32 (0), .int .u16 (0), .int .u16 (0), .int .u16 (0), .int .u32 (0)] 57)).alloc (Obj.cells #[.int .i64 (3), .int .u8 (0), .int .u8 (0), .int .u32 (0), .int .u16 (0), .int .u16 (0), .int .u16 ((v / 256 % 65536)), .int .u32 ((v / 16777216 % 16777216))] 57) = W0 at *
  have hW := Ext.refl W0
  go_wp2_with (go_at_call 23; (with_reducible refine (rcode_any _ _ _ _ _ _ _ _ _ b).mono ?_); rintro e w' ⟨rfl, hb⟩; have hW := Ext.trans2 hW (by repeat (first | exact Ext.refl _ | exact Ext.alloc _ _ | exact Ext.drewN _ _ | assumption | refine Ext.trans ?_ (Ext.alloc _ _) | refine Ext.trans ?_ (Ext.drew _) | refine Ext.trans ?_ (by assumption))) hb; (try have hV := Ext.trans2 hV (by repeat (first | exact Ext.refl _ | exact Ext.alloc _ _ | exact Ext.drewN _ _ | assumption | refine Ext.trans ?_ (Ext.alloc _ _) | refine Ext.trans ?_ (Ext.drew _) | refine Ext.trans ?_ (by assumption))) hb); clear hb)
  refine bodyPost_ret (v := .tuple #[Value.agg #[.int .i64 (3), .int .u8 (0), .int .u8 (0), .int .u32 (0), .int .u16 (0), .int .u16 (0), .int .u16 ((v / 256 % 65536)), .int .u32 ((v / 16777216 % 16777216))], .int .i64 0]) (by simp [results, Tryd.results18, go_sem, *]) rfl ⟨rfl, ?_⟩
  ((repeat (with_reducible refine Ext.set ?_ (by simp) _)); exact (hX0.trans (hW.trans (by repeat (first | exact Ext.refl _ | exact Ext.alloc _ _ | exact Ext.drewN _ _ | assumption | refine Ext.trans ?_ (Ext.alloc _ _) | refine Ext.trans ?_ (Ext.drew _) | refine Ext.trans ?_ (by assumption))))))
set_option maxHeartbeats 1000000 in
theorem rread_f_no (v : Int) (w : World) (hv : InW v) (ht : v % 8 = 2) (hg : ¬ gW v) :
    Calls Tryd.prog 18 #[.int .u64 v] w fun x w' => x = .returned (.tuple #[Value.agg #[.int .i64 (0), .int .u8 (0), .int .u8 (0), .int .u32 (0), .int .u16 (0), .int .u16 (0), .int .u16 (0), .int .u32 (0)], .int .i64 3]) ∧ Ext w w' := by
  have hv0 := hv.1
  have U := u_f ht
  obtain ⟨e1, e2, e3, e4, e5, e6, e7, e8⟩ := agg_inj U
  obtain ⟨c1, c2⟩ := code_u hv (uK_at ht (by decide))
  have b := u_ok hv
  have h0 : ¬ v = 0 := by omega
  have c2 : (codeW (uK v) (uA v) (uE v) (uH v) (uO v) (uR v) (uS v) (uG v) != v) = true := by rw [c2]; simpa [gW] using hg
  rw [← e1, ← e2, ← e3, ← e4, ← e5, ← e6, ← e7, ← e8] at c1 c2 b
  clear e1 e2 e3 e4 e5 e6 e7 e8 U
  have qr : IntKind.u16.wrap ((IntKind.u64.wrap (v.tdiv 256)).tmod 65536) = v / 256 % 65536 := (IntKind.wrap_u16 _).trans (q_eq hv 256 65536 65536 (by decide) (by decide) (by decide) (by decide))
  have qg : (IntKind.u64.wrap (v.tdiv 16777216)).tmod 16777216 % 4294967296 = v / 16777216 % 16777216 := q_eq hv 16777216 16777216 4294967296 (by decide) (by decide) (by decide) (by decide)
  go_enter Tryd.func18, Tryd.ntmps18
  go_wp2_with fail
  have hY := fun w' (h : Ext ((w.alloc (Obj.cells #[.int .i64 (0), .int .u8 (0), .int .u8 (0), .int .u32 (0), .int .u16 (0), .int .u16 (0), .int .u16 (0), .int .u32 (0)] 57)).alloc (Obj.cells #[.int .i64 (3), .int .u8 (0), .int .u8 (0), .int .u32 (0), .int .u16 (0), .int .u16 (0), .int .u16 ((v / 256 % 65536)), .int .u32 ((v / 16777216 % 16777216))] 57)) w') => h.boxCell
  have hYf := fun w' (h : Ext ((w.alloc (Obj.cells #[.int .i64 (0), .int .u8 (0), .int .u8 (0), .int .u32 (0), .int .u16 (0), .int .u16 (0), .int .u16 (0), .int .u32 (0)] 57)).alloc (Obj.cells #[.int .i64 (3), .int .u8 (0), .int .u8 (0), .int .u32 (0), .int .u16 (0), .int .u16 (0), .int .u16 ((v / 256 % 65536)), .int .u32 ((v / 16777216 % 16777216))] 57)) w') => h.boxFree
  simp only [World.size_alloc] at hY hYf
  have hX := fun w' (h : Ext ((w.alloc (Obj.cells #[.int .i64 (0), .int .u8 (0), .int .u8 (0), .int .u32 (0), .int .u16 (0), .int .u16 (0), .int .u16 (0), .int .u32 (0)] 57)).alloc (Obj.cells #[.int .i64 (3), .int .u8 (0), .int .u8 (0), .int .u32 (0), .int .u16 (0), .int .u16 (0), .int .u16 ((v / 256 % 65536)), .int .u32 ((v / 16777216 % 16777216))] 57)) w') => ((Ext.alloc (w.alloc (Obj.cells #[.int .i64 (0), .int .u8 (0), .int .u8 (0), .int .u32 (0), .int .u16 (0), .int .u16 (0), .int .u16 (0), .int .u32 (0)] 57)) (Obj.cells #[.int .i64 (3), .int .u8 (0), .int .u8 (0), .int .u32 (0), .int .u16 (0), .int .u16 (0), .int .u16 ((v / 256 % 65536)), .int .u32 ((v / 16777216 % 16777216))] 57)).trans h).boxCell
  have hXf := fun w' (h : Ext ((w.alloc (Obj.cells #[.int .i64 (0), .int .u8 (0), .int .u8 (0), .int .u32 (0), .int .u16 (0), .int .u16 (0), .int .u16 (0), .int .u32 (0)] 57)).alloc (Obj.cells #[.int .i64 (3), .int .u8 (0), .int .u8 (0), .int .u32 (0), .int .u16 (0), .int .u16 (0), .int .u16 ((v / 256 % 65536)), .int .u32 ((v / 16777216 % 16777216))] 57)) w') => ((Ext.alloc (w.alloc (Obj.cells #[.int .i64 (0), .int .u8 (0), .int .u8 (0), .int .u32 (0), .int .u16 (0), .int .u16 (0), .int .u16 (0), .int .u32 (0)] 57)) (Obj.cells #[.int .i64 (3), .int .u8 (0), .int .u8 (0), .int .u32 (0), .int .u16 (0), .int .u16 (0), .int .u16 ((v / 256 % 65536)), .int .u32 ((v / 16777216 % 16777216))] 57)).trans h).boxFree
  have hX0 : Ext w ((w.alloc (Obj.cells #[.int .i64 (0), .int .u8 (0), .int .u8 (0), .int .u32 (0), .int .u16 (0), .int .u16 (0), .int .u16 (0), .int .u32 (0)] 57)).alloc (Obj.cells #[.int .i64 (3), .int .u8 (0), .int .u8 (0), .int .u32 (0), .int .u16 (0), .int .u16 (0), .int .u16 ((v / 256 % 65536)), .int .u32 ((v / 16777216 % 16777216))] 57)) := (Ext.alloc _ _).trans (Ext.alloc _ _)
  generalize (w.alloc (Obj.cells #[.int .i64 (0), .int .u8 (0), .int .u8 (0), .int .u32 (0), .int .u16 (0), .int .u16 (0), .int .u16 (0), .int .u32 (0)] 57)).alloc (Obj.cells #[.int .i64 (3), .int .u8 (0), .int .u8 (0), .int .u32 (0), .int .u16 (0), .int .u16 (0), .int .u16 ((v / 256 % 65536)), .int .u32 ((v / 16777216 % 16777216))] 57) = W0 at *
  have hW := Ext.refl W0
  go_wp2_with (go_at_call 23; (with_reducible refine (rcode_any _ _ _ _ _ _ _ _ _ b).mono ?_); rintro e w' ⟨rfl, hb⟩; have hW := Ext.trans2 hW (by repeat (first | exact Ext.refl _ | exact Ext.alloc _ _ | exact Ext.drewN _ _ | assumption | refine Ext.trans ?_ (Ext.alloc _ _) | refine Ext.trans ?_ (Ext.drew _) | refine Ext.trans ?_ (by assumption))) hb; (try have hV := Ext.trans2 hV (by repeat (first | exact Ext.refl _ | exact Ext.alloc _ _ | exact Ext.drewN _ _ | assumption | refine Ext.trans ?_ (Ext.alloc _ _) | refine Ext.trans ?_ (Ext.drew _) | refine Ext.trans ?_ (by assumption))) hb); clear hb)
  refine bodyPost_ret (v := .tuple #[Value.agg #[.int .i64 (0), .int .u8 (0), .int .u8 (0), .int .u32 (0), .int .u16 (0), .int .u16 (0), .int .u16 (0), .int .u32 (0)], .int .i64 3]) (by simp [results, Tryd.results18, go_sem, *]) rfl ⟨rfl, ?_⟩
  ((repeat (with_reducible refine Ext.set ?_ (by simp) _)); exact (hX0.trans (hW.trans (by repeat (first | exact Ext.refl _ | exact Ext.alloc _ _ | exact Ext.drewN _ _ | assumption | refine Ext.trans ?_ (Ext.alloc _ _) | refine Ext.trans ?_ (Ext.drew _) | refine Ext.trans ?_ (by assumption))))))
set_option maxHeartbeats 1000000 in
theorem rread_b_yes (v : Int) (w : World) (hv : InW v) (ht : v % 8 = 5) (hg : gW v) :
    Calls Tryd.prog 18 #[.int .u64 v] w fun x w' => x = .returned (.tuple #[Value.agg #[.int .i64 (uK (v)), .int .u8 (uA (v)), .int .u8 (uE (v)), .int .u32 (uH (v)), .int .u16 (uO (v)), .int .u16 (uR (v)), .int .u16 (uS (v)), .int .u32 (uG (v))], .int .i64 0]) ∧ Ext w w' := by
  have hv0 := hv.1
  have U := u_b ht
  obtain ⟨e1, e2, e3, e4, e5, e6, e7, e8⟩ := agg_inj U
  obtain ⟨c1, c2⟩ := code_u hv (gW_kind hg)
  have b := u_ok hv
  have h0 : ¬ v = 0 := by omega
  have c2 := c2.trans hg
  rw [← U]
  rw [← e1, ← e2, ← e3, ← e4, ← e5, ← e6, ← e7, ← e8] at c1 c2 b
  clear e1 e2 e3 e4 e5 e6 e7 e8 U
  have qa : (IntKind.u64.wrap (v.tdiv 8)).tmod 16 % 256 = v / 8 % 16 := q_eq hv 8 16 256 (by decide) (by decide) (by decide) (by decide)
  have qe : (IntKind.u64.wrap (v.tdiv 256)).tmod 256 % 256 = v / 256 % 256 := q_eq hv 256 256 256 (by decide) (by decide) (by decide) (by decide)
  have qo : IntKind.u16.wrap ((IntKind.u64.wrap (v.tdiv 16777216)).tmod 65536) = v / 16777216 % 65536 := (IntKind.wrap_u16 _).trans (q_eq hv 16777216 65536 65536 (by decide) (by decide) (by decide) (by decide))
  go_enter Tryd.func18, Tryd.ntmps18
  go_wp2_with fail
  have hY := fun w' (h : Ext ((w.alloc (Obj.cells #[.int .i64 (0), .int .u8 (0), .int .u8 (0), .int .u32 (0), .int .u16 (0), .int .u16 (0), .int .u16 (0), .int .u32 (0)] 57)).alloc (Obj.cells #[.int .i64 (4), .int .u8 ((v / 8 % 16)), .int .u8 ((v / 256 % 256)), .int .u32 (0), .int .u16 ((v / 16777216 % 65536)), .int .u16 (0), .int .u16 (0), .int .u32 (0)] 57)) w') => h.boxCell
  have hYf := fun w' (h : Ext ((w.alloc (Obj.cells #[.int .i64 (0), .int .u8 (0), .int .u8 (0), .int .u32 (0), .int .u16 (0), .int .u16 (0), .int .u16 (0), .int .u32 (0)] 57)).alloc (Obj.cells #[.int .i64 (4), .int .u8 ((v / 8 % 16)), .int .u8 ((v / 256 % 256)), .int .u32 (0), .int .u16 ((v / 16777216 % 65536)), .int .u16 (0), .int .u16 (0), .int .u32 (0)] 57)) w') => h.boxFree
  simp only [World.size_alloc] at hY hYf
  have hX := fun w' (h : Ext ((w.alloc (Obj.cells #[.int .i64 (0), .int .u8 (0), .int .u8 (0), .int .u32 (0), .int .u16 (0), .int .u16 (0), .int .u16 (0), .int .u32 (0)] 57)).alloc (Obj.cells #[.int .i64 (4), .int .u8 ((v / 8 % 16)), .int .u8 ((v / 256 % 256)), .int .u32 (0), .int .u16 ((v / 16777216 % 65536)), .int .u16 (0), .int .u16 (0), .int .u32 (0)] 57)) w') => ((Ext.alloc (w.alloc (Obj.cells #[.int .i64 (0), .int .u8 (0), .int .u8 (0), .int .u32 (0), .int .u16 (0), .int .u16 (0), .int .u16 (0), .int .u32 (0)] 57)) (Obj.cells #[.int .i64 (4), .int .u8 ((v / 8 % 16)), .int .u8 ((v / 256 % 256)), .int .u32 (0), .int .u16 ((v / 16777216 % 65536)), .int .u16 (0), .int .u16 (0), .int .u32 (0)] 57)).trans h).boxCell
  have hXf := fun w' (h : Ext ((w.alloc (Obj.cells #[.int .i64 (0), .int .u8 (0), .int .u8 (0), .int .u32 (0), .int .u16 (0), .int .u16 (0), .int .u16 (0), .int .u32 (0)] 57)).alloc (Obj.cells #[.int .i64 (4), .int .u8 ((v / 8 % 16)), .int .u8 ((v / 256 % 256)), .int .u32 (0), .int .u16 ((v / 16777216 % 65536)), .int .u16 (0), .int .u16 (0), .int .u32 (0)] 57)) w') => ((Ext.alloc (w.alloc (Obj.cells #[.int .i64 (0), .int .u8 (0), .int .u8 (0), .int .u32 (0), .int .u16 (0), .int .u16 (0), .int .u16 (0), .int .u32 (0)] 57)) (Obj.cells #[.int .i64 (4), .int .u8 ((v / 8 % 16)), .int .u8 ((v / 256 % 256)), .int .u32 (0), .int .u16 ((v / 16777216 % 65536)), .int .u16 (0), .int .u16 (0), .int .u32 (0)] 57)).trans h).boxFree
  have hX0 : Ext w ((w.alloc (Obj.cells #[.int .i64 (0), .int .u8 (0), .int .u8 (0), .int .u32 (0), .int .u16 (0), .int .u16 (0), .int .u16 (0), .int .u32 (0)] 57)).alloc (Obj.cells #[.int .i64 (4), .int .u8 ((v / 8 % 16)), .int .u8 ((v / 256 % 256)), .int .u32 (0), .int .u16 ((v / 16777216 % 65536)), .int .u16 (0), .int .u16 (0), .int .u32 (0)] 57)) := (Ext.alloc _ _).trans (Ext.alloc _ _)
  generalize (w.alloc (Obj.cells #[.int .i64 (0), .int .u8 (0), .int .u8 (0), .int .u32 (0), .int .u16 (0), .int .u16 (0), .int .u16 (0), .int .u32 (0)] 57)).alloc (Obj.cells #[.int .i64 (4), .int .u8 ((v / 8 % 16)), .int .u8 ((v / 256 % 256)), .int .u32 (0), .int .u16 ((v / 16777216 % 65536)), .int .u16 (0), .int .u16 (0), .int .u32 (0)] 57) = W0 at *
  have hW := Ext.refl W0
  go_wp2_with (go_at_call 23; (with_reducible refine (rcode_any _ _ _ _ _ _ _ _ _ b).mono ?_); rintro e w' ⟨rfl, hb⟩; have hW := Ext.trans2 hW (by repeat (first | exact Ext.refl _ | exact Ext.alloc _ _ | exact Ext.drewN _ _ | assumption | refine Ext.trans ?_ (Ext.alloc _ _) | refine Ext.trans ?_ (Ext.drew _) | refine Ext.trans ?_ (by assumption))) hb; (try have hV := Ext.trans2 hV (by repeat (first | exact Ext.refl _ | exact Ext.alloc _ _ | exact Ext.drewN _ _ | assumption | refine Ext.trans ?_ (Ext.alloc _ _) | refine Ext.trans ?_ (Ext.drew _) | refine Ext.trans ?_ (by assumption))) hb); clear hb)
  refine bodyPost_ret (v := .tuple #[Value.agg #[.int .i64 (4), .int .u8 ((v / 8 % 16)), .int .u8 ((v / 256 % 256)), .int .u32 (0), .int .u16 ((v / 16777216 % 65536)), .int .u16 (0), .int .u16 (0), .int .u32 (0)], .int .i64 0]) (by simp [results, Tryd.results18, go_sem, *]) rfl ⟨rfl, ?_⟩
  ((repeat (with_reducible refine Ext.set ?_ (by simp) _)); exact (hX0.trans (hW.trans (by repeat (first | exact Ext.refl _ | exact Ext.alloc _ _ | exact Ext.drewN _ _ | assumption | refine Ext.trans ?_ (Ext.alloc _ _) | refine Ext.trans ?_ (Ext.drew _) | refine Ext.trans ?_ (by assumption))))))
set_option maxHeartbeats 1000000 in
theorem rread_b_no (v : Int) (w : World) (hv : InW v) (ht : v % 8 = 5) (hg : ¬ gW v) :
    Calls Tryd.prog 18 #[.int .u64 v] w fun x w' => x = .returned (.tuple #[Value.agg #[.int .i64 (0), .int .u8 (0), .int .u8 (0), .int .u32 (0), .int .u16 (0), .int .u16 (0), .int .u16 (0), .int .u32 (0)], .int .i64 3]) ∧ Ext w w' := by
  have hv0 := hv.1
  have U := u_b ht
  obtain ⟨e1, e2, e3, e4, e5, e6, e7, e8⟩ := agg_inj U
  obtain ⟨c1, c2⟩ := code_u hv (uK_at ht (by decide))
  have b := u_ok hv
  have h0 : ¬ v = 0 := by omega
  have c2 : (codeW (uK v) (uA v) (uE v) (uH v) (uO v) (uR v) (uS v) (uG v) != v) = true := by rw [c2]; simpa [gW] using hg
  rw [← e1, ← e2, ← e3, ← e4, ← e5, ← e6, ← e7, ← e8] at c1 c2 b
  clear e1 e2 e3 e4 e5 e6 e7 e8 U
  have qa : (IntKind.u64.wrap (v.tdiv 8)).tmod 16 % 256 = v / 8 % 16 := q_eq hv 8 16 256 (by decide) (by decide) (by decide) (by decide)
  have qe : (IntKind.u64.wrap (v.tdiv 256)).tmod 256 % 256 = v / 256 % 256 := q_eq hv 256 256 256 (by decide) (by decide) (by decide) (by decide)
  have qo : IntKind.u16.wrap ((IntKind.u64.wrap (v.tdiv 16777216)).tmod 65536) = v / 16777216 % 65536 := (IntKind.wrap_u16 _).trans (q_eq hv 16777216 65536 65536 (by decide) (by decide) (by decide) (by decide))
  go_enter Tryd.func18, Tryd.ntmps18
  go_wp2_with fail
  have hY := fun w' (h : Ext ((w.alloc (Obj.cells #[.int .i64 (0), .int .u8 (0), .int .u8 (0), .int .u32 (0), .int .u16 (0), .int .u16 (0), .int .u16 (0), .int .u32 (0)] 57)).alloc (Obj.cells #[.int .i64 (4), .int .u8 ((v / 8 % 16)), .int .u8 ((v / 256 % 256)), .int .u32 (0), .int .u16 ((v / 16777216 % 65536)), .int .u16 (0), .int .u16 (0), .int .u32 (0)] 57)) w') => h.boxCell
  have hYf := fun w' (h : Ext ((w.alloc (Obj.cells #[.int .i64 (0), .int .u8 (0), .int .u8 (0), .int .u32 (0), .int .u16 (0), .int .u16 (0), .int .u16 (0), .int .u32 (0)] 57)).alloc (Obj.cells #[.int .i64 (4), .int .u8 ((v / 8 % 16)), .int .u8 ((v / 256 % 256)), .int .u32 (0), .int .u16 ((v / 16777216 % 65536)), .int .u16 (0), .int .u16 (0), .int .u32 (0)] 57)) w') => h.boxFree
  simp only [World.size_alloc] at hY hYf
  have hX := fun w' (h : Ext ((w.alloc (Obj.cells #[.int .i64 (0), .int .u8 (0), .int .u8 (0), .int .u32 (0), .int .u16 (0), .int .u16 (0), .int .u16 (0), .int .u32 (0)] 57)).alloc (Obj.cells #[.int .i64 (4), .int .u8 ((v / 8 % 16)), .int .u8 ((v / 256 % 256)), .int .u32 (0), .int .u16 ((v / 16777216 % 65536)), .int .u16 (0), .int .u16 (0), .int .u32 (0)] 57)) w') => ((Ext.alloc (w.alloc (Obj.cells #[.int .i64 (0), .int .u8 (0), .int .u8 (0), .int .u32 (0), .int .u16 (0), .int .u16 (0), .int .u16 (0), .int .u32 (0)] 57)) (Obj.cells #[.int .i64 (4), .int .u8 ((v / 8 % 16)), .int .u8 ((v / 256 % 256)), .int .u32 (0), .int .u16 ((v / 16777216 % 65536)), .int .u16 (0), .int .u16 (0), .int .u32 (0)] 57)).trans h).boxCell
  have hXf := fun w' (h : Ext ((w.alloc (Obj.cells #[.int .i64 (0), .int .u8 (0), .int .u8 (0), .int .u32 (0), .int .u16 (0), .int .u16 (0), .int .u16 (0), .int .u32 (0)] 57)).alloc (Obj.cells #[.int .i64 (4), .int .u8 ((v / 8 % 16)), .int .u8 ((v / 256 % 256)), .int .u32 (0), .int .u16 ((v / 16777216 % 65536)), .int .u16 (0), .int .u16 (0), .int .u32 (0)] 57)) w') => ((Ext.alloc (w.alloc (Obj.cells #[.int .i64 (0), .int .u8 (0), .int .u8 (0), .int .u32 (0), .int .u16 (0), .int .u16 (0), .int .u16 (0), .int .u32 (0)] 57)) (Obj.cells #[.int .i64 (4), .int .u8 ((v / 8 % 16)), .int .u8 ((v / 256 % 256)), .int .u32 (0), .int .u16 ((v / 16777216 % 65536)), .int .u16 (0), .int .u16 (0), .int .u32 (0)] 57)).trans h).boxFree
  have hX0 : Ext w ((w.alloc (Obj.cells #[.int .i64 (0), .int .u8 (0), .int .u8 (0), .int .u32 (0), .int .u16 (0), .int .u16 (0), .int .u16 (0), .int .u32 (0)] 57)).alloc (Obj.cells #[.int .i64 (4), .int .u8 ((v / 8 % 16)), .int .u8 ((v / 256 % 256)), .int .u32 (0), .int .u16 ((v / 16777216 % 65536)), .int .u16 (0), .int .u16 (0), .int .u32 (0)] 57)) := (Ext.alloc _ _).trans (Ext.alloc _ _)
  generalize (w.alloc (Obj.cells #[.int .i64 (0), .int .u8 (0), .int .u8 (0), .int .u32 (0), .int .u16 (0), .int .u16 (0), .int .u16 (0), .int .u32 (0)] 57)).alloc (Obj.cells #[.int .i64 (4), .int .u8 ((v / 8 % 16)), .int .u8 ((v / 256 % 256)), .int .u32 (0), .int .u16 ((v / 16777216 % 65536)), .int .u16 (0), .int .u16 (0), .int .u32 (0)] 57) = W0 at *
  have hW := Ext.refl W0
  go_wp2_with (go_at_call 23; (with_reducible refine (rcode_any _ _ _ _ _ _ _ _ _ b).mono ?_); rintro e w' ⟨rfl, hb⟩; have hW := Ext.trans2 hW (by repeat (first | exact Ext.refl _ | exact Ext.alloc _ _ | exact Ext.drewN _ _ | assumption | refine Ext.trans ?_ (Ext.alloc _ _) | refine Ext.trans ?_ (Ext.drew _) | refine Ext.trans ?_ (by assumption))) hb; (try have hV := Ext.trans2 hV (by repeat (first | exact Ext.refl _ | exact Ext.alloc _ _ | exact Ext.drewN _ _ | assumption | refine Ext.trans ?_ (Ext.alloc _ _) | refine Ext.trans ?_ (Ext.drew _) | refine Ext.trans ?_ (by assumption))) hb); clear hb)
  refine bodyPost_ret (v := .tuple #[Value.agg #[.int .i64 (0), .int .u8 (0), .int .u8 (0), .int .u32 (0), .int .u16 (0), .int .u16 (0), .int .u16 (0), .int .u32 (0)], .int .i64 3]) (by simp [results, Tryd.results18, go_sem, *]) rfl ⟨rfl, ?_⟩
  ((repeat (with_reducible refine Ext.set ?_ (by simp) _)); exact (hX0.trans (hW.trans (by repeat (first | exact Ext.refl _ | exact Ext.alloc _ _ | exact Ext.drewN _ _ | assumption | refine Ext.trans ?_ (Ext.alloc _ _) | refine Ext.trans ?_ (Ext.drew _) | refine Ext.trans ?_ (by assumption))))))
end Go.Proofs.YtecopjehmpjniaaDoor
