/- What May, Code, Read, Kind and Older answer. -/
import Derived.Test.YtlgomkocalieeaaGreatDoorWdP2
import Derived.Laws.StructEq
namespace Go.Proofs.YtlgomkocalieeaaGreatDoor.Wd
set_option maxRecDepth 100000
open Go.RowKit
set_option linter.unusedVariables false
set_option linter.unusedSimpArgs false



/-- Two headers are the same. -/
def eqB (k a e h o r s g k' a' e' h' o' r' s' g' : Int) : Bool := k == k' && (a == a' && (e == e' && (h == h' && (o == o' && (r == r' && (s == s' && g == g'))))))
theorem run_eqH (k a e h o r s g k' a' e' h' o' r' s' g' : Int) (w : World) :
    Sem.run Tryz.prog (binOp .eql 204 (Value.agg #[.int .i64 (k), .int .u8 (a), .int .u8 (e), .int .u32 (h), .int .u16 (o), .int .u16 (r), .int .u16 (s), .int .u32 (g)]) (Value.agg #[.int .i64 (k'), .int .u8 (a'), .int .u8 (e'), .int .u32 (h'), .int .u16 (o'), .int .u16 (r'), .int .u16 (s'), .int .u32 (g')])) w = .ok (.bool (eqB k a e h o r s g k' a' e' h' o' r' s' g')) w := by
  unfold eqB
  go_simp
  by_cases c1 : k = k'
  · by_cases c2 : a = a'
    · by_cases c3 : e = e'
      · by_cases c4 : h = h'
        · by_cases c5 : o = o'
          · by_cases c6 : r = r'
            · by_cases c7 : s = s'
              · by_cases c8 : g = g' <;> simp [c1, c2, c3, c4, c5, c6, c7, c8]
              · simp [c1, c2, c3, c4, c5, c6, c7]
            · simp [c1, c2, c3, c4, c5, c6]
          · simp [c1, c2, c3, c4, c5]
        · simp [c1, c2, c3, c4]
      · simp [c1, c2, c3]
    · simp [c1, c2]
  · simp [c1]
/-- A header comes back out of its word just if it may be. -/
theorem back_may {k a e h o r s g : Int} (b : OkH k a e h o r s g) :
    eqB (uK (pI k a h o r s g e)) (uA (pI k a h o r s g e)) (uE (pI k a h o r s g e)) (uH (pI k a h o r s g e)) (uO (pI k a h o r s g e)) (uR (pI k a h o r s g e)) (uS (pI k a h o r s g e)) (uG (pI k a h o r s g e)) k a e h o r s g = hMayB k a e h o r s g := by
  obtain ⟨a0, a1, e0, e1, h0, h1, o0, o1, r0, r1, s0, s1, g0, g1⟩ := b
  rw [Bool.eq_iff_iff]
  simp only [eqB, hMayB, decide_eq_true_eq, Bool.and_eq_true, beq_iff_eq]
  unfold hMay
  by_cases k1 : k = 1
  · subst k1
    have hX : pI 1 a h o r s g e = o * 16777216 + r * 256 := by simp only [pI, if_true]
    rw [hX]
    generalize hY : o * 16777216 + r * 256 = X
    have t : X % 8 = 0 := by omega
    have q : X / 16777216 % 65536 = o := by omega
    have p : X / 256 % 65536 = r := by omega
    clear hX
    by_cases c : o = 0
    · by_cases z : X = 0
      · simp [uK, z]; omega
      · simp [uK, z, t, q, c]
    · have z : ¬ X = 0 := by omega
      simp [uK, uA, uE, uH, uO, uR, uS, uG, z, t, q, p, c]; omega
  by_cases k2 : k = 2
  · subst k2
    have hX : pI 2 a h o r s g e = 1 + h % 2147483648 * 256 + a % 16 * 8 := by simp [pI]
    rw [hX]
    generalize hY : 1 + h % 2147483648 * 256 + a % 16 * 8 = X
    have t : X % 8 = 1 := by omega
    have q : X / 8 % 16 = a % 16 := by omega
    have p : X / 256 % 2147483648 = h % 2147483648 := by omega
    have z : ¬ X = 0 := by omega
    clear hX
    simp [uK, uA, uE, uH, uO, uR, uS, uG, z, t, q, p]; omega
  by_cases k3 : k = 3
  · subst k3
    have hX : pI 3 a h o r s g e = 2 + g % 16777216 * 16777216 + s * 256 := by simp [pI]
    rw [hX]
    generalize hY : 2 + g % 16777216 * 16777216 + s * 256 = X
    have t : X % 8 = 2 := by omega
    have q : X / 256 % 65536 = s := by omega
    have p : X / 16777216 % 16777216 = g % 16777216 := by omega
    have z : ¬ X = 0 := by omega
    clear hX
    simp [uK, uA, uE, uH, uO, uR, uS, uG, z, t, q, p]; omega
  by_cases k4 : k = 4
  · subst k4
    have hX : pI 4 a h o r s g e = 5 + o * 16777216 + e * 256 + a % 16 * 8 := by simp [pI]
    rw [hX]
    generalize hY : 5 + o * 16777216 + e * 256 + a % 16 * 8 = X
    have t : X % 8 = 5 := by omega
    have q : X / 256 % 256 = e := by omega
    have p : X / 16777216 % 65536 = o := by omega
    have p2 : X / 8 % 16 = a % 16 := by omega
    have z : ¬ X = 0 := by omega
    clear hX
    simp [uK, uA, uE, uH, uO, uR, uS, uG, z, t, q, p, p2]; omega
  · have hX : pI k a h o r s g e = 0 := by simp [pI, k1, k2, k3, k4]
    rw [hX]
    simp [uK, uA, uE, uH, uO, uR, uS, uG]; omega
theorem may_h (k a e h o r s g : Int) (w : World) (hG : Glob w) (b : OkH k a e h o r s g) :
    Calls Tryz.prog 94 #[Value.agg #[.int .i64 (k), .int .u8 (a), .int .u8 (e), .int .u32 (h), .int .u16 (o), .int .u16 (r), .int .u16 (s), .int .u32 (g)]] w fun x w' => x = .returned (.bool (hMayB k a e h o r s g)) ∧ Ext w w' := by
  have hE := fun w => run_eqH (uK (pI k a h o r s g e)) (uA (pI k a h o r s g e)) (uE (pI k a h o r s g e)) (uH (pI k a h o r s g e)) (uO (pI k a h o r s g e)) (uR (pI k a h o r s g e)) (uS (pI k a h o r s g e)) (uG (pI k a h o r s g e)) k a e h o r s g w
  rw [back_may b] at hE
  go_enter Tryz.func94, Tryz.ntmps94
  go_wp2_with fail
  have hX := fun w' (h : Ext (w.alloc (Obj.cells #[.int .i64 (k), .int .u8 (a), .int .u8 (e), .int .u32 (h), .int .u16 (o), .int .u16 (r), .int .u16 (s), .int .u32 (g)] 204)) w') => h.boxCell
  have hXf := fun w' (h : Ext (w.alloc (Obj.cells #[.int .i64 (k), .int .u8 (a), .int .u8 (e), .int .u32 (h), .int .u16 (o), .int .u16 (r), .int .u16 (s), .int .u32 (g)] 204)) w') => h.boxFree
  have hX0 : Ext w (w.alloc (Obj.cells #[.int .i64 (k), .int .u8 (a), .int .u8 (e), .int .u32 (h), .int .u16 (o), .int .u16 (r), .int .u16 (s), .int .u32 (g)] 204)) := Ext.alloc _ _
  generalize w.alloc (Obj.cells #[.int .i64 (k), .int .u8 (a), .int .u8 (e), .int .u32 (h), .int .u16 (o), .int .u16 (r), .int .u16 (s), .int .u32 (g)] 204) = W0 at *
  have hW := Ext.refl W0
  refine wp_region_ext (by kernel_rfl) (by kernel_rfl) ?_
  repeat
    with_reducible refine wpQuiet_step (fun K hK => ?_)
    go_simp
    first
    | (refine hK _ ?_; clear hK K)
    | (apply Exists.intro
       refine ⟨fun w1 h1 => ?_, hK _ ?_⟩
       (have hW := Ext.trans2 hW (by repeat (first | exact Ext.refl _ | exact Ext.alloc _ _ | exact Ext.drewN _ _ | assumption | refine Ext.trans ?_ (Ext.alloc _ _) | refine Ext.trans ?_ (Ext.drew _) | refine Ext.trans ?_ (by assumption))) h1; (try have hV := Ext.trans2 hV (by repeat (first | exact Ext.refl _ | exact Ext.alloc _ _ | exact Ext.drewN _ _ | assumption | refine Ext.trans ?_ (Ext.alloc _ _) | refine Ext.trans ?_ (Ext.drew _) | refine Ext.trans ?_ (by assumption))) h1); (first | rfl | (go_simp; done) | (go_simp; rfl) | (first | (go_at_call 95; refine (pack_any _ _ _ _ _ _ _ _ _ (hG.ext (hX0.trans h1)) b).mono ?_; rintro e w2 ⟨rfl, hb⟩; exact ⟨rfl, h1.trans hb⟩) | (go_at_call 100; refine (unpack_any _ _ (hG.ext (hX0.trans h1)) (p_inW b)).mono ?_; rintro e w2 ⟨rfl, hb⟩; exact ⟨rfl, h1.trans hb⟩))))
       clear hK K)
  refine wpQuiet_nil (fun w' hw' => ?_)
  have hW := Ext.trans2 hW (by repeat (first | exact Ext.refl _ | exact Ext.alloc _ _ | exact Ext.drewN _ _ | assumption | refine Ext.trans ?_ (Ext.alloc _ _) | refine Ext.trans ?_ (Ext.drew _) | refine Ext.trans ?_ (by assumption))) hw'
  try have hV := Ext.trans2 hV (by repeat (first | exact Ext.refl _ | exact Ext.alloc _ _ | exact Ext.drewN _ _ | assumption | refine Ext.trans ?_ (Ext.alloc _ _) | refine Ext.trans ?_ (Ext.drew _) | refine Ext.trans ?_ (by assumption))) hw'
  clear hw'
  go_wp2
  go_ret
  exact ⟨rfl, (hX0.trans (hW.trans (by repeat (first | exact Ext.refl _ | exact Ext.alloc _ _ | exact Ext.drewN _ _ | assumption | refine Ext.trans ?_ (Ext.alloc _ _) | refine Ext.trans ?_ (Ext.drew _) | refine Ext.trans ?_ (by assumption)))))⟩

def codeW (k a e h o r s g : Int) : Int := if hMayB k a e h o r s g = true then pI k a h o r s g e else 0
def codeE (k a e h o r s g : Int) : Int := if hMayB k a e h o r s g = true then 0 else 1
theorem code_any (k a e h o r s g : Int) (w : World) (hG : Glob w) (b : OkH k a e h o r s g) :
    Calls Tryz.prog 87 #[Value.agg #[.int .i64 (k), .int .u8 (a), .int .u8 (e), .int .u32 (h), .int .u16 (o), .int .u16 (r), .int .u16 (s), .int .u32 (g)]] w fun x w' => x = .returned (.tuple #[.int .u64 (codeW k a e h o r s g), .int .i64 (codeE k a e h o r s g)]) ∧ Ext w w' := by
  unfold codeW codeE
  cases hm : hMayB k a e h o r s g
  all_goals
    go_enter Tryz.func87, Tryz.ntmps87
    go_wp2_with fail
    have hX := fun w' (h : Ext (w.alloc (Obj.cells #[.int .i64 (k), .int .u8 (a), .int .u8 (e), .int .u32 (h), .int .u16 (o), .int .u16 (r), .int .u16 (s), .int .u32 (g)] 204)) w') => h.boxCell
    have hXf := fun w' (h : Ext (w.alloc (Obj.cells #[.int .i64 (k), .int .u8 (a), .int .u8 (e), .int .u32 (h), .int .u16 (o), .int .u16 (r), .int .u16 (s), .int .u32 (g)] 204)) w') => h.boxFree
    have hX0 : Ext w (w.alloc (Obj.cells #[.int .i64 (k), .int .u8 (a), .int .u8 (e), .int .u32 (h), .int .u16 (o), .int .u16 (r), .int .u16 (s), .int .u32 (g)] 204)) := Ext.alloc _ _
    generalize w.alloc (Obj.cells #[.int .i64 (k), .int .u8 (a), .int .u8 (e), .int .u32 (h), .int .u16 (o), .int .u16 (r), .int .u16 (s), .int .u32 (g)] 204) = W0 at *
    have hW := Ext.refl W0
    go_wp2_with (first | (go_at_call 94; (with_reducible refine (may_h _ _ _ _ _ _ _ _ _ (hG.ext (hX0.trans hW)) b).mono ?_); rintro e w' ⟨rfl, hb⟩; have hW := Ext.trans2 hW (by repeat (first | exact Ext.refl _ | exact Ext.alloc _ _ | exact Ext.drewN _ _ | assumption | refine Ext.trans ?_ (Ext.alloc _ _) | refine Ext.trans ?_ (Ext.drew _) | refine Ext.trans ?_ (by assumption))) hb; (try have hV := Ext.trans2 hV (by repeat (first | exact Ext.refl _ | exact Ext.alloc _ _ | exact Ext.drewN _ _ | assumption | refine Ext.trans ?_ (Ext.alloc _ _) | refine Ext.trans ?_ (Ext.drew _) | refine Ext.trans ?_ (by assumption))) hb); clear hb) | (go_at_call 95; (with_reducible refine (pack_any _ _ _ _ _ _ _ _ _ (hG.ext (hX0.trans hW)) b).mono ?_); rintro e w' ⟨rfl, hb⟩; have hW := Ext.trans2 hW (by repeat (first | exact Ext.refl _ | exact Ext.alloc _ _ | exact Ext.drewN _ _ | assumption | refine Ext.trans ?_ (Ext.alloc _ _) | refine Ext.trans ?_ (Ext.drew _) | refine Ext.trans ?_ (by assumption))) hb; (try have hV := Ext.trans2 hV (by repeat (first | exact Ext.refl _ | exact Ext.alloc _ _ | exact Ext.drewN _ _ | assumption | refine Ext.trans ?_ (Ext.alloc _ _) | refine Ext.trans ?_ (Ext.drew _) | refine Ext.trans ?_ (by assumption))) hb); clear hb))
    go_ret2
    exact ⟨by simp, (hX0.trans (hW.trans (by repeat (first | exact Ext.refl _ | exact Ext.alloc _ _ | exact Ext.drewN _ _ | assumption | refine Ext.trans ?_ (Ext.alloc _ _) | refine Ext.trans ?_ (Ext.drew _) | refine Ext.trans ?_ (by assumption)))))⟩

end Go.Proofs.YtlgomkocalieeaaGreatDoor.Wd
