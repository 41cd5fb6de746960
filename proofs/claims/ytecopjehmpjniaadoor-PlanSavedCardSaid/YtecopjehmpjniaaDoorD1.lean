/- Header, code, kind, owner, who has records: the small functions. -/
import Derived.Test.YtecopjehmpjniaaDoorA1
import Derived.BigRegion
namespace Go.Proofs.YtecopjehmpjniaaDoor
open Go.RowKit
set_option linter.unusedSimpArgs false
set_option linter.unusedVariables false


theorem ph_yes (v : Int) (w : World) (hG : Glob w) (hv : InW v) (hg : gW v) :
    Calls Tryd.prog 20 #[.int .u64 v] w fun x w' => x = .returned (Value.agg #[.int .i64 (uK (v)), .int .u8 (uA (v)), .int .u8 (uE (v)), .int .u32 (uH (v)), .int .u16 (uO (v)), .int .u16 (uR (v)), .int .u16 (uS (v)), .int .u32 (uG (v))]) ∧ Ext w w' := by
  go_enter Tryd.func20, Tryd.ntmps20
  go_wp2_with fail
  have hX := fun w' (h : Ext (w.alloc (Obj.cells #[.int .i64 (0), .int .u8 (0), .int .u8 (0), .int .u32 (0), .int .u16 (0), .int .u16 (0), .int .u16 (0), .int .u32 (0)] 62)) w') => h.boxCell
  have hXf := fun w' (h : Ext (w.alloc (Obj.cells #[.int .i64 (0), .int .u8 (0), .int .u8 (0), .int .u32 (0), .int .u16 (0), .int .u16 (0), .int .u16 (0), .int .u32 (0)] 62)) w') => h.boxFree
  have hX0 : Ext w (w.alloc (Obj.cells #[.int .i64 (0), .int .u8 (0), .int .u8 (0), .int .u32 (0), .int .u16 (0), .int .u16 (0), .int .u16 (0), .int .u32 (0)] 62)) := Ext.alloc _ _
  generalize w.alloc (Obj.cells #[.int .i64 (0), .int .u8 (0), .int .u8 (0), .int .u32 (0), .int .u16 (0), .int .u16 (0), .int .u16 (0), .int .u32 (0)] 62) = W0 at *
  have hW := Ext.refl W0
  go_wp2_with ((go_at_call 32; (with_reducible refine (read_yes _ _ (hG.ext (hX0.trans hW)) hv hg).mono ?_); rintro e w' ⟨rfl, hb⟩; have hW := Ext.trans2 hW (by repeat (first | exact Ext.refl _ | exact Ext.alloc _ _ | exact Ext.drewN _ _ | assumption | refine Ext.trans ?_ (Ext.alloc _ _) | refine Ext.trans ?_ (Ext.drew _) | refine Ext.trans ?_ (by assumption))) hb; (try have hV := Ext.trans2 hV (by repeat (first | exact Ext.refl _ | exact Ext.alloc _ _ | exact Ext.drewN _ _ | assumption | refine Ext.trans ?_ (Ext.alloc _ _) | refine Ext.trans ?_ (Ext.drew _) | refine Ext.trans ?_ (by assumption))) hb); clear hb); have hWA := fun o => hW.trans (Ext.alloc w' o))
  refine bodyPost_ret (v := Value.agg #[.int .i64 (uK (v)), .int .u8 (uA (v)), .int .u8 (uE (v)), .int .u32 (uH (v)), .int .u16 (uO (v)), .int .u16 (uR (v)), .int .u16 (uS (v)), .int .u32 (uG (v))]) (by simp [results, Tryd.results20, go_sem, *]) rfl ⟨rfl, ?_⟩
  ((repeat (with_reducible refine Ext.set ?_ (by simp) _)); exact (hX0.trans (hW.trans (by repeat (first | exact Ext.refl _ | exact Ext.alloc _ _ | exact Ext.drewN _ _ | assumption | refine Ext.trans ?_ (Ext.alloc _ _) | refine Ext.trans ?_ (Ext.drew _) | refine Ext.trans ?_ (by assumption))))))
theorem ph_no (v : Int) (w : World) (hG : Glob w) (hv : InW v) (hg : ¬ gW v) :
    Calls Tryd.prog 20 #[.int .u64 v] w fun x w' => x = .returned (Value.agg #[.int .i64 (0), .int .u8 (0), .int .u8 (0), .int .u32 (0), .int .u16 (0), .int .u16 (0), .int .u16 (0), .int .u32 (0)]) ∧ Ext w w' := by
  go_enter Tryd.func20, Tryd.ntmps20
  go_wp2_with fail
  have hX := fun w' (h : Ext (w.alloc (Obj.cells #[.int .i64 (0), .int .u8 (0), .int .u8 (0), .int .u32 (0), .int .u16 (0), .int .u16 (0), .int .u16 (0), .int .u32 (0)] 62)) w') => h.boxCell
  have hXf := fun w' (h : Ext (w.alloc (Obj.cells #[.int .i64 (0), .int .u8 (0), .int .u8 (0), .int .u32 (0), .int .u16 (0), .int .u16 (0), .int .u16 (0), .int .u32 (0)] 62)) w') => h.boxFree
  have hX0 : Ext w (w.alloc (Obj.cells #[.int .i64 (0), .int .u8 (0), .int .u8 (0), .int .u32 (0), .int .u16 (0), .int .u16 (0), .int .u16 (0), .int .u32 (0)] 62)) := Ext.alloc _ _
  generalize w.alloc (Obj.cells #[.int .i64 (0), .int .u8 (0), .int .u8 (0), .int .u32 (0), .int .u16 (0), .int .u16 (0), .int .u16 (0), .int .u32 (0)] 62) = W0 at *
  have hW := Ext.refl W0
  go_wp2_with ((go_at_call 32; (with_reducible refine (read_no _ _ (hG.ext (hX0.trans hW)) hv hg).mono ?_); rintro e w' ⟨rfl, hb⟩; have hW := Ext.trans2 hW (by repeat (first | exact Ext.refl _ | exact Ext.alloc _ _ | exact Ext.drewN _ _ | assumption | refine Ext.trans ?_ (Ext.alloc _ _) | refine Ext.trans ?_ (Ext.drew _) | refine Ext.trans ?_ (by assumption))) hb; (try have hV := Ext.trans2 hV (by repeat (first | exact Ext.refl _ | exact Ext.alloc _ _ | exact Ext.drewN _ _ | assumption | refine Ext.trans ?_ (Ext.alloc _ _) | refine Ext.trans ?_ (Ext.drew _) | refine Ext.trans ?_ (by assumption))) hb); clear hb); have hWA := fun o => hW.trans (Ext.alloc w' o))
  refine bodyPost_ret (v := Value.agg #[.int .i64 (0), .int .u8 (0), .int .u8 (0), .int .u32 (0), .int .u16 (0), .int .u16 (0), .int .u16 (0), .int .u32 (0)]) (by simp [results, Tryd.results20, go_sem, *]) rfl ⟨rfl, ?_⟩
  ((repeat (with_reducible refine Ext.set ?_ (by simp) _)); exact (hX0.trans (hW.trans (by repeat (first | exact Ext.refl _ | exact Ext.alloc _ _ | exact Ext.drewN _ _ | assumption | refine Ext.trans ?_ (Ext.alloc _ _) | refine Ext.trans ?_ (Ext.drew _) | refine Ext.trans ?_ (by assumption))))))
theorem pcode_any (k a e h o r s g : Int) (w : World) (hG : Glob w) (b : OkH k a e h o r s g) :
    Calls Tryd.prog 21 #[Value.agg #[.int .i64 (k), .int .u8 (a), .int .u8 (e), .int .u32 (h), .int .u16 (o), .int .u16 (r), .int .u16 (s), .int .u32 (g)]] w fun x w' => x = .returned (.int .u64 (codeW k a e h o r s g)) ∧ Ext w w' := by
  go_enter Tryd.func21, Tryd.ntmps21
  go_wp2_with fail
  have hX := fun w' (h : Ext (w.alloc (Obj.cells #[.int .i64 (k), .int .u8 (a), .int .u8 (e), .int .u32 (h), .int .u16 (o), .int .u16 (r), .int .u16 (s), .int .u32 (g)] 62)) w') => h.boxCell
  have hXf := fun w' (h : Ext (w.alloc (Obj.cells #[.int .i64 (k), .int .u8 (a), .int .u8 (e), .int .u32 (h), .int .u16 (o), .int .u16 (r), .int .u16 (s), .int .u32 (g)] 62)) w') => h.boxFree
  have hX0 : Ext w (w.alloc (Obj.cells #[.int .i64 (k), .int .u8 (a), .int .u8 (e), .int .u32 (h), .int .u16 (o), .int .u16 (r), .int .u16 (s), .int .u32 (g)] 62)) := Ext.alloc _ _
  generalize w.alloc (Obj.cells #[.int .i64 (k), .int .u8 (a), .int .u8 (e), .int .u32 (h), .int .u16 (o), .int .u16 (r), .int .u16 (s), .int .u32 (g)] 62) = W0 at *
  have hW := Ext.refl W0
  go_wp2_with (go_at_call 19; (with_reducible refine (code_any _ _ _ _ _ _ _ _ _ (hG.ext (hX0.trans hW)) b).mono ?_); rintro e w' ⟨rfl, hb⟩; have hW := Ext.trans2 hW (by repeat (first | exact Ext.refl _ | exact Ext.alloc _ _ | exact Ext.drewN _ _ | assumption | refine Ext.trans ?_ (Ext.alloc _ _) | refine Ext.trans ?_ (Ext.drew _) | refine Ext.trans ?_ (by assumption))) hb; (try have hV := Ext.trans2 hV (by repeat (first | exact Ext.refl _ | exact Ext.alloc _ _ | exact Ext.drewN _ _ | assumption | refine Ext.trans ?_ (Ext.alloc _ _) | refine Ext.trans ?_ (Ext.drew _) | refine Ext.trans ?_ (by assumption))) hb); clear hb)
  go_ret
  exact ⟨rfl, (hX0.trans (hW.trans (by repeat (first | exact Ext.refl _ | exact Ext.alloc _ _ | exact Ext.drewN _ _ | assumption | refine Ext.trans ?_ (Ext.alloc _ _) | refine Ext.trans ?_ (Ext.drew _) | refine Ext.trans ?_ (by assumption)))))⟩
theorem kind_any (v : Int) (w : World) (hG : Glob w) (hv : InW v) : Calls Tryd.prog 16 #[.int .u64 v] w fun x w' => x = .returned (.int .i64 (kdv v)) ∧ Ext w w' := by
  by_cases hg : gW v
  · rw [show kdv v = uK v by simp [kdv, hg]]
    have hX0 := Ext.refl w
    have hW := Ext.refl w
    go_enter Tryd.func16, Tryd.ntmps16
    go_wp2_with (go_at_call 32; (with_reducible refine (read_yes _ _ (hG.ext (hX0.trans hW)) hv hg).mono ?_); rintro e w' ⟨rfl, hb⟩; have hW := Ext.trans2 hW (by repeat (first | exact Ext.refl _ | exact Ext.alloc _ _ | exact Ext.drewN _ _ | assumption | refine Ext.trans ?_ (Ext.alloc _ _) | refine Ext.trans ?_ (Ext.drew _) | refine Ext.trans ?_ (by assumption))) hb; (try have hV := Ext.trans2 hV (by repeat (first | exact Ext.refl _ | exact Ext.alloc _ _ | exact Ext.drewN _ _ | assumption | refine Ext.trans ?_ (Ext.alloc _ _) | refine Ext.trans ?_ (Ext.drew _) | refine Ext.trans ?_ (by assumption))) hb); clear hb)
    go_ret
    exact ⟨rfl, (hX0.trans (hW.trans (by repeat (first | exact Ext.refl _ | exact Ext.alloc _ _ | exact Ext.drewN _ _ | assumption | refine Ext.trans ?_ (Ext.alloc _ _) | refine Ext.trans ?_ (Ext.drew _) | refine Ext.trans ?_ (by assumption)))))⟩
  · rw [show kdv v = 0 by simp [kdv, hg]]
    have hX0 := Ext.refl w
    have hW := Ext.refl w
    go_enter Tryd.func16, Tryd.ntmps16
    go_wp2_with (go_at_call 32; (with_reducible refine (read_no _ _ (hG.ext (hX0.trans hW)) hv hg).mono ?_); rintro e w' ⟨rfl, hb⟩; have hW := Ext.trans2 hW (by repeat (first | exact Ext.refl _ | exact Ext.alloc _ _ | exact Ext.drewN _ _ | assumption | refine Ext.trans ?_ (Ext.alloc _ _) | refine Ext.trans ?_ (Ext.drew _) | refine Ext.trans ?_ (by assumption))) hb; (try have hV := Ext.trans2 hV (by repeat (first | exact Ext.refl _ | exact Ext.alloc _ _ | exact Ext.drewN _ _ | assumption | refine Ext.trans ?_ (Ext.alloc _ _) | refine Ext.trans ?_ (Ext.drew _) | refine Ext.trans ?_ (by assumption))) hb); clear hb)
    go_ret
    exact ⟨rfl, (hX0.trans (hW.trans (by repeat (first | exact Ext.refl _ | exact Ext.alloc _ _ | exact Ext.drewN _ _ | assumption | refine Ext.trans ?_ (Ext.alloc _ _) | refine Ext.trans ?_ (Ext.drew _) | refine Ext.trans ?_ (by assumption)))))⟩
/-- A field of a header that lies in no memory. -/
theorem run_f4 (k a e h o r s g : Int) (w : World) : Sem.run Tryd.prog (Instr.field 62 (Value.agg #[.int .i64 (k), .int .u8 (a), .int .u8 (e), .int .u32 (h), .int .u16 (o), .int .u16 (r), .int .u16 (s), .int .u32 (g)]) 4) w = .ok (.int .u16 o) w := rfl
theorem owner_any (v : Int) (w : World) (hG : Glob w) (hv : InW v) : Calls Tryd.prog 10 #[.int .u64 v] w fun x w' => x = .returned (.int .i64 (ownW v)) ∧ Ext w w' := by
  obtain ⟨_, _, _, _, _, _, o0, o1, _⟩ := u_ok hv
  have hF := run_f4
  by_cases hg : gW v
  · rw [show ownW v = uO v - 1 by simp [ownW, hg]]
    have hX0 := Ext.refl w
    have hW := Ext.refl w
    go_enter Tryd.func10, Tryd.ntmps10
    go_wp2_with (go_at_call 20; (with_reducible refine (ph_yes _ _ (hG.ext (hX0.trans hW)) hv hg).mono ?_); rintro e w' ⟨rfl, hb⟩; have hW := Ext.trans2 hW (by repeat (first | exact Ext.refl _ | exact Ext.alloc _ _ | exact Ext.drewN _ _ | assumption | refine Ext.trans ?_ (Ext.alloc _ _) | refine Ext.trans ?_ (Ext.drew _) | refine Ext.trans ?_ (by assumption))) hb; (try have hV := Ext.trans2 hV (by repeat (first | exact Ext.refl _ | exact Ext.alloc _ _ | exact Ext.drewN _ _ | assumption | refine Ext.trans ?_ (Ext.alloc _ _) | refine Ext.trans ?_ (Ext.drew _) | refine Ext.trans ?_ (by assumption))) hb); clear hb)
    go_ret
    exact ⟨rfl, (hX0.trans (hW.trans (by repeat (first | exact Ext.refl _ | exact Ext.alloc _ _ | exact Ext.drewN _ _ | assumption | refine Ext.trans ?_ (Ext.alloc _ _) | refine Ext.trans ?_ (Ext.drew _) | refine Ext.trans ?_ (by assumption)))))⟩
  · rw [show ownW v = -1 by simp [ownW, hg]]
    have hX0 := Ext.refl w
    have hW := Ext.refl w
    go_enter Tryd.func10, Tryd.ntmps10
    go_wp2_with (go_at_call 20; (with_reducible refine (ph_no _ _ (hG.ext (hX0.trans hW)) hv hg).mono ?_); rintro e w' ⟨rfl, hb⟩; have hW := Ext.trans2 hW (by repeat (first | exact Ext.refl _ | exact Ext.alloc _ _ | exact Ext.drewN _ _ | assumption | refine Ext.trans ?_ (Ext.alloc _ _) | refine Ext.trans ?_ (Ext.drew _) | refine Ext.trans ?_ (by assumption))) hb; (try have hV := Ext.trans2 hV (by repeat (first | exact Ext.refl _ | exact Ext.alloc _ _ | exact Ext.drewN _ _ | assumption | refine Ext.trans ?_ (Ext.alloc _ _) | refine Ext.trans ?_ (Ext.drew _) | refine Ext.trans ?_ (by assumption))) hb); clear hb)
    go_ret
    exact ⟨rfl, (hX0.trans (hW.trans (by repeat (first | exact Ext.refl _ | exact Ext.alloc _ _ | exact Ext.drewN _ _ | assumption | refine Ext.trans ?_ (Ext.alloc _ _) | refine Ext.trans ?_ (Ext.drew _) | refine Ext.trans ?_ (by assumption)))))⟩
/-- The document's Owner. -/
theorem rowner_any (v : Int) (w : World) (hv : InW v) : Calls Tryd.prog 11 #[.int .u64 v] w fun x w' => x = .returned (.int .i64 (ownW v)) ∧ Ext w w' := by
  obtain ⟨_, _, _, _, _, _, o0, o1, _⟩ := u_ok hv
  have hX0 := Ext.refl w
  have hW := Ext.refl w
  by_cases hg : gW v
  · rw [show ownW v = uO v - 1 by simp [ownW, hg]]
    have R := rread_yes v
    have K := uK_cases v
    have z : uK v = 2 ∨ uK v = 3 ∨ uK v = 5 → uO v = 0 := by
      intro h
      unfold uK at h
      unfold uO
      by_cases v0 : v = 0
      · subst v0; simp
      · by_cases q : v % 8 = 0 ∨ v % 8 = 5
        · exfalso
          rcases q with q | q <;> simp only [v0, q, if_false, if_true] at h <;> (repeat' split at h) <;> omega
        · rw [if_neg q]
    have G := gW_kind hg
    generalize uK v = kk at *
    generalize uO v = oo at *
    rcases K with rfl | rfl | rfl | rfl | rfl | rfl
    · exact absurd rfl G
    all_goals
      go_enter Tryd.func11, Tryd.ntmps11
      go_wp2_with (go_at_call 18; (with_reducible refine (R _ hv hg).mono ?_); rintro e w' ⟨rfl, hb⟩; have hW := Ext.trans2 hW (by repeat (first | exact Ext.refl _ | exact Ext.alloc _ _ | exact Ext.drewN _ _ | assumption | refine Ext.trans ?_ (Ext.alloc _ _) | refine Ext.trans ?_ (Ext.drew _) | refine Ext.trans ?_ (by assumption))) hb; (try have hV := Ext.trans2 hV (by repeat (first | exact Ext.refl _ | exact Ext.alloc _ _ | exact Ext.drewN _ _ | assumption | refine Ext.trans ?_ (Ext.alloc _ _) | refine Ext.trans ?_ (Ext.drew _) | refine Ext.trans ?_ (by assumption))) hb); clear hb)
      go_ret
      exact ⟨by simp [z], (hX0.trans (hW.trans (by repeat (first | exact Ext.refl _ | exact Ext.alloc _ _ | exact Ext.drewN _ _ | assumption | refine Ext.trans ?_ (Ext.alloc _ _) | refine Ext.trans ?_ (Ext.drew _) | refine Ext.trans ?_ (by assumption)))))⟩
  · rw [show ownW v = -1 by simp [ownW, hg]]
    have hX0 := Ext.refl w
    have hW := Ext.refl w
    go_enter Tryd.func11, Tryd.ntmps11
    go_wp2_with (go_at_call 18; (with_reducible refine (rread_no _ _ hv hg).mono ?_); rintro e w' ⟨rfl, hb⟩; have hW := Ext.trans2 hW (by repeat (first | exact Ext.refl _ | exact Ext.alloc _ _ | exact Ext.drewN _ _ | assumption | refine Ext.trans ?_ (Ext.alloc _ _) | refine Ext.trans ?_ (Ext.drew _) | refine Ext.trans ?_ (by assumption))) hb; (try have hV := Ext.trans2 hV (by repeat (first | exact Ext.refl _ | exact Ext.alloc _ _ | exact Ext.drewN _ _ | assumption | refine Ext.trans ?_ (Ext.alloc _ _) | refine Ext.trans ?_ (Ext.drew _) | refine Ext.trans ?_ (by assumption))) hb); clear hb)
    go_ret
    exact ⟨rfl, (hX0.trans (hW.trans (by repeat (first | exact Ext.refl _ | exact Ext.alloc _ _ | exact Ext.drewN _ _ | assumption | refine Ext.trans ?_ (Ext.alloc _ _) | refine Ext.trans ?_ (Ext.drew _) | refine Ext.trans ?_ (by assumption)))))⟩
end Go.Proofs.YtecopjehmpjniaaDoor
