/- The document's One; changes held against each other; one that is alive. -/
import Derived.Test.YtecopjehmpjniaaDoorD2
import Derived.Test.YtecopjehmpjniaaDoorA2
namespace Go.Proofs.YtecopjehmpjniaaDoor
open Go.RowKit
set_option linter.unusedSimpArgs false
set_option linter.unusedVariables false


theorem rneu_any {a : Int} (w : World) (b : OkH 2 a 0 0 0 0 0 0) :
    Calls Tryd.prog 23 #[Value.agg #[.int .i64 (2), .int .u8 (a), .int .u8 (0), .int .u32 (0), .int .u16 (0), .int .u16 (0), .int .u16 (0), .int .u32 (0)]] w fun x w' => x = .returned (.tuple #[.int .u64 (neuI a), .int .i64 (codeE 2 a 0 0 0 0 0 0)]) ∧ Ext w w' := rcode_any _ _ _ _ _ _ _ _ _ b
theorem rthi_any {n o : Int} (w : World) (b : OkH 1 0 0 0 n o 0 0) :
    Calls Tryd.prog 23 #[Value.agg #[.int .i64 (1), .int .u8 (0), .int .u8 (0), .int .u32 (0), .int .u16 (n), .int .u16 (o), .int .u16 (0), .int .u32 (0)]] w fun x w' => x = .returned (.tuple #[.int .u64 (thiI n o), .int .i64 (codeE 1 0 0 0 n o 0 0)]) ∧ Ext w w' := rcode_any _ _ _ _ _ _ _ _ _ b
set_option maxHeartbeats 1000000 in
theorem rone_any (o : Int) (x : Ob) (w : World) (hx : OkO w x) : Calls Tryd.prog 8 #[.int .i64 o, .agg (sc x)] w fun e w' => e = .returned (.tuple #[.agg (gc (oneV o x)), .bool (oneB o x)]) ∧ Ext w w' := by
  have hx0 := hx
  obtain ⟨v, k, A, cp, l⟩ := x
  obtain ⟨hv, hc, hl, hcap⟩ := hx
  simp only [sc] at hv hc hl hcap ⊢
  by_cases hg : gW v
  · cases hi : isB v
    · have hb := one_kind (o := o) (x := ⟨v, k, A, cp, l⟩) hi
      have n1 : (uK v != 4) = true := by
        have : isB v = (uK v == 4) := by simp [isB, hg]
        rw [this] at hi
        simpa [bne] using hi
      rw [show gc (oneV o ⟨v, k, A, cp, l⟩) = #[.int .i64 0, .int .u64 0, .int .i64 0, .int .u64 0] by rw [one_no hb]; rfl, hb]
      clear hb
      go_enter Tryd.func8, Tryd.ntmps8
      go_wp2_with fail
      have hY := fun w' (h : Ext ((w.alloc (Obj.cells #[.int .u64 v, .int .i64 k, .slice A l.length cp] 25)).alloc (Obj.cells #[.int .i64 0, .int .u64 0, .int .i64 0, .int .u64 0] 32)) w') => h.boxCell
      have hYf := fun w' (h : Ext ((w.alloc (Obj.cells #[.int .u64 v, .int .i64 k, .slice A l.length cp] 25)).alloc (Obj.cells #[.int .i64 0, .int .u64 0, .int .i64 0, .int .u64 0] 32)) w') => h.boxFree
      simp only [World.size_alloc] at hY hYf
      have hX := fun w' (h : Ext ((w.alloc (Obj.cells #[.int .u64 v, .int .i64 k, .slice A l.length cp] 25)).alloc (Obj.cells #[.int .i64 0, .int .u64 0, .int .i64 0, .int .u64 0] 32)) w') => ((Ext.alloc (w.alloc (Obj.cells #[.int .u64 v, .int .i64 k, .slice A l.length cp] 25)) (Obj.cells #[.int .i64 0, .int .u64 0, .int .i64 0, .int .u64 0] 32)).trans h).boxCell
      have hXf := fun w' (h : Ext ((w.alloc (Obj.cells #[.int .u64 v, .int .i64 k, .slice A l.length cp] 25)).alloc (Obj.cells #[.int .i64 0, .int .u64 0, .int .i64 0, .int .u64 0] 32)) w') => ((Ext.alloc (w.alloc (Obj.cells #[.int .u64 v, .int .i64 k, .slice A l.length cp] 25)) (Obj.cells #[.int .i64 0, .int .u64 0, .int .i64 0, .int .u64 0] 32)).trans h).boxFree
      have hX0 : Ext w ((w.alloc (Obj.cells #[.int .u64 v, .int .i64 k, .slice A l.length cp] 25)).alloc (Obj.cells #[.int .i64 0, .int .u64 0, .int .i64 0, .int .u64 0] 32)) := (Ext.alloc _ _).trans (Ext.alloc _ _)
      generalize (w.alloc (Obj.cells #[.int .u64 v, .int .i64 k, .slice A l.length cp] 25)).alloc (Obj.cells #[.int .i64 0, .int .u64 0, .int .i64 0, .int .u64 0] 32) = W0 at *
      have hW := Ext.refl W0
      go_wp2_with ((go_at_call 18; (with_reducible refine (rread_yes _ _ hv hg).mono ?_); rintro e w' ⟨rfl, hb⟩; have hW := Ext.trans2 hW (by repeat (first | exact Ext.refl _ | exact Ext.alloc _ _ | exact Ext.drewN _ _ | assumption | refine Ext.trans ?_ (Ext.alloc _ _) | refine Ext.trans ?_ (Ext.drew _) | refine Ext.trans ?_ (by assumption))) hb; (try have hV := Ext.trans2 hV (by repeat (first | exact Ext.refl _ | exact Ext.alloc _ _ | exact Ext.drewN _ _ | assumption | refine Ext.trans ?_ (Ext.alloc _ _) | refine Ext.trans ?_ (Ext.drew _) | refine Ext.trans ?_ (by assumption))) hb); clear hb); have hWA := fun o => hW.trans (Ext.alloc w' o))
      refine bodyPost_ret (v := .tuple #[.agg #[.int .i64 0, .int .u64 0, .int .i64 0, .int .u64 0], .bool false]) (by simp [results, Tryd.results8, go_sem, *]) rfl ⟨rfl, ?_⟩
      ((repeat (with_reducible refine Ext.set ?_ (by simp) _)); exact (hX0.trans (hW.trans (by repeat (first | exact Ext.refl _ | exact Ext.alloc _ _ | exact Ext.drewN _ _ | assumption | refine Ext.trans ?_ (Ext.alloc _ _) | refine Ext.trans ?_ (Ext.drew _) | refine Ext.trans ?_ (by assumption))))))
    · have k4 := (isB_4 hi).2
      obtain ⟨z1, z2, z3, z4, _⟩ := u4_z k4
      have B := rread_yes v
      rw [k4, z1, z2, z3, z4] at B
      by_cases h0 : 0 ≤ o
      · by_cases h1 : o ≤ 65535
        · have hb := one_yes (x := ⟨v, k, A, cp, l⟩) hi h0 h1
          have bn := ok_neu hv
          have bt := ok_thi hv h0 h1
          have q16 := u16_of h0 h1
          cases hh : hasB (ownW v) l
          · rw [show gc (oneV o ⟨v, k, A, cp, l⟩) = #[.int .i64 o, .int .u64 (neuI (uA v)), .int .i64 (-1), .int .u64 0] by rw [one_free hb hh]; rfl, hb]
            have OW := has_any ⟨v, k, A, cp, l⟩ (ownW v)
            simp only [sc] at OW
            rw [hh] at OW
            clear hb hh hc q16
            go_enter Tryd.func8, Tryd.ntmps8
            go_wp2_with fail
            have hY := fun w' (h : Ext ((w.alloc (Obj.cells #[.int .u64 v, .int .i64 k, .slice A l.length cp] 25)).alloc (Obj.cells #[.int .i64 0, .int .u64 0, .int .i64 0, .int .u64 0] 32)) w') => h.boxCell
            have hYf := fun w' (h : Ext ((w.alloc (Obj.cells #[.int .u64 v, .int .i64 k, .slice A l.length cp] 25)).alloc (Obj.cells #[.int .i64 0, .int .u64 0, .int .i64 0, .int .u64 0] 32)) w') => h.boxFree
            simp only [World.size_alloc] at hY hYf
            have hX := fun w' (h : Ext ((w.alloc (Obj.cells #[.int .u64 v, .int .i64 k, .slice A l.length cp] 25)).alloc (Obj.cells #[.int .i64 0, .int .u64 0, .int .i64 0, .int .u64 0] 32)) w') => ((Ext.alloc (w.alloc (Obj.cells #[.int .u64 v, .int .i64 k, .slice A l.length cp] 25)) (Obj.cells #[.int .i64 0, .int .u64 0, .int .i64 0, .int .u64 0] 32)).trans h).boxCell
            have hXf := fun w' (h : Ext ((w.alloc (Obj.cells #[.int .u64 v, .int .i64 k, .slice A l.length cp] 25)).alloc (Obj.cells #[.int .i64 0, .int .u64 0, .int .i64 0, .int .u64 0] 32)) w') => ((Ext.alloc (w.alloc (Obj.cells #[.int .u64 v, .int .i64 k, .slice A l.length cp] 25)) (Obj.cells #[.int .i64 0, .int .u64 0, .int .i64 0, .int .u64 0] 32)).trans h).boxFree
            have hX0 : Ext w ((w.alloc (Obj.cells #[.int .u64 v, .int .i64 k, .slice A l.length cp] 25)).alloc (Obj.cells #[.int .i64 0, .int .u64 0, .int .i64 0, .int .u64 0] 32)) := (Ext.alloc _ _).trans (Ext.alloc _ _)
            generalize (w.alloc (Obj.cells #[.int .u64 v, .int .i64 k, .slice A l.length cp] 25)).alloc (Obj.cells #[.int .i64 0, .int .u64 0, .int .i64 0, .int .u64 0] 32) = W0 at *
            have hW := Ext.refl W0
            go_wp2_with (go_at_call 18; (with_reducible refine (B _ hv hg).mono ?_); rintro e w' ⟨rfl, hb⟩; have hW := Ext.trans2 hW (by repeat (first | exact Ext.refl _ | exact Ext.alloc _ _ | exact Ext.drewN _ _ | assumption | refine Ext.trans ?_ (Ext.alloc _ _) | refine Ext.trans ?_ (Ext.drew _) | refine Ext.trans ?_ (by assumption))) hb; (try have hV := Ext.trans2 hV (by repeat (first | exact Ext.refl _ | exact Ext.alloc _ _ | exact Ext.drewN _ _ | assumption | refine Ext.trans ?_ (Ext.alloc _ _) | refine Ext.trans ?_ (Ext.drew _) | refine Ext.trans ?_ (by assumption))) hb); clear hb)
            have hX := fun wx (h : Ext (w'.alloc (Obj.cells #[.int .i64 (4), .int .u8 (uA v), .int .u8 (uE v), .int .u32 (0), .int .u16 (uO v), .int .u16 (0), .int .u16 (0), .int .u32 (0)] 57)) wx) => h.boxCell
            have hXf := fun wx (h : Ext (w'.alloc (Obj.cells #[.int .i64 (4), .int .u8 (uA v), .int .u8 (uE v), .int .u32 (0), .int .u16 (uO v), .int .u16 (0), .int .u16 (0), .int .u32 (0)] 57)) wx) => h.boxFree
            have hW := hW.trans (Ext.alloc w' (Obj.cells #[.int .i64 (4), .int .u8 (uA v), .int .u8 (uE v), .int .u32 (0), .int .u16 (uO v), .int .u16 (0), .int .u16 (0), .int .u32 (0)] 57))
            generalize w'.alloc (Obj.cells #[.int .i64 (4), .int .u8 (uA v), .int .u8 (uE v), .int .u32 (0), .int .u16 (uO v), .int .u16 (0), .int .u16 (0), .int .u32 (0)] 57) = W1 at *
            have hV := Ext.refl W1
            go_wp2_with (first | (go_at_call 23; (with_reducible refine (rneu_any _ bn).mono ?_); rintro e w' ⟨rfl, hb⟩; have hW := Ext.trans2 hW (by repeat (first | exact Ext.refl _ | exact Ext.alloc _ _ | exact Ext.drewN _ _ | assumption | refine Ext.trans ?_ (Ext.alloc _ _) | refine Ext.trans ?_ (Ext.drew _) | refine Ext.trans ?_ (by assumption))) hb; (try have hV := Ext.trans2 hV (by repeat (first | exact Ext.refl _ | exact Ext.alloc _ _ | exact Ext.drewN _ _ | assumption | refine Ext.trans ?_ (Ext.alloc _ _) | refine Ext.trans ?_ (Ext.drew _) | refine Ext.trans ?_ (by assumption))) hb); clear hb) | (go_at_call 24; (with_reducible refine (OW _ (hx0.ext (hX0.trans hW))).mono ?_); rintro e w' ⟨rfl, hb⟩; have hW := Ext.trans2 hW (by repeat (first | exact Ext.refl _ | exact Ext.alloc _ _ | exact Ext.drewN _ _ | assumption | refine Ext.trans ?_ (Ext.alloc _ _) | refine Ext.trans ?_ (Ext.drew _) | refine Ext.trans ?_ (by assumption))) hb; (try have hV := Ext.trans2 hV (by repeat (first | exact Ext.refl _ | exact Ext.alloc _ _ | exact Ext.drewN _ _ | assumption | refine Ext.trans ?_ (Ext.alloc _ _) | refine Ext.trans ?_ (Ext.drew _) | refine Ext.trans ?_ (by assumption))) hb); clear hb) | (go_at_call 11; (with_reducible refine (rowner_any _ _ hv).mono ?_); rintro e w' ⟨rfl, hb⟩; have hW := Ext.trans2 hW (by repeat (first | exact Ext.refl _ | exact Ext.alloc _ _ | exact Ext.drewN _ _ | assumption | refine Ext.trans ?_ (Ext.alloc _ _) | refine Ext.trans ?_ (Ext.drew _) | refine Ext.trans ?_ (by assumption))) hb; (try have hV := Ext.trans2 hV (by repeat (first | exact Ext.refl _ | exact Ext.alloc _ _ | exact Ext.drewN _ _ | assumption | refine Ext.trans ?_ (Ext.alloc _ _) | refine Ext.trans ?_ (Ext.drew _) | refine Ext.trans ?_ (by assumption))) hb); clear hb))
            refine bodyPost_ret (v := .tuple #[.agg #[.int .i64 o, .int .u64 (neuI (uA v)), .int .i64 (-1), .int .u64 0], .bool true]) (by simp [results, Tryd.results8, go_sem, *]) rfl ⟨rfl, ?_⟩
            ((repeat (with_reducible refine Ext.set ?_ (by simp) _)); exact (hX0.trans (hW.trans (by repeat (first | exact Ext.refl _ | exact Ext.alloc _ _ | exact Ext.drewN _ _ | assumption | refine Ext.trans ?_ (Ext.alloc _ _) | refine Ext.trans ?_ (Ext.drew _) | refine Ext.trans ?_ (by assumption))))))
          · rw [show gc (oneV o ⟨v, k, A, cp, l⟩) = #[.int .i64 o, .int .u64 (thiI (uO v) o), .int .i64 (ownW v), .int .u64 (neuI (uA v))] by rw [one_held hb hh]; rfl, hb]
            have OW := has_any ⟨v, k, A, cp, l⟩ (ownW v)
            simp only [sc] at OW
            rw [hh] at OW
            clear hb hh hc
            go_enter Tryd.func8, Tryd.ntmps8
            go_wp2_with fail
            have hY := fun w' (h : Ext ((w.alloc (Obj.cells #[.int .u64 v, .int .i64 k, .slice A l.length cp] 25)).alloc (Obj.cells #[.int .i64 0, .int .u64 0, .int .i64 0, .int .u64 0] 32)) w') => h.boxCell
            have hYf := fun w' (h : Ext ((w.alloc (Obj.cells #[.int .u64 v, .int .i64 k, .slice A l.length cp] 25)).alloc (Obj.cells #[.int .i64 0, .int .u64 0, .int .i64 0, .int .u64 0] 32)) w') => h.boxFree
            simp only [World.size_alloc] at hY hYf
            have hX := fun w' (h : Ext ((w.alloc (Obj.cells #[.int .u64 v, .int .i64 k, .slice A l.length cp] 25)).alloc (Obj.cells #[.int .i64 0, .int .u64 0, .int .i64 0, .int .u64 0] 32)) w') => ((Ext.alloc (w.alloc (Obj.cells #[.int .u64 v, .int .i64 k, .slice A l.length cp] 25)) (Obj.cells #[.int .i64 0, .int .u64 0, .int .i64 0, .int .u64 0] 32)).trans h).boxCell
            have hXf := fun w' (h : Ext ((w.alloc (Obj.cells #[.int .u64 v, .int .i64 k, .slice A l.length cp] 25)).alloc (Obj.cells #[.int .i64 0, .int .u64 0, .int .i64 0, .int .u64 0] 32)) w') => ((Ext.alloc (w.alloc (Obj.cells #[.int .u64 v, .int .i64 k, .slice A l.length cp] 25)) (Obj.cells #[.int .i64 0, .int .u64 0, .int .i64 0, .int .u64 0] 32)).trans h).boxFree
            have hX0 : Ext w ((w.alloc (Obj.cells #[.int .u64 v, .int .i64 k, .slice A l.length cp] 25)).alloc (Obj.cells #[.int .i64 0, .int .u64 0, .int .i64 0, .int .u64 0] 32)) := (Ext.alloc _ _).trans (Ext.alloc _ _)
            generalize (w.alloc (Obj.cells #[.int .u64 v, .int .i64 k, .slice A l.length cp] 25)).alloc (Obj.cells #[.int .i64 0, .int .u64 0, .int .i64 0, .int .u64 0] 32) = W0 at *
            have hW := Ext.refl W0
            go_wp2_with (go_at_call 18; (with_reducible refine (B _ hv hg).mono ?_); rintro e w' ⟨rfl, hb⟩; have hW := Ext.trans2 hW (by repeat (first | exact Ext.refl _ | exact Ext.alloc _ _ | exact Ext.drewN _ _ | assumption | refine Ext.trans ?_ (Ext.alloc _ _) | refine Ext.trans ?_ (Ext.drew _) | refine Ext.trans ?_ (by assumption))) hb; (try have hV := Ext.trans2 hV (by repeat (first | exact Ext.refl _ | exact Ext.alloc _ _ | exact Ext.drewN _ _ | assumption | refine Ext.trans ?_ (Ext.alloc _ _) | refine Ext.trans ?_ (Ext.drew _) | refine Ext.trans ?_ (by assumption))) hb); clear hb)
            have hX := fun wx (h : Ext (w'.alloc (Obj.cells #[.int .i64 (4), .int .u8 (uA v), .int .u8 (uE v), .int .u32 (0), .int .u16 (uO v), .int .u16 (0), .int .u16 (0), .int .u32 (0)] 57)) wx) => h.boxCell
            have hXf := fun wx (h : Ext (w'.alloc (Obj.cells #[.int .i64 (4), .int .u8 (uA v), .int .u8 (uE v), .int .u32 (0), .int .u16 (uO v), .int .u16 (0), .int .u16 (0), .int .u32 (0)] 57)) wx) => h.boxFree
            have hW := hW.trans (Ext.alloc w' (Obj.cells #[.int .i64 (4), .int .u8 (uA v), .int .u8 (uE v), .int .u32 (0), .int .u16 (uO v), .int .u16 (0), .int .u16 (0), .int .u32 (0)] 57))
            generalize w'.alloc (Obj.cells #[.int .i64 (4), .int .u8 (uA v), .int .u8 (uE v), .int .u32 (0), .int .u16 (uO v), .int .u16 (0), .int .u16 (0), .int .u32 (0)] 57) = W1 at *
            have hV := Ext.refl W1
            go_wp2_with (first | (go_at_call 23; (with_reducible refine (rneu_any _ bn).mono ?_); rintro e w' ⟨rfl, hb⟩; have hW := Ext.trans2 hW (by repeat (first | exact Ext.refl _ | exact Ext.alloc _ _ | exact Ext.drewN _ _ | assumption | refine Ext.trans ?_ (Ext.alloc _ _) | refine Ext.trans ?_ (Ext.drew _) | refine Ext.trans ?_ (by assumption))) hb; (try have hV := Ext.trans2 hV (by repeat (first | exact Ext.refl _ | exact Ext.alloc _ _ | exact Ext.drewN _ _ | assumption | refine Ext.trans ?_ (Ext.alloc _ _) | refine Ext.trans ?_ (Ext.drew _) | refine Ext.trans ?_ (by assumption))) hb); clear hb) | (go_at_call 23; (with_reducible refine (rthi_any _ bt).mono ?_); rintro e w' ⟨rfl, hb⟩; have hW := Ext.trans2 hW (by repeat (first | exact Ext.refl _ | exact Ext.alloc _ _ | exact Ext.drewN _ _ | assumption | refine Ext.trans ?_ (Ext.alloc _ _) | refine Ext.trans ?_ (Ext.drew _) | refine Ext.trans ?_ (by assumption))) hb; (try have hV := Ext.trans2 hV (by repeat (first | exact Ext.refl _ | exact Ext.alloc _ _ | exact Ext.drewN _ _ | assumption | refine Ext.trans ?_ (Ext.alloc _ _) | refine Ext.trans ?_ (Ext.drew _) | refine Ext.trans ?_ (by assumption))) hb); clear hb) | (go_at_call 24; (with_reducible refine (OW _ (hx0.ext (hX0.trans hW))).mono ?_); rintro e w' ⟨rfl, hb⟩; have hW := Ext.trans2 hW (by repeat (first | exact Ext.refl _ | exact Ext.alloc _ _ | exact Ext.drewN _ _ | assumption | refine Ext.trans ?_ (Ext.alloc _ _) | refine Ext.trans ?_ (Ext.drew _) | refine Ext.trans ?_ (by assumption))) hb; (try have hV := Ext.trans2 hV (by repeat (first | exact Ext.refl _ | exact Ext.alloc _ _ | exact Ext.drewN _ _ | assumption | refine Ext.trans ?_ (Ext.alloc _ _) | refine Ext.trans ?_ (Ext.drew _) | refine Ext.trans ?_ (by assumption))) hb); clear hb) | (go_at_call 11; (with_reducible refine (rowner_any _ _ hv).mono ?_); rintro e w' ⟨rfl, hb⟩; have hW := Ext.trans2 hW (by repeat (first | exact Ext.refl _ | exact Ext.alloc _ _ | exact Ext.drewN _ _ | assumption | refine Ext.trans ?_ (Ext.alloc _ _) | refine Ext.trans ?_ (Ext.drew _) | refine Ext.trans ?_ (by assumption))) hb; (try have hV := Ext.trans2 hV (by repeat (first | exact Ext.refl _ | exact Ext.alloc _ _ | exact Ext.drewN _ _ | assumption | refine Ext.trans ?_ (Ext.alloc _ _) | refine Ext.trans ?_ (Ext.drew _) | refine Ext.trans ?_ (by assumption))) hb); clear hb))
            refine bodyPost_ret (v := .tuple #[.agg #[.int .i64 o, .int .u64 (thiI (uO v) o), .int .i64 (ownW v), .int .u64 (neuI (uA v))], .bool true]) (by simp [results, Tryd.results8, go_sem, *]) rfl ⟨rfl, ?_⟩
            ((repeat (with_reducible refine Ext.set ?_ (by simp) _)); exact (hX0.trans (hW.trans (by repeat (first | exact Ext.refl _ | exact Ext.alloc _ _ | exact Ext.drewN _ _ | assumption | refine Ext.trans ?_ (Ext.alloc _ _) | refine Ext.trans ?_ (Ext.drew _) | refine Ext.trans ?_ (by assumption))))))
        · have hb := one_hi (x := ⟨v, k, A, cp, l⟩) h1
          rw [show gc (oneV o ⟨v, k, A, cp, l⟩) = #[.int .i64 0, .int .u64 0, .int .i64 0, .int .u64 0] by rw [one_no hb]; rfl, hb]
          clear hb
          go_enter Tryd.func8, Tryd.ntmps8
          go_wp2_with fail
          have hY := fun w' (h : Ext ((w.alloc (Obj.cells #[.int .u64 v, .int .i64 k, .slice A l.length cp] 25)).alloc (Obj.cells #[.int .i64 0, .int .u64 0, .int .i64 0, .int .u64 0] 32)) w') => h.boxCell
          have hYf := fun w' (h : Ext ((w.alloc (Obj.cells #[.int .u64 v, .int .i64 k, .slice A l.length cp] 25)).alloc (Obj.cells #[.int .i64 0, .int .u64 0, .int .i64 0, .int .u64 0] 32)) w') => h.boxFree
          simp only [World.size_alloc] at hY hYf
          have hX := fun w' (h : Ext ((w.alloc (Obj.cells #[.int .u64 v, .int .i64 k, .slice A l.length cp] 25)).alloc (Obj.cells #[.int .i64 0, .int .u64 0, .int .i64 0, .int .u64 0] 32)) w') => ((Ext.alloc (w.alloc (Obj.cells #[.int .u64 v, .int .i64 k, .slice A l.length cp] 25)) (Obj.cells #[.int .i64 0, .int .u64 0, .int .i64 0, .int .u64 0] 32)).trans h).boxCell
          have hXf := fun w' (h : Ext ((w.alloc (Obj.cells #[.int .u64 v, .int .i64 k, .slice A l.length cp] 25)).alloc (Obj.cells #[.int .i64 0, .int .u64 0, .int .i64 0, .int .u64 0] 32)) w') => ((Ext.alloc (w.alloc (Obj.cells #[.int .u64 v, .int .i64 k, .slice A l.length cp] 25)) (Obj.cells #[.int .i64 0, .int .u64 0, .int .i64 0, .int .u64 0] 32)).trans h).boxFree
          have hX0 : Ext w ((w.alloc (Obj.cells #[.int .u64 v, .int .i64 k, .slice A l.length cp] 25)).alloc (Obj.cells #[.int .i64 0, .int .u64 0, .int .i64 0, .int .u64 0] 32)) := (Ext.alloc _ _).trans (Ext.alloc _ _)
          generalize (w.alloc (Obj.cells #[.int .u64 v, .int .i64 k, .slice A l.length cp] 25)).alloc (Obj.cells #[.int .i64 0, .int .u64 0, .int .i64 0, .int .u64 0] 32) = W0 at *
          have hW := Ext.refl W0
          go_wp2_with ((go_at_call 18; (with_reducible refine (B _ hv hg).mono ?_); rintro e w' ⟨rfl, hb⟩; have hW := Ext.trans2 hW (by repeat (first | exact Ext.refl _ | exact Ext.alloc _ _ | exact Ext.drewN _ _ | assumption | refine Ext.trans ?_ (Ext.alloc _ _) | refine Ext.trans ?_ (Ext.drew _) | refine Ext.trans ?_ (by assumption))) hb; (try have hV := Ext.trans2 hV (by repeat (first | exact Ext.refl _ | exact Ext.alloc _ _ | exact Ext.drewN _ _ | assumption | refine Ext.trans ?_ (Ext.alloc _ _) | refine Ext.trans ?_ (Ext.drew _) | refine Ext.trans ?_ (by assumption))) hb); clear hb); have hWA := fun o => hW.trans (Ext.alloc w' o))
          refine bodyPost_ret (v := .tuple #[.agg #[.int .i64 0, .int .u64 0, .int .i64 0, .int .u64 0], .bool false]) (by simp [results, Tryd.results8, go_sem, *]) rfl ⟨rfl, ?_⟩
          ((repeat (with_reducible refine Ext.set ?_ (by simp) _)); exact (hX0.trans (hW.trans (by repeat (first | exact Ext.refl _ | exact Ext.alloc _ _ | exact Ext.drewN _ _ | assumption | refine Ext.trans ?_ (Ext.alloc _ _) | refine Ext.trans ?_ (Ext.drew _) | refine Ext.trans ?_ (by assumption))))))
      · have hb := one_lo (x := ⟨v, k, A, cp, l⟩) h0
        rw [show gc (oneV o ⟨v, k, A, cp, l⟩) = #[.int .i64 0, .int .u64 0, .int .i64 0, .int .u64 0] by rw [one_no hb]; rfl, hb]
        clear hb
        go_enter Tryd.func8, Tryd.ntmps8
        go_wp2_with fail
        have hY := fun w' (h : Ext ((w.alloc (Obj.cells #[.int .u64 v, .int .i64 k, .slice A l.length cp] 25)).alloc (Obj.cells #[.int .i64 0, .int .u64 0, .int .i64 0, .int .u64 0] 32)) w') => h.boxCell
        have hYf := fun w' (h : Ext ((w.alloc (Obj.cells #[.int .u64 v, .int .i64 k, .slice A l.length cp] 25)).alloc (Obj.cells #[.int .i64 0, .int .u64 0, .int .i64 0, .int .u64 0] 32)) w') => h.boxFree
        simp only [World.size_alloc] at hY hYf
        have hX := fun w' (h : Ext ((w.alloc (Obj.cells #[.int .u64 v, .int .i64 k, .slice A l.length cp] 25)).alloc (Obj.cells #[.int .i64 0, .int .u64 0, .int .i64 0, .int .u64 0] 32)) w') => ((Ext.alloc (w.alloc (Obj.cells #[.int .u64 v, .int .i64 k, .slice A l.length cp] 25)) (Obj.cells #[.int .i64 0, .int .u64 0, .int .i64 0, .int .u64 0] 32)).trans h).boxCell
        have hXf := fun w' (h : Ext ((w.alloc (Obj.cells #[.int .u64 v, .int .i64 k, .slice A l.length cp] 25)).alloc (Obj.cells #[.int .i64 0, .int .u64 0, .int .i64 0, .int .u64 0] 32)) w') => ((Ext.alloc (w.alloc (Obj.cells #[.int .u64 v, .int .i64 k, .slice A l.length cp] 25)) (Obj.cells #[.int .i64 0, .int .u64 0, .int .i64 0, .int .u64 0] 32)).trans h).boxFree
        have hX0 : Ext w ((w.alloc (Obj.cells #[.int .u64 v, .int .i64 k, .slice A l.length cp] 25)).alloc (Obj.cells #[.int .i64 0, .int .u64 0, .int .i64 0, .int .u64 0] 32)) := (Ext.alloc _ _).trans (Ext.alloc _ _)
        generalize (w.alloc (Obj.cells #[.int .u64 v, .int .i64 k, .slice A l.length cp] 25)).alloc (Obj.cells #[.int .i64 0, .int .u64 0, .int .i64 0, .int .u64 0] 32) = W0 at *
        have hW := Ext.refl W0
        go_wp2_with ((go_at_call 18; (with_reducible refine (B _ hv hg).mono ?_); rintro e w' ⟨rfl, hb⟩; have hW := Ext.trans2 hW (by repeat (first | exact Ext.refl _ | exact Ext.alloc _ _ | exact Ext.drewN _ _ | assumption | refine Ext.trans ?_ (Ext.alloc _ _) | refine Ext.trans ?_ (Ext.drew _) | refine Ext.trans ?_ (by assumption))) hb; (try have hV := Ext.trans2 hV (by repeat (first | exact Ext.refl _ | exact Ext.alloc _ _ | exact Ext.drewN _ _ | assumption | refine Ext.trans ?_ (Ext.alloc _ _) | refine Ext.trans ?_ (Ext.drew _) | refine Ext.trans ?_ (by assumption))) hb); clear hb); have hWA := fun o => hW.trans (Ext.alloc w' o))
        refine bodyPost_ret (v := .tuple #[.agg #[.int .i64 0, .int .u64 0, .int .i64 0, .int .u64 0], .bool false]) (by simp [results, Tryd.results8, go_sem, *]) rfl ⟨rfl, ?_⟩
        ((repeat (with_reducible refine Ext.set ?_ (by simp) _)); exact (hX0.trans (hW.trans (by repeat (first | exact Ext.refl _ | exact Ext.alloc _ _ | exact Ext.drewN _ _ | assumption | refine Ext.trans ?_ (Ext.alloc _ _) | refine Ext.trans ?_ (Ext.drew _) | refine Ext.trans ?_ (by assumption))))))
  · have hb := one_kind (o := o) (x := ⟨v, k, A, cp, l⟩) (isB_no hg)
    rw [show gc (oneV o ⟨v, k, A, cp, l⟩) = #[.int .i64 0, .int .u64 0, .int .i64 0, .int .u64 0] by rw [one_no hb]; rfl, hb]
    clear hb
    go_enter Tryd.func8, Tryd.ntmps8
    go_wp2_with fail
    have hY := fun w' (h : Ext ((w.alloc (Obj.cells #[.int .u64 v, .int .i64 k, .slice A l.length cp] 25)).alloc (Obj.cells #[.int .i64 0, .int .u64 0, .int .i64 0, .int .u64 0] 32)) w') => h.boxCell
    have hYf := fun w' (h : Ext ((w.alloc (Obj.cells #[.int .u64 v, .int .i64 k, .slice A l.length cp] 25)).alloc (Obj.cells #[.int .i64 0, .int .u64 0, .int .i64 0, .int .u64 0] 32)) w') => h.boxFree
    simp only [World.size_alloc] at hY hYf
    have hX := fun w' (h : Ext ((w.alloc (Obj.cells #[.int .u64 v, .int .i64 k, .slice A l.length cp] 25)).alloc (Obj.cells #[.int .i64 0, .int .u64 0, .int .i64 0, .int .u64 0] 32)) w') => ((Ext.alloc (w.alloc (Obj.cells #[.int .u64 v, .int .i64 k, .slice A l.length cp] 25)) (Obj.cells #[.int .i64 0, .int .u64 0, .int .i64 0, .int .u64 0] 32)).trans h).boxCell
    have hXf := fun w' (h : Ext ((w.alloc (Obj.cells #[.int .u64 v, .int .i64 k, .slice A l.length cp] 25)).alloc (Obj.cells #[.int .i64 0, .int .u64 0, .int .i64 0, .int .u64 0] 32)) w') => ((Ext.alloc (w.alloc (Obj.cells #[.int .u64 v, .int .i64 k, .slice A l.length cp] 25)) (Obj.cells #[.int .i64 0, .int .u64 0, .int .i64 0, .int .u64 0] 32)).trans h).boxFree
    have hX0 : Ext w ((w.alloc (Obj.cells #[.int .u64 v, .int .i64 k, .slice A l.length cp] 25)).alloc (Obj.cells #[.int .i64 0, .int .u64 0, .int .i64 0, .int .u64 0] 32)) := (Ext.alloc _ _).trans (Ext.alloc _ _)
    generalize (w.alloc (Obj.cells #[.int .u64 v, .int .i64 k, .slice A l.length cp] 25)).alloc (Obj.cells #[.int .i64 0, .int .u64 0, .int .i64 0, .int .u64 0] 32) = W0 at *
    have hW := Ext.refl W0
    go_wp2_with ((go_at_call 18; (with_reducible refine (rread_no _ _ hv hg).mono ?_); rintro e w' ⟨rfl, hb⟩; have hW := Ext.trans2 hW (by repeat (first | exact Ext.refl _ | exact Ext.alloc _ _ | exact Ext.drewN _ _ | assumption | refine Ext.trans ?_ (Ext.alloc _ _) | refine Ext.trans ?_ (Ext.drew _) | refine Ext.trans ?_ (by assumption))) hb; (try have hV := Ext.trans2 hV (by repeat (first | exact Ext.refl _ | exact Ext.alloc _ _ | exact Ext.drewN _ _ | assumption | refine Ext.trans ?_ (Ext.alloc _ _) | refine Ext.trans ?_ (Ext.drew _) | refine Ext.trans ?_ (by assumption))) hb); clear hb); have hWA := fun o => hW.trans (Ext.alloc w' o))
    refine bodyPost_ret (v := .tuple #[.agg #[.int .i64 0, .int .u64 0, .int .i64 0, .int .u64 0], .bool false]) (by simp [results, Tryd.results8, go_sem, *]) rfl ⟨rfl, ?_⟩
    ((repeat (with_reducible refine Ext.set ?_ (by simp) _)); exact (hX0.trans (hW.trans (by repeat (first | exact Ext.refl _ | exact Ext.alloc _ _ | exact Ext.drewN _ _ | assumption | refine Ext.trans ?_ (Ext.alloc _ _) | refine Ext.trans ?_ (Ext.drew _) | refine Ext.trans ?_ (by assumption))))))
theorem same_any (x : Cg) (w : World) : Calls Tryd.prog 9 #[.agg (gc x), .agg (gc x)] w fun e w' => e = .returned (.bool true) ∧ Ext w w' := by
  obtain ⟨a, b, c, d⟩ := x
  simp only [gc]
  go_enter Tryd.func9, Tryd.ntmps9
  go_wp2
  go_ret
  exact ⟨by simp, (Ext.alloc _ _).trans (Ext.alloc _ _)⟩
theorem al_code : codeW 4 0 0 0 1 0 0 0 = 16777221 ∧ codeE 4 0 0 0 1 0 0 0 = 0 := by decide
theorem al_in : InW 16777221 := ⟨by decide, by decide⟩
theorem al_in2 : InW 16777216 := ⟨by decide, by decide⟩
theorem al_one1 : oneV 0 ⟨16777221, 0, none, 0, [0, 3]⟩ = ⟨0, 1, -1, 0⟩ ∧ oneB 0 ⟨16777221, 0, none, 0, [0, 3]⟩ = true := ⟨by kernel_rfl, by kernel_rfl⟩
theorem al_one2 : oneV 0 ⟨16777221, 0, none, 0, [1]⟩ = ⟨0, 16777216, 0, 1⟩ ∧ oneB 0 ⟨16777221, 0, none, 0, [1]⟩ = true := ⟨by kernel_rfl, by kernel_rfl⟩
theorem al_1 (w : World) (hG : Glob w) : Calls Tryd.prog 7 #[.int .i64 0, .agg #[.int .u64 16777221, .int .i64 0, .slice (some ⟨w.heap.size, 0, none⟩) 2 2]] (w.alloc (.cells #[.int .i64 0, .int .i64 3] 3)) fun e w' => e = .returned (.tuple #[.agg #[.int .i64 0, .int .u64 1, .int .i64 (-1), .int .u64 0], .bool true]) ∧ Ext (w.alloc (.cells #[.int .i64 0, .int .i64 3] 3)) w' := by
  have h := one_any 0 ⟨16777221, 0, some ⟨w.heap.size, 0, none⟩, 2, [0, 3]⟩ (w.alloc (.cells #[.int .i64 0, .int .i64 3] 3)) (hG.ext (Ext.alloc _ _)) ⟨al_in, .inr ⟨w.heap.size, 0, rfl, by simp, fun j hj => by
    have hb := (Blk.new w #[.int .i64 0, .int .i64 3] 3).cell
    rw [Nat.zero_add, hb]
    match j, hj with
    | 0, _ => rfl
    | 1, _ => rfl⟩, by simp, by simp [maxLen]⟩
  have e1 : oneV 0 ⟨16777221, 0, some ⟨w.heap.size, 0, none⟩, 2, [0, 3]⟩ = oneV 0 ⟨16777221, 0, none, 0, [0, 3]⟩ := rfl
  have e2 : oneB 0 ⟨16777221, 0, some ⟨w.heap.size, 0, none⟩, 2, [0, 3]⟩ = oneB 0 ⟨16777221, 0, none, 0, [0, 3]⟩ := rfl
  rw [e1, e2, al_one1.1, al_one1.2] at h
  exact h
theorem al_2 (w : World) (hG : Glob w) (g : Nat) (hg : w.heap.size = g) : Calls Tryd.prog 7 #[.int .i64 0, .agg #[.int .u64 16777221, .int .i64 0, .slice (some ⟨g, 0, none⟩) 1 1]] (w.alloc (.cells #[.int .i64 1] 3)) fun e w' => e = .returned (.tuple #[.agg #[.int .i64 0, .int .u64 16777216, .int .i64 0, .int .u64 1], .bool true]) ∧ Ext (w.alloc (.cells #[.int .i64 1] 3)) w' := by
  subst hg
  have h := one_any 0 ⟨16777221, 0, some ⟨w.heap.size, 0, none⟩, 1, [1]⟩ (w.alloc (.cells #[.int .i64 1] 3)) (hG.ext (Ext.alloc _ _)) ⟨al_in, .inr ⟨w.heap.size, 0, rfl, by simp, fun j hj => by
    have hb := (Blk.new w #[.int .i64 1] 3).cell
    rw [Nat.zero_add, hb]
    match j, hj with
    | 0, _ => rfl⟩, by simp, by simp [maxLen]⟩
  have e1 : oneV 0 ⟨16777221, 0, some ⟨w.heap.size, 0, none⟩, 1, [1]⟩ = oneV 0 ⟨16777221, 0, none, 0, [1]⟩ := rfl
  have e2 : oneB 0 ⟨16777221, 0, some ⟨w.heap.size, 0, none⟩, 1, [1]⟩ = oneB 0 ⟨16777221, 0, none, 0, [1]⟩ := rfl
  rw [e1, e2, al_one2.1, al_one2.2] at h
  exact h
theorem al_kd : kdv 16777216 = 1 := by kernel_rfl
theorem al_ow : ownW 16777221 = 0 := by kernel_rfl
theorem ok_al : OkH 4 0 0 0 1 0 0 0 := by constructor <;> decide
theorem alive_any (w : World) (hG : Glob w) : Calls Tryd.prog 6 #[] w fun e w' => e = .returned (.bool true) ∧ Ext w w' := by
  have C := code_any 4 0 0 0 1 0 0 0
  rw [al_code.1, al_code.2] at C
  have K := kind_any 16777216
  rw [al_kd] at K
  have O := owner_any 16777221
  rw [al_ow] at O
  have hX0 := Ext.refl w
  have hW := Ext.refl w
  go_enter Tryd.func6, Tryd.ntmps6
  go_wp2_with (first | (go_at_call 19; (with_reducible refine (C _ (hG.ext (hX0.trans hW)) ok_al).mono ?_); rintro e w' ⟨rfl, hb⟩; have hW := Ext.trans2 hW (by repeat (first | exact Ext.refl _ | exact Ext.alloc _ _ | exact Ext.drewN _ _ | assumption | refine Ext.trans ?_ (Ext.alloc _ _) | refine Ext.trans ?_ (Ext.drew _) | refine Ext.trans ?_ (by assumption))) hb; (try have hV := Ext.trans2 hV (by repeat (first | exact Ext.refl _ | exact Ext.alloc _ _ | exact Ext.drewN _ _ | assumption | refine Ext.trans ?_ (Ext.alloc _ _) | refine Ext.trans ?_ (Ext.drew _) | refine Ext.trans ?_ (by assumption))) hb); clear hb) | (go_at_call 7; (with_reducible refine (al_1 _ (hG.ext (hX0.trans hW))).mono ?_); rintro e w' ⟨rfl, hb⟩; have hW := Ext.trans2 hW (by repeat (first | exact Ext.refl _ | exact Ext.alloc _ _ | exact Ext.drewN _ _ | assumption | refine Ext.trans ?_ (Ext.alloc _ _) | refine Ext.trans ?_ (Ext.drew _) | refine Ext.trans ?_ (by assumption))) hb; (try have hV := Ext.trans2 hV (by repeat (first | exact Ext.refl _ | exact Ext.alloc _ _ | exact Ext.drewN _ _ | assumption | refine Ext.trans ?_ (Ext.alloc _ _) | refine Ext.trans ?_ (Ext.drew _) | refine Ext.trans ?_ (by assumption))) hb); clear hb))
  have sz1 : (w'.alloc (.cells #[.int .i64 0, .int .u64 1, .int .i64 (-1), .int .u64 0] 28)).heap.size = w'.heap.size + 1 := by simp
  have hX := fun wx (h : Ext (w'.alloc (Obj.cells #[.int .i64 0, .int .u64 1, .int .i64 (-1), .int .u64 0] 28)) wx) => h.boxCell
  have hXf := fun wx (h : Ext (w'.alloc (Obj.cells #[.int .i64 0, .int .u64 1, .int .i64 (-1), .int .u64 0] 28)) wx) => h.boxFree
  have hW := hW.trans (Ext.alloc w' (Obj.cells #[.int .i64 0, .int .u64 1, .int .i64 (-1), .int .u64 0] 28))
  generalize w'.alloc (Obj.cells #[.int .i64 0, .int .u64 1, .int .i64 (-1), .int .u64 0] 28) = W1 at *
  have hV := Ext.refl W1
  go_wp2_with ((go_at_call 7; (with_reducible refine (al_2 _ (hG.ext (hX0.trans hW)) _ sz1).mono ?_); rintro e w' ⟨rfl, hb⟩; have hW := Ext.trans2 hW (by repeat (first | exact Ext.refl _ | exact Ext.alloc _ _ | exact Ext.drewN _ _ | assumption | refine Ext.trans ?_ (Ext.alloc _ _) | refine Ext.trans ?_ (Ext.drew _) | refine Ext.trans ?_ (by assumption))) hb; (try have hV := Ext.trans2 hV (by repeat (first | exact Ext.refl _ | exact Ext.alloc _ _ | exact Ext.drewN _ _ | assumption | refine Ext.trans ?_ (Ext.alloc _ _) | refine Ext.trans ?_ (Ext.drew _) | refine Ext.trans ?_ (by assumption))) hb); clear hb); have hVA := fun o => hV.trans (Ext.alloc w' o); have hWA := fun o => hW.trans (Ext.alloc w' o))
  have hY := fun wx (h : Ext (w'.alloc (Obj.cells #[.int .i64 0, .int .u64 16777216, .int .i64 0, .int .u64 1] 28)) wx) => h.boxCell
  have hYf := fun wx (h : Ext (w'.alloc (Obj.cells #[.int .i64 0, .int .u64 16777216, .int .i64 0, .int .u64 1] 28)) wx) => h.boxFree
  have hV := hV.trans (Ext.alloc w' (Obj.cells #[.int .i64 0, .int .u64 16777216, .int .i64 0, .int .u64 1] 28))
  have hW := hW.trans (Ext.alloc w' (Obj.cells #[.int .i64 0, .int .u64 16777216, .int .i64 0, .int .u64 1] 28))
  generalize w'.alloc (Obj.cells #[.int .i64 0, .int .u64 16777216, .int .i64 0, .int .u64 1] 28) = W2 at *
  have hZ := fun wx (h : Ext W2 wx) => hX wx (hV.trans h)
  have hZf := fun wx (h : Ext W2 wx) => hXf wx (hV.trans h)
  clear hX hXf
  have hV := Ext.refl W2
  go_wp2_with (first | (go_at_call 16; (with_reducible refine (K _ (hG.ext (hX0.trans hW)) al_in2).mono ?_); rintro e w' ⟨rfl, hb⟩; have hW := Ext.trans2 hW (by repeat (first | exact Ext.refl _ | exact Ext.alloc _ _ | exact Ext.drewN _ _ | assumption | refine Ext.trans ?_ (Ext.alloc _ _) | refine Ext.trans ?_ (Ext.drew _) | refine Ext.trans ?_ (by assumption))) hb; (try have hV := Ext.trans2 hV (by repeat (first | exact Ext.refl _ | exact Ext.alloc _ _ | exact Ext.drewN _ _ | assumption | refine Ext.trans ?_ (Ext.alloc _ _) | refine Ext.trans ?_ (Ext.drew _) | refine Ext.trans ?_ (by assumption))) hb); clear hb) | (go_at_call 10; (with_reducible refine (O _ (hG.ext (hX0.trans hW)) al_in).mono ?_); rintro e w' ⟨rfl, hb⟩; have hW := Ext.trans2 hW (by repeat (first | exact Ext.refl _ | exact Ext.alloc _ _ | exact Ext.drewN _ _ | assumption | refine Ext.trans ?_ (Ext.alloc _ _) | refine Ext.trans ?_ (Ext.drew _) | refine Ext.trans ?_ (by assumption))) hb; (try have hV := Ext.trans2 hV (by repeat (first | exact Ext.refl _ | exact Ext.alloc _ _ | exact Ext.drewN _ _ | assumption | refine Ext.trans ?_ (Ext.alloc _ _) | refine Ext.trans ?_ (Ext.drew _) | refine Ext.trans ?_ (by assumption))) hb); clear hb))
  go_ret
  exact ⟨rfl, (hX0.trans (hW.trans (by repeat (first | exact Ext.refl _ | exact Ext.alloc _ _ | exact Ext.drewN _ _ | assumption | refine Ext.trans ?_ (Ext.alloc _ _) | refine Ext.trans ?_ (Ext.drew _) | refine Ext.trans ?_ (by assumption)))))⟩
end Go.Proofs.YtecopjehmpjniaaDoor
