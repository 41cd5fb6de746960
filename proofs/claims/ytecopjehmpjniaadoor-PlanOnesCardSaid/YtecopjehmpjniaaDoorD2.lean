/- Who has records; One, and the document's. -/
import Derived.Test.YtecopjehmpjniaaDoorD1
namespace Go.Proofs.YtecopjehmpjniaaDoor
open Go.RowKit
set_option linter.unusedSimpArgs false
set_option linter.unusedVariables false


theorem owned_any (x : Ob) (w : World) (hG : Glob w) (hx : OkO w x) : Calls Tryd.prog 22 #[.agg (sc x)] w fun e w' => e = .returned (.bool (hasB (ownW x.w) x.l)) ∧ Ext w w' := by
  obtain ⟨v, k, A, cp, l⟩ := x
  obtain ⟨hv, hc, hl, hcap⟩ := hx
  simp only [sc] at hv hc hl hcap ⊢
  obtain ⟨g0, g1⟩ := own_ge v hv
  have O := owner_any v
  by_cases h0 : 0 ≤ ownW v
  · obtain ⟨m, hm⟩ := Int.eq_ofNat_of_zero_le h0
    rw [hm] at O ⊢
    have n1 : ((m : Int) != -1) = true := by simp <;> omega
    by_cases h1 : m < l.length
    · rw [hasB_at h1]
      have n2 : decide ((m : Int) < (l.length : Int)) = true := by simp; omega
      obtain ⟨b, off, rfl, r⟩ := hc.at_ h1
      generalize l[m] = q at *
      clear h0 hm hc
      go_enter Tryd.func22, Tryd.ntmps22
      go_wp2_with fail
      have hX := fun w' (h : Ext (w.alloc (Obj.cells #[.int .u64 v, .int .i64 k, .slice (some ⟨b, off, none⟩) l.length cp] 31)) w') => h.boxCell
      have hXf := fun w' (h : Ext (w.alloc (Obj.cells #[.int .u64 v, .int .i64 k, .slice (some ⟨b, off, none⟩) l.length cp] 31)) w') => h.boxFree
      have hX0 : Ext w (w.alloc (Obj.cells #[.int .u64 v, .int .i64 k, .slice (some ⟨b, off, none⟩) l.length cp] 31)) := Ext.alloc _ _
      generalize w.alloc (Obj.cells #[.int .u64 v, .int .i64 k, .slice (some ⟨b, off, none⟩) l.length cp] 31) = W0 at *
      have hW := Ext.refl W0
      have r0 := fun wx (h : Ext W0 wx) => r wx (hX0.trans h)
      clear r
      go_wp2_with (go_at_call 10; (with_reducible refine (O _ (hG.ext (hX0.trans hW)) hv).mono ?_); rintro e w' ⟨rfl, hb⟩; have hW := Ext.trans2 hW (by repeat (first | exact Ext.refl _ | exact Ext.alloc _ _ | exact Ext.drewN _ _ | assumption | refine Ext.trans ?_ (Ext.alloc _ _) | refine Ext.trans ?_ (Ext.drew _) | refine Ext.trans ?_ (by assumption))) hb; (try have hV := Ext.trans2 hV (by repeat (first | exact Ext.refl _ | exact Ext.alloc _ _ | exact Ext.drewN _ _ | assumption | refine Ext.trans ?_ (Ext.alloc _ _) | refine Ext.trans ?_ (Ext.drew _) | refine Ext.trans ?_ (by assumption))) hb); clear hb)
      go_ret
      exact ⟨rfl, (hX0.trans (hW.trans (by repeat (first | exact Ext.refl _ | exact Ext.alloc _ _ | exact Ext.drewN _ _ | assumption | refine Ext.trans ?_ (Ext.alloc _ _) | refine Ext.trans ?_ (Ext.drew _) | refine Ext.trans ?_ (by assumption)))))⟩
    · have n2 : decide ((m : Int) < (l.length : Int)) = false := by simp; omega
      rw [hasB_hi (by omega)]
      clear h0 hm hc
      go_enter Tryd.func22, Tryd.ntmps22
      go_wp2_with fail
      have hX := fun w' (h : Ext (w.alloc (Obj.cells #[.int .u64 v, .int .i64 k, .slice A l.length cp] 31)) w') => h.boxCell
      have hXf := fun w' (h : Ext (w.alloc (Obj.cells #[.int .u64 v, .int .i64 k, .slice A l.length cp] 31)) w') => h.boxFree
      have hX0 : Ext w (w.alloc (Obj.cells #[.int .u64 v, .int .i64 k, .slice A l.length cp] 31)) := Ext.alloc _ _
      generalize w.alloc (Obj.cells #[.int .u64 v, .int .i64 k, .slice A l.length cp] 31) = W0 at *
      have hW := Ext.refl W0
      go_wp2_with (go_at_call 10; (with_reducible refine (O _ (hG.ext (hX0.trans hW)) hv).mono ?_); rintro e w' ⟨rfl, hb⟩; have hW := Ext.trans2 hW (by repeat (first | exact Ext.refl _ | exact Ext.alloc _ _ | exact Ext.drewN _ _ | assumption | refine Ext.trans ?_ (Ext.alloc _ _) | refine Ext.trans ?_ (Ext.drew _) | refine Ext.trans ?_ (by assumption))) hb; (try have hV := Ext.trans2 hV (by repeat (first | exact Ext.refl _ | exact Ext.alloc _ _ | exact Ext.drewN _ _ | assumption | refine Ext.trans ?_ (Ext.alloc _ _) | refine Ext.trans ?_ (Ext.drew _) | refine Ext.trans ?_ (by assumption))) hb); clear hb)
      go_ret
      exact ⟨rfl, (hX0.trans (hW.trans (by repeat (first | exact Ext.refl _ | exact Ext.alloc _ _ | exact Ext.drewN _ _ | assumption | refine Ext.trans ?_ (Ext.alloc _ _) | refine Ext.trans ?_ (Ext.drew _) | refine Ext.trans ?_ (by assumption)))))⟩
  · have hm : ownW v = -1 := by omega
    rw [hm] at O ⊢
    rw [hasB_lo (by omega)]
    clear h0 hm hc
    go_enter Tryd.func22, Tryd.ntmps22
    go_wp2_with fail
    have hX := fun w' (h : Ext (w.alloc (Obj.cells #[.int .u64 v, .int .i64 k, .slice A l.length cp] 31)) w') => h.boxCell
    have hXf := fun w' (h : Ext (w.alloc (Obj.cells #[.int .u64 v, .int .i64 k, .slice A l.length cp] 31)) w') => h.boxFree
    have hX0 : Ext w (w.alloc (Obj.cells #[.int .u64 v, .int .i64 k, .slice A l.length cp] 31)) := Ext.alloc _ _
    generalize w.alloc (Obj.cells #[.int .u64 v, .int .i64 k, .slice A l.length cp] 31) = W0 at *
    have hW := Ext.refl W0
    go_wp2_with (go_at_call 10; (with_reducible refine (O _ (hG.ext (hX0.trans hW)) hv).mono ?_); rintro e w' ⟨rfl, hb⟩; have hW := Ext.trans2 hW (by repeat (first | exact Ext.refl _ | exact Ext.alloc _ _ | exact Ext.drewN _ _ | assumption | refine Ext.trans ?_ (Ext.alloc _ _) | refine Ext.trans ?_ (Ext.drew _) | refine Ext.trans ?_ (by assumption))) hb; (try have hV := Ext.trans2 hV (by repeat (first | exact Ext.refl _ | exact Ext.alloc _ _ | exact Ext.drewN _ _ | assumption | refine Ext.trans ?_ (Ext.alloc _ _) | refine Ext.trans ?_ (Ext.drew _) | refine Ext.trans ?_ (by assumption))) hb); clear hb)
    go_ret
    exact ⟨rfl, (hX0.trans (hW.trans (by repeat (first | exact Ext.refl _ | exact Ext.alloc _ _ | exact Ext.drewN _ _ | assumption | refine Ext.trans ?_ (Ext.alloc _ _) | refine Ext.trans ?_ (Ext.drew _) | refine Ext.trans ?_ (by assumption)))))⟩
/-- The document's has. -/
theorem has_any (x : Ob) (t : Int) (w : World) (hx : OkO w x) : Calls Tryd.prog 24 #[.agg (sc x), .int .i64 t] w fun e w' => e = .returned (.bool (hasB t x.l)) ∧ Ext w w' := by
  obtain ⟨v, k, A, cp, l⟩ := x
  obtain ⟨hv, hc, hl, hcap⟩ := hx
  simp only [sc] at hv hc hl hcap ⊢
  by_cases h0 : 0 ≤ t
  · obtain ⟨m, rfl⟩ := Int.eq_ofNat_of_zero_le h0
    by_cases h1 : m < l.length
    · rw [hasB_at h1]
      have n2 : decide ((m : Int) < (l.length : Int)) = true := by simp; omega
      obtain ⟨b, off, rfl, r⟩ := hc.at_ h1
      generalize l[m] = q at *
      have r0 := fun x => r _ (Ext.alloc w x)
      clear hc r
      go_enter Tryd.func24, Tryd.ntmps24
      go_wp2
      go_ret
      exact ⟨rfl, Ext.alloc _ _⟩
    · have n2 : decide ((m : Int) < (l.length : Int)) = false := by simp; omega
      rw [hasB_hi (by omega)]
      clear hc
      go_enter Tryd.func24, Tryd.ntmps24
      go_wp2
      go_ret
      exact ⟨rfl, Ext.alloc _ _⟩
  · rw [hasB_lo h0]
    clear hc
    go_enter Tryd.func24, Tryd.ntmps24
    go_wp2
    go_ret
    exact ⟨rfl, Ext.alloc _ _⟩
theorem pneu_any {a : Int} (w : World) (hG : Glob w) (b : OkH 2 a 0 0 0 0 0 0) :
    Calls Tryd.prog 21 #[Value.agg #[.int .i64 (2), .int .u8 (a), .int .u8 (0), .int .u32 (0), .int .u16 (0), .int .u16 (0), .int .u16 (0), .int .u32 (0)]] w fun x w' => x = .returned (.int .u64 (neuI a)) ∧ Ext w w' := pcode_any _ _ _ _ _ _ _ _ _ hG b
theorem pthi_any {n o : Int} (w : World) (hG : Glob w) (b : OkH 1 0 0 0 n o 0 0) :
    Calls Tryd.prog 21 #[Value.agg #[.int .i64 (1), .int .u8 (0), .int .u8 (0), .int .u32 (0), .int .u16 (n), .int .u16 (o), .int .u16 (0), .int .u32 (0)]] w fun x w' => x = .returned (.int .u64 (thiI n o)) ∧ Ext w w' := pcode_any _ _ _ _ _ _ _ _ _ hG b
set_option maxHeartbeats 1000000 in
theorem one_any (o : Int) (x : Ob) (w : World) (hG : Glob w) (hx : OkO w x) : Calls Tryd.prog 7 #[.int .i64 o, .agg (sc x)] w fun e w' => e = .returned (.tuple #[.agg (gc (oneV o x)), .bool (oneB o x)]) ∧ Ext w w' := by
  have hx0 := hx
  obtain ⟨v, k, A, cp, l⟩ := x
  obtain ⟨hv, hc, hl, hcap⟩ := hx
  simp only [sc] at hv hc hl hcap ⊢
  by_cases hg : gW v
  · cases hi : isB v
    · have hb := one_kind (o := o) (x := ⟨v, k, A, cp, l⟩) hi
      have n1 : (uK v != 4) = true := by
        have : isB v = (uK v == 4) := by simp [isB, hg]
        rw [this] at hi
        simpa [bne] using hi
      rw [show gc (oneV o ⟨v, k, A, cp, l⟩) = #[.int .i64 0, .int .u64 0, .int .i64 0, .int .u64 0] by rw [one_no hb]; rfl, hb]
      clear hb
      go_enter Tryd.func7, Tryd.ntmps7
      go_wp2_with fail
      have hY := fun w' (h : Ext ((w.alloc (Obj.cells #[.int .u64 v, .int .i64 k, .slice A l.length cp] 31)).alloc (Obj.cells #[.int .i64 0, .int .u64 0, .int .i64 0, .int .u64 0] 28)) w') => h.boxCell
      have hYf := fun w' (h : Ext ((w.alloc (Obj.cells #[.int .u64 v, .int .i64 k, .slice A l.length cp] 31)).alloc (Obj.cells #[.int .i64 0, .int .u64 0, .int .i64 0, .int .u64 0] 28)) w') => h.boxFree
      simp only [World.size_alloc] at hY hYf
      have hX := fun w' (h : Ext ((w.alloc (Obj.cells #[.int .u64 v, .int .i64 k, .slice A l.length cp] 31)).alloc (Obj.cells #[.int .i64 0, .int .u64 0, .int .i64 0, .int .u64 0] 28)) w') => ((Ext.alloc (w.alloc (Obj.cells #[.int .u64 v, .int .i64 k, .slice A l.length cp] 31)) (Obj.cells #[.int .i64 0, .int .u64 0, .int .i64 0, .int .u64 0] 28)).trans h).boxCell
      have hXf := fun w' (h : Ext ((w.alloc (Obj.cells #[.int .u64 v, .int .i64 k, .slice A l.length cp] 31)).alloc (Obj.cells #[.int .i64 0, .int .u64 0, .int .i64 0, .int .u64 0] 28)) w') => ((Ext.alloc (w.alloc (Obj.cells #[.int .u64 v, .int .i64 k, .slice A l.length cp] 31)) (Obj.cells #[.int .i64 0, .int .u64 0, .int .i64 0, .int .u64 0] 28)).trans h).boxFree
      have hX0 : Ext w ((w.alloc (Obj.cells #[.int .u64 v, .int .i64 k, .slice A l.length cp] 31)).alloc (Obj.cells #[.int .i64 0, .int .u64 0, .int .i64 0, .int .u64 0] 28)) := (Ext.alloc _ _).trans (Ext.alloc _ _)
      generalize (w.alloc (Obj.cells #[.int .u64 v, .int .i64 k, .slice A l.length cp] 31)).alloc (Obj.cells #[.int .i64 0, .int .u64 0, .int .i64 0, .int .u64 0] 28) = W0 at *
      have hW := Ext.refl W0
      go_wp2_with ((go_at_call 20; (with_reducible refine (ph_yes _ _ (hG.ext (hX0.trans hW)) hv hg).mono ?_); rintro e w' ⟨rfl, hb⟩; have hW := Ext.trans2 hW (by repeat (first | exact Ext.refl _ | exact Ext.alloc _ _ | exact Ext.drewN _ _ | assumption | refine Ext.trans ?_ (Ext.alloc _ _) | refine Ext.trans ?_ (Ext.drew _) | refine Ext.trans ?_ (by assumption))) hb; (try have hV := Ext.trans2 hV (by repeat (first | exact Ext.refl _ | exact Ext.alloc _ _ | exact Ext.drewN _ _ | assumption | refine Ext.trans ?_ (Ext.alloc _ _) | refine Ext.trans ?_ (Ext.drew _) | refine Ext.trans ?_ (by assumption))) hb); clear hb); have hWA := fun o => hW.trans (Ext.alloc w' o))
      refine bodyPost_ret (v := .tuple #[.agg #[.int .i64 0, .int .u64 0, .int .i64 0, .int .u64 0], .bool false]) (by simp [results, Tryd.results7, go_sem, *]) rfl ⟨rfl, ?_⟩
      ((repeat (with_reducible refine Ext.set ?_ (by simp) _)); exact (hX0.trans (hW.trans (by repeat (first | exact Ext.refl _ | exact Ext.alloc _ _ | exact Ext.drewN _ _ | assumption | refine Ext.trans ?_ (Ext.alloc _ _) | refine Ext.trans ?_ (Ext.drew _) | refine Ext.trans ?_ (by assumption))))))
    · have k4 := (isB_4 hi).2
      obtain ⟨z1, z2, z3, z4, _⟩ := u4_z k4
      have B := ph_yes v
      rw [k4, z1, z2, z3, z4] at B
      by_cases h0 : 0 ≤ o
      · by_cases h1 : o ≤ 65535
        · have hb := one_yes (x := ⟨v, k, A, cp, l⟩) hi h0 h1
          have bn := ok_neu hv
          have bt := ok_thi hv h0 h1
          have q16 := u16_of h0 h1
          cases hh : hasB (ownW v) l
          · rw [show gc (oneV o ⟨v, k, A, cp, l⟩) = #[.int .i64 o, .int .u64 (neuI (uA v)), .int .i64 (-1), .int .u64 0] by rw [one_free hb hh]; rfl, hb]
            have OW := owned_any ⟨v, k, A, cp, l⟩
            simp only [sc] at OW
            rw [hh] at OW
            clear hb hh hc q16
            go_enter Tryd.func7, Tryd.ntmps7
            go_wp2_with fail
            have hY := fun w' (h : Ext ((w.alloc (Obj.cells #[.int .u64 v, .int .i64 k, .slice A l.length cp] 31)).alloc (Obj.cells #[.int .i64 0, .int .u64 0, .int .i64 0, .int .u64 0] 28)) w') => h.boxCell
            have hYf := fun w' (h : Ext ((w.alloc (Obj.cells #[.int .u64 v, .int .i64 k, .slice A l.length cp] 31)).alloc (Obj.cells #[.int .i64 0, .int .u64 0, .int .i64 0, .int .u64 0] 28)) w') => h.boxFree
            simp only [World.size_alloc] at hY hYf
            have hX := fun w' (h : Ext ((w.alloc (Obj.cells #[.int .u64 v, .int .i64 k, .slice A l.length cp] 31)).alloc (Obj.cells #[.int .i64 0, .int .u64 0, .int .i64 0, .int .u64 0] 28)) w') => ((Ext.alloc (w.alloc (Obj.cells #[.int .u64 v, .int .i64 k, .slice A l.length cp] 31)) (Obj.cells #[.int .i64 0, .int .u64 0, .int .i64 0, .int .u64 0] 28)).trans h).boxCell
            have hXf := fun w' (h : Ext ((w.alloc (Obj.cells #[.int .u64 v, .int .i64 k, .slice A l.length cp] 31)).alloc (Obj.cells #[.int .i64 0, .int .u64 0, .int .i64 0, .int .u64 0] 28)) w') => ((Ext.alloc (w.alloc (Obj.cells #[.int .u64 v, .int .i64 k, .slice A l.length cp] 31)) (Obj.cells #[.int .i64 0, .int .u64 0, .int .i64 0, .int .u64 0] 28)).trans h).boxFree
            have hX0 : Ext w ((w.alloc (Obj.cells #[.int .u64 v, .int .i64 k, .slice A l.length cp] 31)).alloc (Obj.cells #[.int .i64 0, .int .u64 0, .int .i64 0, .int .u64 0] 28)) := (Ext.alloc _ _).trans (Ext.alloc _ _)
            generalize (w.alloc (Obj.cells #[.int .u64 v, .int .i64 k, .slice A l.length cp] 31)).alloc (Obj.cells #[.int .i64 0, .int .u64 0, .int .i64 0, .int .u64 0] 28) = W0 at *
            have hW := Ext.refl W0
            go_wp2_with (go_at_call 20; (with_reducible refine (B _ (hG.ext (hX0.trans hW)) hv hg).mono ?_); rintro e w' ⟨rfl, hb⟩; have hW := Ext.trans2 hW (by repeat (first | exact Ext.refl _ | exact Ext.alloc _ _ | exact Ext.drewN _ _ | assumption | refine Ext.trans ?_ (Ext.alloc _ _) | refine Ext.trans ?_ (Ext.drew _) | refine Ext.trans ?_ (by assumption))) hb; (try have hV := Ext.trans2 hV (by repeat (first | exact Ext.refl _ | exact Ext.alloc _ _ | exact Ext.drewN _ _ | assumption | refine Ext.trans ?_ (Ext.alloc _ _) | refine Ext.trans ?_ (Ext.drew _) | refine Ext.trans ?_ (by assumption))) hb); clear hb)
            have hX := fun wx (h : Ext (w'.alloc (Obj.cells #[.int .i64 (4), .int .u8 (uA v), .int .u8 (uE v), .int .u32 (0), .int .u16 (uO v), .int .u16 (0), .int .u16 (0), .int .u32 (0)] 62)) wx) => h.boxCell
            have hXf := fun wx (h : Ext (w'.alloc (Obj.cells #[.int .i64 (4), .int .u8 (uA v), .int .u8 (uE v), .int .u32 (0), .int .u16 (uO v), .int .u16 (0), .int .u16 (0), .int .u32 (0)] 62)) wx) => h.boxFree
            have hW := hW.trans (Ext.alloc w' (Obj.cells #[.int .i64 (4), .int .u8 (uA v), .int .u8 (uE v), .int .u32 (0), .int .u16 (uO v), .int .u16 (0), .int .u16 (0), .int .u32 (0)] 62))
            generalize w'.alloc (Obj.cells #[.int .i64 (4), .int .u8 (uA v), .int .u8 (uE v), .int .u32 (0), .int .u16 (uO v), .int .u16 (0), .int .u16 (0), .int .u32 (0)] 62) = W1 at *
            have hV := Ext.refl W1
            go_wp2_with (first | (go_at_call 21; (with_reducible refine (pneu_any _ (hG.ext (hX0.trans hW)) bn).mono ?_); rintro e w' ⟨rfl, hb⟩; have hW := Ext.trans2 hW (by repeat (first | exact Ext.refl _ | exact Ext.alloc _ _ | exact Ext.drewN _ _ | assumption | refine Ext.trans ?_ (Ext.alloc _ _) | refine Ext.trans ?_ (Ext.drew _) | refine Ext.trans ?_ (by assumption))) hb; (try have hV := Ext.trans2 hV (by repeat (first | exact Ext.refl _ | exact Ext.alloc _ _ | exact Ext.drewN _ _ | assumption | refine Ext.trans ?_ (Ext.alloc _ _) | refine Ext.trans ?_ (Ext.drew _) | refine Ext.trans ?_ (by assumption))) hb); clear hb) | (go_at_call 22; (with_reducible refine (OW _ (hG.ext (hX0.trans hW)) (hx0.ext (hX0.trans hW))).mono ?_); rintro e w' ⟨rfl, hb⟩; have hW := Ext.trans2 hW (by repeat (first | exact Ext.refl _ | exact Ext.alloc _ _ | exact Ext.drewN _ _ | assumption | refine Ext.trans ?_ (Ext.alloc _ _) | refine Ext.trans ?_ (Ext.drew _) | refine Ext.trans ?_ (by assumption))) hb; (try have hV := Ext.trans2 hV (by repeat (first | exact Ext.refl _ | exact Ext.alloc _ _ | exact Ext.drewN _ _ | assumption | refine Ext.trans ?_ (Ext.alloc _ _) | refine Ext.trans ?_ (Ext.drew _) | refine Ext.trans ?_ (by assumption))) hb); clear hb))
            refine bodyPost_ret (v := .tuple #[.agg #[.int .i64 o, .int .u64 (neuI (uA v)), .int .i64 (-1), .int .u64 0], .bool true]) (by simp [results, Tryd.results7, go_sem, *]) rfl ⟨rfl, ?_⟩
            ((repeat (with_reducible refine Ext.set ?_ (by simp) _)); exact (hX0.trans (hW.trans (by repeat (first | exact Ext.refl _ | exact Ext.alloc _ _ | exact Ext.drewN _ _ | assumption | refine Ext.trans ?_ (Ext.alloc _ _) | refine Ext.trans ?_ (Ext.drew _) | refine Ext.trans ?_ (by assumption))))))
          · rw [show gc (oneV o ⟨v, k, A, cp, l⟩) = #[.int .i64 o, .int .u64 (thiI (uO v) o), .int .i64 (ownW v), .int .u64 (neuI (uA v))] by rw [one_held hb hh]; rfl, hb]
            have OW := owned_any ⟨v, k, A, cp, l⟩
            simp only [sc] at OW
            rw [hh] at OW
            clear hb hh hc
            go_enter Tryd.func7, Tryd.ntmps7
            go_wp2_with fail
            have hY := fun w' (h : Ext ((w.alloc (Obj.cells #[.int .u64 v, .int .i64 k, .slice A l.length cp] 31)).alloc (Obj.cells #[.int .i64 0, .int .u64 0, .int .i64 0, .int .u64 0] 28)) w') => h.boxCell
            have hYf := fun w' (h : Ext ((w.alloc (Obj.cells #[.int .u64 v, .int .i64 k, .slice A l.length cp] 31)).alloc (Obj.cells #[.int .i64 0, .int .u64 0, .int .i64 0, .int .u64 0] 28)) w') => h.boxFree
            simp only [World.size_alloc] at hY hYf
            have hX := fun w' (h : Ext ((w.alloc (Obj.cells #[.int .u64 v, .int .i64 k, .slice A l.length cp] 31)).alloc (Obj.cells #[.int .i64 0, .int .u64 0, .int .i64 0, .int .u64 0] 28)) w') => ((Ext.alloc (w.alloc (Obj.cells #[.int .u64 v, .int .i64 k, .slice A l.length cp] 31)) (Obj.cells #[.int .i64 0, .int .u64 0, .int .i64 0, .int .u64 0] 28)).trans h).boxCell
            have hXf := fun w' (h : Ext ((w.alloc (Obj.cells #[.int .u64 v, .int .i64 k, .slice A l.length cp] 31)).alloc (Obj.cells #[.int .i64 0, .int .u64 0, .int .i64 0, .int .u64 0] 28)) w') => ((Ext.alloc (w.alloc (Obj.cells #[.int .u64 v, .int .i64 k, .slice A l.length cp] 31)) (Obj.cells #[.int .i64 0, .int .u64 0, .int .i64 0, .int .u64 0] 28)).trans h).boxFree
            have hX0 : Ext w ((w.alloc (Obj.cells #[.int .u64 v, .int .i64 k, .slice A l.length cp] 31)).alloc (Obj.cells #[.int .i64 0, .int .u64 0, .int .i64 0, .int .u64 0] 28)) := (Ext.alloc _ _).trans (Ext.alloc _ _)
            generalize (w.alloc (Obj.cells #[.int .u64 v, .int .i64 k, .slice A l.length cp] 31)).alloc (Obj.cells #[.int .i64 0, .int .u64 0, .int .i64 0, .int .u64 0] 28) = W0 at *
            have hW := Ext.refl W0
            go_wp2_with (go_at_call 20; (with_reducible refine (B _ (hG.ext (hX0.trans hW)) hv hg).mono ?_); rintro e w' ⟨rfl, hb⟩; have hW := Ext.trans2 hW (by repeat (first | exact Ext.refl _ | exact Ext.alloc _ _ | exact Ext.drewN _ _ | assumption | refine Ext.trans ?_ (Ext.alloc _ _) | refine Ext.trans ?_ (Ext.drew _) | refine Ext.trans ?_ (by assumption))) hb; (try have hV := Ext.trans2 hV (by repeat (first | exact Ext.refl _ | exact Ext.alloc _ _ | exact Ext.drewN _ _ | assumption | refine Ext.trans ?_ (Ext.alloc _ _) | refine Ext.trans ?_ (Ext.drew _) | refine Ext.trans ?_ (by assumption))) hb); clear hb)
            have hX := fun wx (h : Ext (w'.alloc (Obj.cells #[.int .i64 (4), .int .u8 (uA v), .int .u8 (uE v), .int .u32 (0), .int .u16 (uO v), .int .u16 (0), .int .u16 (0), .int .u32 (0)] 62)) wx) => h.boxCell
            have hXf := fun wx (h : Ext (w'.alloc (Obj.cells #[.int .i64 (4), .int .u8 (uA v), .int .u8 (uE v), .int .u32 (0), .int .u16 (uO v), .int .u16 (0), .int .u16 (0), .int .u32 (0)] 62)) wx) => h.boxFree
            have hW := hW.trans (Ext.alloc w' (Obj.cells #[.int .i64 (4), .int .u8 (uA v), .int .u8 (uE v), .int .u32 (0), .int .u16 (uO v), .int .u16 (0), .int .u16 (0), .int .u32 (0)] 62))
            generalize w'.alloc (Obj.cells #[.int .i64 (4), .int .u8 (uA v), .int .u8 (uE v), .int .u32 (0), .int .u16 (uO v), .int .u16 (0), .int .u16 (0), .int .u32 (0)] 62) = W1 at *
            have hV := Ext.refl W1
            go_wp2_with (first | (go_at_call 21; (with_reducible refine (pneu_any _ (hG.ext (hX0.trans hW)) bn).mono ?_); rintro e w' ⟨rfl, hb⟩; have hW := Ext.trans2 hW (by repeat (first | exact Ext.refl _ | exact Ext.alloc _ _ | exact Ext.drewN _ _ | assumption | refine Ext.trans ?_ (Ext.alloc _ _) | refine Ext.trans ?_ (Ext.drew _) | refine Ext.trans ?_ (by assumption))) hb; (try have hV := Ext.trans2 hV (by repeat (first | exact Ext.refl _ | exact Ext.alloc _ _ | exact Ext.drewN _ _ | assumption | refine Ext.trans ?_ (Ext.alloc _ _) | refine Ext.trans ?_ (Ext.drew _) | refine Ext.trans ?_ (by assumption))) hb); clear hb) | (go_at_call 21; (with_reducible refine (pthi_any _ (hG.ext (hX0.trans hW)) bt).mono ?_); rintro e w' ⟨rfl, hb⟩; have hW := Ext.trans2 hW (by repeat (first | exact Ext.refl _ | exact Ext.alloc _ _ | exact Ext.drewN _ _ | assumption | refine Ext.trans ?_ (Ext.alloc _ _) | refine Ext.trans ?_ (Ext.drew _) | refine Ext.trans ?_ (by assumption))) hb; (try have hV := Ext.trans2 hV (by repeat (first | exact Ext.refl _ | exact Ext.alloc _ _ | exact Ext.drewN _ _ | assumption | refine Ext.trans ?_ (Ext.alloc _ _) | refine Ext.trans ?_ (Ext.drew _) | refine Ext.trans ?_ (by assumption))) hb); clear hb) | (go_at_call 22; (with_reducible refine (OW _ (hG.ext (hX0.trans hW)) (hx0.ext (hX0.trans hW))).mono ?_); rintro e w' ⟨rfl, hb⟩; have hW := Ext.trans2 hW (by repeat (first | exact Ext.refl _ | exact Ext.alloc _ _ | exact Ext.drewN _ _ | assumption | refine Ext.trans ?_ (Ext.alloc _ _) | refine Ext.trans ?_ (Ext.drew _) | refine Ext.trans ?_ (by assumption))) hb; (try have hV := Ext.trans2 hV (by repeat (first | exact Ext.refl _ | exact Ext.alloc _ _ | exact Ext.drewN _ _ | assumption | refine Ext.trans ?_ (Ext.alloc _ _) | refine Ext.trans ?_ (Ext.drew _) | refine Ext.trans ?_ (by assumption))) hb); clear hb) | (go_at_call 10; (with_reducible refine (owner_any _ _ (hG.ext (hX0.trans hW)) hv).mono ?_); rintro e w' ⟨rfl, hb⟩; have hW := Ext.trans2 hW (by repeat (first | exact Ext.refl _ | exact Ext.alloc _ _ | exact Ext.drewN _ _ | assumption | refine Ext.trans ?_ (Ext.alloc _ _) | refine Ext.trans ?_ (Ext.drew _) | refine Ext.trans ?_ (by assumption))) hb; (try have hV := Ext.trans2 hV (by repeat (first | exact Ext.refl _ | exact Ext.alloc _ _ | exact Ext.drewN _ _ | assumption | refine Ext.trans ?_ (Ext.alloc _ _) | refine Ext.trans ?_ (Ext.drew _) | refine Ext.trans ?_ (by assumption))) hb); clear hb))
            refine bodyPost_ret (v := .tuple #[.agg #[.int .i64 o, .int .u64 (thiI (uO v) o), .int .i64 (ownW v), .int .u64 (neuI (uA v))], .bool true]) (by simp [results, Tryd.results7, go_sem, *]) rfl ⟨rfl, ?_⟩
            ((repeat (with_reducible refine Ext.set ?_ (by simp) _)); exact (hX0.trans (hW.trans (by repeat (first | exact Ext.refl _ | exact Ext.alloc _ _ | exact Ext.drewN _ _ | assumption | refine Ext.trans ?_ (Ext.alloc _ _) | refine Ext.trans ?_ (Ext.drew _) | refine Ext.trans ?_ (by assumption))))))
        · have hb := one_hi (x := ⟨v, k, A, cp, l⟩) h1
          rw [show gc (oneV o ⟨v, k, A, cp, l⟩) = #[.int .i64 0, .int .u64 0, .int .i64 0, .int .u64 0] by rw [one_no hb]; rfl, hb]
          clear hb
          go_enter Tryd.func7, Tryd.ntmps7
          go_wp2_with fail
          have hY := fun w' (h : Ext ((w.alloc (Obj.cells #[.int .u64 v, .int .i64 k, .slice A l.length cp] 31)).alloc (Obj.cells #[.int .i64 0, .int .u64 0, .int .i64 0, .int .u64 0] 28)) w') => h.boxCell
          have hYf := fun w' (h : Ext ((w.alloc (Obj.cells #[.int .u64 v, .int .i64 k, .slice A l.length cp] 31)).alloc (Obj.cells #[.int .i64 0, .int .u64 0, .int .i64 0, .int .u64 0] 28)) w') => h.boxFree
          simp only [World.size_alloc] at hY hYf
          have hX := fun w' (h : Ext ((w.alloc (Obj.cells #[.int .u64 v, .int .i64 k, .slice A l.length cp] 31)).alloc (Obj.cells #[.int .i64 0, .int .u64 0, .int .i64 0, .int .u64 0] 28)) w') => ((Ext.alloc (w.alloc (Obj.cells #[.int .u64 v, .int .i64 k, .slice A l.length cp] 31)) (Obj.cells #[.int .i64 0, .int .u64 0, .int .i64 0, .int .u64 0] 28)).trans h).boxCell
          have hXf := fun w' (h : Ext ((w.alloc (Obj.cells #[.int .u64 v, .int .i64 k, .slice A l.length cp] 31)).alloc (Obj.cells #[.int .i64 0, .int .u64 0, .int .i64 0, .int .u64 0] 28)) w') => ((Ext.alloc (w.alloc (Obj.cells #[.int .u64 v, .int .i64 k, .slice A l.length cp] 31)) (Obj.cells #[.int .i64 0, .int .u64 0, .int .i64 0, .int .u64 0] 28)).trans h).boxFree
          have hX0 : Ext w ((w.alloc (Obj.cells #[.int .u64 v, .int .i64 k, .slice A l.length cp] 31)).alloc (Obj.cells #[.int .i64 0, .int .u64 0, .int .i64 0, .int .u64 0] 28)) := (Ext.alloc _ _).trans (Ext.alloc _ _)
          generalize (w.alloc (Obj.cells #[.int .u64 v, .int .i64 k, .slice A l.length cp] 31)).alloc (Obj.cells #[.int .i64 0, .int .u64 0, .int .i64 0, .int .u64 0] 28) = W0 at *
          have hW := Ext.refl W0
          go_wp2_with ((go_at_call 20; (with_reducible refine (B _ (hG.ext (hX0.trans hW)) hv hg).mono ?_); rintro e w' ⟨rfl, hb⟩; have hW := Ext.trans2 hW (by repeat (first | exact Ext.refl _ | exact Ext.alloc _ _ | exact Ext.drewN _ _ | assumption | refine Ext.trans ?_ (Ext.alloc _ _) | refine Ext.trans ?_ (Ext.drew _) | refine Ext.trans ?_ (by assumption))) hb; (try have hV := Ext.trans2 hV (by repeat (first | exact Ext.refl _ | exact Ext.alloc _ _ | exact Ext.drewN _ _ | assumption | refine Ext.trans ?_ (Ext.alloc _ _) | refine Ext.trans ?_ (Ext.drew _) | refine Ext.trans ?_ (by assumption))) hb); clear hb); have hWA := fun o => hW.trans (Ext.alloc w' o))
          refine bodyPost_ret (v := .tuple #[.agg #[.int .i64 0, .int .u64 0, .int .i64 0, .int .u64 0], .bool false]) (by simp [results, Tryd.results7, go_sem, *]) rfl ⟨rfl, ?_⟩
          ((repeat (with_reducible refine Ext.set ?_ (by simp) _)); exact (hX0.trans (hW.trans (by repeat (first | exact Ext.refl _ | exact Ext.alloc _ _ | exact Ext.drewN _ _ | assumption | refine Ext.trans ?_ (Ext.alloc _ _) | refine Ext.trans ?_ (Ext.drew _) | refine Ext.trans ?_ (by assumption))))))
      · have hb := one_lo (x := ⟨v, k, A, cp, l⟩) h0
        rw [show gc (oneV o ⟨v, k, A, cp, l⟩) = #[.int .i64 0, .int .u64 0, .int .i64 0, .int .u64 0] by rw [one_no hb]; rfl, hb]
        clear hb
        go_enter Tryd.func7, Tryd.ntmps7
        go_wp2_with fail
        have hY := fun w' (h : Ext ((w.alloc (Obj.cells #[.int .u64 v, .int .i64 k, .slice A l.length cp] 31)).alloc (Obj.cells #[.int .i64 0, .int .u64 0, .int .i64 0, .int .u64 0] 28)) w') => h.boxCell
        have hYf := fun w' (h : Ext ((w.alloc (Obj.cells #[.int .u64 v, .int .i64 k, .slice A l.length cp] 31)).alloc (Obj.cells #[.int .i64 0, .int .u64 0, .int .i64 0, .int .u64 0] 28)) w') => h.boxFree
        simp only [World.size_alloc] at hY hYf
        have hX := fun w' (h : Ext ((w.alloc (Obj.cells #[.int .u64 v, .int .i64 k, .slice A l.length cp] 31)).alloc (Obj.cells #[.int .i64 0, .int .u64 0, .int .i64 0, .int .u64 0] 28)) w') => ((Ext.alloc (w.alloc (Obj.cells #[.int .u64 v, .int .i64 k, .slice A l.length cp] 31)) (Obj.cells #[.int .i64 0, .int .u64 0, .int .i64 0, .int .u64 0] 28)).trans h).boxCell
        have hXf := fun w' (h : Ext ((w.alloc (Obj.cells #[.int .u64 v, .int .i64 k, .slice A l.length cp] 31)).alloc (Obj.cells #[.int .i64 0, .int .u64 0, .int .i64 0, .int .u64 0] 28)) w') => ((Ext.alloc (w.alloc (Obj.cells #[.int .u64 v, .int .i64 k, .slice A l.length cp] 31)) (Obj.cells #[.int .i64 0, .int .u64 0, .int .i64 0, .int .u64 0] 28)).trans h).boxFree
        have hX0 : Ext w ((w.alloc (Obj.cells #[.int .u64 v, .int .i64 k, .slice A l.length cp] 31)).alloc (Obj.cells #[.int .i64 0, .int .u64 0, .int .i64 0, .int .u64 0] 28)) := (Ext.alloc _ _).trans (Ext.alloc _ _)
        generalize (w.alloc (Obj.cells #[.int .u64 v, .int .i64 k, .slice A l.length cp] 31)).alloc (Obj.cells #[.int .i64 0, .int .u64 0, .int .i64 0, .int .u64 0] 28) = W0 at *
        have hW := Ext.refl W0
        go_wp2_with ((go_at_call 20; (with_reducible refine (B _ (hG.ext (hX0.trans hW)) hv hg).mono ?_); rintro e w' ⟨rfl, hb⟩; have hW := Ext.trans2 hW (by repeat (first | exact Ext.refl _ | exact Ext.alloc _ _ | exact Ext.drewN _ _ | assumption | refine Ext.trans ?_ (Ext.alloc _ _) | refine Ext.trans ?_ (Ext.drew _) | refine Ext.trans ?_ (by assumption))) hb; (try have hV := Ext.trans2 hV (by repeat (first | exact Ext.refl _ | exact Ext.alloc _ _ | exact Ext.drewN _ _ | assumption | refine Ext.trans ?_ (Ext.alloc _ _) | refine Ext.trans ?_ (Ext.drew _) | refine Ext.trans ?_ (by assumption))) hb); clear hb); have hWA := fun o => hW.trans (Ext.alloc w' o))
        refine bodyPost_ret (v := .tuple #[.agg #[.int .i64 0, .int .u64 0, .int .i64 0, .int .u64 0], .bool false]) (by simp [results, Tryd.results7, go_sem, *]) rfl ⟨rfl, ?_⟩
        ((repeat (with_reducible refine Ext.set ?_ (by simp) _)); exact (hX0.trans (hW.trans (by repeat (first | exact Ext.refl _ | exact Ext.alloc _ _ | exact Ext.drewN _ _ | assumption | refine Ext.trans ?_ (Ext.alloc _ _) | refine Ext.trans ?_ (Ext.drew _) | refine Ext.trans ?_ (by assumption))))))
  · have hb := one_kind (o := o) (x := ⟨v, k, A, cp, l⟩) (isB_no hg)
    rw [show gc (oneV o ⟨v, k, A, cp, l⟩) = #[.int .i64 0, .int .u64 0, .int .i64 0, .int .u64 0] by rw [one_no hb]; rfl, hb]
    clear hb
    go_enter Tryd.func7, Tryd.ntmps7
    go_wp2_with fail
    have hY := fun w' (h : Ext ((w.alloc (Obj.cells #[.int .u64 v, .int .i64 k, .slice A l.length cp] 31)).alloc (Obj.cells #[.int .i64 0, .int .u64 0, .int .i64 0, .int .u64 0] 28)) w') => h.boxCell
    have hYf := fun w' (h : Ext ((w.alloc (Obj.cells #[.int .u64 v, .int .i64 k, .slice A l.length cp] 31)).alloc (Obj.cells #[.int .i64 0, .int .u64 0, .int .i64 0, .int .u64 0] 28)) w') => h.boxFree
    simp only [World.size_alloc] at hY hYf
    have hX := fun w' (h : Ext ((w.alloc (Obj.cells #[.int .u64 v, .int .i64 k, .slice A l.length cp] 31)).alloc (Obj.cells #[.int .i64 0, .int .u64 0, .int .i64 0, .int .u64 0] 28)) w') => ((Ext.alloc (w.alloc (Obj.cells #[.int .u64 v, .int .i64 k, .slice A l.length cp] 31)) (Obj.cells #[.int .i64 0, .int .u64 0, .int .i64 0, .int .u64 0] 28)).trans h).boxCell
    have hXf := fun w' (h : Ext ((w.alloc (Obj.cells #[.int .u64 v, .int .i64 k, .slice A l.length cp] 31)).alloc (Obj.cells #[.int .i64 0, .int .u64 0, .int .i64 0, .int .u64 0] 28)) w') => ((Ext.alloc (w.alloc (Obj.cells #[.int .u64 v, .int .i64 k, .slice A l.length cp] 31)) (Obj.cells #[.int .i64 0, .int .u64 0, .int .i64 0, .int .u64 0] 28)).trans h).boxFree
    have hX0 : Ext w ((w.alloc (Obj.cells #[.int .u64 v, .int .i64 k, .slice A l.length cp] 31)).alloc (Obj.cells #[.int .i64 0, .int .u64 0, .int .i64 0, .int .u64 0] 28)) := (Ext.alloc _ _).trans (Ext.alloc _ _)
    generalize (w.alloc (Obj.cells #[.int .u64 v, .int .i64 k, .slice A l.length cp] 31)).alloc (Obj.cells #[.int .i64 0, .int .u64 0, .int .i64 0, .int .u64 0] 28) = W0 at *
    have hW := Ext.refl W0
    go_wp2_with ((go_at_call 20; (with_reducible refine (ph_no _ _ (hG.ext (hX0.trans hW)) hv hg).mono ?_); rintro e w' ⟨rfl, hb⟩; have hW := Ext.trans2 hW (by repeat (first | exact Ext.refl _ | exact Ext.alloc _ _ | exact Ext.drewN _ _ | assumption | refine Ext.trans ?_ (Ext.alloc _ _) | refine Ext.trans ?_ (Ext.drew _) | refine Ext.trans ?_ (by assumption))) hb; (try have hV := Ext.trans2 hV (by repeat (first | exact Ext.refl _ | exact Ext.alloc _ _ | exact Ext.drewN _ _ | assumption | refine Ext.trans ?_ (Ext.alloc _ _) | refine Ext.trans ?_ (Ext.drew _) | refine Ext.trans ?_ (by assumption))) hb); clear hb); have hWA := fun o => hW.trans (Ext.alloc w' o))
    refine bodyPost_ret (v := .tuple #[.agg #[.int .i64 0, .int .u64 0, .int .i64 0, .int .u64 0], .bool false]) (by simp [results, Tryd.results7, go_sem, *]) rfl ⟨rfl, ?_⟩
    ((repeat (with_reducible refine Ext.set ?_ (by simp) _)); exact (hX0.trans (hW.trans (by repeat (first | exact Ext.refl _ | exact Ext.alloc _ _ | exact Ext.drewN _ _ | assumption | refine Ext.trans ?_ (Ext.alloc _ _) | refine Ext.trans ?_ (Ext.drew _) | refine Ext.trans ?_ (by assumption))))))
end Go.Proofs.YtecopjehmpjniaaDoor
