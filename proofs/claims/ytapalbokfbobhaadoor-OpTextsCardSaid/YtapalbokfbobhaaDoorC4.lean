/- The document's words and parts. -/
import Derived.Test.YtapalbokfbobhaaDoorC3
import Derived.Test.YtapalbokfbobhaaDoorHeld
namespace Go.Proofs.YtapalbokfbobhaaDoor
open Go.RowKit Go.Sort
set_option linter.unusedSimpArgs false
set_option linter.unusedVariables false
set_option maxRecDepth 100000

theorem rwords_any (w : World) : Calls Tryd.prog 34 #[] w fun e w' => ∃ b, e = .returned (.slice (some ⟨b, 0, none⟩) 10 10) ∧ w.heap.size ≤ b ∧ (∀ j, j < 10 → w'.cell? ⟨b, j, none⟩ = some (Value.string ⟨List.toArray (wd j)⟩)) ∧ Ext w w' := by
  go_enter Tryd.func34, Tryd.ntmps34
  go_wp2
  go_ret
  refine ⟨w.heap.size, rfl, Nat.le_refl _, fun j hj => ?_, Ext.alloc _ _⟩
  rw [(Ext.refl _).boxCell]
  match j, hj with
  | 0, _ => rfl
  | 1, _ => rfl
  | 2, _ => rfl
  | 3, _ => rfl
  | 4, _ => rfl
  | 5, _ => rfl
  | 6, _ => rfl
  | 7, _ => rfl
  | 8, _ => rfl
  | 9, _ => rfl
theorem rone_any (x : Op3) (hx : mayO x = true) (w : World) :
    Calls Tryd.prog 24 #[.agg #[.int .i64 x.1, .int .i64 x.2.1, .int .i64 x.2.2]] w fun e w' => e = .returned (Value.string ⟨List.toArray (partO x)⟩) ∧ Ext w w' := by
  obtain ⟨h1, h2, h3, h4, h5, h6, h7⟩ := may_out hx
  obtain ⟨k, o, a⟩ := x
  simp only at h1 h2 h3 h4 h5 h6 h7
  obtain ⟨m, rfl⟩ : ∃ m : Nat, k = m := ⟨k.toNat, by omega⟩
  have hm10 : m < 10 := by omega
  have hmi : (m : Int) < 10 := by omega
  have l1 := wd_len m
  have l2 := itoa_len (n := o) h1 (by omega)
  have l3 := itoa_len (n := a) h3 (by omega)
  have e1 := fun w => add_lists w (wd m) [32] (by omega) (by decide)
  have e2 := fun w => add_lists w (wd m ++ [32]) (Lib.itoa o) (by simp; omega) (by omega)
  have e5 := fun w => add_lists w (wd m ++ [32]) (Lib.itoa a) (by simp; omega) (by omega)
  have e3 := fun w => add_lists w [32] (Lib.itoa a) (by decide) (by omega)
  have e4 := fun w => add_lists w (wd m ++ 32 :: Lib.itoa o) (32 :: Lib.itoa a) (by simp; omega) (by simp; omega)
  have HM := hide (⟨h5, h6, h7⟩ : _ ∧ _ ∧ _)
  clear h5 h6 h7
  have HP : Hid (partO ((m : Int), o, a) = if (m : Int) = 9 then wd m ++ 32 :: Lib.itoa a else if (m : Int) = 4 ∧ 0 < a then wd m ++ 32 :: (Lib.itoa o ++ 32 :: Lib.itoa a) else wd m ++ 32 :: Lib.itoa o) := by
    unfold partO
    by_cases q : (m : Int) = 9
    · rw [if_pos q, if_pos q]; obtain rfl : m = 9 := by omega
      rfl
    · rw [if_neg q, if_neg q]
      by_cases q2 : (m : Int) = 4 ∧ 0 < a
      · rw [if_pos q2, if_pos q2]; obtain rfl : m = 4 := by omega
        rfl
      · rw [if_neg q2, if_neg q2]; rfl
  go_enter Tryd.func24, Tryd.ntmps24
  go_wp2_with fail
  have hX := fun w' (h : Ext (w.alloc (Obj.cells #[.int .i64 (m : Int), .int .i64 o, .int .i64 a] 24)) w') => h.boxCell
  have hXf := fun w' (h : Ext (w.alloc (Obj.cells #[.int .i64 (m : Int), .int .i64 o, .int .i64 a] 24)) w') => h.boxFree
  have hX0 : Ext w (w.alloc (Obj.cells #[.int .i64 (m : Int), .int .i64 o, .int .i64 a] 24)) := Ext.alloc _ _
  generalize w.alloc (Obj.cells #[.int .i64 (m : Int), .int .i64 o, .int .i64 a] 24) = W0 at *
  have hW := Ext.refl W0
  have hk := Ext.drew W0
  have hx0 : ∀ w', Ext W0 w' → w'.cell? ⟨w.heap.size, 0, none⟩ = some (.int .i64 (m : Int)) := fun w' h => hX w' h 0
  have HX := hide hX
  clear hX
  refine wp_region_held_drew (S := fun w' => w'.cell? ⟨w.heap.size, 0, none⟩ = some (.int .i64 (m : Int))) (by kernel_rfl) (hx0 _ hk) (fun hHeld => ?_)
  (refine held_take (i := 1) (v := ?_) rfl (by kernel_rfl) (by kernel_rfl) (by kernel_rfl) (fun _ _ _ h => h) (by rfl) ?_ (by assumption) ?_; rotate_left; (intro w hSw; (try dsimp only at hSw); (first | (go_simp; done) | (go_simp; with_reducible rfl))); (try simp only [Act.put, List.setIfInBounds_toArray, List.set_cons_zero, List.set_cons_succ]))
  (refine held_take (i := 2) (v := ?_) rfl (by kernel_rfl) (by kernel_rfl) (by kernel_rfl) (fun _ _ _ h => h) (by rfl) ?_ (by assumption) ?_; rotate_left; (intro w hSw; (try dsimp only at hSw); (first | (go_simp; done) | (go_simp; with_reducible rfl))); (try simp only [Act.put, List.setIfInBounds_toArray, List.set_cons_zero, List.set_cons_succ]))
  refine wpAnyH_ready (rs := [0]) (by kernel_rfl) (by simp) (held_cons rfl (fun K hK => ?_) AllReadyH.nil)
  rw [if_pos (by rfl)]
  go_simp
  go_at_call 34
  refine (rwords_any _).mono ?_
  rintro e w6 ⟨b, rfl, hb, hc, hx6⟩
  have q1 := (hc m hm10)
  have hk := hk.trans hx6
  refine hK.out _ _ (hx0 _ hk) (fun hHeld => ?_)
  (try simp only [Act.put, List.setIfInBounds_toArray, List.set_cons_zero, List.set_cons_succ])
  (refine held_take (i := 3) (v := ?_) rfl (by kernel_rfl) (by kernel_rfl) (by kernel_rfl) (fun _ _ _ h => h) (by rfl) ?_ (by assumption) ?_; rotate_left; (intro w hSw; (try dsimp only at hSw); (first | (go_simp; done) | (go_simp; with_reducible rfl))); (try simp only [Act.put, List.setIfInBounds_toArray, List.set_cons_zero, List.set_cons_succ]))
  refine wpAnyH_ready (rs := [4]) (by kernel_rfl) (by simp) (held_cons rfl (fun K hK => ?_) AllReadyH.nil)
  rw [if_pos (by rfl)]
  go_wp2
  refine hK.out _ _ (hx0 _ hk) (fun hHeld => ?_)
  (try simp only [Act.put, List.setIfInBounds_toArray, List.set_cons_zero, List.set_cons_succ])
  (refine held_take (i := 5) (v := ?_) rfl (by kernel_rfl) (by kernel_rfl) (by kernel_rfl) (fun _ _ _ h => h) (by rfl) ?_ (by assumption) ?_; rotate_left; (intro w hSw; (try dsimp only at hSw); (first | (go_simp; done) | (go_simp; with_reducible rfl))); (try simp only [Act.put, List.setIfInBounds_toArray, List.set_cons_zero, List.set_cons_succ]))
  (refine held_take (i := 6) (v := ?_) rfl (by kernel_rfl) (by kernel_rfl) (by kernel_rfl) (fun _ _ _ h => h) (by rfl) ?_ (by assumption) ?_; rotate_left; (intro w hSw; (try dsimp only at hSw); (first | (go_simp; done) | (go_simp; with_reducible rfl))); (try simp only [Act.put, List.setIfInBounds_toArray, List.set_cons_zero, List.set_cons_succ]))
  refine wpAnyH_done (by kernel_rfl) ?_ _
  clear hK hHeld q1 hc hx0
  have hX := fun w' (x : Ext w6 w') => HX.out w' (hk.trans x)
  have hX0 := hX0.trans hk
  have hW := Ext.refl w6
  clear hXf
  go_wp2_with (first | (go_at_call 35; (with_reducible refine (rten_int o h1 (by omega) _).mono ?_); rintro e w' ⟨rfl, hb⟩; have hW := Ext.trans2 hW (by repeat (first | exact Ext.refl _ | exact Ext.alloc _ _ | exact Ext.drewN _ _ | assumption | refine Ext.trans ?_ (Ext.alloc _ _) | refine Ext.trans ?_ (Ext.drew _) | refine Ext.trans ?_ (by assumption))) hb; (try have hV := Ext.trans2 hV (by repeat (first | exact Ext.refl _ | exact Ext.alloc _ _ | exact Ext.drewN _ _ | assumption | refine Ext.trans ?_ (Ext.alloc _ _) | refine Ext.trans ?_ (Ext.drew _) | refine Ext.trans ?_ (by assumption))) hb); clear hb) | (go_at_call 35; (with_reducible refine (rten_int a h3 (by omega) _).mono ?_); rintro e w' ⟨rfl, hb⟩; have hW := Ext.trans2 hW (by repeat (first | exact Ext.refl _ | exact Ext.alloc _ _ | exact Ext.drewN _ _ | assumption | refine Ext.trans ?_ (Ext.alloc _ _) | refine Ext.trans ?_ (Ext.drew _) | refine Ext.trans ?_ (by assumption))) hb; (try have hV := Ext.trans2 hV (by repeat (first | exact Ext.refl _ | exact Ext.alloc _ _ | exact Ext.drewN _ _ | assumption | refine Ext.trans ?_ (Ext.alloc _ _) | refine Ext.trans ?_ (Ext.drew _) | refine Ext.trans ?_ (by assumption))) hb); clear hb))
  · go_ret
    refine ⟨?_, (hX0.trans (hW.trans (by repeat (first | exact Ext.refl _ | exact Ext.alloc _ _ | exact Ext.drewN _ _ | assumption | refine Ext.trans ?_ (Ext.alloc _ _) | refine Ext.trans ?_ (Ext.drew _) | refine Ext.trans ?_ (by assumption)))))⟩
    have z : (m : Int) = 9 := by simpa using ‹((m : Int) == 9) = true›
    rw [HP.out, if_pos z]
    simp
  · go_ret
    refine ⟨?_, (hX0.trans (hW.trans (by repeat (first | exact Ext.refl _ | exact Ext.alloc _ _ | exact Ext.drewN _ _ | assumption | refine Ext.trans ?_ (Ext.alloc _ _) | refine Ext.trans ?_ (Ext.drew _) | refine Ext.trans ?_ (by assumption)))))⟩
    have z : ¬ (m : Int) = 9 := by simpa using ‹((m : Int) == 9) = false›
    rw [HP.out, if_neg z, if_pos (by have := HM.out; omega)]
    simp
  · go_ret
    refine ⟨?_, (hX0.trans (hW.trans (by repeat (first | exact Ext.refl _ | exact Ext.alloc _ _ | exact Ext.drewN _ _ | assumption | refine Ext.trans ?_ (Ext.alloc _ _) | refine Ext.trans ?_ (Ext.drew _) | refine Ext.trans ?_ (by assumption)))))⟩
    have z : ¬ (m : Int) = 9 := by simpa using ‹((m : Int) == 9) = false›
    rw [HP.out, if_neg z, if_neg (by have := HM.out; omega)]
    simp
end Go.Proofs.YtapalbokfbobhaaDoor
