/- Set, Clear, Tick. -/
import Derived.Test.YtgfhpgbklcjooaaT7
import Derived.OpenShut
namespace Go.Proofs.Ytgfhpgbklcjooaa
open Go.RowKit Go.Maps
set_option linter.unusedSimpArgs false
set_option linter.unusedVariables false

theorem map_some (m : Nat) (w : World) : (binOp .eql 45 (.map (some m)) (.map none)).run Try.prog w = .ok (.bool false) w := by kernel_rfl
theorem map_none (w : World) : (binOp .eql 45 (.map none) (.map none)).run Try.prog w = .ok (.bool true) w := by kernel_rfl
def okS (z k : Int) : Prop := 0 ≤ z ∧ z ≤ 255 ∧ 1 ≤ k
instance (z k : Int) : Decidable (okS z k) := by unfold okS; infer_instance
def setE (z k : Int) : Int := if okS z k then 0 else 1
def setF (f : Al) (now z k : Int) : Al := if okS z k then upd f z.toNat (latI now k) else f
theorem latI_le {now k : Int} (h : now ≤ TM) : latI now k ≤ TM := by unfold latI; split <;> omega
theorem latI_ge {now k : Int} (h : now ≤ TM) (hk : 0 ≤ k) : now ≤ latI now k := by unfold latI; split <;> omega
theorem latI_pos {now k : Int} (h0 : 0 ≤ now) (hk : 1 ≤ k) : 1 ≤ latI now k := by unfold latI TM; split <;> omega
theorem set_any {w : World} {C m : Nat} {now : Int} {f : Al} {z k : Int} (h : ClkT w C m now f) (hz : (ky z).wf = true) (hk : (ky k).wf = true) :
    Calls Try.prog 14 #[.pointer (some ⟨C, 0, none⟩), .int .i64 z, .int .i64 k] w fun e w' => e = .returned (.int .i64 (setE z k)) ∧ ClkT w' C m now (setF f now z k) ∧ Chg [m] w w' := by
  have bk := bounds_i64 hk
  by_cases hok : okS z k
  · have E1 := hide (show setE z k = 0 from if_pos hok)
    have E2 := hide (show setF f now z k = upd f z.toNat (latI now k) from if_pos hok)
    obtain ⟨h0, h1, h2⟩ := hok
    have H0 := hide h
    have hq := map_some m
    have hcr := h.c.rule
    have hW := Ext.refl w
    have hX0 := Ext.refl w
    have t1 : ¬ z < 0 := by omega
    have t2 : ¬ 255 < z := by omega
    have t3 : ¬ k < 1 := by omega
    go_enter Try.func14, Try.ntmps14
    go_wp2_with fail
    refine (all_in h).mono ?_
    rintro e w1 ⟨rfl, rfl⟩
    go_wp2_with fail
    refine wp_region_tail 8 (by kernel_rfl) (by kernel_rfl) ?_
    simp only [List.take_succ_cons, List.take_zero, List.drop_succ_cons, List.drop_zero]
    repeat
      with_reducible refine wpQuiet_step (fun K hK => ?_)
      go_simp
      first
      | (refine hK _ ?_; clear hK K)
      | (apply Exists.intro
         refine ⟨fun w1 h1 => ?_, hK _ ?_⟩
         (have hW := Ext.trans2 hW (by repeat (first | exact Ext.refl _ | exact Ext.alloc _ _ | exact Ext.drewN _ _ | assumption | refine Ext.trans ?_ (Ext.alloc _ _) | refine Ext.trans ?_ (Ext.drew _) | refine Ext.trans ?_ (by assumption))) h1; (try have hV := Ext.trans2 hV (by repeat (first | exact Ext.refl _ | exact Ext.alloc _ _ | exact Ext.drewN _ _ | assumption | refine Ext.trans ?_ (Ext.alloc _ _) | refine Ext.trans ?_ (Ext.drew _) | refine Ext.trans ?_ (by assumption))) h1); (first | rfl | (go_simp; done) | (go_simp; rfl) | (go_at_call 25; (with_reducible refine (later_any (h.ext (hX0.trans hW)) (by omega) (by omega)).mono ?_); rintro e w2 ⟨rfl, hb⟩; exact ⟨rfl, h1.trans hb⟩)))
         clear hK K)
    refine wpQuiet_nil (fun w' hw' => ?_)
    have hW := Ext.trans2 hW (by repeat (first | exact Ext.refl _ | exact Ext.alloc _ _ | exact Ext.drewN _ _ | assumption | refine Ext.trans ?_ (Ext.alloc _ _) | refine Ext.trans ?_ (Ext.drew _) | refine Ext.trans ?_ (by assumption))) hw'
    try have hV := Ext.trans2 hV (by repeat (first | exact Ext.refl _ | exact Ext.alloc _ _ | exact Ext.drewN _ _ | assumption | refine Ext.trans ?_ (Ext.alloc _ _) | refine Ext.trans ?_ (Ext.drew _) | refine Ext.trans ?_ (by assumption))) hw'
    clear hw'
    obtain ⟨D, hown, rep⟩ := (H0.out.ext hW).mp
    have hl0 := latI_pos H0.out.n0 h2
    have hl1 := latI_le (k := k) H0.out.n1
    have hn0 := H0.out.n0
    unfold TM at hl1
    have wl : (ky (latI now k)).wf = true := ky_wf (by omega) (by omega)
    go_wp2_with (at_mapUpdate; refine wpList_mapUpdate_own _ rfl _ _ _ 45 rfl 3 2 kI Try.underlying45 (plainElem (H := Unit) Try.prog 2) m 256 D rfl hown (by unfold maxLen; omega) _ _ (ky z) rfl rfl (kof hz) _ [] (pe_int wl) ?_; intro w1 hown1 hg1; go_frame)
    go_wp2
    go_ret
    obtain ⟨t, rfl⟩ := Int.eq_ofNat_of_zero_le h0
    have ht : t < 256 := by omega
    have hc := hW.chg [m] |>.trans (Chg.of_grown (T := [m]) hg1 (by simp))
    have hne := H0.out.ne
    have hb := H0.out.c.chg hc (by simpa using hne.symm)
    refine ⟨by rw [E1.out]; simp, ?_, hc⟩
    rw [E2.out]
    exact ⟨hb, MpT.of hown1 (rep.put ht (by omega)), H0.out.ok.upd ht (by omega) (by unfold TM; omega), H0.out.n0, H0.out.n1⟩
  · have E1 := hide (show setE z k = 1 from if_neg hok)
    have E2 := hide (show setF f now z k = f from if_neg hok)
    have hq := map_some m
    have hd : (decide (z < 0) || decide (255 < z) || decide (k < 1)) = true := by unfold okS at hok; simp; omega
    by_cases t1 : z < 0
    · go_enter Try.func14, Try.ntmps14
      go_wp2_with fail
      refine (all_in h).mono ?_
      rintro e w1 ⟨rfl, rfl⟩
      go_wp2_with fail
      go_ret
      exact ⟨by rw [E1.out]; simp, by rw [E2.out]; exact h, Chg.refl _ _⟩
    · by_cases t2 : 255 < z
      · go_enter Try.func14, Try.ntmps14
        go_wp2_with fail
        refine (all_in h).mono ?_
        rintro e w1 ⟨rfl, rfl⟩
        go_wp2_with fail
        go_ret
        exact ⟨by rw [E1.out]; simp, by rw [E2.out]; exact h, Chg.refl _ _⟩
      · have t3 : k < 1 := by unfold okS at hok; omega
        clear hd
        go_enter Try.func14, Try.ntmps14
        go_wp2_with fail
        refine (all_in h).mono ?_
        rintro e w1 ⟨rfl, rfl⟩
        go_wp2_with fail
        go_ret
        exact ⟨by rw [E1.out]; simp, by rw [E2.out]; exact h, Chg.refl _ _⟩
theorem set_nob {p : Value} {w : World} {z k : Int} (h : Nob w p) : Calls Try.prog 14 #[p, .int .i64 z, .int .i64 k] w fun e w' => e = .returned (.int .i64 2) ∧ w = w' := by
  have hq := map_none
  go_enter Try.func14, Try.ntmps14
  go_wp2_with fail
  refine (all_nob h).mono ?_
  rintro e w1 ⟨rfl, rfl⟩
  go_wp2_with fail
  go_ret
  exact ⟨by simp, rfl⟩
theorem clear_any {w : World} {C m : Nat} {now : Int} {f : Al} {z : Int} (h : ClkT w C m now f) (hz : (ky z).wf = true) :
    Calls Try.prog 9 #[.pointer (some ⟨C, 0, none⟩), .int .i64 z] w fun e w' => e = .returned (.bool (hasA f z)) ∧ ClkT w' C m now (clr f z) ∧ Chg [m] w w' := by
  have H0 := hide h
  obtain ⟨D, hown, rep⟩ := h.mp
  go_enter Try.func9, Try.ntmps9
  go_wp2_with (first
    | (go_at_call 16; refine (at_any H0.out hz).mono ?_; rintro e w1 ⟨rfl, rfl⟩)
    | (go_at_call 23; refine (all_in H0.out).mono ?_; rintro e w1 ⟨rfl, rfl⟩)
    | (at_delete; refine wpList_delete_own _ rfl _ _ 45 3 rfl 2 kI Try.underlying45 (plainElem (H := Unit) Try.prog 2) m 256 D rfl hown _ (ky z) rfl (kof hz) ?_; intro w1 hown1 hturn1; go_frame)
    | go_in)
  go_ret
  have hc := Chg.of_grown (T := [m]) hturn1.grown (by simp)
  have hne := H0.out.ne
  exact ⟨by simp, ⟨H0.out.c.chg hc (by simpa using hne.symm), MpT.of hown1 (rep.del H0.out.ok hz), H0.out.ok.clr z, H0.out.n0, H0.out.n1⟩, hc⟩
theorem clear_nob {p : Value} {w : World} {z : Int} (h : Nob w p) (hz : (ky z).wf = true) : Calls Try.prog 9 #[p, .int .i64 z] w fun e w' => e = .returned (.bool false) ∧ w = w' := by
  have L := fun ty => Maps.drop_nil (P := Try.prog) (w := w) kI Try.underlying45 (kof hz) ty
  go_enter Try.func9, Try.ntmps9
  go_wp2_with (first
    | (go_at_call 16; refine (at_nob h hz).mono ?_; rintro e w1 ⟨rfl, rfl⟩)
    | (go_at_call 23; refine (all_nob h).mono ?_; rintro e w1 ⟨rfl, rfl⟩))
  go_ret
  exact ⟨by simp, rfl⟩
end Go.Proofs.Ytgfhpgbklcjooaa
