/- The reference's clock: its block, and what its small methods do. -/
import Derived.Test.YtgfhpgbklcjooaaS1
import Derived.OpenShut
namespace Go.Proofs.Ytgfhpgbklcjooaa
open Go.RowKit Go.Maps
set_option linter.unusedSimpArgs false
set_option linter.unusedVariables false

def acells (f : Al) : List Value := (List.range 256).map fun t => Value.int .i64 (f t)
def rcells (T : Int) (f : Al) : Array Value := (Value.int .i64 T :: acells f).toArray
theorem acells_at (f : Al) {t : Nat} (h : t < 256) : (acells f)[t]? = some (.int .i64 (f t)) := by
  unfold acells
  rw [List.getElem?_map, List.getElem?_range h]; rfl
theorem acells_len (f : Al) : (acells f).length = 256 := by unfold acells; simp
theorem acells_set (f : Al) (t : Nat) (v : Int) (h : t < 256) : (acells f).set t (.int .i64 v) = acells (upd f t v) := by
  apply List.ext_getElem?
  intro j
  by_cases hj : j < 256
  · rw [acells_at _ hj, List.getElem?_set]
    by_cases e : t = j
    · subst e
      rw [if_pos rfl, if_pos (by rw [acells_len]; exact h), upd_same]
    · rw [if_neg e, acells_at _ hj, upd_other _ _ (Ne.symm e)]
  · rw [List.getElem?_eq_none (by rw [List.length_set, acells_len]; omega), List.getElem?_eq_none (by rw [acells_len]; omega)]
theorem rcells_T (T : Int) (f : Al) : (rcells T f)[0]? = some (.int .i64 T) := rfl
theorem rcells_at (T : Int) (f : Al) {t : Nat} (h : t < 256) : (rcells T f)[t + 1]? = some (.int .i64 (f t)) := by
  unfold rcells
  rw [List.getElem?_toArray, List.getElem?_cons_succ, acells_at f h]
theorem rcells_setT (T T' : Int) (f : Al) : (rcells T f).setIfInBounds 0 (.int .i64 T') = rcells T' f := by
  unfold rcells; simp
theorem rcells_set (T : Int) (f : Al) {t : Nat} (v : Int) (h : t < 256) : (rcells T f).setIfInBounds (t + 1) (.int .i64 v) = rcells T (upd f t v) := by
  unfold rcells
  rw [List.setIfInBounds_toArray, List.set_cons_succ, acells_set f t v h]
def RefT (w : World) (R : Nat) (T : Int) (f : Al) : Prop := Blk w R (rcells T f) 27
theorem RefT.t {w : World} {R : Nat} {T : Int} {f : Al} (h : RefT w R T f) : w.cell? ⟨R, 0, none⟩ = some (.int .i64 T) := (Blk.cell h 0).trans (rcells_T T f)
theorem RefT.l {w : World} {R : Nat} {T : Int} {f : Al} (h : RefT w R T f) {t : Nat} (ht : t < 256) : w.cell? ⟨R, 1 + t, none⟩ = some (.int .i64 (f t)) := by rw [Nat.add_comm]; exact (Blk.cell h (t + 1)).trans (rcells_at T f ht)
theorem RefT.at {w : World} {R : Nat} {T : Int} {f : Al} (h : RefT w R T f) (T' : Int) : RefT (w.setCell ⟨R, 0, none⟩ (.int .i64 T')) R T' f := by
  have := Blk.set h 0 (.int .i64 T'); rwa [rcells_setT] at this
theorem RefT.set {w : World} {R : Nat} {T : Int} {f : Al} (h : RefT w R T f) {t : Nat} (ht : t < 256) (v : Int) : RefT (w.setCell ⟨R, 1 + t, none⟩ (.int .i64 v)) R T (upd f t v) := by
  rw [Nat.add_comm]
  have := Blk.set h (t + 1) (.int .i64 v); rwa [rcells_set T f v ht] at this
theorem is_any (z : Int) (w : World) : Calls Try.prog 24 #[.int .i64 z] w fun e w' => e = .returned (.bool (decide (0 ≤ z) && decide (z < 256))) ∧ w = w' := by
  by_cases h0 : 0 ≤ z
  · go_enter Try.func24, Try.ntmps24
    go_wp2
    go_ret
    exact ⟨by simp [h0], rfl⟩
  · go_enter Try.func24, Try.ntmps24
    go_wp2
    go_ret
    exact ⟨by have : decide (0 ≤ z) = false := by simp; omega
              rw [this]; rfl, rfl⟩
theorem upd_upd (f : Al) (t : Nat) (v v' : Int) : upd (upd f t v) t v' = upd f t v' := by
  funext s; unfold upd; split <;> rfl
theorem rset_any {w : World} {R : Nat} {T : Int} {f : Al} {z k : Int} (h : RefT w R T f) (T0 : 0 ≤ T) (T1 : T ≤ TM) (hk : (ky k).wf = true) :
    Calls Try.prog 15 #[.pointer (some ⟨R, 0, none⟩), .int .i64 z, .int .i64 k] w fun e w' => e = .returned (.int .i64 (setE z k)) ∧ RefT w' R T (setF f T z k) ∧ Chg [R] w w' := by
  have bk := bounds_i64 hk
  unfold TM at T1
  by_cases hz : 0 ≤ z ∧ z < 256
  · obtain ⟨h0, h1⟩ := hz
    have hI : (decide (0 ≤ z) && decide (z < 256)) = true := by simp [h0, h1]
    by_cases h2 : 1 ≤ k
    · have hok : okS z k := ⟨h0, by omega, h2⟩
      have E1 := hide (show setE z k = 0 from if_pos hok)
      have E2 := hide (show setF f T z k = upd f z.toNat (latI T k) from if_pos hok)
      have ht : z.toNat < 256 := by omega
      have W1 : IntKind.i64.wrap (1099511627776 - T) = 1099511627776 - T := wrapI (by omega) (by omega)
      have c0 := h.t
      have c1 := h.l ht
      have f1 := Blk.free h (1 + z.toNat)
      have hs := h.set ht 1099511627776
      have hc := (Chg.refl [R] w).set (p := ⟨R, 1 + z.toNat, none⟩) (.inl (by simp)) (.int .i64 1099511627776)
      have HS := hide hs
      have HC := hide hc
      clear hs hc
      by_cases hlt : k < 1099511627776 - T
      · have W2 : IntKind.i64.wrap (T + k) = T + k := wrapI (by omega) (by omega)
        have L := hide (show latI T k = T + k from if_pos (by unfold TM; omega))
        go_enter Try.func15, Try.ntmps15
        go_wp2_with fail
        refine (is_any _ _).mono ?_
        rintro e w1 ⟨rfl, rfl⟩
        rw [hI]
        clear hI hok
        go_wp2_with fail
        clear c0 c1 f1
        generalize w.setCell ⟨R, 1 + z.toNat, none⟩ (.int .i64 1099511627776) = w2 at *
        have c0 : ∀ wx, Ext w2 wx → wx.cell? ⟨R, 0, none⟩ = some (.int .i64 T) := fun wx hx => RefT.t (Blk.ext HS.out hx)
        have c1 : ∀ wx, Ext w2 wx → wx.cell? ⟨R, 1 + z.toNat, none⟩ = some (.int .i64 (upd f z.toNat 1099511627776 z.toNat)) := fun wx hx => RefT.l (Blk.ext HS.out hx) ht
        have f1 : ∀ wx, Ext w2 wx → wx.frozen? ⟨R, 1 + z.toNat, none⟩ = false := fun wx hx => Blk.free (Blk.ext HS.out hx) _
        have hW := Ext.refl w2
        refine wp_region_tail 11 (by kernel_rfl) (by kernel_rfl) ?_
        simp only [List.take_succ_cons, List.take_zero, List.drop_succ_cons, List.drop_zero]
        repeat
          with_reducible refine wpQuiet_step (fun K hK => ?_)
          go_simp
          first
          | (refine hK _ ?_; clear hK K)
          | (apply Exists.intro
             refine ⟨fun w1 h1 => ?_, hK _ ?_⟩
             (have hW := Ext.trans2 hW (by repeat (first | exact Ext.refl _ | exact Ext.alloc _ _ | exact Ext.drewN _ _ | assumption | refine Ext.trans ?_ (Ext.alloc _ _) | refine Ext.trans ?_ (Ext.drew _) | refine Ext.trans ?_ (by assumption))) h1; (try have hV := Ext.trans2 hV (by repeat (first | exact Ext.refl _ | exact Ext.alloc _ _ | exact Ext.drewN _ _ | assumption | refine Ext.trans ?_ (Ext.alloc _ _) | refine Ext.trans ?_ (Ext.drew _) | refine Ext.trans ?_ (by assumption))) h1); (first | rfl | (go_simp; done) | (go_simp; rfl) | fail))
             clear hK K)
        refine wpQuiet_nil (fun w' hw' => ?_)
        have hW := Ext.trans2 hW (by repeat (first | exact Ext.refl _ | exact Ext.alloc _ _ | exact Ext.drewN _ _ | assumption | refine Ext.trans ?_ (Ext.alloc _ _) | refine Ext.trans ?_ (Ext.drew _) | refine Ext.trans ?_ (by assumption))) hw'
        try have hV := Ext.trans2 hV (by repeat (first | exact Ext.refl _ | exact Ext.alloc _ _ | exact Ext.drewN _ _ | assumption | refine Ext.trans ?_ (Ext.alloc _ _) | refine Ext.trans ?_ (Ext.drew _) | refine Ext.trans ?_ (by assumption))) hw'
        clear hw'
        go_wp2_with fail
        go_ret
        have h3 := RefT.set (Blk.ext HS.out hW) ht (T + k)
        have hc := (HC.out.trans (hW.chg [R])).set (p := ⟨R, 1 + z.toNat, none⟩) (.inl (by simp)) (.int .i64 (T + k))
        rw [upd_upd] at h3
        exact ⟨by rw [E1.out]; simp, by rw [E2.out, L.out]; exact h3, hc⟩
      · have L := hide (show latI T k = 1099511627776 by unfold latI TM; split <;> omega)
        go_enter Try.func15, Try.ntmps15
        go_wp2_with fail
        refine (is_any _ _).mono ?_
        rintro e w1 ⟨rfl, rfl⟩
        rw [hI]
        clear hI hok
        go_wp2_with fail
        go_ret
        exact ⟨by rw [E1.out]; simp, by rw [E2.out, L.out]; exact HS.out, HC.out⟩
    · have hok : ¬ okS z k := fun hh => h2 hh.2.2
      have E1 := hide (show setE z k = 1 from if_neg hok)
      have E2 := hide (show setF f T z k = f from if_neg hok)
      clear hok
      go_enter Try.func15, Try.ntmps15
      go_wp2_with fail
      refine (is_any _ _).mono ?_
      rintro e w1 ⟨rfl, rfl⟩
      rw [hI]
      go_wp2_with fail
      go_ret
      exact ⟨by rw [E1.out]; simp, by rw [E2.out]; exact h, Chg.refl _ _⟩
  · have hok : ¬ okS z k := fun hh => hz ⟨hh.1, by have := hh.2.1; omega⟩
    have E1 := hide (show setE z k = 1 from if_neg hok)
    have E2 := hide (show setF f T z k = f from if_neg hok)
    have hI : (decide (0 ≤ z) && decide (z < 256)) = false := by simp; omega
    clear hok hz
    go_enter Try.func15, Try.ntmps15
    go_wp2_with fail
    refine (is_any _ _).mono ?_
    rintro e w1 ⟨rfl, rfl⟩
    rw [hI]
    go_wp2_with fail
    go_ret
    exact ⟨by rw [E1.out]; simp, by rw [E2.out]; exact h, Chg.refl _ _⟩
theorem rclear_any {w : World} {R : Nat} {T : Int} {f : Al} {z : Int} (h : RefT w R T f) (ok : OkA f) :
    Calls Try.prog 10 #[.pointer (some ⟨R, 0, none⟩), .int .i64 z] w fun e w' => e = .returned (.bool (hasA f z)) ∧ RefT w' R T (clr f z) ∧ Chg [R] w w' := by
  by_cases hz : 0 ≤ z ∧ z < 256
  · obtain ⟨h0, h1⟩ := hz
    have hI : (decide (0 ≤ z) && decide (z < 256)) = true := by simp [h0, h1]
    have ht : z.toNat < 256 := by omega
    have HC := hide (show clr f z = upd f z.toNat 0 from if_pos h0)
    have HI := hide (ix_pos f h0)
    have c1 := h.l ht
    have f1 := Blk.free h (1 + z.toNat)
    have hs := h.set ht 0
    have hc := (Chg.refl [R] w).set (p := ⟨R, 1 + z.toNat, none⟩) (.inl (by simp)) (.int .i64 0)
    have HS := hide hs
    have HCh := hide hc
    clear hs hc
    by_cases he : f z.toNat = 0
    · have E := hide (show hasA f z = false by unfold hasA; rw [HI.out, he]; rfl)
      have E2 := hide (show clr f z = f by rw [HC.out]; exact upd_zero he)
      rw [he] at c1
      go_enter Try.func10, Try.ntmps10
      go_wp2_with fail
      refine (is_any _ _).mono ?_
      rintro e w1 ⟨rfl, rfl⟩
      rw [hI]
      go_wp2_with fail
      go_ret
      exact ⟨by rw [E.out]; simp, by rw [E2.out]; exact h, Chg.refl _ _⟩
    · have E := hide (show hasA f z = true by unfold hasA; rw [HI.out]; simpa using he)
      go_enter Try.func10, Try.ntmps10
      go_wp2_with fail
      refine (is_any _ _).mono ?_
      rintro e w1 ⟨rfl, rfl⟩
      rw [hI]
      go_wp2_with fail
      go_ret
      exact ⟨by rw [E.out]; simp, by rw [HC.out]; exact HS.out, HCh.out⟩
  · have hI : (decide (0 ≤ z) && decide (z < 256)) = false := by simp; omega
    have hx : ix f z = 0 := by
      rcases Int.lt_or_le z 0 with q | q
      · exact ix_neg f q
      · exact ix_far ok (by omega)
    have E := hide (show hasA f z = false by unfold hasA; rw [hx]; rfl)
    have E2 := hide (show clr f z = f by
      unfold clr
      split
      · rename_i q; exact upd_zero (by rw [← ix_pos f q]; exact hx)
      · rfl)
    clear hz hx
    go_enter Try.func10, Try.ntmps10
    go_wp2_with fail
    refine (is_any _ _).mono ?_
    rintro e w1 ⟨rfl, rfl⟩
    rw [hI]
    go_wp2_with fail
    go_ret
    exact ⟨by rw [E.out]; simp, by rw [E2.out]; exact h, Chg.refl _ _⟩
end Go.Proofs.Ytgfhpgbklcjooaa
