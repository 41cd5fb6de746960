/- The package's variables as its text lays them; a word made and read. -/
import Derived.Test.YtpbjlelbdjopaaaDoorW1
import Derived.Test.YtpbjlelbdjopaaaDoorTail
import Derived.Deep.RegionHeld3
import Derived.Deep.DrawnRows
namespace Go.Proofs.YtpbjlelbdjopaaaDoor
open Go.RowKit
set_option linter.unusedVariables false
set_option linter.unusedSimpArgs false


/-- Package variable g, a field of the numbers a and d. -/
def GF (w : World) (g : Nat) (a d : Int) : Prop := g < w.heap.size ∧ w.cell? ⟨g, 0, none⟩ = some (.int .u8 a) ∧ w.cell? ⟨g, 1, none⟩ = some (.int .u8 d)
theorem GF.ext {w w' : World} {g : Nat} {a d : Int} (h : GF w g a d) (e : Ext w w') : GF w' g a d := by
  obtain ⟨h0, h1, h2⟩ := h
  exact ⟨Nat.lt_of_lt_of_le h0 e.facts.2.2, (e.oldCell _ _ h0).trans h1, (e.oldCell _ _ h0).trans h2⟩
structure Glob (w : World) : Prop where
  owner : GF w 1 0 16
  head : GF w 0 16 16
theorem Glob.ext {w w' : World} (h : Glob w) (e : Ext w w') : Glob w' := ⟨h.owner.ext e, h.head.ext e⟩

/-- An int that comes in. -/
def InI (t : Int) : Prop := -9223372036854775808 ≤ t ∧ t ≤ 9223372036854775807

theorem wrapI {x : Int} (a : -9223372036854775808 ≤ x) (b : x ≤ 9223372036854775807) : IntKind.i64.wrap x = x := by
  rw [IntKind.wrap_i64]; omega
theorem most16 : mostI 0 16 = 65535 := by decide
theorem thread_any (t : Int) (w : World) (hG : Glob w) (ht : InI t) : Calls Tryd.prog 33 #[.int .i64 t] w fun e w' => e = .returned (.bool (thB t)) ∧ Ext w w' := by
  obtain ⟨t0, t1⟩ := ht
  have hX0 := Ext.refl w
  have hW := Ext.refl w
  have m := most16
  by_cases h1 : 0 ≤ t
  · have e : IntKind.u64.wrap t = t := by rw [IntKind.wrap_u64]; omega
    have e2 : t % 18446744073709551616 = t := by omega
    have hg0_owner := fun w' (h : Ext w w') => ((hG.ext h).owner).2.1
    have hg1_owner := fun w' (h : Ext w w') => ((hG.ext h).owner).2.2
    go_enter Tryd.func33, Tryd.ntmps33
    go_wp2_with (go_at_call 36; (with_reducible refine (most_any _ _ _ (by decide) (by decide) (by decide) (by decide)).mono ?_); rintro e w' ⟨rfl, hb⟩; have hW := Ext.trans2 hW (by repeat (first | exact Ext.refl _ | exact Ext.alloc _ _ | exact Ext.drewN _ _ | assumption | refine Ext.trans ?_ (Ext.alloc _ _) | refine Ext.trans ?_ (Ext.drew _) | refine Ext.trans ?_ (by assumption))) hb; (try have hV := Ext.trans2 hV (by repeat (first | exact Ext.refl _ | exact Ext.alloc _ _ | exact Ext.drewN _ _ | assumption | refine Ext.trans ?_ (Ext.alloc _ _) | refine Ext.trans ?_ (Ext.drew _) | refine Ext.trans ?_ (by assumption))) hb); clear hb)
    go_ret
    exact ⟨by simp [thB, h1], (hX0.trans (hW.trans (by repeat (first | exact Ext.refl _ | exact Ext.alloc _ _ | exact Ext.drewN _ _ | assumption | refine Ext.trans ?_ (Ext.alloc _ _) | refine Ext.trans ?_ (Ext.drew _) | refine Ext.trans ?_ (by assumption)))))⟩
  · have hg0_owner := fun w' (h : Ext w w') => ((hG.ext h).owner).2.1
    have hg1_owner := fun w' (h : Ext w w') => ((hG.ext h).owner).2.2
    go_enter Tryd.func33, Tryd.ntmps33
    go_wp2
    go_ret
    exact ⟨by simp [thB]; omega, (hX0.trans (hW.trans (by repeat (first | exact Ext.refl _ | exact Ext.alloc _ _ | exact Ext.drewN _ _ | assumption | refine Ext.trans ?_ (Ext.alloc _ _) | refine Ext.trans ?_ (Ext.drew _) | refine Ext.trans ?_ (by assumption)))))⟩

theorem stand_any (t : Int) (w : World) (hG : Glob w) (ht : InI t) : Calls Tryd.prog 24 #[.int .i64 t] w fun e w' => e = .returned (.bool (msB t)) ∧ Ext w w' := by
  have hX0 := Ext.refl w
  have hW := Ext.refl w
  by_cases h1 : t = -1
  · subst h1
    have m : msB (-1) = true := by decide
    go_enter Tryd.func24, Tryd.ntmps24
    go_wp2
    go_ret
    exact ⟨by simp [m], (hX0.trans (hW.trans (by repeat (first | exact Ext.refl _ | exact Ext.alloc _ _ | exact Ext.drewN _ _ | assumption | refine Ext.trans ?_ (Ext.alloc _ _) | refine Ext.trans ?_ (Ext.drew _) | refine Ext.trans ?_ (by assumption)))))⟩
  · have m : msB t = thB t := by simp only [msB, thB, decide_eq_decide]; omega
    go_enter Tryd.func24, Tryd.ntmps24
    go_wp2_with (go_at_call 33; (with_reducible refine (thread_any _ _ (hG.ext (hX0.trans hW)) ht).mono ?_); rintro e w' ⟨rfl, hb⟩; have hW := Ext.trans2 hW (by repeat (first | exact Ext.refl _ | exact Ext.alloc _ _ | exact Ext.drewN _ _ | assumption | refine Ext.trans ?_ (Ext.alloc _ _) | refine Ext.trans ?_ (Ext.drew _) | refine Ext.trans ?_ (by assumption))) hb; (try have hV := Ext.trans2 hV (by repeat (first | exact Ext.refl _ | exact Ext.alloc _ _ | exact Ext.drewN _ _ | assumption | refine Ext.trans ?_ (Ext.alloc _ _) | refine Ext.trans ?_ (Ext.drew _) | refine Ext.trans ?_ (by assumption))) hb); clear hb)
    go_ret
    exact ⟨by simp [m, h1], (hX0.trans (hW.trans (by repeat (first | exact Ext.refl _ | exact Ext.alloc _ _ | exact Ext.drewN _ _ | assumption | refine Ext.trans ?_ (Ext.alloc _ _) | refine Ext.trans ?_ (Ext.drew _) | refine Ext.trans ?_ (by assumption)))))⟩

theorem inI_ms {t : Int} (h : msB t = true) : InI t := by rw [msB_iff] at h; constructor <;> omega
theorem make_any (o h : Int) (w : World) (hG : Glob w) (ho : InI o) (hh : InI h) :
    Calls Tryd.prog 7 #[.int .i64 o, .int .i64 h] w fun e w' => e = .returned (Value.tuple #[.int .u64 (mkW o h), .bool (mkB o h)]) ∧ Ext w w' := by
  have hX0 := Ext.refl w
  have hW := Ext.refl w
  cases m : msB o
  · have e1 : mkB o h = false := by simp [mkB, m]
    have e2 : mkW o h = 0 := by simp [mkW, e1]
    go_enter Tryd.func7, Tryd.ntmps7
    go_wp2_with (go_at_call 24; (with_reducible refine (stand_any _ _ (hG.ext (hX0.trans hW)) ho).mono ?_); rintro e w' ⟨rfl, hb⟩; have hW := Ext.trans2 hW (by repeat (first | exact Ext.refl _ | exact Ext.alloc _ _ | exact Ext.drewN _ _ | assumption | refine Ext.trans ?_ (Ext.alloc _ _) | refine Ext.trans ?_ (Ext.drew _) | refine Ext.trans ?_ (by assumption))) hb; (try have hV := Ext.trans2 hV (by repeat (first | exact Ext.refl _ | exact Ext.alloc _ _ | exact Ext.drewN _ _ | assumption | refine Ext.trans ?_ (Ext.alloc _ _) | refine Ext.trans ?_ (Ext.drew _) | refine Ext.trans ?_ (by assumption))) hb); clear hb)
    go_ret2
    exact ⟨by simp [e1, e2], (hX0.trans (hW.trans (by repeat (first | exact Ext.refl _ | exact Ext.alloc _ _ | exact Ext.drewN _ _ | assumption | refine Ext.trans ?_ (Ext.alloc _ _) | refine Ext.trans ?_ (Ext.drew _) | refine Ext.trans ?_ (by assumption)))))⟩
  · cases n : msB h
    · have e1 : mkB o h = false := by simp [mkB, n]
      have e2 : mkW o h = 0 := by simp [mkW, e1]
      go_enter Tryd.func7, Tryd.ntmps7
      go_wp2_with (first | (go_at_call 24; (with_reducible refine (stand_any _ _ (hG.ext (hX0.trans hW)) ho).mono ?_); rintro e w' ⟨rfl, hb⟩; have hW := Ext.trans2 hW (by repeat (first | exact Ext.refl _ | exact Ext.alloc _ _ | exact Ext.drewN _ _ | assumption | refine Ext.trans ?_ (Ext.alloc _ _) | refine Ext.trans ?_ (Ext.drew _) | refine Ext.trans ?_ (by assumption))) hb; (try have hV := Ext.trans2 hV (by repeat (first | exact Ext.refl _ | exact Ext.alloc _ _ | exact Ext.drewN _ _ | assumption | refine Ext.trans ?_ (Ext.alloc _ _) | refine Ext.trans ?_ (Ext.drew _) | refine Ext.trans ?_ (by assumption))) hb); clear hb) | (go_at_call 24; (with_reducible refine (stand_any _ _ (hG.ext (hX0.trans hW)) hh).mono ?_); rintro e w' ⟨rfl, hb⟩; have hW := Ext.trans2 hW (by repeat (first | exact Ext.refl _ | exact Ext.alloc _ _ | exact Ext.drewN _ _ | assumption | refine Ext.trans ?_ (Ext.alloc _ _) | refine Ext.trans ?_ (Ext.drew _) | refine Ext.trans ?_ (by assumption))) hb; (try have hV := Ext.trans2 hV (by repeat (first | exact Ext.refl _ | exact Ext.alloc _ _ | exact Ext.drewN _ _ | assumption | refine Ext.trans ?_ (Ext.alloc _ _) | refine Ext.trans ?_ (Ext.drew _) | refine Ext.trans ?_ (by assumption))) hb); clear hb))
      go_ret2
      exact ⟨by simp [e1, e2], (hX0.trans (hW.trans (by repeat (first | exact Ext.refl _ | exact Ext.alloc _ _ | exact Ext.drewN _ _ | assumption | refine Ext.trans ?_ (Ext.alloc _ _) | refine Ext.trans ?_ (Ext.drew _) | refine Ext.trans ?_ (by assumption)))))⟩
    · have e1 : mkB o h = true := by simp [mkB, m, n]
      have e2 := hide (mk_puts m n)
      have a := (msB_iff o).1 m
      have b := (msB_iff h).1 n
      have w1 : IntKind.i64.wrap (o + 1) = o + 1 := wrapI (by omega) (by omega)
      have w2 : IntKind.i64.wrap (h + 1) = h + 1 := wrapI (by omega) (by omega)
      have w3 : IntKind.u64.wrap (o + 1) = o + 1 := by rw [IntKind.wrap_u64]; omega
      have w4 : IntKind.u64.wrap (h + 1) = h + 1 := by rw [IntKind.wrap_u64]; omega
      have hg0_owner := fun w' (h : Ext w w') => ((hG.ext h).owner).2.1
      have hg1_owner := fun w' (h : Ext w w') => ((hG.ext h).owner).2.2
      have hg0_head := fun w' (h : Ext w w') => ((hG.ext h).head).2.1
      have hg1_head := fun w' (h : Ext w w') => ((hG.ext h).head).2.2
      go_enter Tryd.func7, Tryd.ntmps7
      go_wp2_with (first | (go_at_call 24; (with_reducible refine (stand_any _ _ (hG.ext (hX0.trans hW)) ho).mono ?_); rintro e w' ⟨rfl, hb⟩; have hW := Ext.trans2 hW (by repeat (first | exact Ext.refl _ | exact Ext.alloc _ _ | exact Ext.drewN _ _ | assumption | refine Ext.trans ?_ (Ext.alloc _ _) | refine Ext.trans ?_ (Ext.drew _) | refine Ext.trans ?_ (by assumption))) hb; (try have hV := Ext.trans2 hV (by repeat (first | exact Ext.refl _ | exact Ext.alloc _ _ | exact Ext.drewN _ _ | assumption | refine Ext.trans ?_ (Ext.alloc _ _) | refine Ext.trans ?_ (Ext.drew _) | refine Ext.trans ?_ (by assumption))) hb); clear hb) | (go_at_call 24; (with_reducible refine (stand_any _ _ (hG.ext (hX0.trans hW)) hh).mono ?_); rintro e w' ⟨rfl, hb⟩; have hW := Ext.trans2 hW (by repeat (first | exact Ext.refl _ | exact Ext.alloc _ _ | exact Ext.drewN _ _ | assumption | refine Ext.trans ?_ (Ext.alloc _ _) | refine Ext.trans ?_ (Ext.drew _) | refine Ext.trans ?_ (by assumption))) hb; (try have hV := Ext.trans2 hV (by repeat (first | exact Ext.refl _ | exact Ext.alloc _ _ | exact Ext.drewN _ _ | assumption | refine Ext.trans ?_ (Ext.alloc _ _) | refine Ext.trans ?_ (Ext.drew _) | refine Ext.trans ?_ (by assumption))) hb); clear hb))
      refine wp_region_ext (by kernel_rfl) (by kernel_rfl) ?_
      repeat
        with_reducible refine wpQuiet_step (fun K hK => ?_)
        go_simp
        first
        | (refine hK _ ?_; clear hK K)
        | (apply Exists.intro
           refine ⟨fun w1 h1 => ?_, hK _ ?_⟩
           (have hW := Ext.trans2 hW (by repeat (first | exact Ext.refl _ | exact Ext.alloc _ _ | exact Ext.drewN _ _ | assumption | refine Ext.trans ?_ (Ext.alloc _ _) | refine Ext.trans ?_ (Ext.drew _) | refine Ext.trans ?_ (by assumption))) h1; (try have hV := Ext.trans2 hV (by repeat (first | exact Ext.refl _ | exact Ext.alloc _ _ | exact Ext.drewN _ _ | assumption | refine Ext.trans ?_ (Ext.alloc _ _) | refine Ext.trans ?_ (Ext.drew _) | refine Ext.trans ?_ (by assumption))) h1); (first | rfl | (go_simp; done) | (go_simp; rfl) | (go_at_call 25; (with_reducible refine (put_any _ _ _ _ _ (by decide) (by decide) (by decide) (by decide)).mono ?_); rintro e w2 ⟨rfl, hb⟩; exact ⟨rfl, h1.trans hb⟩)))
           clear hK K)
      refine wpQuiet_nil (fun w' hw' => ?_)
      have hW := Ext.trans2 hW (by repeat (first | exact Ext.refl _ | exact Ext.alloc _ _ | exact Ext.drewN _ _ | assumption | refine Ext.trans ?_ (Ext.alloc _ _) | refine Ext.trans ?_ (Ext.drew _) | refine Ext.trans ?_ (by assumption))) hw'
      try have hV := Ext.trans2 hV (by repeat (first | exact Ext.refl _ | exact Ext.alloc _ _ | exact Ext.drewN _ _ | assumption | refine Ext.trans ?_ (Ext.alloc _ _) | refine Ext.trans ?_ (Ext.drew _) | refine Ext.trans ?_ (by assumption))) hw'
      clear hw'
      go_wp2
      go_ret2
      exact ⟨by simp [w1, w2, w3, w4, e1, e2.out], (hX0.trans (hW.trans (by repeat (first | exact Ext.refl _ | exact Ext.alloc _ _ | exact Ext.drewN _ _ | assumption | refine Ext.trans ?_ (Ext.alloc _ _) | refine Ext.trans ?_ (Ext.drew _) | refine Ext.trans ?_ (by assumption)))))⟩


theorem setAfter {w w' : World} {b : Nat} {u0 u1 z0 z1 : Value} (h : Ext ((w.setCell ⟨b, 0, none⟩ u0).setCell ⟨b, 1, none⟩ u1) w') (c : ∀ i, w.cell? ⟨b, i, none⟩ = #[z0, z1][i]?) :
    w'.cell? ⟨b, 0, none⟩ = some u0 ∧ w'.cell? ⟨b, 1, none⟩ = some u1 := by
  have c0 : w.cell? ⟨b, 0, none⟩ = some z0 := by rw [c]; rfl
  have c1 : w.cell? ⟨b, 1, none⟩ = some z1 := by rw [c]; rfl
  have hb := World.block_lt_of_cell? w _ c0
  have hb2 : b < ((w.setCell ⟨b, 0, none⟩ u0).setCell ⟨b, 1, none⟩ u1).heap.size := by simpa using hb
  constructor
  · rw [h.oldCell _ _ hb2, World.cell?_setCell_other _ _ _ _ (by simp), World.cell?_setCell_same _ _ _ c0]
  · rw [h.oldCell _ _ hb2, World.cell?_setCell_same _ _ _ ((World.cell?_setCell_other _ _ _ _ (by simp)).trans c1)]
set_option maxHeartbeats 1000000 in
theorem read_yes (v : Int) (w : World) (hG : Glob w) (hv : InW v) (i : isB v = true) :
    Calls Tryd.prog 27 #[.int .u64 v] w fun e w' => e = .returned (.tuple #[Value.agg #[.int .i64 (oW v), .int .i64 (hW' v)], .bool true]) ∧ Ext w w' := by
  have j := (isB_iff v).1 i
  have E3 : Hid (mkW (v % 65536 - 1) (v / 65536 % 65536 - 1) = v) := hide ((again hv).trans (by have := hv.1; omega))
  rw [show oW v = v % 65536 - 1 by unfold oW; rw [if_pos i], show hW' v = v / 65536 % 65536 - 1 by unfold hW'; rw [if_pos i]]
  have j0 := hv.1
  have e1 := get_owner hv
  have e2 := get_head hv
  have a1 := inI_ms (ms_field hv).1
  have a2 := inI_ms (ms_field hv).2
  have w1 : IntKind.i64.wrap (v % 65536) = v % 65536 := wrapI (by omega) (by omega)
  have w2 : IntKind.i64.wrap (v / 65536 % 65536) = v / 65536 % 65536 := wrapI (by omega) (by omega)
  have w3 : IntKind.i64.wrap (v % 65536 - 1) = v % 65536 - 1 := wrapI (by omega) (by omega)
  have w4 : IntKind.i64.wrap (v / 65536 % 65536 - 1) = v / 65536 % 65536 - 1 := wrapI (by omega) (by omega)
  go_enter Tryd.func27, Tryd.ntmps27
  go_wp2_with fail
  have hX := fun w' (h : Ext (w.alloc (Obj.cells #[.int .i64 0, .int .i64 0] 40)) w') => h.boxCell
  have hXf := fun w' (h : Ext (w.alloc (Obj.cells #[.int .i64 0, .int .i64 0] 40)) w') => h.boxFree
  have hX0 : Ext w (w.alloc (Obj.cells #[.int .i64 0, .int .i64 0] 40)) := Ext.alloc _ _
  generalize w.alloc (Obj.cells #[.int .i64 0, .int .i64 0] 40) = W0 at *
  have hW := Ext.refl W0
  have hg0_owner := fun w' (h : Ext W0 w') => ((hG.ext (hX0.trans h)).owner).2.1
  have hg1_owner := fun w' (h : Ext W0 w') => ((hG.ext (hX0.trans h)).owner).2.2
  have hg0_head := fun w' (h : Ext W0 w') => ((hG.ext (hX0.trans h)).head).2.1
  have hg1_head := fun w' (h : Ext W0 w') => ((hG.ext (hX0.trans h)).head).2.2
  have hS : ∀ wx, Ext W0 wx → W0.heap.size ≤ wx.heap.size := fun _ h => h.size
  go_region_held3 (fun w' => w'.cell? ⟨1, 0, none⟩ = some (.int .u8 0) ∧ w'.cell? ⟨1, 1, none⟩ = some (.int .u8 16) ∧ w'.cell? ⟨0, 0, none⟩ = some (.int .u8 16) ∧ w'.cell? ⟨0, 1, none⟩ = some (.int .u8 16)) (exact ⟨hg0_owner _ (by repeat (first | (with_reducible exact Ext.refl _) | (with_reducible assumption) | (with_reducible refine Ext.set ?_ (by first | exact hS _ (by assumption) | simp) _) | (with_reducible refine Ext.trans ?_ (Ext.alloc _ _)) | (with_reducible refine Ext.trans ?_ (Ext.drew _)))), hg1_owner _ (by repeat (first | (with_reducible exact Ext.refl _) | (with_reducible assumption) | (with_reducible refine Ext.set ?_ (by first | exact hS _ (by assumption) | simp) _) | (with_reducible refine Ext.trans ?_ (Ext.alloc _ _)) | (with_reducible refine Ext.trans ?_ (Ext.drew _)))), hg0_head _ (by repeat (first | (with_reducible exact Ext.refl _) | (with_reducible assumption) | (with_reducible refine Ext.set ?_ (by first | exact hS _ (by assumption) | simp) _) | (with_reducible refine Ext.trans ?_ (Ext.alloc _ _)) | (with_reducible refine Ext.trans ?_ (Ext.drew _)))), hg1_head _ (by repeat (first | (with_reducible exact Ext.refl _) | (with_reducible assumption) | (with_reducible refine Ext.set ?_ (by first | exact hS _ (by assumption) | simp) _) | (with_reducible refine Ext.trans ?_ (Ext.alloc _ _)) | (with_reducible refine Ext.trans ?_ (Ext.drew _))))⟩)
    (first | (go_at_call 37; (with_reducible refine (get_any _ _ _ _ (by decide) (by decide) (by decide) (by decide)).mono ?_); rintro e w' ⟨rfl, hb⟩; have hW := Ext.trans2 hW (by repeat (first | exact Ext.refl _ | exact Ext.alloc _ _ | exact Ext.drewN _ _ | assumption | refine Ext.trans ?_ (Ext.alloc _ _) | refine Ext.trans ?_ (Ext.drew _) | refine Ext.trans ?_ (by assumption))) hb; (try have hV := hV.trans hb); (try (first | (have hB := fun wx (h : Ext w' wx) => (hb.trans h).boxCell; have hBf := fun wx (h : Ext w' wx) => (hb.trans h).boxFree) | (have hB := fun wx (h : Ext w' wx) => ((Ext.drew _).trans (hb.trans h)).boxCell; have hBf := fun wx (h : Ext w' wx) => ((Ext.drew _).trans (hb.trans h)).boxFree)); have hV := Ext.refl w'); clear hb))
  all_goals go_wp2_with fail
  all_goals
    (with_reducible refine (make_any _ _ _ (hG.ext (hX0.trans (by repeat (first | (with_reducible exact Ext.refl _) | (with_reducible assumption) | (with_reducible refine Ext.set ?_ (by first | exact hS _ (by assumption) | simp) _) | (with_reducible refine Ext.trans ?_ (Ext.alloc _ _)) | (with_reducible refine Ext.trans ?_ (Ext.drew _)))))) a1 a2).mono ?_)
    rintro e w' ⟨rfl, hb⟩
    have hW := Ext.trans (b := _) (a := W0) (by repeat (first | (with_reducible exact Ext.refl _) | (with_reducible assumption) | (with_reducible refine Ext.set ?_ (by first | exact hS _ (by assumption) | simp) _) | (with_reducible refine Ext.trans ?_ (Ext.alloc _ _)) | (with_reducible refine Ext.trans ?_ (Ext.drew _)))) hb
    rw [E3.out]
    first
    | (have p0 := hb.boxCell 0; have p1 := hb.boxCell 1)
    | (obtain ⟨p0, p1⟩ := setAfter hb (hB _ hV))
    clear hb
    go_wp2
  all_goals
    refine bodyPost_ret (v := .tuple #[Value.agg #[.int .i64 (v % 65536 - 1), .int .i64 (v / 65536 % 65536 - 1)], .bool true]) (by simp [results, Tryd.results27, go_sem, *]) rfl ⟨rfl, ?_⟩
    ((repeat (with_reducible refine Ext.set ?_ (by simp) _)); exact (hX0.trans (hW.trans (by repeat (first | exact Ext.refl _ | exact Ext.alloc _ _ | exact Ext.drewN _ _ | assumption | refine Ext.trans ?_ (Ext.alloc _ _) | refine Ext.trans ?_ (Ext.drew _) | refine Ext.trans ?_ (by assumption))))))
set_option maxHeartbeats 1000000 in
theorem read_no (v : Int) (w : World) (hG : Glob w) (hv : InW v) (i : isB v = false) :
    Calls Tryd.prog 27 #[.int .u64 v] w fun e w' => e = .returned (.tuple #[Value.agg #[.int .i64 (oW v), .int .i64 (hW' v)], .bool false]) ∧ Ext w w' := by
  have j : ¬ v < 4294967296 := by rw [← isB_iff, i]; decide
  have i2 : ¬ isB v = true := by rw [i]; decide
  obtain ⟨u, hu, hne⟩ : ∃ u, mkW (v % 65536 - 1) (v / 65536 % 65536 - 1) = u ∧ ¬ u = v := ⟨_, again hv, by have := hv.1; omega⟩
  have E3 := hide hu
  rw [show oW v = -1 by unfold oW; rw [if_neg i2], show hW' v = -1 by unfold hW'; rw [if_neg i2]]
  clear hu
  have j0 := hv.1
  have e1 := get_owner hv
  have e2 := get_head hv
  have a1 := inI_ms (ms_field hv).1
  have a2 := inI_ms (ms_field hv).2
  have w1 : IntKind.i64.wrap (v % 65536) = v % 65536 := wrapI (by omega) (by omega)
  have w2 : IntKind.i64.wrap (v / 65536 % 65536) = v / 65536 % 65536 := wrapI (by omega) (by omega)
  have w3 : IntKind.i64.wrap (v % 65536 - 1) = v % 65536 - 1 := wrapI (by omega) (by omega)
  have w4 : IntKind.i64.wrap (v / 65536 % 65536 - 1) = v / 65536 % 65536 - 1 := wrapI (by omega) (by omega)
  go_enter Tryd.func27, Tryd.ntmps27
  go_wp2_with fail
  have hX := fun w' (h : Ext (w.alloc (Obj.cells #[.int .i64 0, .int .i64 0] 40)) w') => h.boxCell
  have hXf := fun w' (h : Ext (w.alloc (Obj.cells #[.int .i64 0, .int .i64 0] 40)) w') => h.boxFree
  have hX0 : Ext w (w.alloc (Obj.cells #[.int .i64 0, .int .i64 0] 40)) := Ext.alloc _ _
  generalize w.alloc (Obj.cells #[.int .i64 0, .int .i64 0] 40) = W0 at *
  have hW := Ext.refl W0
  have hg0_owner := fun w' (h : Ext W0 w') => ((hG.ext (hX0.trans h)).owner).2.1
  have hg1_owner := fun w' (h : Ext W0 w') => ((hG.ext (hX0.trans h)).owner).2.2
  have hg0_head := fun w' (h : Ext W0 w') => ((hG.ext (hX0.trans h)).head).2.1
  have hg1_head := fun w' (h : Ext W0 w') => ((hG.ext (hX0.trans h)).head).2.2
  have hS : ∀ wx, Ext W0 wx → W0.heap.size ≤ wx.heap.size := fun _ h => h.size
  go_region_held3 (fun w' => w'.cell? ⟨1, 0, none⟩ = some (.int .u8 0) ∧ w'.cell? ⟨1, 1, none⟩ = some (.int .u8 16) ∧ w'.cell? ⟨0, 0, none⟩ = some (.int .u8 16) ∧ w'.cell? ⟨0, 1, none⟩ = some (.int .u8 16)) (exact ⟨hg0_owner _ (by repeat (first | (with_reducible exact Ext.refl _) | (with_reducible assumption) | (with_reducible refine Ext.set ?_ (by first | exact hS _ (by assumption) | simp) _) | (with_reducible refine Ext.trans ?_ (Ext.alloc _ _)) | (with_reducible refine Ext.trans ?_ (Ext.drew _)))), hg1_owner _ (by repeat (first | (with_reducible exact Ext.refl _) | (with_reducible assumption) | (with_reducible refine Ext.set ?_ (by first | exact hS _ (by assumption) | simp) _) | (with_reducible refine Ext.trans ?_ (Ext.alloc _ _)) | (with_reducible refine Ext.trans ?_ (Ext.drew _)))), hg0_head _ (by repeat (first | (with_reducible exact Ext.refl _) | (with_reducible assumption) | (with_reducible refine Ext.set ?_ (by first | exact hS _ (by assumption) | simp) _) | (with_reducible refine Ext.trans ?_ (Ext.alloc _ _)) | (with_reducible refine Ext.trans ?_ (Ext.drew _)))), hg1_head _ (by repeat (first | (with_reducible exact Ext.refl _) | (with_reducible assumption) | (with_reducible refine Ext.set ?_ (by first | exact hS _ (by assumption) | simp) _) | (with_reducible refine Ext.trans ?_ (Ext.alloc _ _)) | (with_reducible refine Ext.trans ?_ (Ext.drew _))))⟩)
    (first | (go_at_call 37; (with_reducible refine (get_any _ _ _ _ (by decide) (by decide) (by decide) (by decide)).mono ?_); rintro e w' ⟨rfl, hb⟩; have hW := Ext.trans2 hW (by repeat (first | exact Ext.refl _ | exact Ext.alloc _ _ | exact Ext.drewN _ _ | assumption | refine Ext.trans ?_ (Ext.alloc _ _) | refine Ext.trans ?_ (Ext.drew _) | refine Ext.trans ?_ (by assumption))) hb; (try have hV := hV.trans hb); (try (first | (have hB := fun wx (h : Ext w' wx) => (hb.trans h).boxCell; have hBf := fun wx (h : Ext w' wx) => (hb.trans h).boxFree) | (have hB := fun wx (h : Ext w' wx) => ((Ext.drew _).trans (hb.trans h)).boxCell; have hBf := fun wx (h : Ext w' wx) => ((Ext.drew _).trans (hb.trans h)).boxFree)); have hV := Ext.refl w'); clear hb))
  all_goals go_wp2_with fail
  all_goals
    (with_reducible refine (make_any _ _ _ (hG.ext (hX0.trans (by repeat (first | (with_reducible exact Ext.refl _) | (with_reducible assumption) | (with_reducible refine Ext.set ?_ (by first | exact hS _ (by assumption) | simp) _) | (with_reducible refine Ext.trans ?_ (Ext.alloc _ _)) | (with_reducible refine Ext.trans ?_ (Ext.drew _)))))) a1 a2).mono ?_)
    rintro e w' ⟨rfl, hb⟩
    have hW := Ext.trans (b := _) (a := W0) (by repeat (first | (with_reducible exact Ext.refl _) | (with_reducible assumption) | (with_reducible refine Ext.set ?_ (by first | exact hS _ (by assumption) | simp) _) | (with_reducible refine Ext.trans ?_ (Ext.alloc _ _)) | (with_reducible refine Ext.trans ?_ (Ext.drew _)))) hb
    rw [E3.out]
    first
    | (have p0 := hb.boxCell 0; have p1 := hb.boxCell 1)
    | (obtain ⟨p0, p1⟩ := setAfter hb (hB _ hV))
    clear hb
    go_wp2
  all_goals
    refine bodyPost_ret (v := .tuple #[Value.agg #[.int .i64 (-1), .int .i64 (-1)], .bool false]) (by simp [results, Tryd.results27, go_sem, *]) rfl ⟨rfl, ?_⟩
    ((repeat (with_reducible refine Ext.set ?_ (by simp) _)); exact (hX0.trans (hW.trans (by repeat (first | exact Ext.refl _ | exact Ext.alloc _ _ | exact Ext.drewN _ _ | assumption | refine Ext.trans ?_ (Ext.alloc _ _) | refine Ext.trans ?_ (Ext.drew _) | refine Ext.trans ?_ (by assumption))))))
theorem read_any (v : Int) (w : World) (hG : Glob w) (hv : InW v) :
    Calls Tryd.prog 27 #[.int .u64 v] w fun e w' => e = .returned (.tuple #[Value.agg #[.int .i64 (oW v), .int .i64 (hW' v)], .bool (isB v)]) ∧ Ext w w' := by
  cases i : isB v
  · exact read_no v w hG hv i
  · exact read_yes v w hG hv i
end Go.Proofs.YtpbjlelbdjopaaaDoor
