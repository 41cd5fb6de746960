/- The calls of package lock, and of the document's answer. -/
import Derived.Test.YtpbjlelbdjopaaaDoorP3
namespace Go.Proofs.YtpbjlelbdjopaaaDoor
open Go.RowKit
set_option linter.unusedVariables false
set_option linter.unusedSimpArgs false

theorem take_any (v t : Int) (w : World) (hG : Glob w) (hv : InW v) (ht : InI t) :
    Calls Tryd.prog 14 #[.int .u64 v, .int .i64 t] w fun e w' => e = .returned (Value.tuple #[.int .u64 (takeW v t), .bool (takeB v t)]) ∧ Ext w w' := by
  go_enter Tryd.func14, Tryd.ntmps14
  go_wp2_with fail
  have hX := fun w' (h : Ext (w.alloc (Obj.cells #[.int .i64 t] 3)) w') => h.boxCell
  have hXf := fun w' (h : Ext (w.alloc (Obj.cells #[.int .i64 t] 3)) w') => h.boxFree
  have hX0 : Ext w (w.alloc (Obj.cells #[.int .i64 t] 3)) := Ext.alloc _ _
  generalize w.alloc (Obj.cells #[.int .i64 t] 3) = W0 at *
  have hW := Ext.refl W0
  have hC : Cap W0 w.heap.size t := fun w' h => hX w' h 0
  go_wp2_with (go_at_call 28; (with_reducible refine (take_turn _ _ _ _ (hG.ext (hX0.trans hW)) hv ht (hC.ext hW)).mono ?_); rintro e w' ⟨rfl, hb⟩; have hW := Ext.trans2 hW (by repeat (first | exact Ext.refl _ | exact Ext.alloc _ _ | exact Ext.drewN _ _ | assumption | refine Ext.trans ?_ (Ext.alloc _ _) | refine Ext.trans ?_ (Ext.drew _) | refine Ext.trans ?_ (by assumption))) hb; (try have hV := Ext.trans2 hV (by repeat (first | exact Ext.refl _ | exact Ext.alloc _ _ | exact Ext.drewN _ _ | assumption | refine Ext.trans ?_ (Ext.alloc _ _) | refine Ext.trans ?_ (Ext.drew _) | refine Ext.trans ?_ (by assumption))) hb); clear hb)
  go_ret2
  exact ⟨rfl, (hX0.trans (hW.trans (by repeat (first | exact Ext.refl _ | exact Ext.alloc _ _ | exact Ext.drewN _ _ | assumption | refine Ext.trans ?_ (Ext.alloc _ _) | refine Ext.trans ?_ (Ext.drew _) | refine Ext.trans ?_ (by assumption)))))⟩
theorem push_any (v t : Int) (w : World) (hG : Glob w) (hv : InW v) (ht : InI t) :
    Calls Tryd.prog 16 #[.int .u64 v, .int .i64 t] w fun e w' => e = .returned (Value.tuple #[.int .u64 (pushW v t), .bool (pushB v t)]) ∧ Ext w w' := by
  go_enter Tryd.func16, Tryd.ntmps16
  go_wp2_with fail
  have hX := fun w' (h : Ext (w.alloc (Obj.cells #[.int .i64 t] 3)) w') => h.boxCell
  have hXf := fun w' (h : Ext (w.alloc (Obj.cells #[.int .i64 t] 3)) w') => h.boxFree
  have hX0 : Ext w (w.alloc (Obj.cells #[.int .i64 t] 3)) := Ext.alloc _ _
  generalize w.alloc (Obj.cells #[.int .i64 t] 3) = W0 at *
  have hW := Ext.refl W0
  have hC : Cap W0 w.heap.size t := fun w' h => hX w' h 0
  go_wp2_with (go_at_call 28; (with_reducible refine (push_turn _ _ _ _ (hG.ext (hX0.trans hW)) hv ht (hC.ext hW)).mono ?_); rintro e w' ⟨rfl, hb⟩; have hW := Ext.trans2 hW (by repeat (first | exact Ext.refl _ | exact Ext.alloc _ _ | exact Ext.drewN _ _ | assumption | refine Ext.trans ?_ (Ext.alloc _ _) | refine Ext.trans ?_ (Ext.drew _) | refine Ext.trans ?_ (by assumption))) hb; (try have hV := Ext.trans2 hV (by repeat (first | exact Ext.refl _ | exact Ext.alloc _ _ | exact Ext.drewN _ _ | assumption | refine Ext.trans ?_ (Ext.alloc _ _) | refine Ext.trans ?_ (Ext.drew _) | refine Ext.trans ?_ (by assumption))) hb); clear hb)
  go_ret2
  exact ⟨rfl, (hX0.trans (hW.trans (by repeat (first | exact Ext.refl _ | exact Ext.alloc _ _ | exact Ext.drewN _ _ | assumption | refine Ext.trans ?_ (Ext.alloc _ _) | refine Ext.trans ?_ (Ext.drew _) | refine Ext.trans ?_ (by assumption)))))⟩
theorem drain_any (v t : Int) (w : World) (hG : Glob w) (hv : InW v) (ht : InI t) :
    Calls Tryd.prog 18 #[.int .u64 v, .int .i64 t] w fun e w' => e = .returned (Value.tuple #[.int .u64 (drainW v t), .bool (drainB v t)]) ∧ Ext w w' := by
  go_enter Tryd.func18, Tryd.ntmps18
  go_wp2_with fail
  have hX := fun w' (h : Ext (w.alloc (Obj.cells #[.int .i64 t] 3)) w') => h.boxCell
  have hXf := fun w' (h : Ext (w.alloc (Obj.cells #[.int .i64 t] 3)) w') => h.boxFree
  have hX0 : Ext w (w.alloc (Obj.cells #[.int .i64 t] 3)) := Ext.alloc _ _
  generalize w.alloc (Obj.cells #[.int .i64 t] 3) = W0 at *
  have hW := Ext.refl W0
  have hC : Cap W0 w.heap.size t := fun w' h => hX w' h 0
  go_wp2_with (go_at_call 28; (with_reducible refine (drain_turn _ _ _ _ (hG.ext (hX0.trans hW)) hv ht (hC.ext hW)).mono ?_); rintro e w' ⟨rfl, hb⟩; have hW := Ext.trans2 hW (by repeat (first | exact Ext.refl _ | exact Ext.alloc _ _ | exact Ext.drewN _ _ | assumption | refine Ext.trans ?_ (Ext.alloc _ _) | refine Ext.trans ?_ (Ext.drew _) | refine Ext.trans ?_ (by assumption))) hb; (try have hV := Ext.trans2 hV (by repeat (first | exact Ext.refl _ | exact Ext.alloc _ _ | exact Ext.drewN _ _ | assumption | refine Ext.trans ?_ (Ext.alloc _ _) | refine Ext.trans ?_ (Ext.drew _) | refine Ext.trans ?_ (by assumption))) hb); clear hb)
  go_ret2
  exact ⟨rfl, (hX0.trans (hW.trans (by repeat (first | exact Ext.refl _ | exact Ext.alloc _ _ | exact Ext.drewN _ _ | assumption | refine Ext.trans ?_ (Ext.alloc _ _) | refine Ext.trans ?_ (Ext.drew _) | refine Ext.trans ?_ (by assumption)))))⟩
theorem release_any (v t : Int) (w : World) (hG : Glob w) (hv : InW v) (ht : InI t) :
    Calls Tryd.prog 22 #[.int .u64 v, .int .i64 t] w fun e w' => e = .returned (Value.tuple #[.int .u64 (0), .bool (releaseB v t)]) ∧ Ext w w' := by
  go_enter Tryd.func22, Tryd.ntmps22
  go_wp2_with fail
  have hX := fun w' (h : Ext (w.alloc (Obj.cells #[.int .i64 t] 3)) w') => h.boxCell
  have hXf := fun w' (h : Ext (w.alloc (Obj.cells #[.int .i64 t] 3)) w') => h.boxFree
  have hX0 : Ext w (w.alloc (Obj.cells #[.int .i64 t] 3)) := Ext.alloc _ _
  generalize w.alloc (Obj.cells #[.int .i64 t] 3) = W0 at *
  have hW := Ext.refl W0
  have hC : Cap W0 w.heap.size t := fun w' h => hX w' h 0
  go_wp2_with (go_at_call 28; (with_reducible refine (release_turn _ _ _ _ (hG.ext (hX0.trans hW)) hv ht (hC.ext hW)).mono ?_); rintro e w' ⟨rfl, hb⟩; have hW := Ext.trans2 hW (by repeat (first | exact Ext.refl _ | exact Ext.alloc _ _ | exact Ext.drewN _ _ | assumption | refine Ext.trans ?_ (Ext.alloc _ _) | refine Ext.trans ?_ (Ext.drew _) | refine Ext.trans ?_ (by assumption))) hb; (try have hV := Ext.trans2 hV (by repeat (first | exact Ext.refl _ | exact Ext.alloc _ _ | exact Ext.drewN _ _ | assumption | refine Ext.trans ?_ (Ext.alloc _ _) | refine Ext.trans ?_ (Ext.drew _) | refine Ext.trans ?_ (by assumption))) hb); clear hb)
  go_ret2
  exact ⟨rfl, (hX0.trans (hW.trans (by repeat (first | exact Ext.refl _ | exact Ext.alloc _ _ | exact Ext.drewN _ _ | assumption | refine Ext.trans ?_ (Ext.alloc _ _) | refine Ext.trans ?_ (Ext.drew _) | refine Ext.trans ?_ (by assumption)))))⟩
theorem hand_any (v t u : Int) (w : World) (hG : Glob w) (hv : InW v) (ht : InI t) (hu : InI u) :
    Calls Tryd.prog 20 #[.int .u64 v, .int .i64 t, .int .i64 u] w fun e w' => e = .returned (Value.tuple #[.int .u64 (handW v t u), .bool (handB v t u)]) ∧ Ext w w' := by
  go_enter Tryd.func20, Tryd.ntmps20
  go_wp2_with fail
  have hY := fun w' (h : Ext ((w.alloc (Obj.cells #[.int .i64 t] 3)).alloc (Obj.cells #[.int .i64 u] 3)) w') => h.boxCell
  have hYf := fun w' (h : Ext ((w.alloc (Obj.cells #[.int .i64 t] 3)).alloc (Obj.cells #[.int .i64 u] 3)) w') => h.boxFree
  simp only [World.size_alloc] at hY hYf
  have hX := fun w' (h : Ext ((w.alloc (Obj.cells #[.int .i64 t] 3)).alloc (Obj.cells #[.int .i64 u] 3)) w') => ((Ext.alloc (w.alloc (Obj.cells #[.int .i64 t] 3)) (Obj.cells #[.int .i64 u] 3)).trans h).boxCell
  have hXf := fun w' (h : Ext ((w.alloc (Obj.cells #[.int .i64 t] 3)).alloc (Obj.cells #[.int .i64 u] 3)) w') => ((Ext.alloc (w.alloc (Obj.cells #[.int .i64 t] 3)) (Obj.cells #[.int .i64 u] 3)).trans h).boxFree
  have hX0 : Ext w ((w.alloc (Obj.cells #[.int .i64 t] 3)).alloc (Obj.cells #[.int .i64 u] 3)) := (Ext.alloc _ _).trans (Ext.alloc _ _)
  generalize (w.alloc (Obj.cells #[.int .i64 t] 3)).alloc (Obj.cells #[.int .i64 u] 3) = W0 at *
  have hW := Ext.refl W0
  have hC : Cap W0 w.heap.size t := fun w' h => hX w' h 0
  have hD : Cap W0 (w.heap.size + 1) u := fun w' h => hY w' h 0
  go_wp2_with (go_at_call 28; (with_reducible refine (hand_turn _ _ _ _ _ _ (hG.ext (hX0.trans hW)) hv ht hu (hC.ext hW) (hD.ext hW)).mono ?_); rintro e w' ⟨rfl, hb⟩; have hW := Ext.trans2 hW (by repeat (first | exact Ext.refl _ | exact Ext.alloc _ _ | exact Ext.drewN _ _ | assumption | refine Ext.trans ?_ (Ext.alloc _ _) | refine Ext.trans ?_ (Ext.drew _) | refine Ext.trans ?_ (by assumption))) hb; (try have hV := Ext.trans2 hV (by repeat (first | exact Ext.refl _ | exact Ext.alloc _ _ | exact Ext.drewN _ _ | assumption | refine Ext.trans ?_ (Ext.alloc _ _) | refine Ext.trans ?_ (Ext.drew _) | refine Ext.trans ?_ (by assumption))) hb); clear hb)
  go_ret2
  exact ⟨rfl, (hX0.trans (hW.trans (by repeat (first | exact Ext.refl _ | exact Ext.alloc _ _ | exact Ext.drewN _ _ | assumption | refine Ext.trans ?_ (Ext.alloc _ _) | refine Ext.trans ?_ (Ext.drew _) | refine Ext.trans ?_ (by assumption)))))⟩

/- The document's answer. -/
theorem ris_any (t : Int) (w : World) : Calls Tryd.prog 26 #[.int .i64 t] w fun e w' => e = .returned (.bool (thB t)) ∧ Ext w w' := by
  by_cases h1 : 0 ≤ t
  · go_enter Tryd.func26, Tryd.ntmps26
    go_wp2
    go_ret
    exact ⟨by simp [thB, h1]; omega, Ext.refl w⟩
  · go_enter Tryd.func26, Tryd.ntmps26
    go_wp2
    go_ret
    exact ⟨by simp [thB]; omega, Ext.refl w⟩
theorem rparts_any (v : Int) (w : World) (hv : InW v) : Calls Tryd.prog 9 #[.int .u64 v] w fun e w' => e = .returned (.agg #[.int .i64 (oW v), .int .i64 (hW' v), .bool (!isB v)]) ∧ Ext w w' := by
  have j0 := hv.1
  cases i : isB v
  · have j : ¬ v < 4294967296 := by rw [← isB_iff, i]; decide
    have i2 : ¬ isB v = true := by rw [i]; decide
    rw [show oW v = -1 by unfold oW; rw [if_neg i2], show hW' v = -1 by unfold hW'; rw [if_neg i2]]
    go_enter Tryd.func9, Tryd.ntmps9
    go_wp2
    refine bodyPost_ret (v := .agg #[.int .i64 (-1), .int .i64 (-1), .bool true]) (by simp [results, Tryd.results9, go_sem, *]) rfl ⟨rfl, ?_⟩
    exact Ext.alloc _ _
  · have j := (isB_iff v).1 i
    rw [show oW v = v % 65536 - 1 by unfold oW; rw [if_pos i], show hW' v = v / 65536 - 1 by unfold hW'; rw [if_pos i]; omega]
    go_enter Tryd.func9, Tryd.ntmps9
    go_wp2
    refine bodyPost_ret (v := .agg #[.int .i64 (v % 65536 - 1), .int .i64 (v / 65536 - 1), .bool false]) (by simp [results, Tryd.results9, go_sem, *]) rfl ⟨rfl, ?_⟩
    exact Ext.alloc _ _
theorem ms_cases (t : Int) (h : InI t) : t = -1 ∨ (¬ t = -1 ∧ thB t = true ∧ msB t = true ∧ 0 ≤ t ∧ t < 65535) ∨ (¬ t = -1 ∧ thB t = false ∧ msB t = false) := by
  by_cases h1 : t = -1
  · exact Or.inl h1
  · cases h2 : thB t
    · refine Or.inr (Or.inr ⟨h1, rfl, ?_⟩)
      have : ¬ (0 ≤ t ∧ t < 65535) := by rw [← thB_iff, h2]; decide
      cases h3 : msB t
      · rfl
      · rw [msB_iff] at h3; omega
    · have := (thB_iff t).1 h2
      exact Or.inr (Or.inl ⟨h1, rfl, ms_of_th h2, this.1, this.2⟩)
theorem rmake_any (o h : Int) (w : World) (ho : InI o) (hh : InI h) :
    Calls Tryd.prog 8 #[.int .i64 o, .int .i64 h] w fun e w' => e = .returned (Value.tuple #[.int .u64 (mkW o h), .bool (mkB o h)]) ∧ Ext w w' := by
  have hX0 := Ext.refl w
  have hW := Ext.refl w
  rcases ms_cases o ho with rfl | ⟨c1, c2, c3, c4, c5⟩ | ⟨c1, c2, c3⟩
  · rcases ms_cases h hh with rfl | ⟨d1, d2, d3, d4, d5⟩ | ⟨d1, d2, d3⟩
    · have e2 := hide mk_none
      have e3 := hide (mkB_of ms_none ms_none)
      go_enter Tryd.func8, Tryd.ntmps8
      go_wp2_with (go_at_call 26; (with_reducible refine (ris_any _ _).mono ?_); rintro e w' ⟨rfl, hb⟩; have hW := Ext.trans2 hW (by repeat (first | exact Ext.refl _ | exact Ext.alloc _ _ | exact Ext.drewN _ _ | assumption | refine Ext.trans ?_ (Ext.alloc _ _) | refine Ext.trans ?_ (Ext.drew _) | refine Ext.trans ?_ (by assumption))) hb; (try have hV := Ext.trans2 hV (by repeat (first | exact Ext.refl _ | exact Ext.alloc _ _ | exact Ext.drewN _ _ | assumption | refine Ext.trans ?_ (Ext.alloc _ _) | refine Ext.trans ?_ (Ext.drew _) | refine Ext.trans ?_ (by assumption))) hb); clear hb)
      go_ret2
      exact ⟨by simp [e2.out, e3.out], (hX0.trans (hW.trans (by repeat (first | exact Ext.refl _ | exact Ext.alloc _ _ | exact Ext.drewN _ _ | assumption | refine Ext.trans ?_ (Ext.alloc _ _) | refine Ext.trans ?_ (Ext.drew _) | refine Ext.trans ?_ (by assumption)))))⟩
    · have e2 := hide (show mkW (-1) h = 65536 * (h + 1) by rw [mkW_of ms_none d3]; omega)
      have e3 := hide (mkB_of ms_none d3)
      go_enter Tryd.func8, Tryd.ntmps8
      go_wp2_with (go_at_call 26; (with_reducible refine (ris_any _ _).mono ?_); rintro e w' ⟨rfl, hb⟩; have hW := Ext.trans2 hW (by repeat (first | exact Ext.refl _ | exact Ext.alloc _ _ | exact Ext.drewN _ _ | assumption | refine Ext.trans ?_ (Ext.alloc _ _) | refine Ext.trans ?_ (Ext.drew _) | refine Ext.trans ?_ (by assumption))) hb; (try have hV := Ext.trans2 hV (by repeat (first | exact Ext.refl _ | exact Ext.alloc _ _ | exact Ext.drewN _ _ | assumption | refine Ext.trans ?_ (Ext.alloc _ _) | refine Ext.trans ?_ (Ext.drew _) | refine Ext.trans ?_ (by assumption))) hb); clear hb)
      go_ret2
      exact ⟨by simp [e2.out, e3.out], (hX0.trans (hW.trans (by repeat (first | exact Ext.refl _ | exact Ext.alloc _ _ | exact Ext.drewN _ _ | assumption | refine Ext.trans ?_ (Ext.alloc _ _) | refine Ext.trans ?_ (Ext.drew _) | refine Ext.trans ?_ (by assumption)))))⟩
    · have e3 := hide (show mkB (-1) h = false by simp [mkB, d3])
      have e2 := hide (show mkW (-1) h = 0 by simp [mkW, e3.out])
      go_enter Tryd.func8, Tryd.ntmps8
      go_wp2_with (go_at_call 26; (with_reducible refine (ris_any _ _).mono ?_); rintro e w' ⟨rfl, hb⟩; have hW := Ext.trans2 hW (by repeat (first | exact Ext.refl _ | exact Ext.alloc _ _ | exact Ext.drewN _ _ | assumption | refine Ext.trans ?_ (Ext.alloc _ _) | refine Ext.trans ?_ (Ext.drew _) | refine Ext.trans ?_ (by assumption))) hb; (try have hV := Ext.trans2 hV (by repeat (first | exact Ext.refl _ | exact Ext.alloc _ _ | exact Ext.drewN _ _ | assumption | refine Ext.trans ?_ (Ext.alloc _ _) | refine Ext.trans ?_ (Ext.drew _) | refine Ext.trans ?_ (by assumption))) hb); clear hb)
      go_ret2
      exact ⟨by simp [e2.out, e3.out], (hX0.trans (hW.trans (by repeat (first | exact Ext.refl _ | exact Ext.alloc _ _ | exact Ext.drewN _ _ | assumption | refine Ext.trans ?_ (Ext.alloc _ _) | refine Ext.trans ?_ (Ext.drew _) | refine Ext.trans ?_ (by assumption)))))⟩
  · rcases ms_cases h hh with rfl | ⟨d1, d2, d3, d4, d5⟩ | ⟨d1, d2, d3⟩
    · have e2 := hide (show mkW o (-1) = o + 1 by rw [mkW_of c3 ms_none]; omega)
      have e3 := hide (mkB_of c3 ms_none)
      go_enter Tryd.func8, Tryd.ntmps8
      go_wp2_with (go_at_call 26; (with_reducible refine (ris_any _ _).mono ?_); rintro e w' ⟨rfl, hb⟩; have hW := Ext.trans2 hW (by repeat (first | exact Ext.refl _ | exact Ext.alloc _ _ | exact Ext.drewN _ _ | assumption | refine Ext.trans ?_ (Ext.alloc _ _) | refine Ext.trans ?_ (Ext.drew _) | refine Ext.trans ?_ (by assumption))) hb; (try have hV := Ext.trans2 hV (by repeat (first | exact Ext.refl _ | exact Ext.alloc _ _ | exact Ext.drewN _ _ | assumption | refine Ext.trans ?_ (Ext.alloc _ _) | refine Ext.trans ?_ (Ext.drew _) | refine Ext.trans ?_ (by assumption))) hb); clear hb)
      go_ret2
      exact ⟨by simp [e2.out, e3.out], (hX0.trans (hW.trans (by repeat (first | exact Ext.refl _ | exact Ext.alloc _ _ | exact Ext.drewN _ _ | assumption | refine Ext.trans ?_ (Ext.alloc _ _) | refine Ext.trans ?_ (Ext.drew _) | refine Ext.trans ?_ (by assumption)))))⟩
    · have e2 := hide (show mkW o h = o + 1 + 65536 * (h + 1) by rw [mkW_of c3 d3]; omega)
      have e3 := hide (mkB_of c3 d3)
      go_enter Tryd.func8, Tryd.ntmps8
      go_wp2_with (go_at_call 26; (with_reducible refine (ris_any _ _).mono ?_); rintro e w' ⟨rfl, hb⟩; have hW := Ext.trans2 hW (by repeat (first | exact Ext.refl _ | exact Ext.alloc _ _ | exact Ext.drewN _ _ | assumption | refine Ext.trans ?_ (Ext.alloc _ _) | refine Ext.trans ?_ (Ext.drew _) | refine Ext.trans ?_ (by assumption))) hb; (try have hV := Ext.trans2 hV (by repeat (first | exact Ext.refl _ | exact Ext.alloc _ _ | exact Ext.drewN _ _ | assumption | refine Ext.trans ?_ (Ext.alloc _ _) | refine Ext.trans ?_ (Ext.drew _) | refine Ext.trans ?_ (by assumption))) hb); clear hb)
      go_ret2
      exact ⟨by simp [e2.out, e3.out], (hX0.trans (hW.trans (by repeat (first | exact Ext.refl _ | exact Ext.alloc _ _ | exact Ext.drewN _ _ | assumption | refine Ext.trans ?_ (Ext.alloc _ _) | refine Ext.trans ?_ (Ext.drew _) | refine Ext.trans ?_ (by assumption)))))⟩
    · have e3 := hide (show mkB o h = false by simp [mkB, d3])
      have e2 := hide (show mkW o h = 0 by simp [mkW, e3.out])
      go_enter Tryd.func8, Tryd.ntmps8
      go_wp2_with (go_at_call 26; (with_reducible refine (ris_any _ _).mono ?_); rintro e w' ⟨rfl, hb⟩; have hW := Ext.trans2 hW (by repeat (first | exact Ext.refl _ | exact Ext.alloc _ _ | exact Ext.drewN _ _ | assumption | refine Ext.trans ?_ (Ext.alloc _ _) | refine Ext.trans ?_ (Ext.drew _) | refine Ext.trans ?_ (by assumption))) hb; (try have hV := Ext.trans2 hV (by repeat (first | exact Ext.refl _ | exact Ext.alloc _ _ | exact Ext.drewN _ _ | assumption | refine Ext.trans ?_ (Ext.alloc _ _) | refine Ext.trans ?_ (Ext.drew _) | refine Ext.trans ?_ (by assumption))) hb); clear hb)
      go_ret2
      exact ⟨by simp [e2.out, e3.out], (hX0.trans (hW.trans (by repeat (first | exact Ext.refl _ | exact Ext.alloc _ _ | exact Ext.drewN _ _ | assumption | refine Ext.trans ?_ (Ext.alloc _ _) | refine Ext.trans ?_ (Ext.drew _) | refine Ext.trans ?_ (by assumption)))))⟩
  · have e3 := hide (show mkB o h = false by simp [mkB, c3])
    have e2 := hide (show mkW o h = 0 by simp [mkW, e3.out])
    go_enter Tryd.func8, Tryd.ntmps8
    go_wp2_with (go_at_call 26; (with_reducible refine (ris_any _ _).mono ?_); rintro e w' ⟨rfl, hb⟩; have hW := Ext.trans2 hW (by repeat (first | exact Ext.refl _ | exact Ext.alloc _ _ | exact Ext.drewN _ _ | assumption | refine Ext.trans ?_ (Ext.alloc _ _) | refine Ext.trans ?_ (Ext.drew _) | refine Ext.trans ?_ (by assumption))) hb; (try have hV := Ext.trans2 hV (by repeat (first | exact Ext.refl _ | exact Ext.alloc _ _ | exact Ext.drewN _ _ | assumption | refine Ext.trans ?_ (Ext.alloc _ _) | refine Ext.trans ?_ (Ext.drew _) | refine Ext.trans ?_ (by assumption))) hb); clear hb)
    go_ret2
    exact ⟨by simp [e2.out, e3.out], (hX0.trans (hW.trans (by repeat (first | exact Ext.refl _ | exact Ext.alloc _ _ | exact Ext.drewN _ _ | assumption | refine Ext.trans ?_ (Ext.alloc _ _) | refine Ext.trans ?_ (Ext.drew _) | refine Ext.trans ?_ (by assumption)))))⟩

theorem rtake_any (v t : Int) (w : World) (hv : InW v) (ht : InI t) :
    Calls Tryd.prog 15 #[.int .u64 v, .int .i64 t] w fun e w' => e = .returned (Value.tuple #[.int .u64 (takeW v t), .bool (takeB v t)]) ∧ Ext w w' := by
  have hX0 := Ext.refl w
  have hW := Ext.refl w
  have a0 := inI_ms (ms_h hv)
  cases i : isB v
  · have e1 : takeB v t = false := by first | (simp [takeB, i]; done) | (simp only [takeB, i]; rfl)
    have e2 : takeW v t = 0 := by simp [takeW, e1]
    go_enter Tryd.func15, Tryd.ntmps15
    go_wp2_with (first
      | (go_at_call 9; (with_reducible refine (rparts_any _ _ hv).mono ?_); rintro e w' ⟨rfl, hb⟩; have hW := Ext.trans2 hW (by repeat (first | exact Ext.refl _ | exact Ext.alloc _ _ | exact Ext.drewN _ _ | assumption | refine Ext.trans ?_ (Ext.alloc _ _) | refine Ext.trans ?_ (Ext.drew _) | refine Ext.trans ?_ (by assumption))) hb; clear hb)
      | (go_at_call 26; (with_reducible refine (ris_any _ _).mono ?_); rintro e w' ⟨rfl, hb⟩; (first | (have hp := fun wx (h : Ext w' wx) => (hb.trans h).boxCell) | (have hp := fun wx (h : Ext w' wx) => hp wx (hb.trans h))); have hW := Ext.trans (a := w) (by repeat (first | (with_reducible exact Ext.refl _) | (with_reducible assumption) | (with_reducible refine Ext.trans ?_ (Ext.alloc _ _)) | (with_reducible refine Ext.trans ?_ (Ext.drew _)))) hb; have hP := Ext.refl w'; clear hb)
      | (go_at_call 8; (with_reducible refine (rmake_any _ _ _ ht a0).mono ?_); rintro e w' ⟨rfl, hb⟩; have hW := Ext.trans (a := w) (by repeat (first | (with_reducible exact Ext.refl _) | (with_reducible assumption) | (with_reducible refine Ext.trans ?_ (Ext.alloc _ _)) | (with_reducible refine Ext.trans ?_ (Ext.drew _)))) hb; clear hb))
    go_ret2
    exact ⟨by simp [e1, e2], (hX0.trans (hW.trans (by repeat (first | exact Ext.refl _ | exact Ext.alloc _ _ | exact Ext.drewN _ _ | assumption | refine Ext.trans ?_ (Ext.alloc _ _) | refine Ext.trans ?_ (Ext.drew _) | refine Ext.trans ?_ (by assumption)))))⟩
  cases j : thB t
  · have e1 : takeB v t = false := by first | (simp [takeB, j]; done) | (simp only [takeB, j]; rfl)
    have e2 : takeW v t = 0 := by simp [takeW, e1]
    go_enter Tryd.func15, Tryd.ntmps15
    go_wp2_with (first
      | (go_at_call 9; (with_reducible refine (rparts_any _ _ hv).mono ?_); rintro e w' ⟨rfl, hb⟩; have hW := Ext.trans2 hW (by repeat (first | exact Ext.refl _ | exact Ext.alloc _ _ | exact Ext.drewN _ _ | assumption | refine Ext.trans ?_ (Ext.alloc _ _) | refine Ext.trans ?_ (Ext.drew _) | refine Ext.trans ?_ (by assumption))) hb; clear hb)
      | (go_at_call 26; (with_reducible refine (ris_any _ _).mono ?_); rintro e w' ⟨rfl, hb⟩; (first | (have hp := fun wx (h : Ext w' wx) => (hb.trans h).boxCell) | (have hp := fun wx (h : Ext w' wx) => hp wx (hb.trans h))); have hW := Ext.trans (a := w) (by repeat (first | (with_reducible exact Ext.refl _) | (with_reducible assumption) | (with_reducible refine Ext.trans ?_ (Ext.alloc _ _)) | (with_reducible refine Ext.trans ?_ (Ext.drew _)))) hb; have hP := Ext.refl w'; clear hb)
      | (go_at_call 8; (with_reducible refine (rmake_any _ _ _ ht a0).mono ?_); rintro e w' ⟨rfl, hb⟩; have hW := Ext.trans (a := w) (by repeat (first | (with_reducible exact Ext.refl _) | (with_reducible assumption) | (with_reducible refine Ext.trans ?_ (Ext.alloc _ _)) | (with_reducible refine Ext.trans ?_ (Ext.drew _)))) hb; clear hb))
    go_ret2
    exact ⟨by simp [e1, e2], (hX0.trans (hW.trans (by repeat (first | exact Ext.refl _ | exact Ext.alloc _ _ | exact Ext.drewN _ _ | assumption | refine Ext.trans ?_ (Ext.alloc _ _) | refine Ext.trans ?_ (Ext.drew _) | refine Ext.trans ?_ (by assumption)))))⟩
  cases c : (oW v == -1)
  · have c' := bne_yes c
    have e1 : takeB v t = false := by first | (simp [takeB, i, j, c]; done) | (simp only [takeB, i, j, c]; rfl)
    have e2 : takeW v t = 0 := by simp [takeW, e1]
    go_enter Tryd.func15, Tryd.ntmps15
    go_wp2_with (first
      | (go_at_call 9; (with_reducible refine (rparts_any _ _ hv).mono ?_); rintro e w' ⟨rfl, hb⟩; have hW := Ext.trans2 hW (by repeat (first | exact Ext.refl _ | exact Ext.alloc _ _ | exact Ext.drewN _ _ | assumption | refine Ext.trans ?_ (Ext.alloc _ _) | refine Ext.trans ?_ (Ext.drew _) | refine Ext.trans ?_ (by assumption))) hb; clear hb)
      | (go_at_call 26; (with_reducible refine (ris_any _ _).mono ?_); rintro e w' ⟨rfl, hb⟩; (first | (have hp := fun wx (h : Ext w' wx) => (hb.trans h).boxCell) | (have hp := fun wx (h : Ext w' wx) => hp wx (hb.trans h))); have hW := Ext.trans (a := w) (by repeat (first | (with_reducible exact Ext.refl _) | (with_reducible assumption) | (with_reducible refine Ext.trans ?_ (Ext.alloc _ _)) | (with_reducible refine Ext.trans ?_ (Ext.drew _)))) hb; have hP := Ext.refl w'; clear hb)
      | (go_at_call 8; (with_reducible refine (rmake_any _ _ _ ht a0).mono ?_); rintro e w' ⟨rfl, hb⟩; have hW := Ext.trans (a := w) (by repeat (first | (with_reducible exact Ext.refl _) | (with_reducible assumption) | (with_reducible refine Ext.trans ?_ (Ext.alloc _ _)) | (with_reducible refine Ext.trans ?_ (Ext.drew _)))) hb; clear hb))
    go_ret2
    exact ⟨by simp [e1, e2], (hX0.trans (hW.trans (by repeat (first | exact Ext.refl _ | exact Ext.alloc _ _ | exact Ext.drewN _ _ | assumption | refine Ext.trans ?_ (Ext.alloc _ _) | refine Ext.trans ?_ (Ext.drew _) | refine Ext.trans ?_ (by assumption)))))⟩
  · have c' := bne_no c
    have e1 : takeB v t = true := by first | (simp [takeB, i, j, c]; done) | (simp only [takeB, i, j, c]; rfl)
    have e2 := hide (show takeW v t = mkW t (hW' v) by (unfold takeW; rw [if_pos e1]))
    have e3 := hide (mkB_of (ms_of_th j) (ms_h hv))
    go_enter Tryd.func15, Tryd.ntmps15
    go_wp2_with (first
      | (go_at_call 9; (with_reducible refine (rparts_any _ _ hv).mono ?_); rintro e w' ⟨rfl, hb⟩; have hW := Ext.trans2 hW (by repeat (first | exact Ext.refl _ | exact Ext.alloc _ _ | exact Ext.drewN _ _ | assumption | refine Ext.trans ?_ (Ext.alloc _ _) | refine Ext.trans ?_ (Ext.drew _) | refine Ext.trans ?_ (by assumption))) hb; clear hb)
      | (go_at_call 26; (with_reducible refine (ris_any _ _).mono ?_); rintro e w' ⟨rfl, hb⟩; (first | (have hp := fun wx (h : Ext w' wx) => (hb.trans h).boxCell) | (have hp := fun wx (h : Ext w' wx) => hp wx (hb.trans h))); have hW := Ext.trans (a := w) (by repeat (first | (with_reducible exact Ext.refl _) | (with_reducible assumption) | (with_reducible refine Ext.trans ?_ (Ext.alloc _ _)) | (with_reducible refine Ext.trans ?_ (Ext.drew _)))) hb; have hP := Ext.refl w'; clear hb)
      | (go_at_call 8; (with_reducible refine (rmake_any _ _ _ ht a0).mono ?_); rintro e w' ⟨rfl, hb⟩; have hW := Ext.trans (a := w) (by repeat (first | (with_reducible exact Ext.refl _) | (with_reducible assumption) | (with_reducible refine Ext.trans ?_ (Ext.alloc _ _)) | (with_reducible refine Ext.trans ?_ (Ext.drew _)))) hb; clear hb))
    go_ret2
    exact ⟨by simp [e1, e2.out, e3.out], (hX0.trans (hW.trans (by repeat (first | exact Ext.refl _ | exact Ext.alloc _ _ | exact Ext.drewN _ _ | assumption | refine Ext.trans ?_ (Ext.alloc _ _) | refine Ext.trans ?_ (Ext.drew _) | refine Ext.trans ?_ (by assumption)))))⟩
theorem rpush_any (v t : Int) (w : World) (hv : InW v) (ht : InI t) :
    Calls Tryd.prog 17 #[.int .u64 v, .int .i64 t] w fun e w' => e = .returned (Value.tuple #[.int .u64 (pushW v t), .bool (pushB v t)]) ∧ Ext w w' := by
  have hX0 := Ext.refl w
  have hW := Ext.refl w
  have a0 := inI_ms (ms_o hv)
  cases i : isB v
  · have e1 : pushB v t = false := by first | (simp [pushB, i]; done) | (simp only [pushB, i]; rfl)
    have e2 : pushW v t = 0 := by simp [pushW, e1]
    go_enter Tryd.func17, Tryd.ntmps17
    go_wp2_with (first
      | (go_at_call 9; (with_reducible refine (rparts_any _ _ hv).mono ?_); rintro e w' ⟨rfl, hb⟩; have hW := Ext.trans2 hW (by repeat (first | exact Ext.refl _ | exact Ext.alloc _ _ | exact Ext.drewN _ _ | assumption | refine Ext.trans ?_ (Ext.alloc _ _) | refine Ext.trans ?_ (Ext.drew _) | refine Ext.trans ?_ (by assumption))) hb; clear hb)
      | (go_at_call 26; (with_reducible refine (ris_any _ _).mono ?_); rintro e w' ⟨rfl, hb⟩; (first | (have hp := fun wx (h : Ext w' wx) => (hb.trans h).boxCell) | (have hp := fun wx (h : Ext w' wx) => hp wx (hb.trans h))); have hW := Ext.trans (a := w) (by repeat (first | (with_reducible exact Ext.refl _) | (with_reducible assumption) | (with_reducible refine Ext.trans ?_ (Ext.alloc _ _)) | (with_reducible refine Ext.trans ?_ (Ext.drew _)))) hb; have hP := Ext.refl w'; clear hb)
      | (go_at_call 8; (with_reducible refine (rmake_any _ _ _ a0 ht).mono ?_); rintro e w' ⟨rfl, hb⟩; have hW := Ext.trans (a := w) (by repeat (first | (with_reducible exact Ext.refl _) | (with_reducible assumption) | (with_reducible refine Ext.trans ?_ (Ext.alloc _ _)) | (with_reducible refine Ext.trans ?_ (Ext.drew _)))) hb; clear hb))
    go_ret2
    exact ⟨by simp [e1, e2], (hX0.trans (hW.trans (by repeat (first | exact Ext.refl _ | exact Ext.alloc _ _ | exact Ext.drewN _ _ | assumption | refine Ext.trans ?_ (Ext.alloc _ _) | refine Ext.trans ?_ (Ext.drew _) | refine Ext.trans ?_ (by assumption)))))⟩
  cases j : thB t
  · have e1 : pushB v t = false := by first | (simp [pushB, j]; done) | (simp only [pushB, j]; rfl)
    have e2 : pushW v t = 0 := by simp [pushW, e1]
    go_enter Tryd.func17, Tryd.ntmps17
    go_wp2_with (first
      | (go_at_call 9; (with_reducible refine (rparts_any _ _ hv).mono ?_); rintro e w' ⟨rfl, hb⟩; have hW := Ext.trans2 hW (by repeat (first | exact Ext.refl _ | exact Ext.alloc _ _ | exact Ext.drewN _ _ | assumption | refine Ext.trans ?_ (Ext.alloc _ _) | refine Ext.trans ?_ (Ext.drew _) | refine Ext.trans ?_ (by assumption))) hb; clear hb)
      | (go_at_call 26; (with_reducible refine (ris_any _ _).mono ?_); rintro e w' ⟨rfl, hb⟩; (first | (have hp := fun wx (h : Ext w' wx) => (hb.trans h).boxCell) | (have hp := fun wx (h : Ext w' wx) => hp wx (hb.trans h))); have hW := Ext.trans (a := w) (by repeat (first | (with_reducible exact Ext.refl _) | (with_reducible assumption) | (with_reducible refine Ext.trans ?_ (Ext.alloc _ _)) | (with_reducible refine Ext.trans ?_ (Ext.drew _)))) hb; have hP := Ext.refl w'; clear hb)
      | (go_at_call 8; (with_reducible refine (rmake_any _ _ _ a0 ht).mono ?_); rintro e w' ⟨rfl, hb⟩; have hW := Ext.trans (a := w) (by repeat (first | (with_reducible exact Ext.refl _) | (with_reducible assumption) | (with_reducible refine Ext.trans ?_ (Ext.alloc _ _)) | (with_reducible refine Ext.trans ?_ (Ext.drew _)))) hb; clear hb))
    go_ret2
    exact ⟨by simp [e1, e2], (hX0.trans (hW.trans (by repeat (first | exact Ext.refl _ | exact Ext.alloc _ _ | exact Ext.drewN _ _ | assumption | refine Ext.trans ?_ (Ext.alloc _ _) | refine Ext.trans ?_ (Ext.drew _) | refine Ext.trans ?_ (by assumption)))))⟩
  cases c : (oW v == -1)
  · have c' := bne_yes c
    cases d : (oW v == t)
    · have d' := bne_yes d
      cases f : (hW' v == t)
      · have f' := bne_yes f
        have e1 : pushB v t = true := by first | (simp [pushB, i, j, c', d', f']; done) | (simp only [pushB, i, j, c', d', f']; rfl)
        have e2 := hide (show pushW v t = mkW (oW v) t by (unfold pushW; rw [if_pos e1]))
        have e3 := hide (mkB_of (ms_o hv) (ms_of_th j))
        go_enter Tryd.func17, Tryd.ntmps17
        go_wp2_with (first
          | (go_at_call 9; (with_reducible refine (rparts_any _ _ hv).mono ?_); rintro e w' ⟨rfl, hb⟩; have hW := Ext.trans2 hW (by repeat (first | exact Ext.refl _ | exact Ext.alloc _ _ | exact Ext.drewN _ _ | assumption | refine Ext.trans ?_ (Ext.alloc _ _) | refine Ext.trans ?_ (Ext.drew _) | refine Ext.trans ?_ (by assumption))) hb; clear hb)
          | (go_at_call 26; (with_reducible refine (ris_any _ _).mono ?_); rintro e w' ⟨rfl, hb⟩; (first | (have hp := fun wx (h : Ext w' wx) => (hb.trans h).boxCell) | (have hp := fun wx (h : Ext w' wx) => hp wx (hb.trans h))); have hW := Ext.trans (a := w) (by repeat (first | (with_reducible exact Ext.refl _) | (with_reducible assumption) | (with_reducible refine Ext.trans ?_ (Ext.alloc _ _)) | (with_reducible refine Ext.trans ?_ (Ext.drew _)))) hb; have hP := Ext.refl w'; clear hb)
          | (go_at_call 8; (with_reducible refine (rmake_any _ _ _ a0 ht).mono ?_); rintro e w' ⟨rfl, hb⟩; have hW := Ext.trans (a := w) (by repeat (first | (with_reducible exact Ext.refl _) | (with_reducible assumption) | (with_reducible refine Ext.trans ?_ (Ext.alloc _ _)) | (with_reducible refine Ext.trans ?_ (Ext.drew _)))) hb; clear hb))
        go_ret2
        exact ⟨by simp [e1, e2.out, e3.out], (hX0.trans (hW.trans (by repeat (first | exact Ext.refl _ | exact Ext.alloc _ _ | exact Ext.drewN _ _ | assumption | refine Ext.trans ?_ (Ext.alloc _ _) | refine Ext.trans ?_ (Ext.drew _) | refine Ext.trans ?_ (by assumption)))))⟩
      · have f' := bne_no f
        have e1 : pushB v t = false := by first | (simp [pushB, i, j, c', d', f']; done) | (simp only [pushB, i, j, c', d', f']; rfl)
        have e2 : pushW v t = 0 := by simp [pushW, e1]
        go_enter Tryd.func17, Tryd.ntmps17
        go_wp2_with (first
          | (go_at_call 9; (with_reducible refine (rparts_any _ _ hv).mono ?_); rintro e w' ⟨rfl, hb⟩; have hW := Ext.trans2 hW (by repeat (first | exact Ext.refl _ | exact Ext.alloc _ _ | exact Ext.drewN _ _ | assumption | refine Ext.trans ?_ (Ext.alloc _ _) | refine Ext.trans ?_ (Ext.drew _) | refine Ext.trans ?_ (by assumption))) hb; clear hb)
          | (go_at_call 26; (with_reducible refine (ris_any _ _).mono ?_); rintro e w' ⟨rfl, hb⟩; (first | (have hp := fun wx (h : Ext w' wx) => (hb.trans h).boxCell) | (have hp := fun wx (h : Ext w' wx) => hp wx (hb.trans h))); have hW := Ext.trans (a := w) (by repeat (first | (with_reducible exact Ext.refl _) | (with_reducible assumption) | (with_reducible refine Ext.trans ?_ (Ext.alloc _ _)) | (with_reducible refine Ext.trans ?_ (Ext.drew _)))) hb; have hP := Ext.refl w'; clear hb)
          | (go_at_call 8; (with_reducible refine (rmake_any _ _ _ a0 ht).mono ?_); rintro e w' ⟨rfl, hb⟩; have hW := Ext.trans (a := w) (by repeat (first | (with_reducible exact Ext.refl _) | (with_reducible assumption) | (with_reducible refine Ext.trans ?_ (Ext.alloc _ _)) | (with_reducible refine Ext.trans ?_ (Ext.drew _)))) hb; clear hb))
        go_ret2
        exact ⟨by simp [e1, e2], (hX0.trans (hW.trans (by repeat (first | exact Ext.refl _ | exact Ext.alloc _ _ | exact Ext.drewN _ _ | assumption | refine Ext.trans ?_ (Ext.alloc _ _) | refine Ext.trans ?_ (Ext.drew _) | refine Ext.trans ?_ (by assumption)))))⟩
    · have d' := bne_no d
      have e1 : pushB v t = false := by first | (simp [pushB, i, j, c', d']; done) | (simp only [pushB, i, j, c', d']; rfl)
      have e2 : pushW v t = 0 := by simp [pushW, e1]
      go_enter Tryd.func17, Tryd.ntmps17
      go_wp2_with (first
        | (go_at_call 9; (with_reducible refine (rparts_any _ _ hv).mono ?_); rintro e w' ⟨rfl, hb⟩; have hW := Ext.trans2 hW (by repeat (first | exact Ext.refl _ | exact Ext.alloc _ _ | exact Ext.drewN _ _ | assumption | refine Ext.trans ?_ (Ext.alloc _ _) | refine Ext.trans ?_ (Ext.drew _) | refine Ext.trans ?_ (by assumption))) hb; clear hb)
        | (go_at_call 26; (with_reducible refine (ris_any _ _).mono ?_); rintro e w' ⟨rfl, hb⟩; (first | (have hp := fun wx (h : Ext w' wx) => (hb.trans h).boxCell) | (have hp := fun wx (h : Ext w' wx) => hp wx (hb.trans h))); have hW := Ext.trans (a := w) (by repeat (first | (with_reducible exact Ext.refl _) | (with_reducible assumption) | (with_reducible refine Ext.trans ?_ (Ext.alloc _ _)) | (with_reducible refine Ext.trans ?_ (Ext.drew _)))) hb; have hP := Ext.refl w'; clear hb)
        | (go_at_call 8; (with_reducible refine (rmake_any _ _ _ a0 ht).mono ?_); rintro e w' ⟨rfl, hb⟩; have hW := Ext.trans (a := w) (by repeat (first | (with_reducible exact Ext.refl _) | (with_reducible assumption) | (with_reducible refine Ext.trans ?_ (Ext.alloc _ _)) | (with_reducible refine Ext.trans ?_ (Ext.drew _)))) hb; clear hb))
      go_ret2
      exact ⟨by simp [e1, e2], (hX0.trans (hW.trans (by repeat (first | exact Ext.refl _ | exact Ext.alloc _ _ | exact Ext.drewN _ _ | assumption | refine Ext.trans ?_ (Ext.alloc _ _) | refine Ext.trans ?_ (Ext.drew _) | refine Ext.trans ?_ (by assumption)))))⟩
  · have c' := bne_no c
    have e1 : pushB v t = false := by first | (simp [pushB, i, j, c']; done) | (simp only [pushB, i, j, c']; rfl)
    have e2 : pushW v t = 0 := by simp [pushW, e1]
    go_enter Tryd.func17, Tryd.ntmps17
    go_wp2_with (first
      | (go_at_call 9; (with_reducible refine (rparts_any _ _ hv).mono ?_); rintro e w' ⟨rfl, hb⟩; have hW := Ext.trans2 hW (by repeat (first | exact Ext.refl _ | exact Ext.alloc _ _ | exact Ext.drewN _ _ | assumption | refine Ext.trans ?_ (Ext.alloc _ _) | refine Ext.trans ?_ (Ext.drew _) | refine Ext.trans ?_ (by assumption))) hb; clear hb)
      | (go_at_call 26; (with_reducible refine (ris_any _ _).mono ?_); rintro e w' ⟨rfl, hb⟩; (first | (have hp := fun wx (h : Ext w' wx) => (hb.trans h).boxCell) | (have hp := fun wx (h : Ext w' wx) => hp wx (hb.trans h))); have hW := Ext.trans (a := w) (by repeat (first | (with_reducible exact Ext.refl _) | (with_reducible assumption) | (with_reducible refine Ext.trans ?_ (Ext.alloc _ _)) | (with_reducible refine Ext.trans ?_ (Ext.drew _)))) hb; have hP := Ext.refl w'; clear hb)
      | (go_at_call 8; (with_reducible refine (rmake_any _ _ _ a0 ht).mono ?_); rintro e w' ⟨rfl, hb⟩; have hW := Ext.trans (a := w) (by repeat (first | (with_reducible exact Ext.refl _) | (with_reducible assumption) | (with_reducible refine Ext.trans ?_ (Ext.alloc _ _)) | (with_reducible refine Ext.trans ?_ (Ext.drew _)))) hb; clear hb))
    go_ret2
    exact ⟨by simp [e1, e2], (hX0.trans (hW.trans (by repeat (first | exact Ext.refl _ | exact Ext.alloc _ _ | exact Ext.drewN _ _ | assumption | refine Ext.trans ?_ (Ext.alloc _ _) | refine Ext.trans ?_ (Ext.drew _) | refine Ext.trans ?_ (by assumption)))))⟩
theorem rdrain_any (v t : Int) (w : World) (hv : InW v) (ht : InI t) :
    Calls Tryd.prog 19 #[.int .u64 v, .int .i64 t] w fun e w' => e = .returned (Value.tuple #[.int .u64 (drainW v t), .bool (drainB v t)]) ∧ Ext w w' := by
  have hX0 := Ext.refl w
  have hW := Ext.refl w
  cases i : isB v
  · have e1 : drainB v t = false := by first | (simp [drainB, i]; done) | (simp only [drainB, i]; rfl)
    have e2 : drainW v t = 0 := by simp [drainW, e1]
    go_enter Tryd.func19, Tryd.ntmps19
    go_wp2_with (first
      | (go_at_call 9; (with_reducible refine (rparts_any _ _ hv).mono ?_); rintro e w' ⟨rfl, hb⟩; have hW := Ext.trans2 hW (by repeat (first | exact Ext.refl _ | exact Ext.alloc _ _ | exact Ext.drewN _ _ | assumption | refine Ext.trans ?_ (Ext.alloc _ _) | refine Ext.trans ?_ (Ext.drew _) | refine Ext.trans ?_ (by assumption))) hb; clear hb)
      | (go_at_call 26; (with_reducible refine (ris_any _ _).mono ?_); rintro e w' ⟨rfl, hb⟩; (first | (have hp := fun wx (h : Ext w' wx) => (hb.trans h).boxCell) | (have hp := fun wx (h : Ext w' wx) => hp wx (hb.trans h))); have hW := Ext.trans (a := w) (by repeat (first | (with_reducible exact Ext.refl _) | (with_reducible assumption) | (with_reducible refine Ext.trans ?_ (Ext.alloc _ _)) | (with_reducible refine Ext.trans ?_ (Ext.drew _)))) hb; have hP := Ext.refl w'; clear hb)
      | (go_at_call 8; (with_reducible refine (rmake_any _ _ _ ht inI_none).mono ?_); rintro e w' ⟨rfl, hb⟩; have hW := Ext.trans (a := w) (by repeat (first | (with_reducible exact Ext.refl _) | (with_reducible assumption) | (with_reducible refine Ext.trans ?_ (Ext.alloc _ _)) | (with_reducible refine Ext.trans ?_ (Ext.drew _)))) hb; clear hb))
    go_ret2
    exact ⟨by simp [e1, e2], (hX0.trans (hW.trans (by repeat (first | exact Ext.refl _ | exact Ext.alloc _ _ | exact Ext.drewN _ _ | assumption | refine Ext.trans ?_ (Ext.alloc _ _) | refine Ext.trans ?_ (Ext.drew _) | refine Ext.trans ?_ (by assumption)))))⟩
  cases j : thB t
  · have e1 : drainB v t = false := by first | (simp [drainB, j]; done) | (simp only [drainB, j]; rfl)
    have e2 : drainW v t = 0 := by simp [drainW, e1]
    go_enter Tryd.func19, Tryd.ntmps19
    go_wp2_with (first
      | (go_at_call 9; (with_reducible refine (rparts_any _ _ hv).mono ?_); rintro e w' ⟨rfl, hb⟩; have hW := Ext.trans2 hW (by repeat (first | exact Ext.refl _ | exact Ext.alloc _ _ | exact Ext.drewN _ _ | assumption | refine Ext.trans ?_ (Ext.alloc _ _) | refine Ext.trans ?_ (Ext.drew _) | refine Ext.trans ?_ (by assumption))) hb; clear hb)
      | (go_at_call 26; (with_reducible refine (ris_any _ _).mono ?_); rintro e w' ⟨rfl, hb⟩; (first | (have hp := fun wx (h : Ext w' wx) => (hb.trans h).boxCell) | (have hp := fun wx (h : Ext w' wx) => hp wx (hb.trans h))); have hW := Ext.trans (a := w) (by repeat (first | (with_reducible exact Ext.refl _) | (with_reducible assumption) | (with_reducible refine Ext.trans ?_ (Ext.alloc _ _)) | (with_reducible refine Ext.trans ?_ (Ext.drew _)))) hb; have hP := Ext.refl w'; clear hb)
      | (go_at_call 8; (with_reducible refine (rmake_any _ _ _ ht inI_none).mono ?_); rintro e w' ⟨rfl, hb⟩; have hW := Ext.trans (a := w) (by repeat (first | (with_reducible exact Ext.refl _) | (with_reducible assumption) | (with_reducible refine Ext.trans ?_ (Ext.alloc _ _)) | (with_reducible refine Ext.trans ?_ (Ext.drew _)))) hb; clear hb))
    go_ret2
    exact ⟨by simp [e1, e2], (hX0.trans (hW.trans (by repeat (first | exact Ext.refl _ | exact Ext.alloc _ _ | exact Ext.drewN _ _ | assumption | refine Ext.trans ?_ (Ext.alloc _ _) | refine Ext.trans ?_ (Ext.drew _) | refine Ext.trans ?_ (by assumption)))))⟩
  cases c : (oW v == t)
  · have c' := bne_yes c
    have e1 : drainB v t = false := by first | (simp [drainB, i, j, c]; done) | (simp only [drainB, i, j, c]; rfl)
    have e2 : drainW v t = 0 := by simp [drainW, e1]
    go_enter Tryd.func19, Tryd.ntmps19
    go_wp2_with (first
      | (go_at_call 9; (with_reducible refine (rparts_any _ _ hv).mono ?_); rintro e w' ⟨rfl, hb⟩; have hW := Ext.trans2 hW (by repeat (first | exact Ext.refl _ | exact Ext.alloc _ _ | exact Ext.drewN _ _ | assumption | refine Ext.trans ?_ (Ext.alloc _ _) | refine Ext.trans ?_ (Ext.drew _) | refine Ext.trans ?_ (by assumption))) hb; clear hb)
      | (go_at_call 26; (with_reducible refine (ris_any _ _).mono ?_); rintro e w' ⟨rfl, hb⟩; (first | (have hp := fun wx (h : Ext w' wx) => (hb.trans h).boxCell) | (have hp := fun wx (h : Ext w' wx) => hp wx (hb.trans h))); have hW := Ext.trans (a := w) (by repeat (first | (with_reducible exact Ext.refl _) | (with_reducible assumption) | (with_reducible refine Ext.trans ?_ (Ext.alloc _ _)) | (with_reducible refine Ext.trans ?_ (Ext.drew _)))) hb; have hP := Ext.refl w'; clear hb)
      | (go_at_call 8; (with_reducible refine (rmake_any _ _ _ ht inI_none).mono ?_); rintro e w' ⟨rfl, hb⟩; have hW := Ext.trans (a := w) (by repeat (first | (with_reducible exact Ext.refl _) | (with_reducible assumption) | (with_reducible refine Ext.trans ?_ (Ext.alloc _ _)) | (with_reducible refine Ext.trans ?_ (Ext.drew _)))) hb; clear hb))
    go_ret2
    exact ⟨by simp [e1, e2], (hX0.trans (hW.trans (by repeat (first | exact Ext.refl _ | exact Ext.alloc _ _ | exact Ext.drewN _ _ | assumption | refine Ext.trans ?_ (Ext.alloc _ _) | refine Ext.trans ?_ (Ext.drew _) | refine Ext.trans ?_ (by assumption)))))⟩
  · have c' := bne_no c
    cases d : (hW' v == -1)
    · have d' := bne_yes d
      have e1 : drainB v t = true := by first | (simp [drainB, i, j, c, d']; done) | (simp only [drainB, i, j, c, d']; rfl)
      have e2 := hide (show drainW v t = mkW t (-1) by (unfold drainW; rw [if_pos e1]))
      have e3 := hide (mkB_of (ms_of_th j) ms_none)
      go_enter Tryd.func19, Tryd.ntmps19
      go_wp2_with (first
        | (go_at_call 9; (with_reducible refine (rparts_any _ _ hv).mono ?_); rintro e w' ⟨rfl, hb⟩; have hW := Ext.trans2 hW (by repeat (first | exact Ext.refl _ | exact Ext.alloc _ _ | exact Ext.drewN _ _ | assumption | refine Ext.trans ?_ (Ext.alloc _ _) | refine Ext.trans ?_ (Ext.drew _) | refine Ext.trans ?_ (by assumption))) hb; clear hb)
        | (go_at_call 26; (with_reducible refine (ris_any _ _).mono ?_); rintro e w' ⟨rfl, hb⟩; (first | (have hp := fun wx (h : Ext w' wx) => (hb.trans h).boxCell) | (have hp := fun wx (h : Ext w' wx) => hp wx (hb.trans h))); have hW := Ext.trans (a := w) (by repeat (first | (with_reducible exact Ext.refl _) | (with_reducible assumption) | (with_reducible refine Ext.trans ?_ (Ext.alloc _ _)) | (with_reducible refine Ext.trans ?_ (Ext.drew _)))) hb; have hP := Ext.refl w'; clear hb)
        | (go_at_call 8; (with_reducible refine (rmake_any _ _ _ ht inI_none).mono ?_); rintro e w' ⟨rfl, hb⟩; have hW := Ext.trans (a := w) (by repeat (first | (with_reducible exact Ext.refl _) | (with_reducible assumption) | (with_reducible refine Ext.trans ?_ (Ext.alloc _ _)) | (with_reducible refine Ext.trans ?_ (Ext.drew _)))) hb; clear hb))
      go_ret2
      exact ⟨by simp [e1, e2.out, e3.out], (hX0.trans (hW.trans (by repeat (first | exact Ext.refl _ | exact Ext.alloc _ _ | exact Ext.drewN _ _ | assumption | refine Ext.trans ?_ (Ext.alloc _ _) | refine Ext.trans ?_ (Ext.drew _) | refine Ext.trans ?_ (by assumption)))))⟩
    · have d' := bne_no d
      have e1 : drainB v t = false := by first | (simp [drainB, i, j, c, d']; done) | (simp only [drainB, i, j, c, d']; rfl)
      have e2 : drainW v t = 0 := by simp [drainW, e1]
      go_enter Tryd.func19, Tryd.ntmps19
      go_wp2_with (first
        | (go_at_call 9; (with_reducible refine (rparts_any _ _ hv).mono ?_); rintro e w' ⟨rfl, hb⟩; have hW := Ext.trans2 hW (by repeat (first | exact Ext.refl _ | exact Ext.alloc _ _ | exact Ext.drewN _ _ | assumption | refine Ext.trans ?_ (Ext.alloc _ _) | refine Ext.trans ?_ (Ext.drew _) | refine Ext.trans ?_ (by assumption))) hb; clear hb)
        | (go_at_call 26; (with_reducible refine (ris_any _ _).mono ?_); rintro e w' ⟨rfl, hb⟩; (first | (have hp := fun wx (h : Ext w' wx) => (hb.trans h).boxCell) | (have hp := fun wx (h : Ext w' wx) => hp wx (hb.trans h))); have hW := Ext.trans (a := w) (by repeat (first | (with_reducible exact Ext.refl _) | (with_reducible assumption) | (with_reducible refine Ext.trans ?_ (Ext.alloc _ _)) | (with_reducible refine Ext.trans ?_ (Ext.drew _)))) hb; have hP := Ext.refl w'; clear hb)
        | (go_at_call 8; (with_reducible refine (rmake_any _ _ _ ht inI_none).mono ?_); rintro e w' ⟨rfl, hb⟩; have hW := Ext.trans (a := w) (by repeat (first | (with_reducible exact Ext.refl _) | (with_reducible assumption) | (with_reducible refine Ext.trans ?_ (Ext.alloc _ _)) | (with_reducible refine Ext.trans ?_ (Ext.drew _)))) hb; clear hb))
      go_ret2
      exact ⟨by simp [e1, e2], (hX0.trans (hW.trans (by repeat (first | exact Ext.refl _ | exact Ext.alloc _ _ | exact Ext.drewN _ _ | assumption | refine Ext.trans ?_ (Ext.alloc _ _) | refine Ext.trans ?_ (Ext.drew _) | refine Ext.trans ?_ (by assumption)))))⟩
theorem rrelease_any (v t : Int) (w : World) (hv : InW v) (ht : InI t) :
    Calls Tryd.prog 23 #[.int .u64 v, .int .i64 t] w fun e w' => e = .returned (Value.tuple #[.int .u64 (0), .bool (releaseB v t)]) ∧ Ext w w' := by
  have hX0 := Ext.refl w
  have hW := Ext.refl w
  cases i : isB v
  · have e1 : releaseB v t = false := by first | (simp [releaseB, i]; done) | (simp only [releaseB, i]; rfl)
    have e2 : mkW (-1) (-1) = 0 := by simp [mkW, e1]
    go_enter Tryd.func23, Tryd.ntmps23
    go_wp2_with (first
      | (go_at_call 9; (with_reducible refine (rparts_any _ _ hv).mono ?_); rintro e w' ⟨rfl, hb⟩; have hW := Ext.trans2 hW (by repeat (first | exact Ext.refl _ | exact Ext.alloc _ _ | exact Ext.drewN _ _ | assumption | refine Ext.trans ?_ (Ext.alloc _ _) | refine Ext.trans ?_ (Ext.drew _) | refine Ext.trans ?_ (by assumption))) hb; clear hb)
      | (go_at_call 26; (with_reducible refine (ris_any _ _).mono ?_); rintro e w' ⟨rfl, hb⟩; (first | (have hp := fun wx (h : Ext w' wx) => (hb.trans h).boxCell) | (have hp := fun wx (h : Ext w' wx) => hp wx (hb.trans h))); have hW := Ext.trans (a := w) (by repeat (first | (with_reducible exact Ext.refl _) | (with_reducible assumption) | (with_reducible refine Ext.trans ?_ (Ext.alloc _ _)) | (with_reducible refine Ext.trans ?_ (Ext.drew _)))) hb; have hP := Ext.refl w'; clear hb)
      | (go_at_call 8; (with_reducible refine (rmake_any _ _ _ ht ht).mono ?_); rintro e w' ⟨rfl, hb⟩; have hW := Ext.trans (a := w) (by repeat (first | (with_reducible exact Ext.refl _) | (with_reducible assumption) | (with_reducible refine Ext.trans ?_ (Ext.alloc _ _)) | (with_reducible refine Ext.trans ?_ (Ext.drew _)))) hb; clear hb))
    go_ret2
    exact ⟨by simp [e1, e2], (hX0.trans (hW.trans (by repeat (first | exact Ext.refl _ | exact Ext.alloc _ _ | exact Ext.drewN _ _ | assumption | refine Ext.trans ?_ (Ext.alloc _ _) | refine Ext.trans ?_ (Ext.drew _) | refine Ext.trans ?_ (by assumption)))))⟩
  cases j : thB t
  · have e1 : releaseB v t = false := by first | (simp [releaseB, j]; done) | (simp only [releaseB, j]; rfl)
    have e2 : mkW (-1) (-1) = 0 := by simp [mkW, e1]
    go_enter Tryd.func23, Tryd.ntmps23
    go_wp2_with (first
      | (go_at_call 9; (with_reducible refine (rparts_any _ _ hv).mono ?_); rintro e w' ⟨rfl, hb⟩; have hW := Ext.trans2 hW (by repeat (first | exact Ext.refl _ | exact Ext.alloc _ _ | exact Ext.drewN _ _ | assumption | refine Ext.trans ?_ (Ext.alloc _ _) | refine Ext.trans ?_ (Ext.drew _) | refine Ext.trans ?_ (by assumption))) hb; clear hb)
      | (go_at_call 26; (with_reducible refine (ris_any _ _).mono ?_); rintro e w' ⟨rfl, hb⟩; (first | (have hp := fun wx (h : Ext w' wx) => (hb.trans h).boxCell) | (have hp := fun wx (h : Ext w' wx) => hp wx (hb.trans h))); have hW := Ext.trans (a := w) (by repeat (first | (with_reducible exact Ext.refl _) | (with_reducible assumption) | (with_reducible refine Ext.trans ?_ (Ext.alloc _ _)) | (with_reducible refine Ext.trans ?_ (Ext.drew _)))) hb; have hP := Ext.refl w'; clear hb)
      | (go_at_call 8; (with_reducible refine (rmake_any _ _ _ ht ht).mono ?_); rintro e w' ⟨rfl, hb⟩; have hW := Ext.trans (a := w) (by repeat (first | (with_reducible exact Ext.refl _) | (with_reducible assumption) | (with_reducible refine Ext.trans ?_ (Ext.alloc _ _)) | (with_reducible refine Ext.trans ?_ (Ext.drew _)))) hb; clear hb))
    go_ret2
    exact ⟨by simp [e1, e2], (hX0.trans (hW.trans (by repeat (first | exact Ext.refl _ | exact Ext.alloc _ _ | exact Ext.drewN _ _ | assumption | refine Ext.trans ?_ (Ext.alloc _ _) | refine Ext.trans ?_ (Ext.drew _) | refine Ext.trans ?_ (by assumption)))))⟩
  cases c : (oW v == t)
  · have c' := bne_yes c
    have e1 : releaseB v t = false := by first | (simp [releaseB, i, j, c]; done) | (simp only [releaseB, i, j, c]; rfl)
    have e2 : mkW (-1) (-1) = 0 := by simp [mkW, e1]
    go_enter Tryd.func23, Tryd.ntmps23
    go_wp2_with (first
      | (go_at_call 9; (with_reducible refine (rparts_any _ _ hv).mono ?_); rintro e w' ⟨rfl, hb⟩; have hW := Ext.trans2 hW (by repeat (first | exact Ext.refl _ | exact Ext.alloc _ _ | exact Ext.drewN _ _ | assumption | refine Ext.trans ?_ (Ext.alloc _ _) | refine Ext.trans ?_ (Ext.drew _) | refine Ext.trans ?_ (by assumption))) hb; clear hb)
      | (go_at_call 26; (with_reducible refine (ris_any _ _).mono ?_); rintro e w' ⟨rfl, hb⟩; (first | (have hp := fun wx (h : Ext w' wx) => (hb.trans h).boxCell) | (have hp := fun wx (h : Ext w' wx) => hp wx (hb.trans h))); have hW := Ext.trans (a := w) (by repeat (first | (with_reducible exact Ext.refl _) | (with_reducible assumption) | (with_reducible refine Ext.trans ?_ (Ext.alloc _ _)) | (with_reducible refine Ext.trans ?_ (Ext.drew _)))) hb; have hP := Ext.refl w'; clear hb)
      | (go_at_call 8; (with_reducible refine (rmake_any _ _ _ ht ht).mono ?_); rintro e w' ⟨rfl, hb⟩; have hW := Ext.trans (a := w) (by repeat (first | (with_reducible exact Ext.refl _) | (with_reducible assumption) | (with_reducible refine Ext.trans ?_ (Ext.alloc _ _)) | (with_reducible refine Ext.trans ?_ (Ext.drew _)))) hb; clear hb))
    go_ret2
    exact ⟨by simp [e1, e2], (hX0.trans (hW.trans (by repeat (first | exact Ext.refl _ | exact Ext.alloc _ _ | exact Ext.drewN _ _ | assumption | refine Ext.trans ?_ (Ext.alloc _ _) | refine Ext.trans ?_ (Ext.drew _) | refine Ext.trans ?_ (by assumption)))))⟩
  · have c' := bne_no c
    cases d : (hW' v == -1)
    · have d' := bne_yes d
      have e1 : releaseB v t = false := by first | (simp [releaseB, i, j, c, d]; done) | (simp only [releaseB, i, j, c, d]; rfl)
      have e2 : mkW (-1) (-1) = 0 := by simp [mkW, e1]
      go_enter Tryd.func23, Tryd.ntmps23
      go_wp2_with (first
        | (go_at_call 9; (with_reducible refine (rparts_any _ _ hv).mono ?_); rintro e w' ⟨rfl, hb⟩; have hW := Ext.trans2 hW (by repeat (first | exact Ext.refl _ | exact Ext.alloc _ _ | exact Ext.drewN _ _ | assumption | refine Ext.trans ?_ (Ext.alloc _ _) | refine Ext.trans ?_ (Ext.drew _) | refine Ext.trans ?_ (by assumption))) hb; clear hb)
        | (go_at_call 26; (with_reducible refine (ris_any _ _).mono ?_); rintro e w' ⟨rfl, hb⟩; (first | (have hp := fun wx (h : Ext w' wx) => (hb.trans h).boxCell) | (have hp := fun wx (h : Ext w' wx) => hp wx (hb.trans h))); have hW := Ext.trans (a := w) (by repeat (first | (with_reducible exact Ext.refl _) | (with_reducible assumption) | (with_reducible refine Ext.trans ?_ (Ext.alloc _ _)) | (with_reducible refine Ext.trans ?_ (Ext.drew _)))) hb; have hP := Ext.refl w'; clear hb)
        | (go_at_call 8; (with_reducible refine (rmake_any _ _ _ ht ht).mono ?_); rintro e w' ⟨rfl, hb⟩; have hW := Ext.trans (a := w) (by repeat (first | (with_reducible exact Ext.refl _) | (with_reducible assumption) | (with_reducible refine Ext.trans ?_ (Ext.alloc _ _)) | (with_reducible refine Ext.trans ?_ (Ext.drew _)))) hb; clear hb))
      go_ret2
      exact ⟨by simp [e1, e2], (hX0.trans (hW.trans (by repeat (first | exact Ext.refl _ | exact Ext.alloc _ _ | exact Ext.drewN _ _ | assumption | refine Ext.trans ?_ (Ext.alloc _ _) | refine Ext.trans ?_ (Ext.drew _) | refine Ext.trans ?_ (by assumption)))))⟩
    · have d' := bne_no d
      have e1 : releaseB v t = true := by first | (simp [releaseB, i, j, c, d]; done) | (simp only [releaseB, i, j, c, d]; rfl)
      have e2 := hide (show mkW (-1) (-1) = 0 by exact mk_none)
      have e3 := hide (mkB_of ms_none ms_none)
      go_enter Tryd.func23, Tryd.ntmps23
      go_wp2_with (first
        | (go_at_call 9; (with_reducible refine (rparts_any _ _ hv).mono ?_); rintro e w' ⟨rfl, hb⟩; have hW := Ext.trans2 hW (by repeat (first | exact Ext.refl _ | exact Ext.alloc _ _ | exact Ext.drewN _ _ | assumption | refine Ext.trans ?_ (Ext.alloc _ _) | refine Ext.trans ?_ (Ext.drew _) | refine Ext.trans ?_ (by assumption))) hb; clear hb)
        | (go_at_call 26; (with_reducible refine (ris_any _ _).mono ?_); rintro e w' ⟨rfl, hb⟩; (first | (have hp := fun wx (h : Ext w' wx) => (hb.trans h).boxCell) | (have hp := fun wx (h : Ext w' wx) => hp wx (hb.trans h))); have hW := Ext.trans (a := w) (by repeat (first | (with_reducible exact Ext.refl _) | (with_reducible assumption) | (with_reducible refine Ext.trans ?_ (Ext.alloc _ _)) | (with_reducible refine Ext.trans ?_ (Ext.drew _)))) hb; have hP := Ext.refl w'; clear hb)
        | (go_at_call 8; (with_reducible refine (rmake_any _ _ _ ht ht).mono ?_); rintro e w' ⟨rfl, hb⟩; have hW := Ext.trans (a := w) (by repeat (first | (with_reducible exact Ext.refl _) | (with_reducible assumption) | (with_reducible refine Ext.trans ?_ (Ext.alloc _ _)) | (with_reducible refine Ext.trans ?_ (Ext.drew _)))) hb; clear hb))
      go_ret2
      exact ⟨by simp [e1, e2.out, e3.out], (hX0.trans (hW.trans (by repeat (first | exact Ext.refl _ | exact Ext.alloc _ _ | exact Ext.drewN _ _ | assumption | refine Ext.trans ?_ (Ext.alloc _ _) | refine Ext.trans ?_ (Ext.drew _) | refine Ext.trans ?_ (by assumption)))))⟩
theorem rhand_any (v t u : Int) (w : World) (hv : InW v) (ht : InI t) (hu : InI u) :
    Calls Tryd.prog 21 #[.int .u64 v, .int .i64 t, .int .i64 u] w fun e w' => e = .returned (Value.tuple #[.int .u64 (handW v t u), .bool (handB v t u)]) ∧ Ext w w' := by
  have hX0 := Ext.refl w
  have hW := Ext.refl w
  have a0 := inI_ms (ms_h hv)
  cases i : isB v
  · have e1 : handB v t u = false := by first | (simp [handB, i]; done) | (simp only [handB, i]; rfl)
    have e2 : handW v t u = 0 := by simp [handW, e1]
    go_enter Tryd.func21, Tryd.ntmps21
    go_wp2_with (first
      | (go_at_call 9; (with_reducible refine (rparts_any _ _ hv).mono ?_); rintro e w' ⟨rfl, hb⟩; have hW := Ext.trans2 hW (by repeat (first | exact Ext.refl _ | exact Ext.alloc _ _ | exact Ext.drewN _ _ | assumption | refine Ext.trans ?_ (Ext.alloc _ _) | refine Ext.trans ?_ (Ext.drew _) | refine Ext.trans ?_ (by assumption))) hb; clear hb)
      | (go_at_call 26; (with_reducible refine (ris_any _ _).mono ?_); rintro e w' ⟨rfl, hb⟩; (first | (have hp := fun wx (h : Ext w' wx) => (hb.trans h).boxCell) | (have hp := fun wx (h : Ext w' wx) => hp wx (hb.trans h))); have hW := Ext.trans (a := w) (by repeat (first | (with_reducible exact Ext.refl _) | (with_reducible assumption) | (with_reducible refine Ext.trans ?_ (Ext.alloc _ _)) | (with_reducible refine Ext.trans ?_ (Ext.drew _)))) hb; have hP := Ext.refl w'; clear hb)
      | (go_at_call 8; (with_reducible refine (rmake_any _ _ _ hu a0).mono ?_); rintro e w' ⟨rfl, hb⟩; have hW := Ext.trans (a := w) (by repeat (first | (with_reducible exact Ext.refl _) | (with_reducible assumption) | (with_reducible refine Ext.trans ?_ (Ext.alloc _ _)) | (with_reducible refine Ext.trans ?_ (Ext.drew _)))) hb; clear hb))
    go_ret2
    exact ⟨by simp [e1, e2], (hX0.trans (hW.trans (by repeat (first | exact Ext.refl _ | exact Ext.alloc _ _ | exact Ext.drewN _ _ | assumption | refine Ext.trans ?_ (Ext.alloc _ _) | refine Ext.trans ?_ (Ext.drew _) | refine Ext.trans ?_ (by assumption)))))⟩
  cases j : thB t
  · have e1 : handB v t u = false := by first | (simp [handB, j]; done) | (simp only [handB, j]; rfl)
    have e2 : handW v t u = 0 := by simp [handW, e1]
    go_enter Tryd.func21, Tryd.ntmps21
    go_wp2_with (first
      | (go_at_call 9; (with_reducible refine (rparts_any _ _ hv).mono ?_); rintro e w' ⟨rfl, hb⟩; have hW := Ext.trans2 hW (by repeat (first | exact Ext.refl _ | exact Ext.alloc _ _ | exact Ext.drewN _ _ | assumption | refine Ext.trans ?_ (Ext.alloc _ _) | refine Ext.trans ?_ (Ext.drew _) | refine Ext.trans ?_ (by assumption))) hb; clear hb)
      | (go_at_call 26; (with_reducible refine (ris_any _ _).mono ?_); rintro e w' ⟨rfl, hb⟩; (first | (have hp := fun wx (h : Ext w' wx) => (hb.trans h).boxCell) | (have hp := fun wx (h : Ext w' wx) => hp wx (hb.trans h))); have hW := Ext.trans (a := w) (by repeat (first | (with_reducible exact Ext.refl _) | (with_reducible assumption) | (with_reducible refine Ext.trans ?_ (Ext.alloc _ _)) | (with_reducible refine Ext.trans ?_ (Ext.drew _)))) hb; have hP := Ext.refl w'; clear hb)
      | (go_at_call 8; (with_reducible refine (rmake_any _ _ _ hu a0).mono ?_); rintro e w' ⟨rfl, hb⟩; have hW := Ext.trans (a := w) (by repeat (first | (with_reducible exact Ext.refl _) | (with_reducible assumption) | (with_reducible refine Ext.trans ?_ (Ext.alloc _ _)) | (with_reducible refine Ext.trans ?_ (Ext.drew _)))) hb; clear hb))
    go_ret2
    exact ⟨by simp [e1, e2], (hX0.trans (hW.trans (by repeat (first | exact Ext.refl _ | exact Ext.alloc _ _ | exact Ext.drewN _ _ | assumption | refine Ext.trans ?_ (Ext.alloc _ _) | refine Ext.trans ?_ (Ext.drew _) | refine Ext.trans ?_ (by assumption)))))⟩
  cases k : thB u
  · have e1 : handB v t u = false := by first | (simp [handB, i, j, k]; done) | (simp only [handB, i, j, k]; rfl)
    have e2 : handW v t u = 0 := by simp [handW, e1]
    go_enter Tryd.func21, Tryd.ntmps21
    go_wp2_with (first
      | (go_at_call 9; (with_reducible refine (rparts_any _ _ hv).mono ?_); rintro e w' ⟨rfl, hb⟩; have hW := Ext.trans2 hW (by repeat (first | exact Ext.refl _ | exact Ext.alloc _ _ | exact Ext.drewN _ _ | assumption | refine Ext.trans ?_ (Ext.alloc _ _) | refine Ext.trans ?_ (Ext.drew _) | refine Ext.trans ?_ (by assumption))) hb; clear hb)
      | (go_at_call 26; (with_reducible refine (ris_any _ _).mono ?_); rintro e w' ⟨rfl, hb⟩; (first | (have hp := fun wx (h : Ext w' wx) => (hb.trans h).boxCell) | (have hp := fun wx (h : Ext w' wx) => hp wx (hb.trans h))); have hW := Ext.trans (a := w) (by repeat (first | (with_reducible exact Ext.refl _) | (with_reducible assumption) | (with_reducible refine Ext.trans ?_ (Ext.alloc _ _)) | (with_reducible refine Ext.trans ?_ (Ext.drew _)))) hb; have hP := Ext.refl w'; clear hb)
      | (go_at_call 8; (with_reducible refine (rmake_any _ _ _ hu a0).mono ?_); rintro e w' ⟨rfl, hb⟩; have hW := Ext.trans (a := w) (by repeat (first | (with_reducible exact Ext.refl _) | (with_reducible assumption) | (with_reducible refine Ext.trans ?_ (Ext.alloc _ _)) | (with_reducible refine Ext.trans ?_ (Ext.drew _)))) hb; clear hb))
    go_ret2
    exact ⟨by simp [e1, e2], (hX0.trans (hW.trans (by repeat (first | exact Ext.refl _ | exact Ext.alloc _ _ | exact Ext.drewN _ _ | assumption | refine Ext.trans ?_ (Ext.alloc _ _) | refine Ext.trans ?_ (Ext.drew _) | refine Ext.trans ?_ (by assumption)))))⟩
  cases c : (oW v == t)
  · have c' := bne_yes c
    have e1 : handB v t u = false := by first | (simp [handB, i, j, k, c]; done) | (simp only [handB, i, j, k, c]; rfl)
    have e2 : handW v t u = 0 := by simp [handW, e1]
    go_enter Tryd.func21, Tryd.ntmps21
    go_wp2_with (first
      | (go_at_call 9; (with_reducible refine (rparts_any _ _ hv).mono ?_); rintro e w' ⟨rfl, hb⟩; have hW := Ext.trans2 hW (by repeat (first | exact Ext.refl _ | exact Ext.alloc _ _ | exact Ext.drewN _ _ | assumption | refine Ext.trans ?_ (Ext.alloc _ _) | refine Ext.trans ?_ (Ext.drew _) | refine Ext.trans ?_ (by assumption))) hb; clear hb)
      | (go_at_call 26; (with_reducible refine (ris_any _ _).mono ?_); rintro e w' ⟨rfl, hb⟩; (first | (have hp := fun wx (h : Ext w' wx) => (hb.trans h).boxCell) | (have hp := fun wx (h : Ext w' wx) => hp wx (hb.trans h))); have hW := Ext.trans (a := w) (by repeat (first | (with_reducible exact Ext.refl _) | (with_reducible assumption) | (with_reducible refine Ext.trans ?_ (Ext.alloc _ _)) | (with_reducible refine Ext.trans ?_ (Ext.drew _)))) hb; have hP := Ext.refl w'; clear hb)
      | (go_at_call 8; (with_reducible refine (rmake_any _ _ _ hu a0).mono ?_); rintro e w' ⟨rfl, hb⟩; have hW := Ext.trans (a := w) (by repeat (first | (with_reducible exact Ext.refl _) | (with_reducible assumption) | (with_reducible refine Ext.trans ?_ (Ext.alloc _ _)) | (with_reducible refine Ext.trans ?_ (Ext.drew _)))) hb; clear hb))
    go_ret2
    exact ⟨by simp [e1, e2], (hX0.trans (hW.trans (by repeat (first | exact Ext.refl _ | exact Ext.alloc _ _ | exact Ext.drewN _ _ | assumption | refine Ext.trans ?_ (Ext.alloc _ _) | refine Ext.trans ?_ (Ext.drew _) | refine Ext.trans ?_ (by assumption)))))⟩
  · have c' := bne_no c
    cases d : (t == u)
    · have d2 : (u == t) = false := by rw [Bool.beq_comm]; exact d
      have d' := bne_yes d2
      have e1 : handB v t u = true := by first | (simp [handB, i, j, k, c, d']; done) | (simp only [handB, i, j, k, c, d']; rfl)
      have e2 := hide (show handW v t u = mkW u (hW' v) by (unfold handW; rw [if_pos e1]))
      have e3 := hide (mkB_of (ms_of_th k) (ms_h hv))
      go_enter Tryd.func21, Tryd.ntmps21
      go_wp2_with (first
        | (go_at_call 9; (with_reducible refine (rparts_any _ _ hv).mono ?_); rintro e w' ⟨rfl, hb⟩; have hW := Ext.trans2 hW (by repeat (first | exact Ext.refl _ | exact Ext.alloc _ _ | exact Ext.drewN _ _ | assumption | refine Ext.trans ?_ (Ext.alloc _ _) | refine Ext.trans ?_ (Ext.drew _) | refine Ext.trans ?_ (by assumption))) hb; clear hb)
        | (go_at_call 26; (with_reducible refine (ris_any _ _).mono ?_); rintro e w' ⟨rfl, hb⟩; (first | (have hp := fun wx (h : Ext w' wx) => (hb.trans h).boxCell) | (have hp := fun wx (h : Ext w' wx) => hp wx (hb.trans h))); have hW := Ext.trans (a := w) (by repeat (first | (with_reducible exact Ext.refl _) | (with_reducible assumption) | (with_reducible refine Ext.trans ?_ (Ext.alloc _ _)) | (with_reducible refine Ext.trans ?_ (Ext.drew _)))) hb; have hP := Ext.refl w'; clear hb)
        | (go_at_call 8; (with_reducible refine (rmake_any _ _ _ hu a0).mono ?_); rintro e w' ⟨rfl, hb⟩; have hW := Ext.trans (a := w) (by repeat (first | (with_reducible exact Ext.refl _) | (with_reducible assumption) | (with_reducible refine Ext.trans ?_ (Ext.alloc _ _)) | (with_reducible refine Ext.trans ?_ (Ext.drew _)))) hb; clear hb))
      go_ret2
      exact ⟨by simp [e1, e2.out, e3.out], (hX0.trans (hW.trans (by repeat (first | exact Ext.refl _ | exact Ext.alloc _ _ | exact Ext.drewN _ _ | assumption | refine Ext.trans ?_ (Ext.alloc _ _) | refine Ext.trans ?_ (Ext.drew _) | refine Ext.trans ?_ (by assumption)))))⟩
    · have d2 : (u == t) = true := by rw [Bool.beq_comm]; exact d
      have d' := bne_no d2
      have e1 : handB v t u = false := by first | (simp [handB, i, j, k, c, d']; done) | (simp only [handB, i, j, k, c, d']; rfl)
      have e2 : handW v t u = 0 := by simp [handW, e1]
      go_enter Tryd.func21, Tryd.ntmps21
      go_wp2_with (first
        | (go_at_call 9; (with_reducible refine (rparts_any _ _ hv).mono ?_); rintro e w' ⟨rfl, hb⟩; have hW := Ext.trans2 hW (by repeat (first | exact Ext.refl _ | exact Ext.alloc _ _ | exact Ext.drewN _ _ | assumption | refine Ext.trans ?_ (Ext.alloc _ _) | refine Ext.trans ?_ (Ext.drew _) | refine Ext.trans ?_ (by assumption))) hb; clear hb)
        | (go_at_call 26; (with_reducible refine (ris_any _ _).mono ?_); rintro e w' ⟨rfl, hb⟩; (first | (have hp := fun wx (h : Ext w' wx) => (hb.trans h).boxCell) | (have hp := fun wx (h : Ext w' wx) => hp wx (hb.trans h))); have hW := Ext.trans (a := w) (by repeat (first | (with_reducible exact Ext.refl _) | (with_reducible assumption) | (with_reducible refine Ext.trans ?_ (Ext.alloc _ _)) | (with_reducible refine Ext.trans ?_ (Ext.drew _)))) hb; have hP := Ext.refl w'; clear hb)
        | (go_at_call 8; (with_reducible refine (rmake_any _ _ _ hu a0).mono ?_); rintro e w' ⟨rfl, hb⟩; have hW := Ext.trans (a := w) (by repeat (first | (with_reducible exact Ext.refl _) | (with_reducible assumption) | (with_reducible refine Ext.trans ?_ (Ext.alloc _ _)) | (with_reducible refine Ext.trans ?_ (Ext.drew _)))) hb; clear hb))
      go_ret2
      exact ⟨by simp [e1, e2], (hX0.trans (hW.trans (by repeat (first | exact Ext.refl _ | exact Ext.alloc _ _ | exact Ext.drewN _ _ | assumption | refine Ext.trans ?_ (Ext.alloc _ _) | refine Ext.trans ?_ (Ext.drew _) | refine Ext.trans ?_ (by assumption)))))⟩
end Go.Proofs.YtpbjlelbdjopaaaDoor
