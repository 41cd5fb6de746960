/- What is told of a word, and the functions of a word's parts that are handed on. -/
import Derived.Test.YtpbjlelbdjopaaaDoorP1
import Derived.BigRegion
namespace Go.Proofs.YtpbjlelbdjopaaaDoor
open Go.RowKit
set_option linter.unusedVariables false
set_option linter.unusedSimpArgs false

theorem eqd (a b : Int) : (a == b) = decide (a = b) := rfl
theorem owner_any (v : Int) (w : World) (hG : Glob w) (hv : InW v) : Calls Tryd.prog 10 #[.int .u64 v] w fun e w' => e = .returned (.int .i64 (oW v)) ∧ Ext w w' := by
  have hX0 := Ext.refl w
  have hW := Ext.refl w
  go_enter Tryd.func10, Tryd.ntmps10
  go_wp2_with (go_at_call 27; (with_reducible refine (read_any _ _ (hG.ext (hX0.trans hW)) hv).mono ?_); rintro e w' ⟨rfl, hb⟩; have hW := Ext.trans2 hW (by repeat (first | exact Ext.refl _ | exact Ext.alloc _ _ | exact Ext.drewN _ _ | assumption | refine Ext.trans ?_ (Ext.alloc _ _) | refine Ext.trans ?_ (Ext.drew _) | refine Ext.trans ?_ (by assumption))) hb; (try have hV := Ext.trans2 hV (by repeat (first | exact Ext.refl _ | exact Ext.alloc _ _ | exact Ext.drewN _ _ | assumption | refine Ext.trans ?_ (Ext.alloc _ _) | refine Ext.trans ?_ (Ext.drew _) | refine Ext.trans ?_ (by assumption))) hb); clear hb)
  go_ret
  exact ⟨rfl, (hX0.trans (hW.trans (by repeat (first | exact Ext.refl _ | exact Ext.alloc _ _ | exact Ext.drewN _ _ | assumption | refine Ext.trans ?_ (Ext.alloc _ _) | refine Ext.trans ?_ (Ext.drew _) | refine Ext.trans ?_ (by assumption)))))⟩
theorem head_any (v : Int) (w : World) (hG : Glob w) (hv : InW v) : Calls Tryd.prog 11 #[.int .u64 v] w fun e w' => e = .returned (.int .i64 (hW' v)) ∧ Ext w w' := by
  have hX0 := Ext.refl w
  have hW := Ext.refl w
  go_enter Tryd.func11, Tryd.ntmps11
  go_wp2_with (go_at_call 27; (with_reducible refine (read_any _ _ (hG.ext (hX0.trans hW)) hv).mono ?_); rintro e w' ⟨rfl, hb⟩; have hW := Ext.trans2 hW (by repeat (first | exact Ext.refl _ | exact Ext.alloc _ _ | exact Ext.drewN _ _ | assumption | refine Ext.trans ?_ (Ext.alloc _ _) | refine Ext.trans ?_ (Ext.drew _) | refine Ext.trans ?_ (by assumption))) hb; (try have hV := Ext.trans2 hV (by repeat (first | exact Ext.refl _ | exact Ext.alloc _ _ | exact Ext.drewN _ _ | assumption | refine Ext.trans ?_ (Ext.alloc _ _) | refine Ext.trans ?_ (Ext.drew _) | refine Ext.trans ?_ (by assumption))) hb); clear hb)
  go_ret
  exact ⟨rfl, (hX0.trans (hW.trans (by repeat (first | exact Ext.refl _ | exact Ext.alloc _ _ | exact Ext.drewN _ _ | assumption | refine Ext.trans ?_ (Ext.alloc _ _) | refine Ext.trans ?_ (Ext.drew _) | refine Ext.trans ?_ (by assumption)))))⟩
def freeB (v : Int) : Bool := isB v && decide (oW v = -1)
theorem free_any (v : Int) (w : World) (hG : Glob w) (hv : InW v) : Calls Tryd.prog 12 #[.int .u64 v] w fun e w' => e = .returned (.bool (freeB v)) ∧ Ext w w' := by
  have hX0 := Ext.refl w
  have hW := Ext.refl w
  cases i : isB v
  · go_enter Tryd.func12, Tryd.ntmps12
    go_wp2_with (go_at_call 27; (with_reducible refine (read_any _ _ (hG.ext (hX0.trans hW)) hv).mono ?_); rintro e w' ⟨rfl, hb⟩; have hW := Ext.trans2 hW (by repeat (first | exact Ext.refl _ | exact Ext.alloc _ _ | exact Ext.drewN _ _ | assumption | refine Ext.trans ?_ (Ext.alloc _ _) | refine Ext.trans ?_ (Ext.drew _) | refine Ext.trans ?_ (by assumption))) hb; (try have hV := Ext.trans2 hV (by repeat (first | exact Ext.refl _ | exact Ext.alloc _ _ | exact Ext.drewN _ _ | assumption | refine Ext.trans ?_ (Ext.alloc _ _) | refine Ext.trans ?_ (Ext.drew _) | refine Ext.trans ?_ (by assumption))) hb); clear hb)
    go_ret
    exact ⟨by simp [freeB, i], (hX0.trans (hW.trans (by repeat (first | exact Ext.refl _ | exact Ext.alloc _ _ | exact Ext.drewN _ _ | assumption | refine Ext.trans ?_ (Ext.alloc _ _) | refine Ext.trans ?_ (Ext.drew _) | refine Ext.trans ?_ (by assumption)))))⟩
  · go_enter Tryd.func12, Tryd.ntmps12
    go_wp2_with (go_at_call 27; (with_reducible refine (read_any _ _ (hG.ext (hX0.trans hW)) hv).mono ?_); rintro e w' ⟨rfl, hb⟩; have hW := Ext.trans2 hW (by repeat (first | exact Ext.refl _ | exact Ext.alloc _ _ | exact Ext.drewN _ _ | assumption | refine Ext.trans ?_ (Ext.alloc _ _) | refine Ext.trans ?_ (Ext.drew _) | refine Ext.trans ?_ (by assumption))) hb; (try have hV := Ext.trans2 hV (by repeat (first | exact Ext.refl _ | exact Ext.alloc _ _ | exact Ext.drewN _ _ | assumption | refine Ext.trans ?_ (Ext.alloc _ _) | refine Ext.trans ?_ (Ext.drew _) | refine Ext.trans ?_ (by assumption))) hb); clear hb)
    go_ret
    exact ⟨by simp [freeB, i, eqd], (hX0.trans (hW.trans (by repeat (first | exact Ext.refl _ | exact Ext.alloc _ _ | exact Ext.drewN _ _ | assumption | refine Ext.trans ?_ (Ext.alloc _ _) | refine Ext.trans ?_ (Ext.drew _) | refine Ext.trans ?_ (by assumption)))))⟩

/-- A captured int. -/
def Cap (w : World) (b : Nat) (t : Int) : Prop := ∀ w', Ext w w' → w'.cell? ⟨b, 0, none⟩ = some (.int .i64 t)
theorem Cap.two {w : World} {b : Nat} {t : Int} (h : Cap w b t) (A B : Obj) : ((w.alloc A).alloc B).cell? ⟨b, 0, none⟩ = some (.int .i64 t) := h _ ((Ext.alloc _ _).trans (Ext.alloc _ _))
theorem two0 (w : World) (x y : Value) (B : Obj) : ((w.alloc (Obj.cells #[x, y] 40)).alloc B).cell? ⟨w.heap.size, 0, none⟩ = some x := (Ext.alloc (w.alloc (Obj.cells #[x, y] 40)) B).boxCell 0
theorem two1 (w : World) (x y : Value) (B : Obj) : ((w.alloc (Obj.cells #[x, y] 40)).alloc B).cell? ⟨w.heap.size, 1, none⟩ = some y := (Ext.alloc (w.alloc (Obj.cells #[x, y] 40)) B).boxCell 1

theorem ctake_any (o h t : Int) (b : Nat) (w : World) (hc : Cap w b t) :
    Calls Tryd.prog 29 #[Value.agg #[.int .i64 (o), .int .i64 (h)], .pointer (some ⟨b, 0, none⟩)] w fun e w' => e = .returned (.tuple #[Value.agg #[.int .i64 (t), .int .i64 (h)], .bool (o == -1)]) ∧ Ext w w' := by
  have q2 := hc.two (Obj.cells #[.int .i64 (o), .int .i64 h] 40)
  have q0 := two0 w (.int .i64 (o)) (.int .i64 h)
  have q1 := two1 w (.int .i64 (o)) (.int .i64 h)
  go_enter Tryd.func29, Tryd.ntmps29
  go_wp2_with fail
  go_region
  all_goals (try go_wp2)
  refine bodyPost_ret (v := .tuple #[Value.agg #[.int .i64 (t), .int .i64 (h)], .bool (o == -1)]) (by simp [results, Tryd.results29, go_sem, *]) rfl ⟨rfl, ?_⟩
  (repeat (first | (with_reducible exact Ext.refl _) | (with_reducible refine Ext.trans ?_ (Ext.drew _)) | (with_reducible refine Ext.trans ?_ (Ext.alloc _ _))))
theorem bne_no {a b : Int} (c : (a == b) = true) : (a != b) = false := by simp [bne, c]
theorem bne_yes {a b : Int} (c : (a == b) = false) : (a != b) = true := by simp [bne, c]
theorem cdrain_any (o h t : Int) (b : Nat) (w : World) (hc : Cap w b t) :
    Calls Tryd.prog 31 #[Value.agg #[.int .i64 (o), .int .i64 (h)], .pointer (some ⟨b, 0, none⟩)] w fun e w' => e = .returned (.tuple #[Value.agg #[.int .i64 (t), .int .i64 (-1)], .bool (o == t && h != -1)]) ∧ Ext w w' := by
  cases c : (o == t)
  · have d : decide (o = t) = false := c
    have q2 := hc.two (Obj.cells #[.int .i64 (o), .int .i64 h] 40)
    have q0 := two0 w (.int .i64 (o)) (.int .i64 h)
    have q1 := two1 w (.int .i64 (o)) (.int .i64 h)
    go_enter Tryd.func31, Tryd.ntmps31
    go_wp2_with fail
    go_region
    all_goals (try go_wp2)
    refine bodyPost_ret (v := .tuple #[Value.agg #[.int .i64 (t), .int .i64 (-1)], .bool (false && h != -1)]) (by simp [results, Tryd.results31, go_sem, *]) rfl ⟨rfl, ?_⟩
    (repeat (first | (with_reducible exact Ext.refl _) | (with_reducible refine Ext.trans ?_ (Ext.drew _)) | (with_reducible refine Ext.trans ?_ (Ext.alloc _ _))))
  · have d : decide (o = t) = true := c
    have q2 := hc.two (Obj.cells #[.int .i64 (o), .int .i64 h] 40)
    have q0 := two0 w (.int .i64 (o)) (.int .i64 h)
    have q1 := two1 w (.int .i64 (o)) (.int .i64 h)
    go_enter Tryd.func31, Tryd.ntmps31
    go_wp2_with fail
    go_region
    all_goals (try go_wp2)
    refine bodyPost_ret (v := .tuple #[Value.agg #[.int .i64 (t), .int .i64 (-1)], .bool (true && h != -1)]) (by simp [results, Tryd.results31, go_sem, *]) rfl ⟨rfl, ?_⟩
    (repeat (first | (with_reducible exact Ext.refl _) | (with_reducible refine Ext.trans ?_ (Ext.drew _)) | (with_reducible refine Ext.trans ?_ (Ext.alloc _ _))))
theorem crelease_any (o h t : Int) (b : Nat) (w : World) (hc : Cap w b t) :
    Calls Tryd.prog 34 #[Value.agg #[.int .i64 (o), .int .i64 (h)], .pointer (some ⟨b, 0, none⟩)] w fun e w' => e = .returned (.tuple #[Value.agg #[.int .i64 (-1), .int .i64 (-1)], .bool (o == t && h == -1)]) ∧ Ext w w' := by
  cases c : (o == t)
  · have d : decide (o = t) = false := c
    have q2 := hc.two (Obj.cells #[.int .i64 (o), .int .i64 h] 40)
    have q0 := two0 w (.int .i64 (o)) (.int .i64 h)
    have q1 := two1 w (.int .i64 (o)) (.int .i64 h)
    go_enter Tryd.func34, Tryd.ntmps34
    go_wp2_with fail
    go_region
    all_goals (try go_wp2)
    refine bodyPost_ret (v := .tuple #[Value.agg #[.int .i64 (-1), .int .i64 (-1)], .bool (false && h == -1)]) (by simp [results, Tryd.results34, go_sem, *]) rfl ⟨rfl, ?_⟩
    (repeat (first | (with_reducible exact Ext.refl _) | (with_reducible refine Ext.trans ?_ (Ext.drew _)) | (with_reducible refine Ext.trans ?_ (Ext.alloc _ _))))
  · have d : decide (o = t) = true := c
    have q2 := hc.two (Obj.cells #[.int .i64 (o), .int .i64 h] 40)
    have q0 := two0 w (.int .i64 (o)) (.int .i64 h)
    have q1 := two1 w (.int .i64 (o)) (.int .i64 h)
    go_enter Tryd.func34, Tryd.ntmps34
    go_wp2_with fail
    go_region
    all_goals (try go_wp2)
    refine bodyPost_ret (v := .tuple #[Value.agg #[.int .i64 (-1), .int .i64 (-1)], .bool (true && h == -1)]) (by simp [results, Tryd.results34, go_sem, *]) rfl ⟨rfl, ?_⟩
    (repeat (first | (with_reducible exact Ext.refl _) | (with_reducible refine Ext.trans ?_ (Ext.drew _)) | (with_reducible refine Ext.trans ?_ (Ext.alloc _ _))))
set_option maxHeartbeats 2000000 in
theorem cpush_any (o h t : Int) (b : Nat) (w : World) (hc : Cap w b t) :
    Calls Tryd.prog 30 #[Value.agg #[.int .i64 (o), .int .i64 (h)], .pointer (some ⟨b, 0, none⟩)] w fun e w' => e = .returned (.tuple #[Value.agg #[.int .i64 (o), .int .i64 (t)], .bool (o != -1 && o != t && h != t)]) ∧ Ext w w' := by
  cases c0 : (o == -1)
  · have d0 : decide (o = -1) = false := c0
    have n0 := bne_yes c0
    cases c : (o == t)
    · have d : decide (o = t) = false := c
      have n := bne_yes c
      rw [n0, n]
      have q2 := hc.two (Obj.cells #[.int .i64 (o), .int .i64 h] 40)
      have q0 := two0 w (.int .i64 (o)) (.int .i64 h)
      have q1 := two1 w (.int .i64 (o)) (.int .i64 h)
      go_enter Tryd.func30, Tryd.ntmps30
      go_wp2_with fail
      go_region
      all_goals (try go_wp2)
      refine bodyPost_ret (v := .tuple #[Value.agg #[.int .i64 (o), .int .i64 (t)], .bool (true && true && h != t)]) (by simp [results, Tryd.results30, go_sem, *]) rfl ⟨rfl, ?_⟩
      (repeat (first | (with_reducible exact Ext.refl _) | (with_reducible refine Ext.trans ?_ (Ext.drew _)) | (with_reducible refine Ext.trans ?_ (Ext.alloc _ _))))
    · have d : decide (o = t) = true := c
      have n := bne_no c
      rw [n0, n]
      have q2 := hc.two (Obj.cells #[.int .i64 (o), .int .i64 h] 40)
      have q0 := two0 w (.int .i64 (o)) (.int .i64 h)
      have q1 := two1 w (.int .i64 (o)) (.int .i64 h)
      go_enter Tryd.func30, Tryd.ntmps30
      go_wp2_with fail
      go_region
      all_goals (try go_wp2)
      refine bodyPost_ret (v := .tuple #[Value.agg #[.int .i64 (o), .int .i64 (t)], .bool (true && false && h != t)]) (by simp [results, Tryd.results30, go_sem, *]) rfl ⟨rfl, ?_⟩
      (repeat (first | (with_reducible exact Ext.refl _) | (with_reducible refine Ext.trans ?_ (Ext.drew _)) | (with_reducible refine Ext.trans ?_ (Ext.alloc _ _))))
  · have d0 : o = -1 := by simpa using c0
    clear c0
    subst d0
    have q2 := hc.two (Obj.cells #[.int .i64 (-1), .int .i64 h] 40)
    have q0 := two0 w (.int .i64 (-1)) (.int .i64 h)
    have q1 := two1 w (.int .i64 (-1)) (.int .i64 h)
    go_enter Tryd.func30, Tryd.ntmps30
    go_wp2_with fail
    go_region
    all_goals (try go_wp2)
    refine bodyPost_ret (v := .tuple #[Value.agg #[.int .i64 (-1), .int .i64 (t)], .bool (false && -1 != t && h != t)]) (by simp [results, Tryd.results30, go_sem, *]) rfl ⟨rfl, ?_⟩
    (repeat (first | (with_reducible exact Ext.refl _) | (with_reducible refine Ext.trans ?_ (Ext.drew _)) | (with_reducible refine Ext.trans ?_ (Ext.alloc _ _))))
set_option maxHeartbeats 1000000 in
theorem chand_any (o k t u : Int) (b c : Nat) (w : World) (hG : Glob w) (hu : InI u) (hc : Cap w c u) (ht : Cap w b t) :
    Calls Tryd.prog 32 #[Value.agg #[.int .i64 (o), .int .i64 (k)], .pointer (some ⟨c, 0, none⟩), .pointer (some ⟨b, 0, none⟩)] w fun e w' => e = .returned (.tuple #[Value.agg #[.int .i64 (u), .int .i64 (k)], .bool (o == t && (thB u && u != t))]) ∧ Ext w w' := by
  have q2 := fun A B => hc.two A B
  go_enter Tryd.func32, Tryd.ntmps32
  go_wp2_with fail
  have hY := fun w' (h : Ext ((w.alloc (Obj.cells #[.int .i64 o, .int .i64 k] 40)).alloc (Obj.cells #[.int .i64 0, .int .i64 0] 40)) w') => h.boxCell
  have hYf := fun w' (h : Ext ((w.alloc (Obj.cells #[.int .i64 o, .int .i64 k] 40)).alloc (Obj.cells #[.int .i64 0, .int .i64 0] 40)) w') => h.boxFree
  simp only [World.size_alloc] at hY hYf
  have hX := fun w' (h : Ext ((w.alloc (Obj.cells #[.int .i64 o, .int .i64 k] 40)).alloc (Obj.cells #[.int .i64 0, .int .i64 0] 40)) w') => ((Ext.alloc (w.alloc (Obj.cells #[.int .i64 o, .int .i64 k] 40)) (Obj.cells #[.int .i64 0, .int .i64 0] 40)).trans h).boxCell
  have hXf := fun w' (h : Ext ((w.alloc (Obj.cells #[.int .i64 o, .int .i64 k] 40)).alloc (Obj.cells #[.int .i64 0, .int .i64 0] 40)) w') => ((Ext.alloc (w.alloc (Obj.cells #[.int .i64 o, .int .i64 k] 40)) (Obj.cells #[.int .i64 0, .int .i64 0] 40)).trans h).boxFree
  have hX0 : Ext w ((w.alloc (Obj.cells #[.int .i64 o, .int .i64 k] 40)).alloc (Obj.cells #[.int .i64 0, .int .i64 0] 40)) := (Ext.alloc _ _).trans (Ext.alloc _ _)
  generalize (w.alloc (Obj.cells #[.int .i64 o, .int .i64 k] 40)).alloc (Obj.cells #[.int .i64 0, .int .i64 0] 40) = W0 at *
  have hW := Ext.refl W0
  have hu0 := fun w' (h : Ext W0 w') => hc _ (hX0.trans h)
  have ht0 := fun w' (h : Ext W0 w') => ht _ (hX0.trans h)
  (with_reducible refine (thread_any _ _ (hG.ext (hX0.trans hW)) hu).mono ?_)
  rintro e w' ⟨rfl, hb⟩
  have hW := hW.trans hb
  clear hb
  go_wp2
  all_goals
    refine bodyPost_ret (v := .tuple #[Value.agg #[.int .i64 (u), .int .i64 (k)], .bool (o == t && (thB u && u != t))]) (by simp [results, Tryd.results32, go_sem, *]) rfl ⟨rfl, ?_⟩
    ((repeat (with_reducible refine Ext.set ?_ (by simp) _)); exact (hX0.trans (hW.trans (by repeat (first | exact Ext.refl _ | exact Ext.alloc _ _ | exact Ext.drewN _ _ | assumption | refine Ext.trans ?_ (Ext.alloc _ _) | refine Ext.trans ?_ (Ext.drew _) | refine Ext.trans ?_ (by assumption))))))
end Go.Proofs.YtpbjlelbdjopaaaDoor
