/- The document's commit. -/
import Derived.Test.YtacneghgimfklaaJA
namespace Go.Proofs.Ytacneghgimfklaa
open Go.RowKit Go.Maps
set_option linter.unusedSimpArgs false
set_option linter.unusedVariables false
set_option maxRecDepth 100000
set_option maxHeartbeats 8000000


/-- One who called nothing; a commit of another object, or of another thread. -/
theorem rcom_0 (cl kd ob ar k t o a r : Int) (A : Option Addr) (n c : Nat) (w : World) : Calls Try.prog 25 #[.agg #[Value.int .i64 cl, .bool false, .int .i64 kd, .int .i64 ob, .int .i64 ar, .slice A n c], (Value.agg #[.int .i64 k, .int .i64 t, .int .i64 o, .int .i64 a, .int .i64 r])] w fun e w' => e = .returned (.bool false) ∧ Ext w w' := by
  go_enter Try.func25, Try.ntmps25
  go_wp2
  go_ret
  exact ⟨by simp, (by repeat (first | exact Ext.refl _ | exact Ext.alloc _ _ | exact Ext.drew _ | refine Ext.trans ?_ (Ext.alloc _ _) | refine Ext.trans ?_ (Ext.drew _)))⟩
theorem rcom_o9 (cl ob ar k t o a r : Int) (A : Option Addr) (n c : Nat) (w : World) (h : (o != 0) = true ∨ (a != ar) = true) : Calls Try.prog 25 #[.agg #[Value.int .i64 cl, .bool true, .int .i64 9, .int .i64 ob, .int .i64 ar, .slice A n c], (Value.agg #[.int .i64 k, .int .i64 t, .int .i64 o, .int .i64 a, .int .i64 r])] w fun e w' => e = .returned (.bool false) ∧ Ext w w' := by
  cases q1 : (o != 0)
  · have q2 : (a != ar) = true := by rw [q1] at h; simpa using h
    clear h
    go_enter Try.func25, Try.ntmps25
    go_wp2
    go_ret
    exact ⟨by simp, (by repeat (first | exact Ext.refl _ | exact Ext.alloc _ _ | exact Ext.drew _ | refine Ext.trans ?_ (Ext.alloc _ _) | refine Ext.trans ?_ (Ext.drew _)))⟩
  · clear h
    go_enter Try.func25, Try.ntmps25
    go_wp2
    go_ret
    exact ⟨by simp, (by repeat (first | exact Ext.refl _ | exact Ext.alloc _ _ | exact Ext.drew _ | refine Ext.trans ?_ (Ext.alloc _ _) | refine Ext.trans ?_ (Ext.drew _)))⟩
theorem rcom_o (cl kd ob ar k t o a r : Int) (A : Option Addr) (n c : Nat) (w : World) (k9 : (kd == 9) = false) (h : (o != ob) = true) : Calls Try.prog 25 #[.agg #[Value.int .i64 cl, .bool true, .int .i64 kd, .int .i64 ob, .int .i64 ar, .slice A n c], (Value.agg #[.int .i64 k, .int .i64 t, .int .i64 o, .int .i64 a, .int .i64 r])] w fun e w' => e = .returned (.bool false) ∧ Ext w w' := by
  go_enter Try.func25, Try.ntmps25
  go_wp2
  go_ret
  exact ⟨by simp, (by repeat (first | exact Ext.refl _ | exact Ext.alloc _ _ | exact Ext.drew _ | refine Ext.trans ?_ (Ext.alloc _ _) | refine Ext.trans ?_ (Ext.drew _)))⟩
theorem rcom_4 {w : World} {B c : Nat} {A : Option Addr} (cl ob ar k t o a r : Int) (l : List Ev) (h : Lw w B (.slice A l.length c) l) (hl : l.length ≤ 1000) (ho : (o != ob) = false) :
    Calls Try.prog 25 #[.agg #[Value.int .i64 cl, .bool true, .int .i64 4, .int .i64 ob, .int .i64 ar, .slice A l.length c], (Value.agg #[.int .i64 k, .int .i64 t, .int .i64 o, .int .i64 a, .int .i64 r])] w fun e w' => e = .returned (.bool (if l.length = 0 then k == 4 else ((lst l).r == 0 && (lst l).k == 4 && (k == 5 || k == 6)) || ((lst l).k == 5 && k == 6))) ∧ Ext w w' := by
  by_cases l0 : l.length = 0
  · rw [if_pos l0, l0]
    clear h hl
    go_enter Try.func25, Try.ntmps25
    go_wp2
    go_ret
    exact ⟨by simp, (by repeat (first | exact Ext.refl _ | exact Ext.alloc _ _ | exact Ext.drew _ | refine Ext.trans ?_ (Ext.alloc _ _) | refine Ext.trans ?_ (Ext.drew _)))⟩
  obtain ⟨m, hm⟩ : ∃ m, l.length = m + 1 := ⟨l.length - 1, by omega⟩
  rw [if_neg l0]
  rw [hm] at h ⊢
  obtain ⟨g, rfl, hgB, hgl, hc⟩ := h.last hm
  have mi : (m : Int) ≤ 1000 := by omega
  have m1 : (m : Int) < ((m + 1 : Nat) : Int) := by omega
  have p0 : ((m : Int) + 1 == 0) = false := by simp; omega
  have hx : Ext w ((w.alloc (.cells #[.int .i64 cl, .bool true, .int .i64 4, .int .i64 ob, .int .i64 ar, .slice (some ⟨g, 0, none⟩) (m + 1) c] 50)).alloc (.cells #[Value.int .i64 k, .int .i64 t, .int .i64 o, .int .i64 a, .int .i64 r] 29)) := (Ext.alloc _ _).trans (Ext.alloc _ _)
  have c0 := (hx.oldCell g (m * 5 + 0) hgl).trans (hc 0 (by omega))
  have c1 := (hx.oldCell g (m * 5 + 1) hgl).trans (hc 1 (by omega))
  have c2 := (hx.oldCell g (m * 5 + 2) hgl).trans (hc 2 (by omega))
  have c3 := (hx.oldCell g (m * 5 + 3) hgl).trans (hc 3 (by omega))
  have c4 := (hx.oldCell g (m * 5 + 4) hgl).trans (hc 4 (by omega))
  clear h hc hm l0 hl hx
  generalize lst l = x at *
  obtain ⟨xk, xt, xo, xa, xr⟩ := x
  simp only [evc, List.getElem?_toArray, List.getElem?_cons_zero, List.getElem?_cons_succ, Nat.add_zero] at c0 c1 c2 c3 c4
  simp only
  obtain ⟨res, hres⟩ : ∃ res, res = (((xr == 0) && (xk == 4) && ((k == 5) || (k == 6))) || ((xk == 5) && (k == 6))) := ⟨_, rfl⟩
  rw [← hres]
  cases r0 : (xr == 0)
  · cases l5 : (xk == 5)
    all_goals
      rw [r0, l5] at hres
      simp only [Bool.false_and, Bool.true_and, Bool.false_or] at hres
      subst hres
      go_enter Try.func25, Try.ntmps25
      go_wp2
      go_ret
      exact ⟨by simp, (by repeat (first | exact Ext.refl _ | exact Ext.alloc _ _ | exact Ext.drew _ | refine Ext.trans ?_ (Ext.alloc _ _) | refine Ext.trans ?_ (Ext.drew _)))⟩
  · cases l4 : (xk == 4)
    · cases l5 : (xk == 5)
      all_goals
        rw [r0, l4, l5] at hres
        simp only [Bool.false_and, Bool.true_and, Bool.false_or, Bool.and_false] at hres
        subst hres
        go_enter Try.func25, Try.ntmps25
        go_wp2
        go_ret
        exact ⟨by simp, (by repeat (first | exact Ext.refl _ | exact Ext.alloc _ _ | exact Ext.drew _ | refine Ext.trans ?_ (Ext.alloc _ _) | refine Ext.trans ?_ (Ext.drew _)))⟩
    · have l5 : (xk == 5) = false := by have : xk = 4 := by simpa using l4
                                        subst this; rfl
      cases p5 : (k == 5) <;> cases p6 : (k == 6)
      all_goals
        rw [r0, l4, l5, p5, p6] at hres
        simp only [Bool.false_and, Bool.true_and, Bool.false_or, Bool.and_false, Bool.or_false, Bool.or_true, Bool.true_or, Bool.and_true] at hres
        subst hres
        go_enter Try.func25, Try.ntmps25
        go_wp2
        go_ret
        exact ⟨by simp, (by repeat (first | exact Ext.refl _ | exact Ext.alloc _ _ | exact Ext.drew _ | refine Ext.trans ?_ (Ext.alloc _ _) | refine Ext.trans ?_ (Ext.drew _)))⟩
end Go.Proofs.Ytacneghgimfklaa

namespace Go.Proofs.Ytacneghgimfklaa
open Go.RowKit Go.Maps
set_option linter.unusedSimpArgs false
set_option linter.unusedVariables false
set_option maxRecDepth 100000
set_option maxHeartbeats 8000000


theorem rcom_1 (cl kd ob ar k t o a r : Int) (A : Option Addr) (n c : Nat) (w : World) (hn : n ≤ 1000) (hk : 1 ≤ kd ∧ kd ≤ 9) (k4 : (kd == 4) = false) (k5 : (kd == 5) = false) (k6 : (kd == 6) = false) (k9 : (kd == 9) = false) (h : (o != ob) = false) :
    Calls Try.prog 25 #[.agg #[Value.int .i64 cl, .bool true, .int .i64 kd, .int .i64 ob, .int .i64 ar, .slice A n c], (Value.agg #[.int .i64 k, .int .i64 t, .int .i64 o, .int .i64 a, .int .i64 r])] w fun e w' => e = .returned (.bool (decide (n = 0) && k == ownI kd)) ∧ Ext w w' := by
  have CO := fun w' => rown_any hk w'
  generalize ownI kd = on at *
  cases n with
  | zero =>
    clear hk
    go_enter Try.func25, Try.ntmps25
    go_upto_region 27 with fail
    have HBA := hide (((Blk.new w #[Value.int .i64 cl, .bool true, .int .i64 kd, .int .i64 ob, .int .i64 ar, .slice A 0 c] 50).ext (Ext.alloc _ (.cells #[Value.int .i64 k, .int .i64 t, .int .i64 o, .int .i64 a, .int .i64 r] 29))).ext (Ext.drew _))
    have hl2 := Blk.new (w.alloc (.cells #[Value.int .i64 cl, .bool true, .int .i64 kd, .int .i64 ob, .int .i64 ar, .slice A 0 c] 50)) #[Value.int .i64 k, .int .i64 t, .int .i64 o, .int .i64 a, .int .i64 r] 29
    rw [World.size_alloc] at hl2
    have HBE := hide (hl2.ext (Ext.drew _))
    have HXX := hide (((Ext.alloc w (.cells #[Value.int .i64 cl, .bool true, .int .i64 kd, .int .i64 ob, .int .i64 ar, .slice A 0 c] 50)).trans (Ext.alloc _ (.cells #[Value.int .i64 k, .int .i64 t, .int .i64 o, .int .i64 a, .int .i64 r] 29))).trans (Ext.drew _))
    have RG : ∀ w', Blk w' w.heap.size #[Value.int .i64 cl, .bool true, .int .i64 kd, .int .i64 ob, .int .i64 ar, .slice A 0 c] 50 → Blk w' (w.heap.size + 1) #[Value.int .i64 k, .int .i64 t, .int .i64 o, .int .i64 a, .int .i64 r] 29 → w'.cell? ⟨w.heap.size, 2, none⟩ = some (.int .i64 kd) ∧ w'.cell? ⟨w.heap.size + 1, 0, none⟩ = some (.int .i64 k) :=
      fun w' h1 h2 => ⟨h1.cell 2, h2.cell 0⟩
    refine wp_region_held_drew (S := fun w' => w'.cell? ⟨w.heap.size, 2, none⟩ = some (.int .i64 kd) ∧ w'.cell? ⟨w.heap.size + 1, 0, none⟩ = some (.int .i64 k)) (by kernel_rfl) (by exact RG _ HBA.out HBE.out) (fun hHeld => ?_)
    clear hl2
    generalize ((w.alloc (.cells #[Value.int .i64 cl, .bool true, .int .i64 kd, .int .i64 ob, .int .i64 ar, .slice A 0 c] 50)).alloc (.cells #[Value.int .i64 k, .int .i64 t, .int .i64 o, .int .i64 a, .int .i64 r] 29)).drew = W1 at *
    (refine held_take (i := 0) (v := ?_) rfl (by kernel_rfl) (by kernel_rfl) (by kernel_rfl) (fun _ _ _ h => h) (by rfl) ?_ (by assumption) ?_; rotate_left; (intro w hSw; (try dsimp only at hSw); (first | (go_simp; done) | (go_simp; with_reducible rfl))); (try simp only [Act.put, List.setIfInBounds_toArray, List.set_cons_zero, List.set_cons_succ]))
    (refine held_take (i := 1) (v := ?_) rfl (by kernel_rfl) (by kernel_rfl) (by kernel_rfl) (fun _ _ _ h => h) (by rfl) ?_ (by assumption) ?_; rotate_left; (intro w hSw; (try dsimp only at hSw); (first | (go_simp; done) | (go_simp; with_reducible rfl))); (try simp only [Act.put, List.setIfInBounds_toArray, List.set_cons_zero, List.set_cons_succ]))
    (refine held_take (i := 2) (v := ?_) rfl (by kernel_rfl) (by kernel_rfl) (by kernel_rfl) (fun _ _ _ h => h) (by rfl) ?_ (by assumption) ?_; rotate_left; (intro w hSw; (try dsimp only at hSw); (first | (go_simp; done) | (go_simp; with_reducible rfl))); (try simp only [Act.put, List.setIfInBounds_toArray, List.set_cons_zero, List.set_cons_succ]))
    (refine held_take (i := 3) (v := ?_) rfl (by kernel_rfl) (by kernel_rfl) (by kernel_rfl) (fun _ _ _ h => h) (by rfl) ?_ (by assumption) ?_; rotate_left; (intro w hSw; (try dsimp only at hSw); (first | (go_simp; done) | (go_simp; with_reducible rfl))); (try simp only [Act.put, List.setIfInBounds_toArray, List.set_cons_zero, List.set_cons_succ]))
    (refine held_take (i := 4) (v := ?_) rfl (by kernel_rfl) (by kernel_rfl) (by kernel_rfl) (fun _ _ _ h => h) (by rfl) ?_ (by assumption) ?_; rotate_left; (intro w hSw; (try dsimp only at hSw); (first | (go_simp; done) | (go_simp; with_reducible rfl))); (try simp only [Act.put, List.setIfInBounds_toArray, List.set_cons_zero, List.set_cons_succ]))
    (refine held_take (i := 5) (v := ?_) rfl (by kernel_rfl) (by kernel_rfl) (by kernel_rfl) (fun _ _ _ h => h) (by rfl) ?_ (by assumption) ?_; rotate_left; (intro w hSw; (try dsimp only at hSw); (first | (go_simp; done) | (go_simp; with_reducible rfl))); (try simp only [Act.put, List.setIfInBounds_toArray, List.set_cons_zero, List.set_cons_succ]))
    (refine held_take (i := 6) (v := ?_) rfl (by kernel_rfl) (by kernel_rfl) (by kernel_rfl) (fun _ _ _ h => h) (by rfl) ?_ (by assumption) ?_; rotate_left; (intro w hSw; (try dsimp only at hSw); (first | (go_simp; done) | (go_simp; with_reducible rfl))); (try simp only [Act.put, List.setIfInBounds_toArray, List.set_cons_zero, List.set_cons_succ]))
    (refine held_take (i := 7) (v := ?_) rfl (by kernel_rfl) (by kernel_rfl) (by kernel_rfl) (fun _ _ _ h => h) (by rfl) ?_ (by assumption) ?_; rotate_left; (intro w hSw; (try dsimp only at hSw); (first | (go_simp; done) | (go_simp; with_reducible rfl))); (try simp only [Act.put, List.setIfInBounds_toArray, List.set_cons_zero, List.set_cons_succ]))
    refine wpAnyH_ready (rs := [8]) (by kernel_rfl) (by simp) (held_cons rfl (fun K hK => ?_) AllReadyH.nil)
    rw [if_pos (by rfl)]
    go_simp
    go_at_call 46
    refine (CO _).mono ?_
    rintro e w6 ⟨rfl, hx⟩
    have HBA := hide (HBA.out.ext hx)
    have HBE := hide (HBE.out.ext hx)
    have HXX := hide (HXX.out.trans hx)
    clear hx
    go_simp
    refine hK.out _ _ (RG _ HBA.out HBE.out) (fun hHeld => ?_)
    (try simp only [Act.put, List.setIfInBounds_toArray, List.set_cons_zero, List.set_cons_succ])
    (refine held_take (i := 9) (v := ?_) rfl (by kernel_rfl) (by kernel_rfl) (by kernel_rfl) (fun _ _ _ h => h) (by rfl) ?_ (by assumption) ?_; rotate_left; (intro w hSw; (try dsimp only at hSw); (first | (go_simp; done) | (go_simp; with_reducible rfl))); (try simp only [Act.put, List.setIfInBounds_toArray, List.set_cons_zero, List.set_cons_succ]))
    (refine held_take (i := 10) (v := ?_) rfl (by kernel_rfl) (by kernel_rfl) (by kernel_rfl) (fun _ _ _ h => h) (by rfl) ?_ (by assumption) ?_; rotate_left; (intro w hSw; (try dsimp only at hSw); (first | (go_simp; done) | (go_simp; with_reducible rfl))); (try simp only [Act.put, List.setIfInBounds_toArray, List.set_cons_zero, List.set_cons_succ]))
    (refine held_take (i := 11) (v := ?_) rfl (by kernel_rfl) (by kernel_rfl) (by kernel_rfl) (fun _ _ _ h => h) (by rfl) ?_ (by assumption) ?_; rotate_left; (intro w hSw; (try dsimp only at hSw); (first | (go_simp; done) | (go_simp; with_reducible rfl))); (try simp only [Act.put, List.setIfInBounds_toArray, List.set_cons_zero, List.set_cons_succ]))
    refine wpAnyH_done (by kernel_rfl) ?_ _
    go_wp2_with fail
    go_ret
    exact ⟨by simp, HXX.out⟩
  | succ m =>
    have p0 : ((m : Int) + 1 == 0) = false := by simp; omega
    clear hk hn
    go_enter Try.func25, Try.ntmps25
    go_upto_region 27 with fail
    have HBA := hide (((Blk.new w #[Value.int .i64 cl, .bool true, .int .i64 kd, .int .i64 ob, .int .i64 ar, .slice A (m + 1) c] 50).ext (Ext.alloc _ (.cells #[Value.int .i64 k, .int .i64 t, .int .i64 o, .int .i64 a, .int .i64 r] 29))).ext (Ext.drew _))
    have hl2 := Blk.new (w.alloc (.cells #[Value.int .i64 cl, .bool true, .int .i64 kd, .int .i64 ob, .int .i64 ar, .slice A (m + 1) c] 50)) #[Value.int .i64 k, .int .i64 t, .int .i64 o, .int .i64 a, .int .i64 r] 29
    rw [World.size_alloc] at hl2
    have HBE := hide (hl2.ext (Ext.drew _))
    have HXX := hide (((Ext.alloc w (.cells #[Value.int .i64 cl, .bool true, .int .i64 kd, .int .i64 ob, .int .i64 ar, .slice A (m + 1) c] 50)).trans (Ext.alloc _ (.cells #[Value.int .i64 k, .int .i64 t, .int .i64 o, .int .i64 a, .int .i64 r] 29))).trans (Ext.drew _))
    have RG : ∀ w', Blk w' w.heap.size #[Value.int .i64 cl, .bool true, .int .i64 kd, .int .i64 ob, .int .i64 ar, .slice A (m + 1) c] 50 → Blk w' (w.heap.size + 1) #[Value.int .i64 k, .int .i64 t, .int .i64 o, .int .i64 a, .int .i64 r] 29 → w'.cell? ⟨w.heap.size, 2, none⟩ = some (.int .i64 kd) ∧ w'.cell? ⟨w.heap.size + 1, 0, none⟩ = some (.int .i64 k) :=
      fun w' h1 h2 => ⟨h1.cell 2, h2.cell 0⟩
    refine wp_region_held_drew (S := fun w' => w'.cell? ⟨w.heap.size, 2, none⟩ = some (.int .i64 kd) ∧ w'.cell? ⟨w.heap.size + 1, 0, none⟩ = some (.int .i64 k)) (by kernel_rfl) (by exact RG _ HBA.out HBE.out) (fun hHeld => ?_)
    clear hl2
    generalize ((w.alloc (.cells #[Value.int .i64 cl, .bool true, .int .i64 kd, .int .i64 ob, .int .i64 ar, .slice A (m + 1) c] 50)).alloc (.cells #[Value.int .i64 k, .int .i64 t, .int .i64 o, .int .i64 a, .int .i64 r] 29)).drew = W1 at *
    (refine held_take (i := 0) (v := ?_) rfl (by kernel_rfl) (by kernel_rfl) (by kernel_rfl) (fun _ _ _ h => h) (by rfl) ?_ (by assumption) ?_; rotate_left; (intro w hSw; (try dsimp only at hSw); (first | (go_simp; done) | (go_simp; with_reducible rfl))); (try simp only [Act.put, List.setIfInBounds_toArray, List.set_cons_zero, List.set_cons_succ]))
    (refine held_take (i := 1) (v := ?_) rfl (by kernel_rfl) (by kernel_rfl) (by kernel_rfl) (fun _ _ _ h => h) (by rfl) ?_ (by assumption) ?_; rotate_left; (intro w hSw; (try dsimp only at hSw); (first | (go_simp; done) | (go_simp; with_reducible rfl))); (try simp only [Act.put, List.setIfInBounds_toArray, List.set_cons_zero, List.set_cons_succ]))
    (refine held_take (i := 2) (v := ?_) rfl (by kernel_rfl) (by kernel_rfl) (by kernel_rfl) (fun _ _ _ h => h) (by rfl) ?_ (by assumption) ?_; rotate_left; (intro w hSw; (try dsimp only at hSw); (first | (go_simp; done) | (go_simp; with_reducible rfl))); (try simp only [Act.put, List.setIfInBounds_toArray, List.set_cons_zero, List.set_cons_succ]))
    (refine held_skip (i := 3) rfl (by kernel_rfl) (by kernel_rfl) (by kernel_rfl) (fun _ _ _ h => h) (by rfl) (by assumption) ?_; (try simp only [Act.put, List.setIfInBounds_toArray, List.set_cons_zero, List.set_cons_succ]))
    (refine held_skip (i := 4) rfl (by kernel_rfl) (by kernel_rfl) (by kernel_rfl) (fun _ _ _ h => h) (by rfl) (by assumption) ?_; (try simp only [Act.put, List.setIfInBounds_toArray, List.set_cons_zero, List.set_cons_succ]))
    (refine held_skip (i := 5) rfl (by kernel_rfl) (by kernel_rfl) (by kernel_rfl) (fun _ _ _ h => h) (by rfl) (by assumption) ?_; (try simp only [Act.put, List.setIfInBounds_toArray, List.set_cons_zero, List.set_cons_succ]))
    (refine held_skip (i := 6) rfl (by kernel_rfl) (by kernel_rfl) (by kernel_rfl) (fun _ _ _ h => h) (by rfl) (by assumption) ?_; (try simp only [Act.put, List.setIfInBounds_toArray, List.set_cons_zero, List.set_cons_succ]))
    (refine held_skip (i := 7) rfl (by kernel_rfl) (by kernel_rfl) (by kernel_rfl) (fun _ _ _ h => h) (by rfl) (by assumption) ?_; (try simp only [Act.put, List.setIfInBounds_toArray, List.set_cons_zero, List.set_cons_succ]))
    (refine held_skip (i := 8) rfl (by kernel_rfl) (by kernel_rfl) (by kernel_rfl) (fun _ _ _ h => h) (by rfl) (by assumption) ?_; (try simp only [Act.put, List.setIfInBounds_toArray, List.set_cons_zero, List.set_cons_succ]))
    (refine held_skip (i := 9) rfl (by kernel_rfl) (by kernel_rfl) (by kernel_rfl) (fun _ _ _ h => h) (by rfl) (by assumption) ?_; (try simp only [Act.put, List.setIfInBounds_toArray, List.set_cons_zero, List.set_cons_succ]))
    (refine held_take (i := 10) (v := ?_) rfl (by kernel_rfl) (by kernel_rfl) (by kernel_rfl) (fun _ _ _ h => h) (by rfl) ?_ (by assumption) ?_; rotate_left; (intro w hSw; (try dsimp only at hSw); (first | (go_simp; done) | (go_simp; with_reducible rfl))); (try simp only [Act.put, List.setIfInBounds_toArray, List.set_cons_zero, List.set_cons_succ]))
    (refine held_take (i := 11) (v := ?_) rfl (by kernel_rfl) (by kernel_rfl) (by kernel_rfl) (fun _ _ _ h => h) (by rfl) ?_ (by assumption) ?_; rotate_left; (intro w hSw; (try dsimp only at hSw); (first | (go_simp; done) | (go_simp; with_reducible rfl))); (try simp only [Act.put, List.setIfInBounds_toArray, List.set_cons_zero, List.set_cons_succ]))
    refine wpAnyH_done (by kernel_rfl) ?_ _
    go_wp2_with fail
    go_ret
    exact ⟨by simp, HXX.out⟩
theorem rcom_9 (cl ob ar k t o a r : Int) (A : Option Addr) (n c : Nat) (w : World) (hn : n ≤ 1000) (h : (o != 0) = false) (ha : (a != ar) = false) :
    Calls Try.prog 25 #[.agg #[Value.int .i64 cl, .bool true, .int .i64 9, .int .i64 ob, .int .i64 ar, .slice A n c], (Value.agg #[.int .i64 k, .int .i64 t, .int .i64 o, .int .i64 a, .int .i64 r])] w fun e w' => e = .returned (.bool (decide (n = 0) && k == ownI 9)) ∧ Ext w w' := by
  have CO := fun w' => rown_any (k := 9) (by omega) w'
  generalize ownI 9 = on at *
  cases n with
  | zero =>
    go_enter Try.func25, Try.ntmps25
    go_upto_region 27 with fail
    have HBA := hide (((Blk.new w #[Value.int .i64 cl, .bool true, .int .i64 9, .int .i64 ob, .int .i64 ar, .slice A 0 c] 50).ext (Ext.alloc _ (.cells #[Value.int .i64 k, .int .i64 t, .int .i64 o, .int .i64 a, .int .i64 r] 29))).ext (Ext.drew _))
    have hl2 := Blk.new (w.alloc (.cells #[Value.int .i64 cl, .bool true, .int .i64 9, .int .i64 ob, .int .i64 ar, .slice A 0 c] 50)) #[Value.int .i64 k, .int .i64 t, .int .i64 o, .int .i64 a, .int .i64 r] 29
    rw [World.size_alloc] at hl2
    have HBE := hide (hl2.ext (Ext.drew _))
    have HXX := hide (((Ext.alloc w (.cells #[Value.int .i64 cl, .bool true, .int .i64 9, .int .i64 ob, .int .i64 ar, .slice A 0 c] 50)).trans (Ext.alloc _ (.cells #[Value.int .i64 k, .int .i64 t, .int .i64 o, .int .i64 a, .int .i64 r] 29))).trans (Ext.drew _))
    have RG : ∀ w', Blk w' w.heap.size #[Value.int .i64 cl, .bool true, .int .i64 9, .int .i64 ob, .int .i64 ar, .slice A 0 c] 50 → Blk w' (w.heap.size + 1) #[Value.int .i64 k, .int .i64 t, .int .i64 o, .int .i64 a, .int .i64 r] 29 → w'.cell? ⟨w.heap.size, 2, none⟩ = some (.int .i64 9) ∧ w'.cell? ⟨w.heap.size + 1, 0, none⟩ = some (.int .i64 k) :=
      fun w' h1 h2 => ⟨h1.cell 2, h2.cell 0⟩
    refine wp_region_held_drew (S := fun w' => w'.cell? ⟨w.heap.size, 2, none⟩ = some (.int .i64 9) ∧ w'.cell? ⟨w.heap.size + 1, 0, none⟩ = some (.int .i64 k)) (by kernel_rfl) (by exact RG _ HBA.out HBE.out) (fun hHeld => ?_)
    clear hl2
    generalize ((w.alloc (.cells #[Value.int .i64 cl, .bool true, .int .i64 9, .int .i64 ob, .int .i64 ar, .slice A 0 c] 50)).alloc (.cells #[Value.int .i64 k, .int .i64 t, .int .i64 o, .int .i64 a, .int .i64 r] 29)).drew = W1 at *
    (refine held_take (i := 0) (v := ?_) rfl (by kernel_rfl) (by kernel_rfl) (by kernel_rfl) (fun _ _ _ h => h) (by rfl) ?_ (by assumption) ?_; rotate_left; (intro w hSw; (try dsimp only at hSw); (first | (go_simp; done) | (go_simp; with_reducible rfl))); (try simp only [Act.put, List.setIfInBounds_toArray, List.set_cons_zero, List.set_cons_succ]))
    (refine held_take (i := 1) (v := ?_) rfl (by kernel_rfl) (by kernel_rfl) (by kernel_rfl) (fun _ _ _ h => h) (by rfl) ?_ (by assumption) ?_; rotate_left; (intro w hSw; (try dsimp only at hSw); (first | (go_simp; done) | (go_simp; with_reducible rfl))); (try simp only [Act.put, List.setIfInBounds_toArray, List.set_cons_zero, List.set_cons_succ]))
    (refine held_take (i := 2) (v := ?_) rfl (by kernel_rfl) (by kernel_rfl) (by kernel_rfl) (fun _ _ _ h => h) (by rfl) ?_ (by assumption) ?_; rotate_left; (intro w hSw; (try dsimp only at hSw); (first | (go_simp; done) | (go_simp; with_reducible rfl))); (try simp only [Act.put, List.setIfInBounds_toArray, List.set_cons_zero, List.set_cons_succ]))
    (refine held_take (i := 3) (v := ?_) rfl (by kernel_rfl) (by kernel_rfl) (by kernel_rfl) (fun _ _ _ h => h) (by rfl) ?_ (by assumption) ?_; rotate_left; (intro w hSw; (try dsimp only at hSw); (first | (go_simp; done) | (go_simp; with_reducible rfl))); (try simp only [Act.put, List.setIfInBounds_toArray, List.set_cons_zero, List.set_cons_succ]))
    (refine held_take (i := 4) (v := ?_) rfl (by kernel_rfl) (by kernel_rfl) (by kernel_rfl) (fun _ _ _ h => h) (by rfl) ?_ (by assumption) ?_; rotate_left; (intro w hSw; (try dsimp only at hSw); (first | (go_simp; done) | (go_simp; with_reducible rfl))); (try simp only [Act.put, List.setIfInBounds_toArray, List.set_cons_zero, List.set_cons_succ]))
    (refine held_take (i := 5) (v := ?_) rfl (by kernel_rfl) (by kernel_rfl) (by kernel_rfl) (fun _ _ _ h => h) (by rfl) ?_ (by assumption) ?_; rotate_left; (intro w hSw; (try dsimp only at hSw); (first | (go_simp; done) | (go_simp; with_reducible rfl))); (try simp only [Act.put, List.setIfInBounds_toArray, List.set_cons_zero, List.set_cons_succ]))
    (refine held_take (i := 6) (v := ?_) rfl (by kernel_rfl) (by kernel_rfl) (by kernel_rfl) (fun _ _ _ h => h) (by rfl) ?_ (by assumption) ?_; rotate_left; (intro w hSw; (try dsimp only at hSw); (first | (go_simp; done) | (go_simp; with_reducible rfl))); (try simp only [Act.put, List.setIfInBounds_toArray, List.set_cons_zero, List.set_cons_succ]))
    (refine held_take (i := 7) (v := ?_) rfl (by kernel_rfl) (by kernel_rfl) (by kernel_rfl) (fun _ _ _ h => h) (by rfl) ?_ (by assumption) ?_; rotate_left; (intro w hSw; (try dsimp only at hSw); (first | (go_simp; done) | (go_simp; with_reducible rfl))); (try simp only [Act.put, List.setIfInBounds_toArray, List.set_cons_zero, List.set_cons_succ]))
    refine wpAnyH_ready (rs := [8]) (by kernel_rfl) (by simp) (held_cons rfl (fun K hK => ?_) AllReadyH.nil)
    rw [if_pos (by rfl)]
    go_simp
    go_at_call 46
    refine (CO _).mono ?_
    rintro e w6 ⟨rfl, hx⟩
    have HBA := hide (HBA.out.ext hx)
    have HBE := hide (HBE.out.ext hx)
    have HXX := hide (HXX.out.trans hx)
    clear hx
    go_simp
    refine hK.out _ _ (RG _ HBA.out HBE.out) (fun hHeld => ?_)
    (try simp only [Act.put, List.setIfInBounds_toArray, List.set_cons_zero, List.set_cons_succ])
    (refine held_take (i := 9) (v := ?_) rfl (by kernel_rfl) (by kernel_rfl) (by kernel_rfl) (fun _ _ _ h => h) (by rfl) ?_ (by assumption) ?_; rotate_left; (intro w hSw; (try dsimp only at hSw); (first | (go_simp; done) | (go_simp; with_reducible rfl))); (try simp only [Act.put, List.setIfInBounds_toArray, List.set_cons_zero, List.set_cons_succ]))
    (refine held_take (i := 10) (v := ?_) rfl (by kernel_rfl) (by kernel_rfl) (by kernel_rfl) (fun _ _ _ h => h) (by rfl) ?_ (by assumption) ?_; rotate_left; (intro w hSw; (try dsimp only at hSw); (first | (go_simp; done) | (go_simp; with_reducible rfl))); (try simp only [Act.put, List.setIfInBounds_toArray, List.set_cons_zero, List.set_cons_succ]))
    (refine held_take (i := 11) (v := ?_) rfl (by kernel_rfl) (by kernel_rfl) (by kernel_rfl) (fun _ _ _ h => h) (by rfl) ?_ (by assumption) ?_; rotate_left; (intro w hSw; (try dsimp only at hSw); (first | (go_simp; done) | (go_simp; with_reducible rfl))); (try simp only [Act.put, List.setIfInBounds_toArray, List.set_cons_zero, List.set_cons_succ]))
    refine wpAnyH_done (by kernel_rfl) ?_ _
    go_wp2_with fail
    go_ret
    exact ⟨by simp, HXX.out⟩
  | succ m =>
    have p0 : ((m : Int) + 1 == 0) = false := by simp; omega
    clear hn
    go_enter Try.func25, Try.ntmps25
    go_upto_region 27 with fail
    have HBA := hide (((Blk.new w #[Value.int .i64 cl, .bool true, .int .i64 9, .int .i64 ob, .int .i64 ar, .slice A (m + 1) c] 50).ext (Ext.alloc _ (.cells #[Value.int .i64 k, .int .i64 t, .int .i64 o, .int .i64 a, .int .i64 r] 29))).ext (Ext.drew _))
    have hl2 := Blk.new (w.alloc (.cells #[Value.int .i64 cl, .bool true, .int .i64 9, .int .i64 ob, .int .i64 ar, .slice A (m + 1) c] 50)) #[Value.int .i64 k, .int .i64 t, .int .i64 o, .int .i64 a, .int .i64 r] 29
    rw [World.size_alloc] at hl2
    have HBE := hide (hl2.ext (Ext.drew _))
    have HXX := hide (((Ext.alloc w (.cells #[Value.int .i64 cl, .bool true, .int .i64 9, .int .i64 ob, .int .i64 ar, .slice A (m + 1) c] 50)).trans (Ext.alloc _ (.cells #[Value.int .i64 k, .int .i64 t, .int .i64 o, .int .i64 a, .int .i64 r] 29))).trans (Ext.drew _))
    have RG : ∀ w', Blk w' w.heap.size #[Value.int .i64 cl, .bool true, .int .i64 9, .int .i64 ob, .int .i64 ar, .slice A (m + 1) c] 50 → Blk w' (w.heap.size + 1) #[Value.int .i64 k, .int .i64 t, .int .i64 o, .int .i64 a, .int .i64 r] 29 → w'.cell? ⟨w.heap.size, 2, none⟩ = some (.int .i64 9) ∧ w'.cell? ⟨w.heap.size + 1, 0, none⟩ = some (.int .i64 k) :=
      fun w' h1 h2 => ⟨h1.cell 2, h2.cell 0⟩
    refine wp_region_held_drew (S := fun w' => w'.cell? ⟨w.heap.size, 2, none⟩ = some (.int .i64 9) ∧ w'.cell? ⟨w.heap.size + 1, 0, none⟩ = some (.int .i64 k)) (by kernel_rfl) (by exact RG _ HBA.out HBE.out) (fun hHeld => ?_)
    clear hl2
    generalize ((w.alloc (.cells #[Value.int .i64 cl, .bool true, .int .i64 9, .int .i64 ob, .int .i64 ar, .slice A (m + 1) c] 50)).alloc (.cells #[Value.int .i64 k, .int .i64 t, .int .i64 o, .int .i64 a, .int .i64 r] 29)).drew = W1 at *
    (refine held_take (i := 0) (v := ?_) rfl (by kernel_rfl) (by kernel_rfl) (by kernel_rfl) (fun _ _ _ h => h) (by rfl) ?_ (by assumption) ?_; rotate_left; (intro w hSw; (try dsimp only at hSw); (first | (go_simp; done) | (go_simp; with_reducible rfl))); (try simp only [Act.put, List.setIfInBounds_toArray, List.set_cons_zero, List.set_cons_succ]))
    (refine held_take (i := 1) (v := ?_) rfl (by kernel_rfl) (by kernel_rfl) (by kernel_rfl) (fun _ _ _ h => h) (by rfl) ?_ (by assumption) ?_; rotate_left; (intro w hSw; (try dsimp only at hSw); (first | (go_simp; done) | (go_simp; with_reducible rfl))); (try simp only [Act.put, List.setIfInBounds_toArray, List.set_cons_zero, List.set_cons_succ]))
    (refine held_take (i := 2) (v := ?_) rfl (by kernel_rfl) (by kernel_rfl) (by kernel_rfl) (fun _ _ _ h => h) (by rfl) ?_ (by assumption) ?_; rotate_left; (intro w hSw; (try dsimp only at hSw); (first | (go_simp; done) | (go_simp; with_reducible rfl))); (try simp only [Act.put, List.setIfInBounds_toArray, List.set_cons_zero, List.set_cons_succ]))
    (refine held_skip (i := 3) rfl (by kernel_rfl) (by kernel_rfl) (by kernel_rfl) (fun _ _ _ h => h) (by rfl) (by assumption) ?_; (try simp only [Act.put, List.setIfInBounds_toArray, List.set_cons_zero, List.set_cons_succ]))
    (refine held_skip (i := 4) rfl (by kernel_rfl) (by kernel_rfl) (by kernel_rfl) (fun _ _ _ h => h) (by rfl) (by assumption) ?_; (try simp only [Act.put, List.setIfInBounds_toArray, List.set_cons_zero, List.set_cons_succ]))
    (refine held_skip (i := 5) rfl (by kernel_rfl) (by kernel_rfl) (by kernel_rfl) (fun _ _ _ h => h) (by rfl) (by assumption) ?_; (try simp only [Act.put, List.setIfInBounds_toArray, List.set_cons_zero, List.set_cons_succ]))
    (refine held_skip (i := 6) rfl (by kernel_rfl) (by kernel_rfl) (by kernel_rfl) (fun _ _ _ h => h) (by rfl) (by assumption) ?_; (try simp only [Act.put, List.setIfInBounds_toArray, List.set_cons_zero, List.set_cons_succ]))
    (refine held_skip (i := 7) rfl (by kernel_rfl) (by kernel_rfl) (by kernel_rfl) (fun _ _ _ h => h) (by rfl) (by assumption) ?_; (try simp only [Act.put, List.setIfInBounds_toArray, List.set_cons_zero, List.set_cons_succ]))
    (refine held_skip (i := 8) rfl (by kernel_rfl) (by kernel_rfl) (by kernel_rfl) (fun _ _ _ h => h) (by rfl) (by assumption) ?_; (try simp only [Act.put, List.setIfInBounds_toArray, List.set_cons_zero, List.set_cons_succ]))
    (refine held_skip (i := 9) rfl (by kernel_rfl) (by kernel_rfl) (by kernel_rfl) (fun _ _ _ h => h) (by rfl) (by assumption) ?_; (try simp only [Act.put, List.setIfInBounds_toArray, List.set_cons_zero, List.set_cons_succ]))
    (refine held_take (i := 10) (v := ?_) rfl (by kernel_rfl) (by kernel_rfl) (by kernel_rfl) (fun _ _ _ h => h) (by rfl) ?_ (by assumption) ?_; rotate_left; (intro w hSw; (try dsimp only at hSw); (first | (go_simp; done) | (go_simp; with_reducible rfl))); (try simp only [Act.put, List.setIfInBounds_toArray, List.set_cons_zero, List.set_cons_succ]))
    (refine held_take (i := 11) (v := ?_) rfl (by kernel_rfl) (by kernel_rfl) (by kernel_rfl) (fun _ _ _ h => h) (by rfl) ?_ (by assumption) ?_; rotate_left; (intro w hSw; (try dsimp only at hSw); (first | (go_simp; done) | (go_simp; with_reducible rfl))); (try simp only [Act.put, List.setIfInBounds_toArray, List.set_cons_zero, List.set_cons_succ]))
    refine wpAnyH_done (by kernel_rfl) ?_ _
    go_wp2_with fail
    go_ret
    exact ⟨by simp, HXX.out⟩
end Go.Proofs.Ytacneghgimfklaa

namespace Go.Proofs.Ytacneghgimfklaa
open Go.RowKit Go.Maps
set_option linter.unusedSimpArgs false
set_option linter.unusedVariables false
set_option maxRecDepth 100000
set_option maxHeartbeats 8000000


theorem rcom_5 {w : World} {B c : Nat} {A : Option Addr} (cl ob ar k t o a r : Int) (l : List Ev) (h : Lw w B (.slice A l.length c) l) (hl : l.length ≤ 1000) (ho : (o != ob) = false) :
    Calls Try.prog 25 #[.agg #[Value.int .i64 cl, .bool true, .int .i64 5, .int .i64 ob, .int .i64 ar, .slice A l.length c], (Value.agg #[.int .i64 k, .int .i64 t, .int .i64 o, .int .i64 a, .int .i64 r])] w fun e w' => e = .returned (.bool (if 0 < l.length ∧ (lst l).k ≠ 7 then false else if k = 7 then ((5 : Int) == 6) || decide (l.length = 0) else if k ≠ 8 then false else ((5 : Int) == 6) || a == (if 0 < l.length then (lst l).a else -1))) ∧ Ext w w' := by
  have CO := fun w' => rown_any (k := 5) (by omega) w'
  rw [show ownI 5 = 8 from rfl] at CO
  by_cases l0 : l.length = 0
  · rw [l0]
    rw [if_neg (by omega)]
    clear h hl
    by_cases k7 : k = 7
    · subst k7
      rw [if_pos rfl]
      go_enter Try.func25, Try.ntmps25
      go_wp2
      go_ret
      exact ⟨by simp, (by repeat (first | exact Ext.refl _ | exact Ext.alloc _ _ | exact Ext.drew _ | refine Ext.trans ?_ (Ext.alloc _ _) | refine Ext.trans ?_ (Ext.drew _)))⟩
    rw [if_neg k7]
    have p7 : (k == 7) = false := by simpa using k7
    by_cases ko : k = 8
    · rw [if_neg (by simpa using ko)]
      have po : (k != 8) = false := by simp [ko]
      clear ko
      rw [if_neg (by omega)]
      go_enter Try.func25, Try.ntmps25
      go_upto_region 21 with fail
      have HBA := hide (((Blk.new w #[Value.int .i64 cl, .bool true, .int .i64 5, .int .i64 ob, .int .i64 ar, .slice A 0 c] 50).ext (Ext.alloc _ (.cells #[Value.int .i64 k, .int .i64 t, .int .i64 o, .int .i64 a, .int .i64 r] 29))).ext (Ext.drew _))
      have hl2 := Blk.new (w.alloc (.cells #[Value.int .i64 cl, .bool true, .int .i64 5, .int .i64 ob, .int .i64 ar, .slice A 0 c] 50)) #[Value.int .i64 k, .int .i64 t, .int .i64 o, .int .i64 a, .int .i64 r] 29
      rw [World.size_alloc] at hl2
      have HBE := hide (hl2.ext (Ext.drew _))
      have HXX := hide (((Ext.alloc w (.cells #[Value.int .i64 cl, .bool true, .int .i64 5, .int .i64 ob, .int .i64 ar, .slice A 0 c] 50)).trans (Ext.alloc _ (.cells #[Value.int .i64 k, .int .i64 t, .int .i64 o, .int .i64 a, .int .i64 r] 29))).trans (Ext.drew _))
      have RG : ∀ w', Blk w' w.heap.size #[Value.int .i64 cl, .bool true, .int .i64 5, .int .i64 ob, .int .i64 ar, .slice A 0 c] 50 → Blk w' (w.heap.size + 1) #[Value.int .i64 k, .int .i64 t, .int .i64 o, .int .i64 a, .int .i64 r] 29 → w'.cell? ⟨w.heap.size, 2, none⟩ = some (.int .i64 5) ∧ w'.cell? ⟨w.heap.size + 1, 0, none⟩ = some (.int .i64 k) :=
        fun w' h1 h2 => ⟨h1.cell 2, h2.cell 0⟩
      refine wp_region_held_drew (S := fun w' => w'.cell? ⟨w.heap.size, 2, none⟩ = some (.int .i64 5) ∧ w'.cell? ⟨w.heap.size + 1, 0, none⟩ = some (.int .i64 k)) (by kernel_rfl) (by exact RG _ HBA.out HBE.out) (fun hHeld => ?_)
      clear hl2
      generalize ((w.alloc (.cells #[Value.int .i64 cl, .bool true, .int .i64 5, .int .i64 ob, .int .i64 ar, .slice A 0 c] 50)).alloc (.cells #[Value.int .i64 k, .int .i64 t, .int .i64 o, .int .i64 a, .int .i64 r] 29)).drew = W1 at *
      (refine held_take (i := 0) (v := ?_) rfl (by kernel_rfl) (by kernel_rfl) (by kernel_rfl) (fun _ _ _ h => h) (by rfl) ?_ (by assumption) ?_; rotate_left; (intro w hSw; (try dsimp only at hSw); (first | (go_simp; done) | (go_simp; with_reducible rfl))); (try simp only [Act.put, List.setIfInBounds_toArray, List.set_cons_zero, List.set_cons_succ]))
      (refine held_take (i := 1) (v := ?_) rfl (by kernel_rfl) (by kernel_rfl) (by kernel_rfl) (fun _ _ _ h => h) (by rfl) ?_ (by assumption) ?_; rotate_left; (intro w hSw; (try dsimp only at hSw); (first | (go_simp; done) | (go_simp; with_reducible rfl))); (try simp only [Act.put, List.setIfInBounds_toArray, List.set_cons_zero, List.set_cons_succ]))
      (refine held_take (i := 2) (v := ?_) rfl (by kernel_rfl) (by kernel_rfl) (by kernel_rfl) (fun _ _ _ h => h) (by rfl) ?_ (by assumption) ?_; rotate_left; (intro w hSw; (try dsimp only at hSw); (first | (go_simp; done) | (go_simp; with_reducible rfl))); (try simp only [Act.put, List.setIfInBounds_toArray, List.set_cons_zero, List.set_cons_succ]))
      (refine held_take (i := 3) (v := ?_) rfl (by kernel_rfl) (by kernel_rfl) (by kernel_rfl) (fun _ _ _ h => h) (by rfl) ?_ (by assumption) ?_; rotate_left; (intro w hSw; (try dsimp only at hSw); (first | (go_simp; done) | (go_simp; with_reducible rfl))); (try simp only [Act.put, List.setIfInBounds_toArray, List.set_cons_zero, List.set_cons_succ]))
      (refine held_take (i := 4) (v := ?_) rfl (by kernel_rfl) (by kernel_rfl) (by kernel_rfl) (fun _ _ _ h => h) (by rfl) ?_ (by assumption) ?_; rotate_left; (intro w hSw; (try dsimp only at hSw); (first | (go_simp; done) | (go_simp; with_reducible rfl))); (try simp only [Act.put, List.setIfInBounds_toArray, List.set_cons_zero, List.set_cons_succ]))
      refine wpAnyH_ready (rs := [5]) (by kernel_rfl) (by simp) (held_cons rfl (fun K hK => ?_) AllReadyH.nil)
      rw [if_pos (by rfl)]
      go_simp
      go_at_call 46
      refine (CO _).mono ?_
      rintro e w6 ⟨rfl, hx⟩
      have HBA := hide (HBA.out.ext hx)
      have HBE := hide (HBE.out.ext hx)
      have HXX := hide (HXX.out.trans hx)
      clear hx
      go_simp
      refine hK.out _ _ (RG _ HBA.out HBE.out) (fun hHeld => ?_)
      (try simp only [Act.put, List.setIfInBounds_toArray, List.set_cons_zero, List.set_cons_succ])
      (refine held_take (i := 6) (v := ?_) rfl (by kernel_rfl) (by kernel_rfl) (by kernel_rfl) (fun _ _ _ h => h) (by rfl) ?_ (by assumption) ?_; rotate_left; (intro w hSw; (try dsimp only at hSw); (first | (go_simp; done) | (go_simp; with_reducible rfl))); (try simp only [Act.put, List.setIfInBounds_toArray, List.set_cons_zero, List.set_cons_succ]))
      refine wpAnyH_done (by kernel_rfl) ?_ _
      have u2 := HBA.out.cell 2
      have u5 := HBA.out.cell 5
      have v3 := HBE.out.cell 3
      simp only [List.getElem?_toArray, List.getElem?_cons_zero, List.getElem?_cons_succ] at u2 u5 v3
      go_wp2_with fail
      go_ret
      exact ⟨by simp, HXX.out⟩
    · rw [if_pos ko]
      have po : (k != 8) = true := by simpa using ko
      go_enter Try.func25, Try.ntmps25
      go_upto_region 21 with fail
      have HBA := hide (((Blk.new w #[Value.int .i64 cl, .bool true, .int .i64 5, .int .i64 ob, .int .i64 ar, .slice A 0 c] 50).ext (Ext.alloc _ (.cells #[Value.int .i64 k, .int .i64 t, .int .i64 o, .int .i64 a, .int .i64 r] 29))).ext (Ext.drew _))
      have hl2 := Blk.new (w.alloc (.cells #[Value.int .i64 cl, .bool true, .int .i64 5, .int .i64 ob, .int .i64 ar, .slice A 0 c] 50)) #[Value.int .i64 k, .int .i64 t, .int .i64 o, .int .i64 a, .int .i64 r] 29
      rw [World.size_alloc] at hl2
      have HBE := hide (hl2.ext (Ext.drew _))
      have HXX := hide (((Ext.alloc w (.cells #[Value.int .i64 cl, .bool true, .int .i64 5, .int .i64 ob, .int .i64 ar, .slice A 0 c] 50)).trans (Ext.alloc _ (.cells #[Value.int .i64 k, .int .i64 t, .int .i64 o, .int .i64 a, .int .i64 r] 29))).trans (Ext.drew _))
      have RG : ∀ w', Blk w' w.heap.size #[Value.int .i64 cl, .bool true, .int .i64 5, .int .i64 ob, .int .i64 ar, .slice A 0 c] 50 → Blk w' (w.heap.size + 1) #[Value.int .i64 k, .int .i64 t, .int .i64 o, .int .i64 a, .int .i64 r] 29 → w'.cell? ⟨w.heap.size, 2, none⟩ = some (.int .i64 5) ∧ w'.cell? ⟨w.heap.size + 1, 0, none⟩ = some (.int .i64 k) :=
        fun w' h1 h2 => ⟨h1.cell 2, h2.cell 0⟩
      refine wp_region_held_drew (S := fun w' => w'.cell? ⟨w.heap.size, 2, none⟩ = some (.int .i64 5) ∧ w'.cell? ⟨w.heap.size + 1, 0, none⟩ = some (.int .i64 k)) (by kernel_rfl) (by exact RG _ HBA.out HBE.out) (fun hHeld => ?_)
      clear hl2
      generalize ((w.alloc (.cells #[Value.int .i64 cl, .bool true, .int .i64 5, .int .i64 ob, .int .i64 ar, .slice A 0 c] 50)).alloc (.cells #[Value.int .i64 k, .int .i64 t, .int .i64 o, .int .i64 a, .int .i64 r] 29)).drew = W1 at *
      (refine held_take (i := 0) (v := ?_) rfl (by kernel_rfl) (by kernel_rfl) (by kernel_rfl) (fun _ _ _ h => h) (by rfl) ?_ (by assumption) ?_; rotate_left; (intro w hSw; (try dsimp only at hSw); (first | (go_simp; done) | (go_simp; with_reducible rfl))); (try simp only [Act.put, List.setIfInBounds_toArray, List.set_cons_zero, List.set_cons_succ]))
      (refine held_take (i := 1) (v := ?_) rfl (by kernel_rfl) (by kernel_rfl) (by kernel_rfl) (fun _ _ _ h => h) (by rfl) ?_ (by assumption) ?_; rotate_left; (intro w hSw; (try dsimp only at hSw); (first | (go_simp; done) | (go_simp; with_reducible rfl))); (try simp only [Act.put, List.setIfInBounds_toArray, List.set_cons_zero, List.set_cons_succ]))
      (refine held_take (i := 2) (v := ?_) rfl (by kernel_rfl) (by kernel_rfl) (by kernel_rfl) (fun _ _ _ h => h) (by rfl) ?_ (by assumption) ?_; rotate_left; (intro w hSw; (try dsimp only at hSw); (first | (go_simp; done) | (go_simp; with_reducible rfl))); (try simp only [Act.put, List.setIfInBounds_toArray, List.set_cons_zero, List.set_cons_succ]))
      (refine held_take (i := 3) (v := ?_) rfl (by kernel_rfl) (by kernel_rfl) (by kernel_rfl) (fun _ _ _ h => h) (by rfl) ?_ (by assumption) ?_; rotate_left; (intro w hSw; (try dsimp only at hSw); (first | (go_simp; done) | (go_simp; with_reducible rfl))); (try simp only [Act.put, List.setIfInBounds_toArray, List.set_cons_zero, List.set_cons_succ]))
      (refine held_take (i := 4) (v := ?_) rfl (by kernel_rfl) (by kernel_rfl) (by kernel_rfl) (fun _ _ _ h => h) (by rfl) ?_ (by assumption) ?_; rotate_left; (intro w hSw; (try dsimp only at hSw); (first | (go_simp; done) | (go_simp; with_reducible rfl))); (try simp only [Act.put, List.setIfInBounds_toArray, List.set_cons_zero, List.set_cons_succ]))
      refine wpAnyH_ready (rs := [5]) (by kernel_rfl) (by simp) (held_cons rfl (fun K hK => ?_) AllReadyH.nil)
      rw [if_pos (by rfl)]
      go_simp
      go_at_call 46
      refine (CO _).mono ?_
      rintro e w6 ⟨rfl, hx⟩
      have HBA := hide (HBA.out.ext hx)
      have HBE := hide (HBE.out.ext hx)
      have HXX := hide (HXX.out.trans hx)
      clear hx
      go_simp
      refine hK.out _ _ (RG _ HBA.out HBE.out) (fun hHeld => ?_)
      (try simp only [Act.put, List.setIfInBounds_toArray, List.set_cons_zero, List.set_cons_succ])
      (refine held_take (i := 6) (v := ?_) rfl (by kernel_rfl) (by kernel_rfl) (by kernel_rfl) (fun _ _ _ h => h) (by rfl) ?_ (by assumption) ?_; rotate_left; (intro w hSw; (try dsimp only at hSw); (first | (go_simp; done) | (go_simp; with_reducible rfl))); (try simp only [Act.put, List.setIfInBounds_toArray, List.set_cons_zero, List.set_cons_succ]))
      refine wpAnyH_done (by kernel_rfl) ?_ _
      go_wp2_with fail
      go_ret
      exact ⟨by simp, HXX.out⟩
  obtain ⟨m, hm⟩ : ∃ m, l.length = m + 1 := ⟨l.length - 1, by omega⟩
  rw [hm] at h ⊢
  obtain ⟨g, rfl, hgB, hgl, hc⟩ := h.last hm
  have mi : (m : Int) ≤ 1000 := by omega
  have m1 : (m : Int) < ((m + 1 : Nat) : Int) := by omega
  have p0 : ((m : Int) + 1 == 0) = false := by simp; omega
  have g0 : (0 : Int) < (m : Int) + 1 := by omega
  have hx : Ext w ((w.alloc (.cells #[.int .i64 cl, .bool true, .int .i64 5, .int .i64 ob, .int .i64 ar, .slice (some ⟨g, 0, none⟩) (m + 1) c] 50)).alloc (.cells #[Value.int .i64 k, .int .i64 t, .int .i64 o, .int .i64 a, .int .i64 r] 29)) := (Ext.alloc _ _).trans (Ext.alloc _ _)
  have c0 := (hx.oldCell g (m * 5 + 0) hgl).trans (hc 0 (by omega))
  have c3 := (hx.oldCell g (m * 5 + 3) hgl).trans (hc 3 (by omega))
  have C3 := fun w' (x : Ext w w') => (x.oldCell g (m * 5 + 3) hgl).trans (hc 3 (by omega))
  clear h hc hm l0 hl hx hgl
  generalize lst l = x at *
  obtain ⟨xk, xt, xo, xa, xr⟩ := x
  simp only [evc, List.getElem?_toArray, List.getElem?_cons_zero, List.getElem?_cons_succ, Nat.add_zero] at c0 c3 C3
  have C3 := hide C3
  simp only
  by_cases x7 : xk = 7
  · rw [if_neg (by simp [x7])]
    subst x7
    by_cases k7 : k = 7
    · subst k7
      rw [if_pos rfl]
      go_enter Try.func25, Try.ntmps25
      go_wp2
      go_ret
      exact ⟨by simp, (by repeat (first | exact Ext.refl _ | exact Ext.alloc _ _ | exact Ext.drew _ | refine Ext.trans ?_ (Ext.alloc _ _) | refine Ext.trans ?_ (Ext.drew _)))⟩
    rw [if_neg k7]
    have p7 : (k == 7) = false := by simpa using k7
    by_cases ko : k = 8
    · rw [if_neg (by simpa using ko)]
      have po : (k != 8) = false := by simp [ko]
      clear ko
      rw [if_pos (by omega)]
      go_enter Try.func25, Try.ntmps25
      go_upto_region 21 with fail
      have HBA := hide (((Blk.new w #[Value.int .i64 cl, .bool true, .int .i64 5, .int .i64 ob, .int .i64 ar, .slice (some ⟨g, 0, none⟩) (m + 1) c] 50).ext (Ext.alloc _ (.cells #[Value.int .i64 k, .int .i64 t, .int .i64 o, .int .i64 a, .int .i64 r] 29))).ext (Ext.drew _))
      have hl2 := Blk.new (w.alloc (.cells #[Value.int .i64 cl, .bool true, .int .i64 5, .int .i64 ob, .int .i64 ar, .slice (some ⟨g, 0, none⟩) (m + 1) c] 50)) #[Value.int .i64 k, .int .i64 t, .int .i64 o, .int .i64 a, .int .i64 r] 29
      rw [World.size_alloc] at hl2
      have HBE := hide (hl2.ext (Ext.drew _))
      have HXX := hide (((Ext.alloc w (.cells #[Value.int .i64 cl, .bool true, .int .i64 5, .int .i64 ob, .int .i64 ar, .slice (some ⟨g, 0, none⟩) (m + 1) c] 50)).trans (Ext.alloc _ (.cells #[Value.int .i64 k, .int .i64 t, .int .i64 o, .int .i64 a, .int .i64 r] 29))).trans (Ext.drew _))
      have RG : ∀ w', Blk w' w.heap.size #[Value.int .i64 cl, .bool true, .int .i64 5, .int .i64 ob, .int .i64 ar, .slice (some ⟨g, 0, none⟩) (m + 1) c] 50 → Blk w' (w.heap.size + 1) #[Value.int .i64 k, .int .i64 t, .int .i64 o, .int .i64 a, .int .i64 r] 29 → w'.cell? ⟨w.heap.size, 2, none⟩ = some (.int .i64 5) ∧ w'.cell? ⟨w.heap.size + 1, 0, none⟩ = some (.int .i64 k) :=
        fun w' h1 h2 => ⟨h1.cell 2, h2.cell 0⟩
      refine wp_region_held_drew (S := fun w' => w'.cell? ⟨w.heap.size, 2, none⟩ = some (.int .i64 5) ∧ w'.cell? ⟨w.heap.size + 1, 0, none⟩ = some (.int .i64 k)) (by kernel_rfl) (by exact RG _ HBA.out HBE.out) (fun hHeld => ?_)
      clear hl2
      generalize ((w.alloc (.cells #[Value.int .i64 cl, .bool true, .int .i64 5, .int .i64 ob, .int .i64 ar, .slice (some ⟨g, 0, none⟩) (m + 1) c] 50)).alloc (.cells #[Value.int .i64 k, .int .i64 t, .int .i64 o, .int .i64 a, .int .i64 r] 29)).drew = W1 at *
      (refine held_take (i := 0) (v := ?_) rfl (by kernel_rfl) (by kernel_rfl) (by kernel_rfl) (fun _ _ _ h => h) (by rfl) ?_ (by assumption) ?_; rotate_left; (intro w hSw; (try dsimp only at hSw); (first | (go_simp; done) | (go_simp; with_reducible rfl))); (try simp only [Act.put, List.setIfInBounds_toArray, List.set_cons_zero, List.set_cons_succ]))
      (refine held_take (i := 1) (v := ?_) rfl (by kernel_rfl) (by kernel_rfl) (by kernel_rfl) (fun _ _ _ h => h) (by rfl) ?_ (by assumption) ?_; rotate_left; (intro w hSw; (try dsimp only at hSw); (first | (go_simp; done) | (go_simp; with_reducible rfl))); (try simp only [Act.put, List.setIfInBounds_toArray, List.set_cons_zero, List.set_cons_succ]))
      (refine held_take (i := 2) (v := ?_) rfl (by kernel_rfl) (by kernel_rfl) (by kernel_rfl) (fun _ _ _ h => h) (by rfl) ?_ (by assumption) ?_; rotate_left; (intro w hSw; (try dsimp only at hSw); (first | (go_simp; done) | (go_simp; with_reducible rfl))); (try simp only [Act.put, List.setIfInBounds_toArray, List.set_cons_zero, List.set_cons_succ]))
      (refine held_take (i := 3) (v := ?_) rfl (by kernel_rfl) (by kernel_rfl) (by kernel_rfl) (fun _ _ _ h => h) (by rfl) ?_ (by assumption) ?_; rotate_left; (intro w hSw; (try dsimp only at hSw); (first | (go_simp; done) | (go_simp; with_reducible rfl))); (try simp only [Act.put, List.setIfInBounds_toArray, List.set_cons_zero, List.set_cons_succ]))
      (refine held_take (i := 4) (v := ?_) rfl (by kernel_rfl) (by kernel_rfl) (by kernel_rfl) (fun _ _ _ h => h) (by rfl) ?_ (by assumption) ?_; rotate_left; (intro w hSw; (try dsimp only at hSw); (first | (go_simp; done) | (go_simp; with_reducible rfl))); (try simp only [Act.put, List.setIfInBounds_toArray, List.set_cons_zero, List.set_cons_succ]))
      refine wpAnyH_ready (rs := [5]) (by kernel_rfl) (by simp) (held_cons rfl (fun K hK => ?_) AllReadyH.nil)
      rw [if_pos (by rfl)]
      go_simp
      go_at_call 46
      refine (CO _).mono ?_
      rintro e w6 ⟨rfl, hx⟩
      have HBA := hide (HBA.out.ext hx)
      have HBE := hide (HBE.out.ext hx)
      have HXX := hide (HXX.out.trans hx)
      clear hx
      go_simp
      refine hK.out _ _ (RG _ HBA.out HBE.out) (fun hHeld => ?_)
      (try simp only [Act.put, List.setIfInBounds_toArray, List.set_cons_zero, List.set_cons_succ])
      (refine held_take (i := 6) (v := ?_) rfl (by kernel_rfl) (by kernel_rfl) (by kernel_rfl) (fun _ _ _ h => h) (by rfl) ?_ (by assumption) ?_; rotate_left; (intro w hSw; (try dsimp only at hSw); (first | (go_simp; done) | (go_simp; with_reducible rfl))); (try simp only [Act.put, List.setIfInBounds_toArray, List.set_cons_zero, List.set_cons_succ]))
      refine wpAnyH_done (by kernel_rfl) ?_ _
      have u2 := HBA.out.cell 2
      have u5 := HBA.out.cell 5
      have v3 := HBE.out.cell 3
      have z3 := C3.out _ HXX.out
      simp only [List.getElem?_toArray, List.getElem?_cons_zero, List.getElem?_cons_succ] at u2 u5 v3
      go_wp2_with fail
      go_ret
      exact ⟨by simp, HXX.out⟩
    · rw [if_pos ko]
      have po : (k != 8) = true := by simpa using ko
      go_enter Try.func25, Try.ntmps25
      go_upto_region 21 with fail
      have HBA := hide (((Blk.new w #[Value.int .i64 cl, .bool true, .int .i64 5, .int .i64 ob, .int .i64 ar, .slice (some ⟨g, 0, none⟩) (m + 1) c] 50).ext (Ext.alloc _ (.cells #[Value.int .i64 k, .int .i64 t, .int .i64 o, .int .i64 a, .int .i64 r] 29))).ext (Ext.drew _))
      have hl2 := Blk.new (w.alloc (.cells #[Value.int .i64 cl, .bool true, .int .i64 5, .int .i64 ob, .int .i64 ar, .slice (some ⟨g, 0, none⟩) (m + 1) c] 50)) #[Value.int .i64 k, .int .i64 t, .int .i64 o, .int .i64 a, .int .i64 r] 29
      rw [World.size_alloc] at hl2
      have HBE := hide (hl2.ext (Ext.drew _))
      have HXX := hide (((Ext.alloc w (.cells #[Value.int .i64 cl, .bool true, .int .i64 5, .int .i64 ob, .int .i64 ar, .slice (some ⟨g, 0, none⟩) (m + 1) c] 50)).trans (Ext.alloc _ (.cells #[Value.int .i64 k, .int .i64 t, .int .i64 o, .int .i64 a, .int .i64 r] 29))).trans (Ext.drew _))
      have RG : ∀ w', Blk w' w.heap.size #[Value.int .i64 cl, .bool true, .int .i64 5, .int .i64 ob, .int .i64 ar, .slice (some ⟨g, 0, none⟩) (m + 1) c] 50 → Blk w' (w.heap.size + 1) #[Value.int .i64 k, .int .i64 t, .int .i64 o, .int .i64 a, .int .i64 r] 29 → w'.cell? ⟨w.heap.size, 2, none⟩ = some (.int .i64 5) ∧ w'.cell? ⟨w.heap.size + 1, 0, none⟩ = some (.int .i64 k) :=
        fun w' h1 h2 => ⟨h1.cell 2, h2.cell 0⟩
      refine wp_region_held_drew (S := fun w' => w'.cell? ⟨w.heap.size, 2, none⟩ = some (.int .i64 5) ∧ w'.cell? ⟨w.heap.size + 1, 0, none⟩ = some (.int .i64 k)) (by kernel_rfl) (by exact RG _ HBA.out HBE.out) (fun hHeld => ?_)
      clear hl2
      generalize ((w.alloc (.cells #[Value.int .i64 cl, .bool true, .int .i64 5, .int .i64 ob, .int .i64 ar, .slice (some ⟨g, 0, none⟩) (m + 1) c] 50)).alloc (.cells #[Value.int .i64 k, .int .i64 t, .int .i64 o, .int .i64 a, .int .i64 r] 29)).drew = W1 at *
      (refine held_take (i := 0) (v := ?_) rfl (by kernel_rfl) (by kernel_rfl) (by kernel_rfl) (fun _ _ _ h => h) (by rfl) ?_ (by assumption) ?_; rotate_left; (intro w hSw; (try dsimp only at hSw); (first | (go_simp; done) | (go_simp; with_reducible rfl))); (try simp only [Act.put, List.setIfInBounds_toArray, List.set_cons_zero, List.set_cons_succ]))
      (refine held_take (i := 1) (v := ?_) rfl (by kernel_rfl) (by kernel_rfl) (by kernel_rfl) (fun _ _ _ h => h) (by rfl) ?_ (by assumption) ?_; rotate_left; (intro w hSw; (try dsimp only at hSw); (first | (go_simp; done) | (go_simp; with_reducible rfl))); (try simp only [Act.put, List.setIfInBounds_toArray, List.set_cons_zero, List.set_cons_succ]))
      (refine held_take (i := 2) (v := ?_) rfl (by kernel_rfl) (by kernel_rfl) (by kernel_rfl) (fun _ _ _ h => h) (by rfl) ?_ (by assumption) ?_; rotate_left; (intro w hSw; (try dsimp only at hSw); (first | (go_simp; done) | (go_simp; with_reducible rfl))); (try simp only [Act.put, List.setIfInBounds_toArray, List.set_cons_zero, List.set_cons_succ]))
      (refine held_take (i := 3) (v := ?_) rfl (by kernel_rfl) (by kernel_rfl) (by kernel_rfl) (fun _ _ _ h => h) (by rfl) ?_ (by assumption) ?_; rotate_left; (intro w hSw; (try dsimp only at hSw); (first | (go_simp; done) | (go_simp; with_reducible rfl))); (try simp only [Act.put, List.setIfInBounds_toArray, List.set_cons_zero, List.set_cons_succ]))
      (refine held_take (i := 4) (v := ?_) rfl (by kernel_rfl) (by kernel_rfl) (by kernel_rfl) (fun _ _ _ h => h) (by rfl) ?_ (by assumption) ?_; rotate_left; (intro w hSw; (try dsimp only at hSw); (first | (go_simp; done) | (go_simp; with_reducible rfl))); (try simp only [Act.put, List.setIfInBounds_toArray, List.set_cons_zero, List.set_cons_succ]))
      refine wpAnyH_ready (rs := [5]) (by kernel_rfl) (by simp) (held_cons rfl (fun K hK => ?_) AllReadyH.nil)
      rw [if_pos (by rfl)]
      go_simp
      go_at_call 46
      refine (CO _).mono ?_
      rintro e w6 ⟨rfl, hx⟩
      have HBA := hide (HBA.out.ext hx)
      have HBE := hide (HBE.out.ext hx)
      have HXX := hide (HXX.out.trans hx)
      clear hx
      go_simp
      refine hK.out _ _ (RG _ HBA.out HBE.out) (fun hHeld => ?_)
      (try simp only [Act.put, List.setIfInBounds_toArray, List.set_cons_zero, List.set_cons_succ])
      (refine held_take (i := 6) (v := ?_) rfl (by kernel_rfl) (by kernel_rfl) (by kernel_rfl) (fun _ _ _ h => h) (by rfl) ?_ (by assumption) ?_; rotate_left; (intro w hSw; (try dsimp only at hSw); (first | (go_simp; done) | (go_simp; with_reducible rfl))); (try simp only [Act.put, List.setIfInBounds_toArray, List.set_cons_zero, List.set_cons_succ]))
      refine wpAnyH_done (by kernel_rfl) ?_ _
      go_wp2_with fail
      go_ret
      exact ⟨by simp, HXX.out⟩
  · rw [if_pos ⟨by omega, x7⟩]
    have p7 : (xk != 7) = true := by simpa using x7
    clear C3
    go_enter Try.func25, Try.ntmps25
    go_wp2
    go_ret
    exact ⟨by simp, (by repeat (first | exact Ext.refl _ | exact Ext.alloc _ _ | exact Ext.drew _ | refine Ext.trans ?_ (Ext.alloc _ _) | refine Ext.trans ?_ (Ext.drew _)))⟩
theorem rcom_6 {w : World} {B c : Nat} {A : Option Addr} (cl ob ar k t o a r : Int) (l : List Ev) (h : Lw w B (.slice A l.length c) l) (hl : l.length ≤ 1000) (ho : (o != ob) = false) :
    Calls Try.prog 25 #[.agg #[Value.int .i64 cl, .bool true, .int .i64 6, .int .i64 ob, .int .i64 ar, .slice A l.length c], (Value.agg #[.int .i64 k, .int .i64 t, .int .i64 o, .int .i64 a, .int .i64 r])] w fun e w' => e = .returned (.bool (if 0 < l.length ∧ (lst l).k ≠ 7 then false else if k = 7 then ((6 : Int) == 6) || decide (l.length = 0) else if k ≠ 9 then false else ((6 : Int) == 6) || a == (if 0 < l.length then (lst l).a else -1))) ∧ Ext w w' := by
  have CO := fun w' => rown_any (k := 6) (by omega) w'
  rw [show ownI 6 = 9 from rfl] at CO
  by_cases l0 : l.length = 0
  · rw [l0]
    rw [if_neg (by omega)]
    clear h hl
    by_cases k7 : k = 7
    · subst k7
      rw [if_pos rfl]
      go_enter Try.func25, Try.ntmps25
      go_wp2
      go_ret
      exact ⟨by simp, (by repeat (first | exact Ext.refl _ | exact Ext.alloc _ _ | exact Ext.drew _ | refine Ext.trans ?_ (Ext.alloc _ _) | refine Ext.trans ?_ (Ext.drew _)))⟩
    rw [if_neg k7]
    have p7 : (k == 7) = false := by simpa using k7
    by_cases ko : k = 9
    · rw [if_neg (by simpa using ko)]
      have po : (k != 9) = false := by simp [ko]
      clear ko
      rw [if_neg (by omega)]
      go_enter Try.func25, Try.ntmps25
      go_upto_region 21 with fail
      have HBA := hide (((Blk.new w #[Value.int .i64 cl, .bool true, .int .i64 6, .int .i64 ob, .int .i64 ar, .slice A 0 c] 50).ext (Ext.alloc _ (.cells #[Value.int .i64 k, .int .i64 t, .int .i64 o, .int .i64 a, .int .i64 r] 29))).ext (Ext.drew _))
      have hl2 := Blk.new (w.alloc (.cells #[Value.int .i64 cl, .bool true, .int .i64 6, .int .i64 ob, .int .i64 ar, .slice A 0 c] 50)) #[Value.int .i64 k, .int .i64 t, .int .i64 o, .int .i64 a, .int .i64 r] 29
      rw [World.size_alloc] at hl2
      have HBE := hide (hl2.ext (Ext.drew _))
      have HXX := hide (((Ext.alloc w (.cells #[Value.int .i64 cl, .bool true, .int .i64 6, .int .i64 ob, .int .i64 ar, .slice A 0 c] 50)).trans (Ext.alloc _ (.cells #[Value.int .i64 k, .int .i64 t, .int .i64 o, .int .i64 a, .int .i64 r] 29))).trans (Ext.drew _))
      have RG : ∀ w', Blk w' w.heap.size #[Value.int .i64 cl, .bool true, .int .i64 6, .int .i64 ob, .int .i64 ar, .slice A 0 c] 50 → Blk w' (w.heap.size + 1) #[Value.int .i64 k, .int .i64 t, .int .i64 o, .int .i64 a, .int .i64 r] 29 → w'.cell? ⟨w.heap.size, 2, none⟩ = some (.int .i64 6) ∧ w'.cell? ⟨w.heap.size + 1, 0, none⟩ = some (.int .i64 k) :=
        fun w' h1 h2 => ⟨h1.cell 2, h2.cell 0⟩
      refine wp_region_held_drew (S := fun w' => w'.cell? ⟨w.heap.size, 2, none⟩ = some (.int .i64 6) ∧ w'.cell? ⟨w.heap.size + 1, 0, none⟩ = some (.int .i64 k)) (by kernel_rfl) (by exact RG _ HBA.out HBE.out) (fun hHeld => ?_)
      clear hl2
      generalize ((w.alloc (.cells #[Value.int .i64 cl, .bool true, .int .i64 6, .int .i64 ob, .int .i64 ar, .slice A 0 c] 50)).alloc (.cells #[Value.int .i64 k, .int .i64 t, .int .i64 o, .int .i64 a, .int .i64 r] 29)).drew = W1 at *
      (refine held_take (i := 0) (v := ?_) rfl (by kernel_rfl) (by kernel_rfl) (by kernel_rfl) (fun _ _ _ h => h) (by rfl) ?_ (by assumption) ?_; rotate_left; (intro w hSw; (try dsimp only at hSw); (first | (go_simp; done) | (go_simp; with_reducible rfl))); (try simp only [Act.put, List.setIfInBounds_toArray, List.set_cons_zero, List.set_cons_succ]))
      (refine held_take (i := 1) (v := ?_) rfl (by kernel_rfl) (by kernel_rfl) (by kernel_rfl) (fun _ _ _ h => h) (by rfl) ?_ (by assumption) ?_; rotate_left; (intro w hSw; (try dsimp only at hSw); (first | (go_simp; done) | (go_simp; with_reducible rfl))); (try simp only [Act.put, List.setIfInBounds_toArray, List.set_cons_zero, List.set_cons_succ]))
      (refine held_take (i := 2) (v := ?_) rfl (by kernel_rfl) (by kernel_rfl) (by kernel_rfl) (fun _ _ _ h => h) (by rfl) ?_ (by assumption) ?_; rotate_left; (intro w hSw; (try dsimp only at hSw); (first | (go_simp; done) | (go_simp; with_reducible rfl))); (try simp only [Act.put, List.setIfInBounds_toArray, List.set_cons_zero, List.set_cons_succ]))
      (refine held_take (i := 3) (v := ?_) rfl (by kernel_rfl) (by kernel_rfl) (by kernel_rfl) (fun _ _ _ h => h) (by rfl) ?_ (by assumption) ?_; rotate_left; (intro w hSw; (try dsimp only at hSw); (first | (go_simp; done) | (go_simp; with_reducible rfl))); (try simp only [Act.put, List.setIfInBounds_toArray, List.set_cons_zero, List.set_cons_succ]))
      (refine held_take (i := 4) (v := ?_) rfl (by kernel_rfl) (by kernel_rfl) (by kernel_rfl) (fun _ _ _ h => h) (by rfl) ?_ (by assumption) ?_; rotate_left; (intro w hSw; (try dsimp only at hSw); (first | (go_simp; done) | (go_simp; with_reducible rfl))); (try simp only [Act.put, List.setIfInBounds_toArray, List.set_cons_zero, List.set_cons_succ]))
      refine wpAnyH_ready (rs := [5]) (by kernel_rfl) (by simp) (held_cons rfl (fun K hK => ?_) AllReadyH.nil)
      rw [if_pos (by rfl)]
      go_simp
      go_at_call 46
      refine (CO _).mono ?_
      rintro e w6 ⟨rfl, hx⟩
      have HBA := hide (HBA.out.ext hx)
      have HBE := hide (HBE.out.ext hx)
      have HXX := hide (HXX.out.trans hx)
      clear hx
      go_simp
      refine hK.out _ _ (RG _ HBA.out HBE.out) (fun hHeld => ?_)
      (try simp only [Act.put, List.setIfInBounds_toArray, List.set_cons_zero, List.set_cons_succ])
      (refine held_take (i := 6) (v := ?_) rfl (by kernel_rfl) (by kernel_rfl) (by kernel_rfl) (fun _ _ _ h => h) (by rfl) ?_ (by assumption) ?_; rotate_left; (intro w hSw; (try dsimp only at hSw); (first | (go_simp; done) | (go_simp; with_reducible rfl))); (try simp only [Act.put, List.setIfInBounds_toArray, List.set_cons_zero, List.set_cons_succ]))
      refine wpAnyH_done (by kernel_rfl) ?_ _
      have u2 := HBA.out.cell 2
      have u5 := HBA.out.cell 5
      have v3 := HBE.out.cell 3
      simp only [List.getElem?_toArray, List.getElem?_cons_zero, List.getElem?_cons_succ] at u2 u5 v3
      go_wp2_with fail
      go_ret
      exact ⟨by simp, HXX.out⟩
    · rw [if_pos ko]
      have po : (k != 9) = true := by simpa using ko
      go_enter Try.func25, Try.ntmps25
      go_upto_region 21 with fail
      have HBA := hide (((Blk.new w #[Value.int .i64 cl, .bool true, .int .i64 6, .int .i64 ob, .int .i64 ar, .slice A 0 c] 50).ext (Ext.alloc _ (.cells #[Value.int .i64 k, .int .i64 t, .int .i64 o, .int .i64 a, .int .i64 r] 29))).ext (Ext.drew _))
      have hl2 := Blk.new (w.alloc (.cells #[Value.int .i64 cl, .bool true, .int .i64 6, .int .i64 ob, .int .i64 ar, .slice A 0 c] 50)) #[Value.int .i64 k, .int .i64 t, .int .i64 o, .int .i64 a, .int .i64 r] 29
      rw [World.size_alloc] at hl2
      have HBE := hide (hl2.ext (Ext.drew _))
      have HXX := hide (((Ext.alloc w (.cells #[Value.int .i64 cl, .bool true, .int .i64 6, .int .i64 ob, .int .i64 ar, .slice A 0 c] 50)).trans (Ext.alloc _ (.cells #[Value.int .i64 k, .int .i64 t, .int .i64 o, .int .i64 a, .int .i64 r] 29))).trans (Ext.drew _))
      have RG : ∀ w', Blk w' w.heap.size #[Value.int .i64 cl, .bool true, .int .i64 6, .int .i64 ob, .int .i64 ar, .slice A 0 c] 50 → Blk w' (w.heap.size + 1) #[Value.int .i64 k, .int .i64 t, .int .i64 o, .int .i64 a, .int .i64 r] 29 → w'.cell? ⟨w.heap.size, 2, none⟩ = some (.int .i64 6) ∧ w'.cell? ⟨w.heap.size + 1, 0, none⟩ = some (.int .i64 k) :=
        fun w' h1 h2 => ⟨h1.cell 2, h2.cell 0⟩
      refine wp_region_held_drew (S := fun w' => w'.cell? ⟨w.heap.size, 2, none⟩ = some (.int .i64 6) ∧ w'.cell? ⟨w.heap.size + 1, 0, none⟩ = some (.int .i64 k)) (by kernel_rfl) (by exact RG _ HBA.out HBE.out) (fun hHeld => ?_)
      clear hl2
      generalize ((w.alloc (.cells #[Value.int .i64 cl, .bool true, .int .i64 6, .int .i64 ob, .int .i64 ar, .slice A 0 c] 50)).alloc (.cells #[Value.int .i64 k, .int .i64 t, .int .i64 o, .int .i64 a, .int .i64 r] 29)).drew = W1 at *
      (refine held_take (i := 0) (v := ?_) rfl (by kernel_rfl) (by kernel_rfl) (by kernel_rfl) (fun _ _ _ h => h) (by rfl) ?_ (by assumption) ?_; rotate_left; (intro w hSw; (try dsimp only at hSw); (first | (go_simp; done) | (go_simp; with_reducible rfl))); (try simp only [Act.put, List.setIfInBounds_toArray, List.set_cons_zero, List.set_cons_succ]))
      (refine held_take (i := 1) (v := ?_) rfl (by kernel_rfl) (by kernel_rfl) (by kernel_rfl) (fun _ _ _ h => h) (by rfl) ?_ (by assumption) ?_; rotate_left; (intro w hSw; (try dsimp only at hSw); (first | (go_simp; done) | (go_simp; with_reducible rfl))); (try simp only [Act.put, List.setIfInBounds_toArray, List.set_cons_zero, List.set_cons_succ]))
      (refine held_take (i := 2) (v := ?_) rfl (by kernel_rfl) (by kernel_rfl) (by kernel_rfl) (fun _ _ _ h => h) (by rfl) ?_ (by assumption) ?_; rotate_left; (intro w hSw; (try dsimp only at hSw); (first | (go_simp; done) | (go_simp; with_reducible rfl))); (try simp only [Act.put, List.setIfInBounds_toArray, List.set_cons_zero, List.set_cons_succ]))
      (refine held_take (i := 3) (v := ?_) rfl (by kernel_rfl) (by kernel_rfl) (by kernel_rfl) (fun _ _ _ h => h) (by rfl) ?_ (by assumption) ?_; rotate_left; (intro w hSw; (try dsimp only at hSw); (first | (go_simp; done) | (go_simp; with_reducible rfl))); (try simp only [Act.put, List.setIfInBounds_toArray, List.set_cons_zero, List.set_cons_succ]))
      (refine held_take (i := 4) (v := ?_) rfl (by kernel_rfl) (by kernel_rfl) (by kernel_rfl) (fun _ _ _ h => h) (by rfl) ?_ (by assumption) ?_; rotate_left; (intro w hSw; (try dsimp only at hSw); (first | (go_simp; done) | (go_simp; with_reducible rfl))); (try simp only [Act.put, List.setIfInBounds_toArray, List.set_cons_zero, List.set_cons_succ]))
      refine wpAnyH_ready (rs := [5]) (by kernel_rfl) (by simp) (held_cons rfl (fun K hK => ?_) AllReadyH.nil)
      rw [if_pos (by rfl)]
      go_simp
      go_at_call 46
      refine (CO _).mono ?_
      rintro e w6 ⟨rfl, hx⟩
      have HBA := hide (HBA.out.ext hx)
      have HBE := hide (HBE.out.ext hx)
      have HXX := hide (HXX.out.trans hx)
      clear hx
      go_simp
      refine hK.out _ _ (RG _ HBA.out HBE.out) (fun hHeld => ?_)
      (try simp only [Act.put, List.setIfInBounds_toArray, List.set_cons_zero, List.set_cons_succ])
      (refine held_take (i := 6) (v := ?_) rfl (by kernel_rfl) (by kernel_rfl) (by kernel_rfl) (fun _ _ _ h => h) (by rfl) ?_ (by assumption) ?_; rotate_left; (intro w hSw; (try dsimp only at hSw); (first | (go_simp; done) | (go_simp; with_reducible rfl))); (try simp only [Act.put, List.setIfInBounds_toArray, List.set_cons_zero, List.set_cons_succ]))
      refine wpAnyH_done (by kernel_rfl) ?_ _
      go_wp2_with fail
      go_ret
      exact ⟨by simp, HXX.out⟩
  obtain ⟨m, hm⟩ : ∃ m, l.length = m + 1 := ⟨l.length - 1, by omega⟩
  rw [hm] at h ⊢
  obtain ⟨g, rfl, hgB, hgl, hc⟩ := h.last hm
  have mi : (m : Int) ≤ 1000 := by omega
  have m1 : (m : Int) < ((m + 1 : Nat) : Int) := by omega
  have p0 : ((m : Int) + 1 == 0) = false := by simp; omega
  have g0 : (0 : Int) < (m : Int) + 1 := by omega
  have hx : Ext w ((w.alloc (.cells #[.int .i64 cl, .bool true, .int .i64 6, .int .i64 ob, .int .i64 ar, .slice (some ⟨g, 0, none⟩) (m + 1) c] 50)).alloc (.cells #[Value.int .i64 k, .int .i64 t, .int .i64 o, .int .i64 a, .int .i64 r] 29)) := (Ext.alloc _ _).trans (Ext.alloc _ _)
  have c0 := (hx.oldCell g (m * 5 + 0) hgl).trans (hc 0 (by omega))
  have c3 := (hx.oldCell g (m * 5 + 3) hgl).trans (hc 3 (by omega))
  have C3 := fun w' (x : Ext w w') => (x.oldCell g (m * 5 + 3) hgl).trans (hc 3 (by omega))
  clear h hc hm l0 hl hx hgl
  generalize lst l = x at *
  obtain ⟨xk, xt, xo, xa, xr⟩ := x
  simp only [evc, List.getElem?_toArray, List.getElem?_cons_zero, List.getElem?_cons_succ, Nat.add_zero] at c0 c3 C3
  have C3 := hide C3
  simp only
  by_cases x7 : xk = 7
  · rw [if_neg (by simp [x7])]
    subst x7
    by_cases k7 : k = 7
    · subst k7
      rw [if_pos rfl]
      go_enter Try.func25, Try.ntmps25
      go_wp2
      go_ret
      exact ⟨by simp, (by repeat (first | exact Ext.refl _ | exact Ext.alloc _ _ | exact Ext.drew _ | refine Ext.trans ?_ (Ext.alloc _ _) | refine Ext.trans ?_ (Ext.drew _)))⟩
    rw [if_neg k7]
    have p7 : (k == 7) = false := by simpa using k7
    by_cases ko : k = 9
    · rw [if_neg (by simpa using ko)]
      have po : (k != 9) = false := by simp [ko]
      clear ko
      rw [if_pos (by omega)]
      go_enter Try.func25, Try.ntmps25
      go_upto_region 21 with fail
      have HBA := hide (((Blk.new w #[Value.int .i64 cl, .bool true, .int .i64 6, .int .i64 ob, .int .i64 ar, .slice (some ⟨g, 0, none⟩) (m + 1) c] 50).ext (Ext.alloc _ (.cells #[Value.int .i64 k, .int .i64 t, .int .i64 o, .int .i64 a, .int .i64 r] 29))).ext (Ext.drew _))
      have hl2 := Blk.new (w.alloc (.cells #[Value.int .i64 cl, .bool true, .int .i64 6, .int .i64 ob, .int .i64 ar, .slice (some ⟨g, 0, none⟩) (m + 1) c] 50)) #[Value.int .i64 k, .int .i64 t, .int .i64 o, .int .i64 a, .int .i64 r] 29
      rw [World.size_alloc] at hl2
      have HBE := hide (hl2.ext (Ext.drew _))
      have HXX := hide (((Ext.alloc w (.cells #[Value.int .i64 cl, .bool true, .int .i64 6, .int .i64 ob, .int .i64 ar, .slice (some ⟨g, 0, none⟩) (m + 1) c] 50)).trans (Ext.alloc _ (.cells #[Value.int .i64 k, .int .i64 t, .int .i64 o, .int .i64 a, .int .i64 r] 29))).trans (Ext.drew _))
      have RG : ∀ w', Blk w' w.heap.size #[Value.int .i64 cl, .bool true, .int .i64 6, .int .i64 ob, .int .i64 ar, .slice (some ⟨g, 0, none⟩) (m + 1) c] 50 → Blk w' (w.heap.size + 1) #[Value.int .i64 k, .int .i64 t, .int .i64 o, .int .i64 a, .int .i64 r] 29 → w'.cell? ⟨w.heap.size, 2, none⟩ = some (.int .i64 6) ∧ w'.cell? ⟨w.heap.size + 1, 0, none⟩ = some (.int .i64 k) :=
        fun w' h1 h2 => ⟨h1.cell 2, h2.cell 0⟩
      refine wp_region_held_drew (S := fun w' => w'.cell? ⟨w.heap.size, 2, none⟩ = some (.int .i64 6) ∧ w'.cell? ⟨w.heap.size + 1, 0, none⟩ = some (.int .i64 k)) (by kernel_rfl) (by exact RG _ HBA.out HBE.out) (fun hHeld => ?_)
      clear hl2
      generalize ((w.alloc (.cells #[Value.int .i64 cl, .bool true, .int .i64 6, .int .i64 ob, .int .i64 ar, .slice (some ⟨g, 0, none⟩) (m + 1) c] 50)).alloc (.cells #[Value.int .i64 k, .int .i64 t, .int .i64 o, .int .i64 a, .int .i64 r] 29)).drew = W1 at *
      (refine held_take (i := 0) (v := ?_) rfl (by kernel_rfl) (by kernel_rfl) (by kernel_rfl) (fun _ _ _ h => h) (by rfl) ?_ (by assumption) ?_; rotate_left; (intro w hSw; (try dsimp only at hSw); (first | (go_simp; done) | (go_simp; with_reducible rfl))); (try simp only [Act.put, List.setIfInBounds_toArray, List.set_cons_zero, List.set_cons_succ]))
      (refine held_take (i := 1) (v := ?_) rfl (by kernel_rfl) (by kernel_rfl) (by kernel_rfl) (fun _ _ _ h => h) (by rfl) ?_ (by assumption) ?_; rotate_left; (intro w hSw; (try dsimp only at hSw); (first | (go_simp; done) | (go_simp; with_reducible rfl))); (try simp only [Act.put, List.setIfInBounds_toArray, List.set_cons_zero, List.set_cons_succ]))
      (refine held_take (i := 2) (v := ?_) rfl (by kernel_rfl) (by kernel_rfl) (by kernel_rfl) (fun _ _ _ h => h) (by rfl) ?_ (by assumption) ?_; rotate_left; (intro w hSw; (try dsimp only at hSw); (first | (go_simp; done) | (go_simp; with_reducible rfl))); (try simp only [Act.put, List.setIfInBounds_toArray, List.set_cons_zero, List.set_cons_succ]))
      (refine held_take (i := 3) (v := ?_) rfl (by kernel_rfl) (by kernel_rfl) (by kernel_rfl) (fun _ _ _ h => h) (by rfl) ?_ (by assumption) ?_; rotate_left; (intro w hSw; (try dsimp only at hSw); (first | (go_simp; done) | (go_simp; with_reducible rfl))); (try simp only [Act.put, List.setIfInBounds_toArray, List.set_cons_zero, List.set_cons_succ]))
      (refine held_take (i := 4) (v := ?_) rfl (by kernel_rfl) (by kernel_rfl) (by kernel_rfl) (fun _ _ _ h => h) (by rfl) ?_ (by assumption) ?_; rotate_left; (intro w hSw; (try dsimp only at hSw); (first | (go_simp; done) | (go_simp; with_reducible rfl))); (try simp only [Act.put, List.setIfInBounds_toArray, List.set_cons_zero, List.set_cons_succ]))
      refine wpAnyH_ready (rs := [5]) (by kernel_rfl) (by simp) (held_cons rfl (fun K hK => ?_) AllReadyH.nil)
      rw [if_pos (by rfl)]
      go_simp
      go_at_call 46
      refine (CO _).mono ?_
      rintro e w6 ⟨rfl, hx⟩
      have HBA := hide (HBA.out.ext hx)
      have HBE := hide (HBE.out.ext hx)
      have HXX := hide (HXX.out.trans hx)
      clear hx
      go_simp
      refine hK.out _ _ (RG _ HBA.out HBE.out) (fun hHeld => ?_)
      (try simp only [Act.put, List.setIfInBounds_toArray, List.set_cons_zero, List.set_cons_succ])
      (refine held_take (i := 6) (v := ?_) rfl (by kernel_rfl) (by kernel_rfl) (by kernel_rfl) (fun _ _ _ h => h) (by rfl) ?_ (by assumption) ?_; rotate_left; (intro w hSw; (try dsimp only at hSw); (first | (go_simp; done) | (go_simp; with_reducible rfl))); (try simp only [Act.put, List.setIfInBounds_toArray, List.set_cons_zero, List.set_cons_succ]))
      refine wpAnyH_done (by kernel_rfl) ?_ _
      have u2 := HBA.out.cell 2
      have u5 := HBA.out.cell 5
      have v3 := HBE.out.cell 3
      have z3 := C3.out _ HXX.out
      simp only [List.getElem?_toArray, List.getElem?_cons_zero, List.getElem?_cons_succ] at u2 u5 v3
      go_wp2_with fail
      go_ret
      exact ⟨by simp, HXX.out⟩
    · rw [if_pos ko]
      have po : (k != 9) = true := by simpa using ko
      go_enter Try.func25, Try.ntmps25
      go_upto_region 21 with fail
      have HBA := hide (((Blk.new w #[Value.int .i64 cl, .bool true, .int .i64 6, .int .i64 ob, .int .i64 ar, .slice (some ⟨g, 0, none⟩) (m + 1) c] 50).ext (Ext.alloc _ (.cells #[Value.int .i64 k, .int .i64 t, .int .i64 o, .int .i64 a, .int .i64 r] 29))).ext (Ext.drew _))
      have hl2 := Blk.new (w.alloc (.cells #[Value.int .i64 cl, .bool true, .int .i64 6, .int .i64 ob, .int .i64 ar, .slice (some ⟨g, 0, none⟩) (m + 1) c] 50)) #[Value.int .i64 k, .int .i64 t, .int .i64 o, .int .i64 a, .int .i64 r] 29
      rw [World.size_alloc] at hl2
      have HBE := hide (hl2.ext (Ext.drew _))
      have HXX := hide (((Ext.alloc w (.cells #[Value.int .i64 cl, .bool true, .int .i64 6, .int .i64 ob, .int .i64 ar, .slice (some ⟨g, 0, none⟩) (m + 1) c] 50)).trans (Ext.alloc _ (.cells #[Value.int .i64 k, .int .i64 t, .int .i64 o, .int .i64 a, .int .i64 r] 29))).trans (Ext.drew _))
      have RG : ∀ w', Blk w' w.heap.size #[Value.int .i64 cl, .bool true, .int .i64 6, .int .i64 ob, .int .i64 ar, .slice (some ⟨g, 0, none⟩) (m + 1) c] 50 → Blk w' (w.heap.size + 1) #[Value.int .i64 k, .int .i64 t, .int .i64 o, .int .i64 a, .int .i64 r] 29 → w'.cell? ⟨w.heap.size, 2, none⟩ = some (.int .i64 6) ∧ w'.cell? ⟨w.heap.size + 1, 0, none⟩ = some (.int .i64 k) :=
        fun w' h1 h2 => ⟨h1.cell 2, h2.cell 0⟩
      refine wp_region_held_drew (S := fun w' => w'.cell? ⟨w.heap.size, 2, none⟩ = some (.int .i64 6) ∧ w'.cell? ⟨w.heap.size + 1, 0, none⟩ = some (.int .i64 k)) (by kernel_rfl) (by exact RG _ HBA.out HBE.out) (fun hHeld => ?_)
      clear hl2
      generalize ((w.alloc (.cells #[Value.int .i64 cl, .bool true, .int .i64 6, .int .i64 ob, .int .i64 ar, .slice (some ⟨g, 0, none⟩) (m + 1) c] 50)).alloc (.cells #[Value.int .i64 k, .int .i64 t, .int .i64 o, .int .i64 a, .int .i64 r] 29)).drew = W1 at *
      (refine held_take (i := 0) (v := ?_) rfl (by kernel_rfl) (by kernel_rfl) (by kernel_rfl) (fun _ _ _ h => h) (by rfl) ?_ (by assumption) ?_; rotate_left; (intro w hSw; (try dsimp only at hSw); (first | (go_simp; done) | (go_simp; with_reducible rfl))); (try simp only [Act.put, List.setIfInBounds_toArray, List.set_cons_zero, List.set_cons_succ]))
      (refine held_take (i := 1) (v := ?_) rfl (by kernel_rfl) (by kernel_rfl) (by kernel_rfl) (fun _ _ _ h => h) (by rfl) ?_ (by assumption) ?_; rotate_left; (intro w hSw; (try dsimp only at hSw); (first | (go_simp; done) | (go_simp; with_reducible rfl))); (try simp only [Act.put, List.setIfInBounds_toArray, List.set_cons_zero, List.set_cons_succ]))
      (refine held_take (i := 2) (v := ?_) rfl (by kernel_rfl) (by kernel_rfl) (by kernel_rfl) (fun _ _ _ h => h) (by rfl) ?_ (by assumption) ?_; rotate_left; (intro w hSw; (try dsimp only at hSw); (first | (go_simp; done) | (go_simp; with_reducible rfl))); (try simp only [Act.put, List.setIfInBounds_toArray, List.set_cons_zero, List.set_cons_succ]))
      (refine held_take (i := 3) (v := ?_) rfl (by kernel_rfl) (by kernel_rfl) (by kernel_rfl) (fun _ _ _ h => h) (by rfl) ?_ (by assumption) ?_; rotate_left; (intro w hSw; (try dsimp only at hSw); (first | (go_simp; done) | (go_simp; with_reducible rfl))); (try simp only [Act.put, List.setIfInBounds_toArray, List.set_cons_zero, List.set_cons_succ]))
      (refine held_take (i := 4) (v := ?_) rfl (by kernel_rfl) (by kernel_rfl) (by kernel_rfl) (fun _ _ _ h => h) (by rfl) ?_ (by assumption) ?_; rotate_left; (intro w hSw; (try dsimp only at hSw); (first | (go_simp; done) | (go_simp; with_reducible rfl))); (try simp only [Act.put, List.setIfInBounds_toArray, List.set_cons_zero, List.set_cons_succ]))
      refine wpAnyH_ready (rs := [5]) (by kernel_rfl) (by simp) (held_cons rfl (fun K hK => ?_) AllReadyH.nil)
      rw [if_pos (by rfl)]
      go_simp
      go_at_call 46
      refine (CO _).mono ?_
      rintro e w6 ⟨rfl, hx⟩
      have HBA := hide (HBA.out.ext hx)
      have HBE := hide (HBE.out.ext hx)
      have HXX := hide (HXX.out.trans hx)
      clear hx
      go_simp
      refine hK.out _ _ (RG _ HBA.out HBE.out) (fun hHeld => ?_)
      (try simp only [Act.put, List.setIfInBounds_toArray, List.set_cons_zero, List.set_cons_succ])
      (refine held_take (i := 6) (v := ?_) rfl (by kernel_rfl) (by kernel_rfl) (by kernel_rfl) (fun _ _ _ h => h) (by rfl) ?_ (by assumption) ?_; rotate_left; (intro w hSw; (try dsimp only at hSw); (first | (go_simp; done) | (go_simp; with_reducible rfl))); (try simp only [Act.put, List.setIfInBounds_toArray, List.set_cons_zero, List.set_cons_succ]))
      refine wpAnyH_done (by kernel_rfl) ?_ _
      go_wp2_with fail
      go_ret
      exact ⟨by simp, HXX.out⟩
  · rw [if_pos ⟨by omega, x7⟩]
    have p7 : (xk != 7) = true := by simpa using x7
    clear C3
    go_enter Try.func25, Try.ntmps25
    go_wp2
    go_ret
    exact ⟨by simp, (by repeat (first | exact Ext.refl _ | exact Ext.alloc _ _ | exact Ext.drew _ | refine Ext.trans ?_ (Ext.alloc _ _) | refine Ext.trans ?_ (Ext.drew _)))⟩
end Go.Proofs.Ytacneghgimfklaa

namespace Go.Proofs.Ytacneghgimfklaa
open Go.RowKit Go.Maps
set_option linter.unusedSimpArgs false
set_option linter.unusedVariables false


theorem rcommit_any {w : World} {B c : Nat} {A : Option Addr} (cl : Int) (d : Dg) (l : List Ev) (h : Lw w B (.slice A l.length c) l) (hl : l.length ≤ 1000) (hk : d.st ≠ 0 → 1 ≤ d.kd ∧ d.kd ≤ 9) (k t o a r : Int) :
    Calls Try.prog 25 #[.agg #[.int .i64 cl, .bool (d.st != 0), .int .i64 d.kd, .int .i64 d.ob, .int .i64 d.ar, .slice A l.length c], .agg #[.int .i64 k, .int .i64 t, .int .i64 o, .int .i64 a, .int .i64 r]] w fun e w' => e = .returned (.bool (rcB d l k o a)) ∧ Ext w w' := by
  obtain ⟨kd, ob, ar, nu, st, wo, la, va, er⟩ := d
  simp only at hk ⊢
  unfold rcB obO
  simp only
  by_cases s0 : st = 0
  · rw [if_pos s0, show (st != 0) = false by rw [s0]; rfl]
    exact rcom_0 _ _ _ _ _ _ _ _ _ _ _ _ _
  rw [if_neg s0, show (st != 0) = true by simpa using s0]
  have hk := hk s0
  by_cases k9 : kd = 9
  · subst k9
    rw [if_pos rfl]
    by_cases q : (o != 0) = true ∨ (a != ar) = true
    · rw [if_pos (by rcases q with q | q; exact .inl q; exact .inr ⟨rfl, q⟩)]
      exact rcom_o9 _ _ _ _ _ _ _ _ _ _ _ _ q
    · rw [if_neg (by rintro (h | ⟨_, h⟩); exact q (.inl h); exact q (.inr h)), if_neg (by omega), if_neg (by omega)]
      have q1 : (o != 0) = false := by cases e : (o != 0); rfl; exact absurd (.inl e) q
      have q2 : (a != ar) = false := by cases e : (a != ar); rfl; exact absurd (.inr e) q
      exact rcom_9 _ _ _ _ _ _ _ _ _ _ _ _ hl q1 q2
  rw [if_neg k9]
  have p9 : (kd == 9) = false := by simpa using k9
  cases q : (o != ob)
  · rw [if_neg (by rintro (h | ⟨h, _⟩); cases h; exact k9 h)]
    by_cases k4 : kd = 4
    · subst k4
      rw [if_pos rfl]
      exact rcom_4 _ _ _ _ _ _ _ _ l h hl q
    rw [if_neg k4]
    by_cases k5 : kd = 5
    · subst k5
      rw [if_pos (.inl rfl)]
      exact rcom_5 _ _ _ _ _ _ _ _ l h hl q
    by_cases k6 : kd = 6
    · subst k6
      rw [if_pos (.inr rfl)]
      exact rcom_6 _ _ _ _ _ _ _ _ l h hl q
    rw [if_neg (by omega)]
    exact rcom_1 _ _ _ _ _ _ _ _ _ _ _ _ _ hl hk (by simpa using k4) (by simpa using k5) (by simpa using k6) p9 q
  · rw [if_pos (.inl rfl)]
    exact rcom_o _ _ _ _ _ _ _ _ _ _ _ _ _ p9 q
end Go.Proofs.Ytacneghgimfklaa
