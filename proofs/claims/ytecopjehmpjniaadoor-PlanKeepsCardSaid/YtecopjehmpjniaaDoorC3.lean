/- Whether there is such an object; one that stays biased; what is gathered; a clone of classes. -/
import Derived.Test.YtecopjehmpjniaaDoorC2
namespace Go.Proofs.YtecopjehmpjniaaDoor
open Go.RowKit
set_option linter.unusedSimpArgs false
set_option linter.unusedVariables false
set_option maxRecDepth 100000


/-- Is there such an object, of a class that there is, and not too much of either? -/
def mayO (l : List Ob) (m : Nat) (o : Int) : Prop := l.length ≤ 256 ∧ m ≤ 256 ∧ ∃ j : Nat, o = (j : Int) ∧ ∃ h : j < l.length, 0 ≤ (l[j]).k ∧ (l[j]).k < (m : Int)
theorem pmay_no {w : World} {B : Nat} {A A2 : Option Addr} {cp cp2 m : Nat} {l : List Ob} (o : Int) (h : Sl w B 3 A l.length (fl sc l)) (hB : B ≤ w.heap.size) (hm : ¬ mayO l m o) :
    Calls Tryd.prog 25 #[.slice A l.length cp, .slice A2 m cp2, .int .i64 o] w fun e w' => e = .returned (.bool false) ∧ Ext w w' := by
  have H := hide h
  have HM := hide hm
  clear h hm
  by_cases c1 : l.length ≤ 256
  · have d1 : (l.length : Int) ≤ 256 := by omega
    by_cases c2 : m ≤ 256
    · have d2 : (m : Int) ≤ 256 := by omega
      by_cases c3 : 0 ≤ o
      · obtain ⟨j, rfl⟩ := Int.eq_ofNat_of_zero_le c3
        by_cases c4 : j < l.length
        · obtain ⟨b, off, rfl, hb, r0, r1, r2⟩ := sl_obj H.out rfl hB c4
          have q : ¬ (0 ≤ (l[j]).k ∧ (l[j]).k < (m : Int)) := fun q => HM.out ⟨c1, c2, j, rfl, c4, q⟩
          have r1 := r1 w (Ext.refl _)
          clear r0 r2
          generalize (l[j]).k = k at *
          by_cases c5 : 0 ≤ k
          · have c6 : ¬ k < (m : Int) := fun c => q ⟨c5, c⟩
            clear q
            go_enter Tryd.func25, Tryd.ntmps25
            go_wp2
            go_ret
            exact ⟨by simp, Ext.refl _⟩
          · clear q
            go_enter Tryd.func25, Tryd.ntmps25
            go_wp2
            go_ret
            exact ⟨by simp, Ext.refl _⟩
        · have d4 : (l.length : Int) ≤ (j : Int) := by omega
          go_enter Tryd.func25, Tryd.ntmps25
          go_wp2
          go_ret
          exact ⟨by simp, Ext.refl _⟩
      · go_enter Tryd.func25, Tryd.ntmps25
        go_wp2
        go_ret
        exact ⟨by simp, Ext.refl _⟩
    · have d2 : ¬ (m : Int) ≤ 256 := by omega
      go_enter Tryd.func25, Tryd.ntmps25
      go_wp2
      go_ret
      exact ⟨by simp, Ext.refl _⟩
  · have d1 : ¬ (l.length : Int) ≤ 256 := by omega
    go_enter Tryd.func25, Tryd.ntmps25
    go_wp2
    go_ret
    exact ⟨by simp, Ext.refl _⟩
theorem pmay_yes {w : World} {B : Nat} {A A2 : Option Addr} {cp cp2 m : Nat} {l : List Ob} (j : Nat) (h : Sl w B 3 A l.length (fl sc l)) (hB : B ≤ w.heap.size) (c1 : l.length ≤ 256) (c2 : m ≤ 256) (c4 : j < l.length) (c5 : 0 ≤ (l[j]).k) (c6 : (l[j]).k < (m : Int)) :
    Calls Tryd.prog 25 #[.slice A l.length cp, .slice A2 m cp2, .int .i64 (j : Int)] w fun e w' => e = .returned (.bool true) ∧ Ext w w' := by
  have H := hide h
  clear h
  obtain ⟨b, off, rfl, hb, r0, r1, r2⟩ := sl_obj H.out rfl hB c4
  have r1 := r1 w (Ext.refl _)
  clear r0 r2
  generalize (l[j]).k = k at *
  have d1 : (l.length : Int) ≤ 256 := by omega
  have d2 : (m : Int) ≤ 256 := by omega
  go_enter Tryd.func25, Tryd.ntmps25
  go_wp2
  go_ret
  exact ⟨by simp, Ext.refl _⟩

/-- What rebiased answers. -/
def rebB (x : Ob) : Bool := isB x.w && hasB (ownW x.w) x.l
def rebV (e o : Int) (x : Ob) : Cg := if rebB x = true then ⟨o, frI e x.w, ownW x.w, 0⟩ else ⟨0, 0, 0, 0⟩
theorem rebiased_any (o : Int) (x : Ob) (y : Kl) (w : World) (hG : Glob w) (hx : OkO w x) (hy : OkK y) :
    Calls Tryd.prog 29 #[.int .i64 o, .agg (sc x), .agg (kc y)] w fun e w' => e = .returned (.tuple #[.agg (gc (rebV y.e o x)), .bool (rebB x)]) ∧ Ext w w' := by
  have hx0 := hx
  obtain ⟨v, k, A, cp, l⟩ := x
  obtain ⟨q, e, c⟩ := y
  have hv := hx0.w
  have e0 := hy.e0
  have e1 := hy.e1
  simp only [sc, kc] at hv e0 e1 ⊢
  have F := fun w hG => kfresh_any q e c v w hG hv e0 e1
  have OW := owned_any ⟨v, k, A, cp, l⟩
  simp only [sc] at OW
  cases hi : isB v
  · have hb : rebB ⟨v, k, A, cp, l⟩ = false := by simp [rebB, hi]
    rw [show gc (rebV e o ⟨v, k, A, cp, l⟩) = #[.int .i64 0, .int .u64 0, .int .i64 0, .int .u64 0] by simp [rebV, hb, gc], hb]
    rw [hi] at F
    clear hb hx hy
    go_enter Tryd.func29, Tryd.ntmps29
    go_wp2_with fail
    have hX := fun w' (h : Ext (((w.alloc (Obj.cells #[.int .u64 v, .int .i64 k, .slice A l.length cp] 31)).alloc (Obj.cells #[.bool q, .int .u8 e, .int .i64 c] 51)).alloc (Obj.cells #[.int .i64 0, .int .u64 0, .int .i64 0, .int .u64 0] 28)) w') => (((Ext.alloc (w.alloc (Obj.cells #[.int .u64 v, .int .i64 k, .slice A l.length cp] 31)) (Obj.cells #[.bool q, .int .u8 e, .int .i64 c] 51)).trans (Ext.alloc _ _)).trans h).boxCell
    have hXf := fun w' (h : Ext (((w.alloc (Obj.cells #[.int .u64 v, .int .i64 k, .slice A l.length cp] 31)).alloc (Obj.cells #[.bool q, .int .u8 e, .int .i64 c] 51)).alloc (Obj.cells #[.int .i64 0, .int .u64 0, .int .i64 0, .int .u64 0] 28)) w') => (((Ext.alloc (w.alloc (Obj.cells #[.int .u64 v, .int .i64 k, .slice A l.length cp] 31)) (Obj.cells #[.bool q, .int .u8 e, .int .i64 c] 51)).trans (Ext.alloc _ _)).trans h).boxFree
    have hY := fun w' (h : Ext (((w.alloc (Obj.cells #[.int .u64 v, .int .i64 k, .slice A l.length cp] 31)).alloc (Obj.cells #[.bool q, .int .u8 e, .int .i64 c] 51)).alloc (Obj.cells #[.int .i64 0, .int .u64 0, .int .i64 0, .int .u64 0] 28)) w') => ((Ext.alloc ((w.alloc (Obj.cells #[.int .u64 v, .int .i64 k, .slice A l.length cp] 31)).alloc (Obj.cells #[.bool q, .int .u8 e, .int .i64 c] 51)) (Obj.cells #[.int .i64 0, .int .u64 0, .int .i64 0, .int .u64 0] 28)).trans h).boxCell
    have hYf := fun w' (h : Ext (((w.alloc (Obj.cells #[.int .u64 v, .int .i64 k, .slice A l.length cp] 31)).alloc (Obj.cells #[.bool q, .int .u8 e, .int .i64 c] 51)).alloc (Obj.cells #[.int .i64 0, .int .u64 0, .int .i64 0, .int .u64 0] 28)) w') => ((Ext.alloc ((w.alloc (Obj.cells #[.int .u64 v, .int .i64 k, .slice A l.length cp] 31)).alloc (Obj.cells #[.bool q, .int .u8 e, .int .i64 c] 51)) (Obj.cells #[.int .i64 0, .int .u64 0, .int .i64 0, .int .u64 0] 28)).trans h).boxFree
    have hZ := fun w' (h : Ext (((w.alloc (Obj.cells #[.int .u64 v, .int .i64 k, .slice A l.length cp] 31)).alloc (Obj.cells #[.bool q, .int .u8 e, .int .i64 c] 51)).alloc (Obj.cells #[.int .i64 0, .int .u64 0, .int .i64 0, .int .u64 0] 28)) w') => h.boxCell
    have hZf := fun w' (h : Ext (((w.alloc (Obj.cells #[.int .u64 v, .int .i64 k, .slice A l.length cp] 31)).alloc (Obj.cells #[.bool q, .int .u8 e, .int .i64 c] 51)).alloc (Obj.cells #[.int .i64 0, .int .u64 0, .int .i64 0, .int .u64 0] 28)) w') => h.boxFree
    simp only [World.size_alloc, Nat.add_assoc, Nat.reduceAdd] at hY hYf hZ hZf
    have hX0 : Ext w (((w.alloc (Obj.cells #[.int .u64 v, .int .i64 k, .slice A l.length cp] 31)).alloc (Obj.cells #[.bool q, .int .u8 e, .int .i64 c] 51)).alloc (Obj.cells #[.int .i64 0, .int .u64 0, .int .i64 0, .int .u64 0] 28)) := ((Ext.alloc _ _).trans (Ext.alloc _ _)).trans (Ext.alloc _ _)
    generalize ((w.alloc (Obj.cells #[.int .u64 v, .int .i64 k, .slice A l.length cp] 31)).alloc (Obj.cells #[.bool q, .int .u8 e, .int .i64 c] 51)).alloc (Obj.cells #[.int .i64 0, .int .u64 0, .int .i64 0, .int .u64 0] 28) = W0 at *
    have hW := Ext.refl W0
    go_wp2_with ((go_at_call 37; (with_reducible refine (F _ (hG.ext (hX0.trans hW))).mono ?_); rintro e w' ⟨rfl, hb⟩; have hW := Ext.trans2 hW (by repeat (first | exact Ext.refl _ | exact Ext.alloc _ _ | exact Ext.drewN _ _ | assumption | refine Ext.trans ?_ (Ext.alloc _ _) | refine Ext.trans ?_ (Ext.drew _) | refine Ext.trans ?_ (by assumption))) hb; (try have hV := Ext.trans2 hV (by repeat (first | exact Ext.refl _ | exact Ext.alloc _ _ | exact Ext.drewN _ _ | assumption | refine Ext.trans ?_ (Ext.alloc _ _) | refine Ext.trans ?_ (Ext.drew _) | refine Ext.trans ?_ (by assumption))) hb); clear hb); (try have hWA := fun o => hW.trans (Ext.alloc w' o)); (try have hVA := fun o => hV.trans (Ext.alloc w' o)))
    refine bodyPost_ret (v := .tuple #[.agg #[.int .i64 0, .int .u64 0, .int .i64 0, .int .u64 0], .bool false]) (by simp [results, Tryd.results29, go_sem, *]) rfl ⟨rfl, ?_⟩
    ((repeat (with_reducible refine Ext.set ?_ (by simp <;> omega) _)); exact (hX0.trans (hW.trans (by repeat (first | exact Ext.refl _ | exact Ext.alloc _ _ | exact Ext.drewN _ _ | assumption | refine Ext.trans ?_ (Ext.alloc _ _) | refine Ext.trans ?_ (Ext.drew _) | refine Ext.trans ?_ (by assumption))))))
  · rw [hi] at F
    cases hh : hasB (ownW v) l
    · have hb : rebB ⟨v, k, A, cp, l⟩ = false := by simp [rebB, hh]
      rw [show gc (rebV e o ⟨v, k, A, cp, l⟩) = #[.int .i64 0, .int .u64 0, .int .i64 0, .int .u64 0] by simp [rebV, hb, gc], hb]
      rw [hh] at OW
      clear hb hx hy
      go_enter Tryd.func29, Tryd.ntmps29
      go_wp2_with fail
      have hX := fun w' (h : Ext (((w.alloc (Obj.cells #[.int .u64 v, .int .i64 k, .slice A l.length cp] 31)).alloc (Obj.cells #[.bool q, .int .u8 e, .int .i64 c] 51)).alloc (Obj.cells #[.int .i64 0, .int .u64 0, .int .i64 0, .int .u64 0] 28)) w') => (((Ext.alloc (w.alloc (Obj.cells #[.int .u64 v, .int .i64 k, .slice A l.length cp] 31)) (Obj.cells #[.bool q, .int .u8 e, .int .i64 c] 51)).trans (Ext.alloc _ _)).trans h).boxCell
      have hXf := fun w' (h : Ext (((w.alloc (Obj.cells #[.int .u64 v, .int .i64 k, .slice A l.length cp] 31)).alloc (Obj.cells #[.bool q, .int .u8 e, .int .i64 c] 51)).alloc (Obj.cells #[.int .i64 0, .int .u64 0, .int .i64 0, .int .u64 0] 28)) w') => (((Ext.alloc (w.alloc (Obj.cells #[.int .u64 v, .int .i64 k, .slice A l.length cp] 31)) (Obj.cells #[.bool q, .int .u8 e, .int .i64 c] 51)).trans (Ext.alloc _ _)).trans h).boxFree
      have hY := fun w' (h : Ext (((w.alloc (Obj.cells #[.int .u64 v, .int .i64 k, .slice A l.length cp] 31)).alloc (Obj.cells #[.bool q, .int .u8 e, .int .i64 c] 51)).alloc (Obj.cells #[.int .i64 0, .int .u64 0, .int .i64 0, .int .u64 0] 28)) w') => ((Ext.alloc ((w.alloc (Obj.cells #[.int .u64 v, .int .i64 k, .slice A l.length cp] 31)).alloc (Obj.cells #[.bool q, .int .u8 e, .int .i64 c] 51)) (Obj.cells #[.int .i64 0, .int .u64 0, .int .i64 0, .int .u64 0] 28)).trans h).boxCell
      have hYf := fun w' (h : Ext (((w.alloc (Obj.cells #[.int .u64 v, .int .i64 k, .slice A l.length cp] 31)).alloc (Obj.cells #[.bool q, .int .u8 e, .int .i64 c] 51)).alloc (Obj.cells #[.int .i64 0, .int .u64 0, .int .i64 0, .int .u64 0] 28)) w') => ((Ext.alloc ((w.alloc (Obj.cells #[.int .u64 v, .int .i64 k, .slice A l.length cp] 31)).alloc (Obj.cells #[.bool q, .int .u8 e, .int .i64 c] 51)) (Obj.cells #[.int .i64 0, .int .u64 0, .int .i64 0, .int .u64 0] 28)).trans h).boxFree
      have hZ := fun w' (h : Ext (((w.alloc (Obj.cells #[.int .u64 v, .int .i64 k, .slice A l.length cp] 31)).alloc (Obj.cells #[.bool q, .int .u8 e, .int .i64 c] 51)).alloc (Obj.cells #[.int .i64 0, .int .u64 0, .int .i64 0, .int .u64 0] 28)) w') => h.boxCell
      have hZf := fun w' (h : Ext (((w.alloc (Obj.cells #[.int .u64 v, .int .i64 k, .slice A l.length cp] 31)).alloc (Obj.cells #[.bool q, .int .u8 e, .int .i64 c] 51)).alloc (Obj.cells #[.int .i64 0, .int .u64 0, .int .i64 0, .int .u64 0] 28)) w') => h.boxFree
      simp only [World.size_alloc, Nat.add_assoc, Nat.reduceAdd] at hY hYf hZ hZf
      have hX0 : Ext w (((w.alloc (Obj.cells #[.int .u64 v, .int .i64 k, .slice A l.length cp] 31)).alloc (Obj.cells #[.bool q, .int .u8 e, .int .i64 c] 51)).alloc (Obj.cells #[.int .i64 0, .int .u64 0, .int .i64 0, .int .u64 0] 28)) := ((Ext.alloc _ _).trans (Ext.alloc _ _)).trans (Ext.alloc _ _)
      generalize ((w.alloc (Obj.cells #[.int .u64 v, .int .i64 k, .slice A l.length cp] 31)).alloc (Obj.cells #[.bool q, .int .u8 e, .int .i64 c] 51)).alloc (Obj.cells #[.int .i64 0, .int .u64 0, .int .i64 0, .int .u64 0] 28) = W0 at *
      have hW := Ext.refl W0
      go_wp2_with (first | ((go_at_call 37; (with_reducible refine (F _ (hG.ext (hX0.trans hW))).mono ?_); rintro e w' ⟨rfl, hb⟩; have hW := Ext.trans2 hW (by repeat (first | exact Ext.refl _ | exact Ext.alloc _ _ | exact Ext.drewN _ _ | assumption | refine Ext.trans ?_ (Ext.alloc _ _) | refine Ext.trans ?_ (Ext.drew _) | refine Ext.trans ?_ (by assumption))) hb; (try have hV := Ext.trans2 hV (by repeat (first | exact Ext.refl _ | exact Ext.alloc _ _ | exact Ext.drewN _ _ | assumption | refine Ext.trans ?_ (Ext.alloc _ _) | refine Ext.trans ?_ (Ext.drew _) | refine Ext.trans ?_ (by assumption))) hb); clear hb); (try have hWA := fun o => hW.trans (Ext.alloc w' o)); (try have hVA := fun o => hV.trans (Ext.alloc w' o))) | ((go_at_call 22; (with_reducible refine (OW _ (hG.ext (hX0.trans hW)) (hx0.ext (hX0.trans hW))).mono ?_); rintro e w' ⟨rfl, hb⟩; have hW := Ext.trans2 hW (by repeat (first | exact Ext.refl _ | exact Ext.alloc _ _ | exact Ext.drewN _ _ | assumption | refine Ext.trans ?_ (Ext.alloc _ _) | refine Ext.trans ?_ (Ext.drew _) | refine Ext.trans ?_ (by assumption))) hb; (try have hV := Ext.trans2 hV (by repeat (first | exact Ext.refl _ | exact Ext.alloc _ _ | exact Ext.drewN _ _ | assumption | refine Ext.trans ?_ (Ext.alloc _ _) | refine Ext.trans ?_ (Ext.drew _) | refine Ext.trans ?_ (by assumption))) hb); clear hb); (try have hWA := fun o => hW.trans (Ext.alloc w' o)); (try have hVA := fun o => hV.trans (Ext.alloc w' o))))
      refine bodyPost_ret (v := .tuple #[.agg #[.int .i64 0, .int .u64 0, .int .i64 0, .int .u64 0], .bool false]) (by simp [results, Tryd.results29, go_sem, *]) rfl ⟨rfl, ?_⟩
      ((repeat (with_reducible refine Ext.set ?_ (by simp <;> omega) _)); exact (hX0.trans (hW.trans (by repeat (first | exact Ext.refl _ | exact Ext.alloc _ _ | exact Ext.drewN _ _ | assumption | refine Ext.trans ?_ (Ext.alloc _ _) | refine Ext.trans ?_ (Ext.drew _) | refine Ext.trans ?_ (by assumption))))))
    · have hb : rebB ⟨v, k, A, cp, l⟩ = true := by simp [rebB, hh, hi]
      rw [show gc (rebV e o ⟨v, k, A, cp, l⟩) = #[.int .i64 o, .int .u64 (frI e v), .int .i64 (ownW v), .int .u64 0] by simp [rebV, hb, gc], hb]
      rw [hh] at OW
      clear hb hx hy
      go_enter Tryd.func29, Tryd.ntmps29
      go_wp2_with fail
      have hX := fun w' (h : Ext (((w.alloc (Obj.cells #[.int .u64 v, .int .i64 k, .slice A l.length cp] 31)).alloc (Obj.cells #[.bool q, .int .u8 e, .int .i64 c] 51)).alloc (Obj.cells #[.int .i64 0, .int .u64 0, .int .i64 0, .int .u64 0] 28)) w') => (((Ext.alloc (w.alloc (Obj.cells #[.int .u64 v, .int .i64 k, .slice A l.length cp] 31)) (Obj.cells #[.bool q, .int .u8 e, .int .i64 c] 51)).trans (Ext.alloc _ _)).trans h).boxCell
      have hXf := fun w' (h : Ext (((w.alloc (Obj.cells #[.int .u64 v, .int .i64 k, .slice A l.length cp] 31)).alloc (Obj.cells #[.bool q, .int .u8 e, .int .i64 c] 51)).alloc (Obj.cells #[.int .i64 0, .int .u64 0, .int .i64 0, .int .u64 0] 28)) w') => (((Ext.alloc (w.alloc (Obj.cells #[.int .u64 v, .int .i64 k, .slice A l.length cp] 31)) (Obj.cells #[.bool q, .int .u8 e, .int .i64 c] 51)).trans (Ext.alloc _ _)).trans h).boxFree
      have hY := fun w' (h : Ext (((w.alloc (Obj.cells #[.int .u64 v, .int .i64 k, .slice A l.length cp] 31)).alloc (Obj.cells #[.bool q, .int .u8 e, .int .i64 c] 51)).alloc (Obj.cells #[.int .i64 0, .int .u64 0, .int .i64 0, .int .u64 0] 28)) w') => ((Ext.alloc ((w.alloc (Obj.cells #[.int .u64 v, .int .i64 k, .slice A l.length cp] 31)).alloc (Obj.cells #[.bool q, .int .u8 e, .int .i64 c] 51)) (Obj.cells #[.int .i64 0, .int .u64 0, .int .i64 0, .int .u64 0] 28)).trans h).boxCell
      have hYf := fun w' (h : Ext (((w.alloc (Obj.cells #[.int .u64 v, .int .i64 k, .slice A l.length cp] 31)).alloc (Obj.cells #[.bool q, .int .u8 e, .int .i64 c] 51)).alloc (Obj.cells #[.int .i64 0, .int .u64 0, .int .i64 0, .int .u64 0] 28)) w') => ((Ext.alloc ((w.alloc (Obj.cells #[.int .u64 v, .int .i64 k, .slice A l.length cp] 31)).alloc (Obj.cells #[.bool q, .int .u8 e, .int .i64 c] 51)) (Obj.cells #[.int .i64 0, .int .u64 0, .int .i64 0, .int .u64 0] 28)).trans h).boxFree
      have hZ := fun w' (h : Ext (((w.alloc (Obj.cells #[.int .u64 v, .int .i64 k, .slice A l.length cp] 31)).alloc (Obj.cells #[.bool q, .int .u8 e, .int .i64 c] 51)).alloc (Obj.cells #[.int .i64 0, .int .u64 0, .int .i64 0, .int .u64 0] 28)) w') => h.boxCell
      have hZf := fun w' (h : Ext (((w.alloc (Obj.cells #[.int .u64 v, .int .i64 k, .slice A l.length cp] 31)).alloc (Obj.cells #[.bool q, .int .u8 e, .int .i64 c] 51)).alloc (Obj.cells #[.int .i64 0, .int .u64 0, .int .i64 0, .int .u64 0] 28)) w') => h.boxFree
      simp only [World.size_alloc, Nat.add_assoc, Nat.reduceAdd] at hY hYf hZ hZf
      have hX0 : Ext w (((w.alloc (Obj.cells #[.int .u64 v, .int .i64 k, .slice A l.length cp] 31)).alloc (Obj.cells #[.bool q, .int .u8 e, .int .i64 c] 51)).alloc (Obj.cells #[.int .i64 0, .int .u64 0, .int .i64 0, .int .u64 0] 28)) := ((Ext.alloc _ _).trans (Ext.alloc _ _)).trans (Ext.alloc _ _)
      generalize ((w.alloc (Obj.cells #[.int .u64 v, .int .i64 k, .slice A l.length cp] 31)).alloc (Obj.cells #[.bool q, .int .u8 e, .int .i64 c] 51)).alloc (Obj.cells #[.int .i64 0, .int .u64 0, .int .i64 0, .int .u64 0] 28) = W0 at *
      have hW := Ext.refl W0
      go_wp2_with (first | ((go_at_call 37; (with_reducible refine (F _ (hG.ext (hX0.trans hW))).mono ?_); rintro e w' ⟨rfl, hb⟩; have hW := Ext.trans2 hW (by repeat (first | exact Ext.refl _ | exact Ext.alloc _ _ | exact Ext.drewN _ _ | assumption | refine Ext.trans ?_ (Ext.alloc _ _) | refine Ext.trans ?_ (Ext.drew _) | refine Ext.trans ?_ (by assumption))) hb; (try have hV := Ext.trans2 hV (by repeat (first | exact Ext.refl _ | exact Ext.alloc _ _ | exact Ext.drewN _ _ | assumption | refine Ext.trans ?_ (Ext.alloc _ _) | refine Ext.trans ?_ (Ext.drew _) | refine Ext.trans ?_ (by assumption))) hb); clear hb); (try have hWA := fun o => hW.trans (Ext.alloc w' o)); (try have hVA := fun o => hV.trans (Ext.alloc w' o))) | ((go_at_call 22; (with_reducible refine (OW _ (hG.ext (hX0.trans hW)) (hx0.ext (hX0.trans hW))).mono ?_); rintro e w' ⟨rfl, hb⟩; have hW := Ext.trans2 hW (by repeat (first | exact Ext.refl _ | exact Ext.alloc _ _ | exact Ext.drewN _ _ | assumption | refine Ext.trans ?_ (Ext.alloc _ _) | refine Ext.trans ?_ (Ext.drew _) | refine Ext.trans ?_ (by assumption))) hb; (try have hV := Ext.trans2 hV (by repeat (first | exact Ext.refl _ | exact Ext.alloc _ _ | exact Ext.drewN _ _ | assumption | refine Ext.trans ?_ (Ext.alloc _ _) | refine Ext.trans ?_ (Ext.drew _) | refine Ext.trans ?_ (by assumption))) hb); clear hb); (try have hWA := fun o => hW.trans (Ext.alloc w' o)); (try have hVA := fun o => hV.trans (Ext.alloc w' o))) | ((go_at_call 10; (with_reducible refine (owner_any _ _ (hG.ext (hX0.trans hW)) hv).mono ?_); rintro e w' ⟨rfl, hb⟩; have hW := Ext.trans2 hW (by repeat (first | exact Ext.refl _ | exact Ext.alloc _ _ | exact Ext.drewN _ _ | assumption | refine Ext.trans ?_ (Ext.alloc _ _) | refine Ext.trans ?_ (Ext.drew _) | refine Ext.trans ?_ (by assumption))) hb; (try have hV := Ext.trans2 hV (by repeat (first | exact Ext.refl _ | exact Ext.alloc _ _ | exact Ext.drewN _ _ | assumption | refine Ext.trans ?_ (Ext.alloc _ _) | refine Ext.trans ?_ (Ext.drew _) | refine Ext.trans ?_ (by assumption))) hb); clear hb); (try have hWA := fun o => hW.trans (Ext.alloc w' o)); (try have hVA := fun o => hV.trans (Ext.alloc w' o))))
      refine bodyPost_ret (v := .tuple #[.agg #[.int .i64 o, .int .u64 (frI e v), .int .i64 (ownW v), .int .u64 0], .bool true]) (by simp [results, Tryd.results29, go_sem, *]) rfl ⟨rfl, ?_⟩
      ((repeat (with_reducible refine Ext.set ?_ (by simp <;> omega) _)); exact (hX0.trans (hW.trans (by repeat (first | exact Ext.refl _ | exact Ext.alloc _ _ | exact Ext.drewN _ _ | assumption | refine Ext.trans ?_ (Ext.alloc _ _) | refine Ext.trans ?_ (Ext.drew _) | refine Ext.trans ?_ (by assumption))))))
end Go.Proofs.YtecopjehmpjniaaDoor
