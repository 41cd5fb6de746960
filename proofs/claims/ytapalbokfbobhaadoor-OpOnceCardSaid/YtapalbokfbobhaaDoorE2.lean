/- read: the operation of a text. -/
import Derived.Test.YtapalbokfbobhaaDoorE1
import Derived.Test.YtapalbokfbobhaaDoorA2
namespace Go.Proofs.YtapalbokfbobhaaDoor
open Go.RowKit Go.Sort
set_option linter.unusedSimpArgs false
set_option linter.unusedVariables false
set_option maxRecDepth 100000

theorem cut_le (s sep : List UInt8) : (Lib.cut s sep).1.length ≤ s.length ∧ (Lib.cut s sep).2.1.length ≤ s.length := by
  unfold Lib.cut
  split
  · simp only [List.length_take, List.length_drop]; omega
  · simp
/-- What is read of a word, digits and, maybe, ticks. -/
def readK (k : Nat) (n : Int) (nb has : Bool) (a : Int) (ab : Bool) : Op3 × Bool :=
  if k = 0 then ((0, 0, 0), false) else if nb = false then ((0, 0, 0), false)
  else if has then (((k : Int), n, a), (k : Int) == 4 && (ab && decide (0 < a)))
  else if k = 9 then ((9, 0, n), true) else (((k : Int), n, 0), true)
def readN (k : Nat) (n : Option Int) (has : Bool) (a : Option Int) : Op3 × Bool := readK k (n.getD 0) n.isSome has (a.getD 0) a.isSome
def readO (t : List UInt8) : Op3 × Bool :=
  readN (kindO (Lib.cut t [32]).1) (numO (Lib.cut (Lib.cut t [32]).2.1 [32]).1) (Lib.cut (Lib.cut t [32]).2.1 [32]).2.2 (numO (Lib.cut (Lib.cut t [32]).2.1 [32]).2.1)
theorem read_any (t : List UInt8) (ht : t.length ≤ 5000) (w : World) (hG : Glob w) :
    Calls Tryd.prog 26 #[(Value.string ⟨List.toArray (t)⟩)] w fun e w' => e = .returned (.tuple #[opV (readO t).1, .bool (readO t).2]) ∧ Ext w w' := by
  have hc1 := fun w hG => cut_any t [32] w hG (by omega)
  have l1 := cut_le t [32]
  have hc2 := fun w hG => cut_any (Lib.cut t [32]).2.1 [32] w hG (by omega)
  have HR : Hid (readO t = readN (kindO (Lib.cut t [32]).1) (numO (Lib.cut (Lib.cut t [32]).2.1 [32]).1) (Lib.cut (Lib.cut t [32]).2.1 [32]).2.2 (numO (Lib.cut (Lib.cut t [32]).2.1 [32]).2.1)) := rfl
  clear l1
  generalize (Lib.cut t [32]).2.2 = b1 at *
  generalize (Lib.cut t [32]).1 = u1 at *
  generalize (Lib.cut t [32]).2.1 = r1 at *
  generalize (Lib.cut r1 [32]).2.2 = b2 at *
  generalize (Lib.cut r1 [32]).1 = u2 at *
  generalize (Lib.cut r1 [32]).2.1 = r2 at *
  have hk := fun w hG => kindOf_any u1 w hG
  have hn := fun w => number_any u2 w
  have ha := fun w => number_any r2 w
  generalize kindO u1 = k at *
  generalize numO u2 = n at *
  generalize numO r2 = a at *
  unfold numV at hn ha
  unfold readN at HR
  generalize n.getD 0 = nv at *
  generalize n.isSome = nb at *
  generalize a.getD 0 = av at *
  generalize a.isSome = ab at *
  have HG := hide hG
  clear hG
  generalize readO t = R at *
  go_enter Tryd.func26, Tryd.ntmps26
  go_wp2_with fail
  have hX := fun w' (h : Ext (w.alloc (Obj.cells #[.int .i64 0, .int .i64 0, .int .i64 0] 24)) w') => h.boxCell
  have hXf := fun w' (h : Ext (w.alloc (Obj.cells #[.int .i64 0, .int .i64 0, .int .i64 0] 24)) w') => h.boxFree
  have hX0 : Ext w (w.alloc (Obj.cells #[.int .i64 0, .int .i64 0, .int .i64 0] 24)) := Ext.alloc _ _
  generalize w.alloc (Obj.cells #[.int .i64 0, .int .i64 0, .int .i64 0] 24) = W0 at *
  have hW := Ext.refl W0
  go_wp2_with (first | (go_at_call 37; (with_reducible refine (hc1 _ (HG.out.ext (hX0.trans hW))).mono ?_); rintro e w' ⟨rfl, hb⟩; have hW := Ext.trans2 hW (by repeat (first | exact Ext.refl _ | exact Ext.alloc _ _ | exact Ext.drewN _ _ | assumption | refine Ext.trans ?_ (Ext.alloc _ _) | refine Ext.trans ?_ (Ext.drew _) | refine Ext.trans ?_ (by assumption))) hb; (try have hV := Ext.trans2 hV (by repeat (first | exact Ext.refl _ | exact Ext.alloc _ _ | exact Ext.drewN _ _ | assumption | refine Ext.trans ?_ (Ext.alloc _ _) | refine Ext.trans ?_ (Ext.drew _) | refine Ext.trans ?_ (by assumption))) hb); clear hb) | (go_at_call 37; (with_reducible refine (hc2 _ (HG.out.ext (hX0.trans hW))).mono ?_); rintro e w' ⟨rfl, hb⟩; have hW := Ext.trans2 hW (by repeat (first | exact Ext.refl _ | exact Ext.alloc _ _ | exact Ext.drewN _ _ | assumption | refine Ext.trans ?_ (Ext.alloc _ _) | refine Ext.trans ?_ (Ext.drew _) | refine Ext.trans ?_ (by assumption))) hb; (try have hV := Ext.trans2 hV (by repeat (first | exact Ext.refl _ | exact Ext.alloc _ _ | exact Ext.drewN _ _ | assumption | refine Ext.trans ?_ (Ext.alloc _ _) | refine Ext.trans ?_ (Ext.drew _) | refine Ext.trans ?_ (by assumption))) hb); clear hb) | (go_at_call 38; (with_reducible refine (hk _ (HG.out.ext (hX0.trans hW))).mono ?_); rintro e w' ⟨rfl, rfl⟩) | (go_at_call 39; (with_reducible refine (hn _).mono ?_); rintro e w' ⟨rfl, hb⟩; have hW := Ext.trans2 hW (by repeat (first | exact Ext.refl _ | exact Ext.alloc _ _ | exact Ext.drewN _ _ | assumption | refine Ext.trans ?_ (Ext.alloc _ _) | refine Ext.trans ?_ (Ext.drew _) | refine Ext.trans ?_ (by assumption))) hb; (try have hV := Ext.trans2 hV (by repeat (first | exact Ext.refl _ | exact Ext.alloc _ _ | exact Ext.drewN _ _ | assumption | refine Ext.trans ?_ (Ext.alloc _ _) | refine Ext.trans ?_ (Ext.drew _) | refine Ext.trans ?_ (by assumption))) hb); clear hb) | (go_at_call 39; (with_reducible refine (ha _).mono ?_); rintro e w' ⟨rfl, hb⟩; have hW := Ext.trans2 hW (by repeat (first | exact Ext.refl _ | exact Ext.alloc _ _ | exact Ext.drewN _ _ | assumption | refine Ext.trans ?_ (Ext.alloc _ _) | refine Ext.trans ?_ (Ext.drew _) | refine Ext.trans ?_ (by assumption))) hb; (try have hV := Ext.trans2 hV (by repeat (first | exact Ext.refl _ | exact Ext.alloc _ _ | exact Ext.drewN _ _ | assumption | refine Ext.trans ?_ (Ext.alloc _ _) | refine Ext.trans ?_ (Ext.drew _) | refine Ext.trans ?_ (by assumption))) hb); clear hb))
  · refine bodyPost_ret (v := .tuple #[.agg #[.int .i64 0, .int .i64 0, .int .i64 0], .bool (false)]) (by simp [results, Tryd.results26, go_sem, *]) rfl ⟨?_, ?_⟩
    · rw [show R = ((0, 0, 0), false) by rw [HR.out]; simp_all [readK]]; rfl
    · ((repeat (with_reducible refine Ext.set ?_ (by simp) _)); exact (hX0.trans (hW.trans (by repeat (first | exact Ext.refl _ | exact Ext.alloc _ _ | exact Ext.drewN _ _ | assumption | refine Ext.trans ?_ (Ext.alloc _ _) | refine Ext.trans ?_ (Ext.drew _) | refine Ext.trans ?_ (by assumption))))))
  · refine bodyPost_ret (v := .tuple #[.agg #[.int .i64 0, .int .i64 0, .int .i64 0], .bool (false)]) (by simp [results, Tryd.results26, go_sem, *]) rfl ⟨?_, ?_⟩
    · rw [show R = ((0, 0, 0), false) by rw [HR.out]; simp_all [readK]]; rfl
    · ((repeat (with_reducible refine Ext.set ?_ (by simp) _)); exact (hX0.trans (hW.trans (by repeat (first | exact Ext.refl _ | exact Ext.alloc _ _ | exact Ext.drewN _ _ | assumption | refine Ext.trans ?_ (Ext.alloc _ _) | refine Ext.trans ?_ (Ext.drew _) | refine Ext.trans ?_ (by assumption))))))
  · refine bodyPost_ret (v := .tuple #[.agg #[.int .i64 4, .int .i64 nv, .int .i64 av], .bool (decide (0 < av))]) (by simp [results, Tryd.results26, go_sem, *]) rfl ⟨?_, ?_⟩
    · rw [show R = ((4, nv, av), decide (0 < av)) by rw [HR.out]; simp_all [readK]]; rfl
    · ((repeat (with_reducible refine Ext.set ?_ (by simp) _)); exact (hX0.trans (hW.trans (by repeat (first | exact Ext.refl _ | exact Ext.alloc _ _ | exact Ext.drewN _ _ | assumption | refine Ext.trans ?_ (Ext.alloc _ _) | refine Ext.trans ?_ (Ext.drew _) | refine Ext.trans ?_ (by assumption))))))
  · refine bodyPost_ret (v := .tuple #[.agg #[.int .i64 4, .int .i64 nv, .int .i64 av], .bool (false)]) (by simp [results, Tryd.results26, go_sem, *]) rfl ⟨?_, ?_⟩
    · rw [show R = ((4, nv, av), false) by rw [HR.out]; simp_all [readK]]; rfl
    · ((repeat (with_reducible refine Ext.set ?_ (by simp) _)); exact (hX0.trans (hW.trans (by repeat (first | exact Ext.refl _ | exact Ext.alloc _ _ | exact Ext.drewN _ _ | assumption | refine Ext.trans ?_ (Ext.alloc _ _) | refine Ext.trans ?_ (Ext.drew _) | refine Ext.trans ?_ (by assumption))))))
  · refine bodyPost_ret (v := .tuple #[.agg #[.int .i64 (k : Int), .int .i64 nv, .int .i64 av], .bool (false)]) (by simp [results, Tryd.results26, go_sem, *]) rfl ⟨?_, ?_⟩
    · rw [show R = (((k : Int), nv, av), false) by rw [HR.out]; simp_all [readK]]; rfl
    · ((repeat (with_reducible refine Ext.set ?_ (by simp) _)); exact (hX0.trans (hW.trans (by repeat (first | exact Ext.refl _ | exact Ext.alloc _ _ | exact Ext.drewN _ _ | assumption | refine Ext.trans ?_ (Ext.alloc _ _) | refine Ext.trans ?_ (Ext.drew _) | refine Ext.trans ?_ (by assumption))))))
  · refine bodyPost_ret (v := .tuple #[.agg #[.int .i64 (k : Int), .int .i64 0, .int .i64 nv], .bool (true)]) (by simp [results, Tryd.results26, go_sem, *]) rfl ⟨?_, ?_⟩
    · have h9 : k = 9 := by have := ‹((k : Int) == 9) = true›; simp at this; omega
      rw [show R = (((k : Int), 0, nv), true) by rw [HR.out]; simp_all [readK]]; rfl
    · ((repeat (with_reducible refine Ext.set ?_ (by simp) _)); exact (hX0.trans (hW.trans (by repeat (first | exact Ext.refl _ | exact Ext.alloc _ _ | exact Ext.drewN _ _ | assumption | refine Ext.trans ?_ (Ext.alloc _ _) | refine Ext.trans ?_ (Ext.drew _) | refine Ext.trans ?_ (by assumption))))))
  · refine bodyPost_ret (v := .tuple #[.agg #[.int .i64 (k : Int), .int .i64 nv, .int .i64 0], .bool (true)]) (by simp [results, Tryd.results26, go_sem, *]) rfl ⟨?_, ?_⟩
    · have h9 : ¬ k = 9 := by have := ‹((k : Int) == 9) = false›; simp at this; omega
      rw [show R = (((k : Int), nv, 0), true) by rw [HR.out]; simp_all [readK]]; rfl
    · ((repeat (with_reducible refine Ext.set ?_ (by simp) _)); exact (hX0.trans (hW.trans (by repeat (first | exact Ext.refl _ | exact Ext.alloc _ _ | exact Ext.drewN _ _ | assumption | refine Ext.trans ?_ (Ext.alloc _ _) | refine Ext.trans ?_ (Ext.drew _) | refine Ext.trans ?_ (by assumption))))))
end Go.Proofs.YtapalbokfbobhaaDoor
