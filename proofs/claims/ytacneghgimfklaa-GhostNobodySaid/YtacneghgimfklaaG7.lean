/- A Return. -/
import Derived.Test.YtacneghgimfklaaG4
import Derived.Deep.WholeRow
namespace Go.Proofs.Ytacneghgimfklaa
open Go.RowKit Go.Maps
set_option linter.unusedSimpArgs false
set_option linter.unusedVariables false
set_option maxRecDepth 100000
set_option maxHeartbeats 4000000



theorem cback_any {w : World} {C : Nat} {ty : TypeId} {tl : List Value} {MB W L : Nat} {S : St} {D : Nat → Dg} (h : CT w C ty tl MB W L S D) (x : Ent) {t : Nat} (hx : x.th = (t : Int)) (ht : t < S.N) (hnu : 0 ≤ (D t).nu ∧ (D t).nu ≤ 4611686018427387904) :
    Calls Try.prog 39 #[.pointer (some ⟨C, 0, none⟩), .agg (ec x)] w fun e w' => e = .returned (.bool (retB (D t) x)) ∧ CT w' C ty tl MB W L S (if retB (D t) x = true then upd D t (endD (D t)) else D) ∧ Chg [C] w w' := by
  have n1 := h.m.ok.n1
  have ht8 : t < 8 := by omega
  have j8 : (t : Int) < 8 := by omega
  have lC := h.lt.1
  have nBC : ¬ w.heap.size = C := by omega
  have nCB : ¬ C = w.heap.size := by omega
  obtain ⟨kd, th, nu, ok, oo, oa, ek, et, eo, ea, er, va, rr⟩ := x
  simp only at hx
  subst hx
  simp only [ec]
  have NQ := fun w' => neq_ent ⟨kd, (t : Int), nu, ok, oo, oa, ek, et, eo, ea, er, va, rr⟩ (nxR (D t) ⟨kd, (t : Int), nu, ok, oo, oa, ek, et, eo, ea, er, va, rr⟩) w'
  have E : retB (D t) ⟨kd, (t : Int), nu, ok, oo, oa, ek, et, eo, ea, er, va, rr⟩ = ((D t).st == 3 && eqE ⟨kd, (t : Int), nu, ok, oo, oa, ek, et, eo, ea, er, va, rr⟩ (nxR (D t) ⟨kd, (t : Int), nu, ok, oo, oa, ek, et, eo, ea, er, va, rr⟩)) := rfl
  generalize eqE ⟨kd, (t : Int), nu, ok, oo, oa, ek, et, eo, ea, er, va, rr⟩ (nxR (D t) ⟨kd, (t : Int), nu, ok, oo, oa, ek, et, eo, ea, er, va, rr⟩) = be at *
  generalize retB (D t) ⟨kd, (t : Int), nu, ok, oo, oa, ek, et, eo, ea, er, va, rr⟩ = res at *
  simp only [ec, nxR] at NQ
  have hnu := hide hnu
  go_enter Try.func39, Try.ntmps39
  go_upto_region 1 with fail
  have r1 := ((Blk.new w #[Value.int .i64 kd, .int .i64 (t : Int), .int .i64 nu, .int .i64 ok, .int .i64 oo, .int .i64 oa, .int .i64 ek, .int .i64 et, .int .i64 eo, .int .i64 ea, .int .i64 er, .int .i64 va, .int .i64 rr] 36).ext (Ext.drew _)).cell 1
  simp only [List.getElem?_toArray, List.getElem?_cons_zero, List.getElem?_cons_succ] at r1
  have HB := hide ((Blk.new w #[Value.int .i64 kd, .int .i64 (t : Int), .int .i64 nu, .int .i64 ok, .int .i64 oo, .int .i64 oa, .int .i64 ek, .int .i64 et, .int .i64 eo, .int .i64 ea, .int .i64 er, .int .i64 va, .int .i64 rr] 36).ext (Ext.drew _))
  have H := hide (h.ext ((Ext.alloc w (.cells #[Value.int .i64 kd, .int .i64 (t : Int), .int .i64 nu, .int .i64 ok, .int .i64 oo, .int .i64 oa, .int .i64 ek, .int .i64 et, .int .i64 eo, .int .i64 ea, .int .i64 er, .int .i64 va, .int .i64 rr] 36)).trans (Ext.drew _)))
  have HX := hide ((Ext.alloc w (.cells #[Value.int .i64 kd, .int .i64 (t : Int), .int .i64 nu, .int .i64 ok, .int .i64 oo, .int .i64 oa, .int .i64 ek, .int .i64 et, .int .i64 eo, .int .i64 ea, .int .i64 er, .int .i64 va, .int .i64 rr] 36)).trans (Ext.drew _))
  have HX0 := hide (show (w.alloc (.cells #[Value.int .i64 kd, .int .i64 (t : Int), .int .i64 nu, .int .i64 ok, .int .i64 oo, .int .i64 oa, .int .i64 ek, .int .i64 et, .int .i64 eo, .int .i64 ea, .int .i64 er, .int .i64 va, .int .i64 rr] 36)).drew.heap.size = w.heap.size + 1 from by simp)
  go_region
  clear r1
  generalize (w.alloc (.cells #[Value.int .i64 kd, .int .i64 (t : Int), .int .i64 nu, .int .i64 ok, .int .i64 oo, .int .i64 oa, .int .i64 ek, .int .i64 et, .int .i64 eo, .int .i64 ea, .int .i64 er, .int .i64 va, .int .i64 rr] 36)).drew = W1 at *
  go_upto_region 2 with fail
  have b1 := (HB.out.ext (Ext.drew _)).cell 1
  have c1 := (HB.out.ext (Ext.alloc _ (.cells #[Value.int .i64 0, .int .i64 0, .int .i64 0, .int .i64 0, .int .i64 0, .int .i64 0, .int .i64 0, .int .i64 0, .int .i64 0, .int .i64 0, .int .i64 0, .int .i64 0, .int .i64 0] 36))).cell 1
  simp only [List.getElem?_toArray, List.getElem?_cons_zero, List.getElem?_cons_succ] at b1 c1
  have s3 := (H.out.ext (Ext.drew _)).dr ht8 (k := 3) (by omega)
  change _ = some (Value.int .i64 (D t).nu) at s3
  have s7 := (H.out.ext (Ext.drew _)).dr ht8 (k := 7) (by omega)
  change _ = some (Value.int .i64 (D t).va) at s7
  have s8 := (H.out.ext (Ext.drew _)).dr ht8 (k := 8) (by omega)
  change _ = some (Value.int .i64 (D t).er) at s8
  have s3' := (H.out.ext (Ext.alloc _ (.cells #[Value.int .i64 0, .int .i64 0, .int .i64 0, .int .i64 0, .int .i64 0, .int .i64 0, .int .i64 0, .int .i64 0, .int .i64 0, .int .i64 0, .int .i64 0, .int .i64 0, .int .i64 0] 36))).dr ht8 (k := 3) (by omega)
  change _ = some (Value.int .i64 (D t).nu) at s3'
  have s7' := (H.out.ext (Ext.alloc _ (.cells #[Value.int .i64 0, .int .i64 0, .int .i64 0, .int .i64 0, .int .i64 0, .int .i64 0, .int .i64 0, .int .i64 0, .int .i64 0, .int .i64 0, .int .i64 0, .int .i64 0, .int .i64 0] 36))).dr ht8 (k := 7) (by omega)
  change _ = some (Value.int .i64 (D t).va) at s7'
  have s8' := (H.out.ext (Ext.alloc _ (.cells #[Value.int .i64 0, .int .i64 0, .int .i64 0, .int .i64 0, .int .i64 0, .int .i64 0, .int .i64 0, .int .i64 0, .int .i64 0, .int .i64 0, .int .i64 0, .int .i64 0, .int .i64 0] 36))).dr ht8 (k := 8) (by omega)
  change _ = some (Value.int .i64 (D t).er) at s8'
  go_region
  clear b1 c1 s3 s3' s7 s7' s8 s8'
  have HX2 := hide ((HX.out.trans (Ext.alloc W1 (.cells #[Value.int .i64 3, .int .i64 (t : Int), .int .i64 (D t).nu, .int .i64 0, .int .i64 0, .int .i64 0, .int .i64 0, .int .i64 0, .int .i64 0, .int .i64 0, .int .i64 0, .int .i64 (D t).va, .int .i64 (D t).er] 36))).trans (Ext.drew _))
  have HN := hide ((Blk.new W1 #[Value.int .i64 3, .int .i64 (t : Int), .int .i64 (D t).nu, .int .i64 0, .int .i64 0, .int .i64 0, .int .i64 0, .int .i64 0, .int .i64 0, .int .i64 0, .int .i64 0, .int .i64 (D t).va, .int .i64 (D t).er] 36).ext (Ext.drew _))
  have HB2 := hide ((HB.out.ext (Ext.alloc W1 (.cells #[Value.int .i64 3, .int .i64 (t : Int), .int .i64 (D t).nu, .int .i64 0, .int .i64 0, .int .i64 0, .int .i64 0, .int .i64 0, .int .i64 0, .int .i64 0, .int .i64 0, .int .i64 (D t).va, .int .i64 (D t).er] 36))).ext (Ext.drew _))
  have H2 := hide ((H.out.ext (Ext.alloc W1 (.cells #[Value.int .i64 3, .int .i64 (t : Int), .int .i64 (D t).nu, .int .i64 0, .int .i64 0, .int .i64 0, .int .i64 0, .int .i64 0, .int .i64 0, .int .i64 0, .int .i64 0, .int .i64 (D t).va, .int .i64 (D t).er] 36))).ext (Ext.drew _))
  clear HX HB H
  generalize (W1.alloc (.cells #[Value.int .i64 3, .int .i64 (t : Int), .int .i64 (D t).nu, .int .i64 0, .int .i64 0, .int .i64 0, .int .i64 0, .int .i64 0, .int .i64 0, .int .i64 0, .int .i64 0, .int .i64 (D t).va, .int .i64 (D t).er] 36)).drew = W2 at *
  generalize W1.heap.size = nb at *
  have rb := HB2.out.cell
  have rn := HN.out.cell
  have s4 := H2.out.dr ht8 (k := 4) (by omega)
  change _ = some (Value.int .i64 (D t).st) at s4
  cases y0 : ((D t).st != 3)
  · have E1 : ((D t).st == 3) = true := by simpa [bne] using y0
    rw [E1] at E
    simp only [Bool.true_and] at E
    subst E
    cases res
    · go_wp2_with fail
      all_goals
        go_ret
        exact ⟨by simp, by first | exact H2.out | simpa using H2.out, HX2.out.chg _⟩
    · go_wp2_with fail
      refine (dend_any (H2.out.db ht8) hnu.out).mono ?_
      rintro e w4 ⟨rfl, hd4, hc4⟩
      have H4 := hide (H2.out.turn ht8 hd4 hc4)
      have HX4 := hide ((HX2.out.chg [C]).trans hc4)
      clear HX2 H2 hd4 hc4 rb rn s4
      go_wp2_with fail
      all_goals
        go_ret
        exact ⟨by simp, by first | exact H4.out | simpa using H4.out, HX4.out⟩
  · have E1 : ((D t).st == 3) = false := by simpa [bne] using y0
    rw [E1] at E
    simp only [Bool.false_and] at E
    subst E
    go_wp2_with fail
    all_goals
      go_ret
      exact ⟨by simp, by first | exact H2.out | simpa using H2.out, HX2.out.chg _⟩
end Go.Proofs.Ytacneghgimfklaa
