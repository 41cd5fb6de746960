/- A Call. -/
import Derived.Test.YtacneghgimfklaaG4
import Derived.Deep.WholeRow
namespace Go.Proofs.Ytacneghgimfklaa
open Go.RowKit Go.Maps
set_option linter.unusedSimpArgs false
set_option linter.unusedVariables false
set_option maxRecDepth 100000
set_option maxHeartbeats 4000000



theorem ccall_any {w : World} {C : Nat} {ty : TypeId} {tl : List Value} {MB W L : Nat} {S : St} {D : Nat → Dg} (h : CT w C ty tl MB W L S D) (x : Ent) {t : Nat} (hx : x.th = (t : Int)) (ht : t < S.N) :
    Calls Try.prog 37 #[.pointer (some ⟨C, 0, none⟩), .agg (ec x)] w fun e w' => e = .returned (.bool (calB S (D t) x)) ∧ CT w' C ty tl MB W L S (if calB S (D t) x = true then upd D t (begD (D t) x.ok x.oo x.oa) else D) ∧ Chg [C] w w' := by
  have n1 := h.m.ok.n1
  have ht8 : t < 8 := by omega
  have j8 : (t : Int) < 8 := by omega
  have lC := h.lt.1
  have nBC : ¬ w.heap.size = C := by omega
  have nCB : ¬ C = w.heap.size := by omega
  obtain ⟨kd, th, nu, ok, oo, oa, ek, et, eo, ea, er, va, rr⟩ := x
  simp only at hx
  subst hx
  simp only [ec]
  have NQ := fun w' => neq_ent ⟨kd, (t : Int), nu, ok, oo, oa, ek, et, eo, ea, er, va, rr⟩ (nxC (D t) ⟨kd, (t : Int), nu, ok, oo, oa, ek, et, eo, ea, er, va, rr⟩) w'
  have CM := fun (w' : World) (h : CT w' C ty tl MB W L S D) => cmay_any h ok oo oa
  have E : calB S (D t) ⟨kd, (t : Int), nu, ok, oo, oa, ek, et, eo, ea, er, va, rr⟩ = ((((D t).st == 0) && eqE ⟨kd, (t : Int), nu, ok, oo, oa, ek, et, eo, ea, er, va, rr⟩ (nxC (D t) ⟨kd, (t : Int), nu, ok, oo, oa, ek, et, eo, ea, er, va, rr⟩)) && mayO S ok oo oa) := rfl
  generalize eqE ⟨kd, (t : Int), nu, ok, oo, oa, ek, et, eo, ea, er, va, rr⟩ (nxC (D t) ⟨kd, (t : Int), nu, ok, oo, oa, ek, et, eo, ea, er, va, rr⟩) = be at *
  generalize mayO S ok oo oa = bm at *
  generalize calB S (D t) ⟨kd, (t : Int), nu, ok, oo, oa, ek, et, eo, ea, er, va, rr⟩ = res at *
  simp only [ec, nxC] at NQ
  go_enter Try.func37, Try.ntmps37
  go_upto_region 1 with fail
  have r1 := ((Blk.new w #[Value.int .i64 kd, .int .i64 (t : Int), .int .i64 nu, .int .i64 ok, .int .i64 oo, .int .i64 oa, .int .i64 ek, .int .i64 et, .int .i64 eo, .int .i64 ea, .int .i64 er, .int .i64 va, .int .i64 rr] 36).ext (Ext.drew _)).cell 1
  simp only [List.getElem?_toArray, List.getElem?_cons_zero, List.getElem?_cons_succ] at r1
  have HB := hide ((Blk.new w #[Value.int .i64 kd, .int .i64 (t : Int), .int .i64 nu, .int .i64 ok, .int .i64 oo, .int .i64 oa, .int .i64 ek, .int .i64 et, .int .i64 eo, .int .i64 ea, .int .i64 er, .int .i64 va, .int .i64 rr] 36).ext (Ext.drew _))
  have H := hide (h.ext ((Ext.alloc w (.cells #[Value.int .i64 kd, .int .i64 (t : Int), .int .i64 nu, .int .i64 ok, .int .i64 oo, .int .i64 oa, .int .i64 ek, .int .i64 et, .int .i64 eo, .int .i64 ea, .int .i64 er, .int .i64 va, .int .i64 rr] 36)).trans (Ext.drew _)))
  have HX := hide ((Ext.alloc w (.cells #[Value.int .i64 kd, .int .i64 (t : Int), .int .i64 nu, .int .i64 ok, .int .i64 oo, .int .i64 oa, .int .i64 ek, .int .i64 et, .int .i64 eo, .int .i64 ea, .int .i64 er, .int .i64 va, .int .i64 rr] 36)).trans (Ext.drew _))
  have HX0 := hide (show (w.alloc (.cells #[Value.int .i64 kd, .int .i64 (t : Int), .int .i64 nu, .int .i64 ok, .int .i64 oo, .int .i64 oa, .int .i64 ek, .int .i64 et, .int .i64 eo, .int .i64 ea, .int .i64 er, .int .i64 va, .int .i64 rr] 36)).drew.heap.size = w.heap.size + 1 from by simp)
  go_region
  clear r1
  generalize (w.alloc (.cells #[Value.int .i64 kd, .int .i64 (t : Int), .int .i64 nu, .int .i64 ok, .int .i64 oo, .int .i64 oa, .int .i64 ek, .int .i64 et, .int .i64 eo, .int .i64 ea, .int .i64 er, .int .i64 va, .int .i64 rr] 36)).drew = W1 at *
  go_upto_region 2 with fail
  have hb0 := (HB.out.ext (Ext.drew _)).cell
  have hb1 := (HB.out.ext (Ext.alloc _ (.cells #[Value.int .i64 0, .int .i64 0, .int .i64 0, .int .i64 0, .int .i64 0, .int .i64 0, .int .i64 0, .int .i64 0, .int .i64 0, .int .i64 0, .int .i64 0, .int .i64 0, .int .i64 0] 36))).cell
  have b1 := hb0 1
  have b3 := hb0 3
  have b4 := hb0 4
  have b5 := hb0 5
  have c1 := hb1 1
  have c3 := hb1 3
  have c4 := hb1 4
  have c5 := hb1 5
  simp only [List.getElem?_toArray, List.getElem?_cons_zero, List.getElem?_cons_succ] at b1 b3 b4 b5 c1 c3 c4 c5
  have s3 := (H.out.ext (Ext.drew _)).dr ht8 (k := 3) (by omega)
  have s3' := (H.out.ext (Ext.alloc _ (.cells #[Value.int .i64 0, .int .i64 0, .int .i64 0, .int .i64 0, .int .i64 0, .int .i64 0, .int .i64 0, .int .i64 0, .int .i64 0, .int .i64 0, .int .i64 0, .int .i64 0, .int .i64 0] 36))).dr ht8 (k := 3) (by omega)
  change _ = some (Value.int .i64 (D t).nu) at s3
  change _ = some (Value.int .i64 (D t).nu) at s3'
  clear hb0 hb1
  go_region
  clear b1 b3 b4 b5 c1 c3 c4 c5 s3 s3'
  have HX2 := hide ((HX.out.trans (Ext.alloc W1 (.cells #[Value.int .i64 1, .int .i64 (t : Int), .int .i64 (D t).nu, .int .i64 ok, .int .i64 oo, .int .i64 oa, .int .i64 0, .int .i64 0, .int .i64 0, .int .i64 0, .int .i64 0, .int .i64 0, .int .i64 0] 36))).trans (Ext.drew _))
  have HN := hide ((Blk.new W1 #[Value.int .i64 1, .int .i64 (t : Int), .int .i64 (D t).nu, .int .i64 ok, .int .i64 oo, .int .i64 oa, .int .i64 0, .int .i64 0, .int .i64 0, .int .i64 0, .int .i64 0, .int .i64 0, .int .i64 0] 36).ext (Ext.drew _))
  have HB2 := hide ((HB.out.ext (Ext.alloc W1 (.cells #[Value.int .i64 1, .int .i64 (t : Int), .int .i64 (D t).nu, .int .i64 ok, .int .i64 oo, .int .i64 oa, .int .i64 0, .int .i64 0, .int .i64 0, .int .i64 0, .int .i64 0, .int .i64 0, .int .i64 0] 36))).ext (Ext.drew _))
  have H2 := hide ((H.out.ext (Ext.alloc W1 (.cells #[Value.int .i64 1, .int .i64 (t : Int), .int .i64 (D t).nu, .int .i64 ok, .int .i64 oo, .int .i64 oa, .int .i64 0, .int .i64 0, .int .i64 0, .int .i64 0, .int .i64 0, .int .i64 0, .int .i64 0] 36))).ext (Ext.drew _))
  clear HX HB H
  generalize (W1.alloc (.cells #[Value.int .i64 1, .int .i64 (t : Int), .int .i64 (D t).nu, .int .i64 ok, .int .i64 oo, .int .i64 oa, .int .i64 0, .int .i64 0, .int .i64 0, .int .i64 0, .int .i64 0, .int .i64 0, .int .i64 0] 36)).drew = W2 at *
  generalize W1.heap.size = nb at *
  have rb := HB2.out.cell
  have rn := HN.out.cell
  have s4 := H2.out.dr ht8 (k := 4) (by omega)
  change _ = some (Value.int .i64 (D t).st) at s4
  cases y0 : ((D t).st != 0)
  · have E1 : ((D t).st == 0) = true := by simpa [bne] using y0
    rw [E1] at E
    cases be
    · go_wp2_with fail
      all_goals
        go_ret
        exact ⟨by simp, by first | exact H2.out | simpa using H2.out, HX2.out.chg _⟩
    · cases bm
      · go_wp2_with fail
        refine (CM _ H2.out).mono ?_
        rintro e w3 ⟨rfl, hx3⟩
        go_wp2_with fail
        all_goals
          go_ret
          exact ⟨by simp, by first | exact H2.out.ext hx3 | simpa using H2.out.ext hx3, (HX2.out.trans hx3).chg _⟩
      · go_wp2_with fail
        refine (CM _ H2.out).mono ?_
        rintro e w3 ⟨rfl, hx3⟩
        have rb := (HB2.out.ext hx3).cell
        have H3 := hide (H2.out.ext hx3)
        have HX3 := hide (HX2.out.trans hx3)
        clear HX2 H2 HB2 HN rn s4 hx3
        go_wp2_with fail
        refine (dbegin_any (H3.out.db ht8) ok oo oa).mono ?_
        rintro e w4 ⟨rfl, hd4, hc4⟩
        have H4 := hide (H3.out.turn ht8 hd4 hc4)
        have HX4 := hide ((HX3.out.chg [C]).trans hc4)
        clear HX3 H3 hd4 hc4 rb
        go_wp2_with fail
        all_goals
          go_ret
          exact ⟨by simp, by first | exact H4.out | simpa using H4.out, HX4.out⟩
  · have E1 : ((D t).st == 0) = false := by simpa [bne] using y0
    rw [E1] at E
    go_wp2_with fail
    all_goals
      go_ret
      exact ⟨by simp, by first | exact H2.out | simpa using H2.out, HX2.out.chg _⟩
end Go.Proofs.Ytacneghgimfklaa
