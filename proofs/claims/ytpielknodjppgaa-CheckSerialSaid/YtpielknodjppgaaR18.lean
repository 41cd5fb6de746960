/- The document's Apply: the kinds 3, and those that are none. -/
import Derived.Test.YtpielknodjppgaaR13
namespace Go.Proofs.Ytpielknodjppgaa
open Go.RowKit Go.Maps
set_option linter.unusedSimpArgs false
set_option linter.unusedVariables false
set_option maxRecDepth 100000
set_option maxHeartbeats 8000000




theorem rap_3o {S : St} (ok : Ok S) {t o : Nat} (a r : Int) (ht : t < S.N) (ho : o < S.M) (q : awB S t = false) (h0 : (r == 0) = false) (h9 : (r == 9) = false) (w : World) :
    Calls Try.prog 24 #[.agg (rc S), (Value.agg #[Value.int .i64 3, .int .i64 (t : Int), .int .i64 (o : Int), .int .i64 a, .int .i64 r])] w fun e w' => e = .returned (.tuple #[.agg (rc S), .int .i64 15]) ∧ Ext w w' := by
  have i8 : (o : Int) < 8 := by have := ok.m1; omega
  have j8 : (t : Int) < 8 := by have := ok.n1; omega
  have OY := hide (show (rc S)[3 + o]? = some (.int .i64 (S.own o + 1)) from rc_own (by have := ok.m1; omega))
  have OW := hide (ow_eq S t o)
  generalize S.own o + 1 = y at *
  have CI := fun w => ris_any S (t : Int) w
  rw [show isT S (t : Int) = true from isT_iff.2 ⟨by omega, by omega⟩] at CI
  have CG := fun w => rgone_any ok ht w
  rw [q] at CG
  have RM := hide (show (rc S)[1]? = some (.int .i64 (S.M : Int)) from rc_at (by omega))
  have z' : decide ((o : Int) < 0) = false := decide_eq_false (by omega)
  have z2 : decide ((S.M : Int) ≤ (o : Int)) = false := decide_eq_false (by omega)
  generalize (S.M : Int) = mm at *
  obtain ⟨zz, hz1, hz2, hz3, hz4, -⟩ : ∃ zz : Array Value, (∀ w, (zeroValue 56).run Try.prog w = .ok (.agg zz) w) ∧ ¬ zz = #[] ∧ ¬ zz.size < 2 ∧ zz.size = 227 ∧ zz = zr := ⟨_, fun w => by kernel_rfl, by decide +kernel, by decide +kernel, by decide +kernel, rfl⟩
  have HZ := hide hz4
  clear hz4
  go_enter Try.func24, Try.ntmps24
  go_upto_region 1 with fail
  have HB := hide (((Blk.new w (rc S) 56).ext (Ext.alloc _ (.cells #[Value.int .i64 3, .int .i64 (t : Int), .int .i64 (o : Int), .int .i64 a, .int .i64 r] 42))).ext (Ext.alloc _ (.cells zz 56)))
  have HE := Blk.new (w.alloc (.cells (rc S) 56)) #[Value.int .i64 3, .int .i64 (t : Int), .int .i64 (o : Int), .int .i64 a, .int .i64 r] 42
  rw [World.size_alloc] at HE
  have HE := hide (HE.ext (Ext.alloc _ (.cells zz 56)))
  have HR := Blk.new ((w.alloc (.cells (rc S) 56)).alloc (.cells #[Value.int .i64 3, .int .i64 (t : Int), .int .i64 (o : Int), .int .i64 a, .int .i64 r] 42)) zz 56
  rw [World.size_alloc, World.size_alloc] at HR
  have HR := hide HR
  have HX := hide (((Ext.alloc w (.cells (rc S) 56)).trans (Ext.alloc _ (.cells #[Value.int .i64 3, .int .i64 (t : Int), .int .i64 (o : Int), .int .i64 a, .int .i64 r] 42))).trans (Ext.alloc _ (.cells zz 56)))
  generalize (((w.alloc (.cells (rc S) 56)).alloc (.cells #[Value.int .i64 3, .int .i64 (t : Int), .int .i64 (o : Int), .int .i64 a, .int .i64 r] 42)).alloc (.cells zz 56)) = W0 at *
  have re := HE.out.cell
  go_wp2_with (with_reducible refine wpList_get rfl _ rfl w.heap.size _ rfl HB.out ?_; go_frame)
  refine (CI W0).mono ?_
  rintro e w5 ⟨rfl, hx5⟩
  have HB := hide (HB.out.ext hx5)
  have HE := hide (HE.out.ext hx5)
  have HR := hide (HR.out.ext hx5)
  have HX := hide (HX.out.trans hx5)
  clear hx5 re
  generalize w5 = W0 at *
  have re := HE.out.cell
  have r1 : W0.cell? ⟨w.heap.size, 1, none⟩ = some (.int .i64 mm) := by rw [HB.out.cell]; exact RM.out
  go_wp2_with (with_reducible refine wpList_get rfl _ rfl w.heap.size _ rfl HB.out ?_; go_frame)
  refine wp_get _ rfl w.heap.size S rfl HB.out ?_
  go_frame
  go_wp2_with fail
  clear r1
  refine (CG W0).mono ?_
  rintro e w5 ⟨rfl, hx5⟩
  have HB := hide (HB.out.ext hx5)
  have HE := hide (HE.out.ext hx5)
  have HR := hide (HR.out.ext hx5)
  have HX := hide (HX.out.trans hx5)
  clear hx5 re
  generalize w5 = W0 at *
  have re := HE.out.cell
  go_wp2_with first | (with_reducible refine wpList_get rfl _ rfl w.heap.size _ rfl HB.out ?_; go_frame) | (refine wpList_put rfl _ _ rfl W0.heap.size _ rfl rfl zz (Blk.new W0 zz 56) HZ.out ?_; intro W1 hb1 hc1 hs1; have hc := ((Ext.alloc W0 (.cells zz 56)).chg [W0.heap.size]).trans hc1; have lB := HB.out.lt; have lE := HE.out.lt; have lR := HR.out.lt; have lX := HX.out.size; have HB := hide (HB.out.chg hc (by simp; omega)); have HE := hide (HE.out.chg hc (by simp; omega)); have HR := hide (HR.out.chg hc (by simp; omega)); have HX := hide (HX.out.turn hc (by simp; omega)); have HQ := hide hb1; clear hb1 hc1 hs1 hc lB lE re; have re := HE.out.cell; generalize W0.heap.size = bq at *; go_frame) | (with_reducible refine wpList_get rfl _ rfl bq _ rfl HQ.out ?_; go_frame) | (with_reducible refine wpList_put rfl _ _ rfl bq _ rfl rfl (rc S) HQ.out rc_size ?_; intro W2 hb1 hc1 hs1; have HB := hide (HB.out.chg hc1 (by simp; omega)); have HE := hide (HE.out.chg hc1 (by simp; omega)); have HR := hide (HR.out.chg hc1 (by simp; omega)); have HX := hide (HX.out.turn hc1 (by simp; omega)); have HQ := hide hb1; clear hb1 hc1 hs1 re; have re := HE.out.cell; go_frame) | (with_reducible refine wpList_put rfl _ _ rfl (w.heap.size + 1 + 1) _ rfl rfl zz HR.out HZ.out ?_; intro w' hb' hc' hs'; have HX' := hide (HX.out.turn hc' (by simp; omega)); clear hc' hs'; go_frame)
  have hy := Ext.drew W1
  have re := (HE.out.ext hy).cell
  have r1 : W1.drew.cell? ⟨w.heap.size, 3 + o, none⟩ = some (.int .i64 y) := by rw [(HB.out.ext hy).cell]; exact OY.out
  go_region
  clear r1 re
  have HB := hide (HB.out.ext hy)
  have HE := hide (HE.out.ext hy)
  have HR := hide (HR.out.ext hy)
  have HQ := hide (HQ.out.ext hy)
  have HX := hide (HX.out.trans hy)
  clear hy
  generalize W1.drew = W1 at *
  have re := HE.out.cell
  cases z : (a == 0)
  all_goals
    go_wp2_with first | (with_reducible refine wpList_get rfl _ rfl w.heap.size _ rfl HB.out ?_; go_frame) | (with_reducible refine wpList_get rfl _ rfl bq _ rfl HQ.out ?_; go_frame) | (with_reducible refine wpList_put rfl _ _ rfl bq _ rfl rfl (rc S) HQ.out rc_size ?_; intro W2 hb1 hc1 hs1; have HB := hide (HB.out.chg hc1 (by simp; omega)); have HE := hide (HE.out.chg hc1 (by simp; omega)); have HR := hide (HR.out.chg hc1 (by simp; omega)); have HX := hide (HX.out.turn hc1 (by simp; omega)); have HQ := hide hb1; clear hb1 hc1 hs1 re; have re := HE.out.cell; go_frame) | (with_reducible refine wpList_put rfl _ _ rfl (w.heap.size + 1 + 1) _ rfl rfl zz HR.out HZ.out ?_; intro w' hb' hc' hs'; have HX' := hide (HX.out.turn hc' (by simp; omega)); clear hc' hs'; go_frame)
    refine bodyPost_ret (res_of Try.results24 _ _ rfl rfl hb') rfl ?_
    exact ⟨by rfl, HX'.out⟩
theorem rap_39 {S : St} (ok : Ok S) {t o : Nat} (a : Int) (ht : t < S.N) (ho : o < S.M) (q : awB S t = false) (w : World) :
    Calls Try.prog 24 #[.agg (rc S), (Value.agg #[Value.int .i64 3, .int .i64 (t : Int), .int .i64 (o : Int), .int .i64 a, .int .i64 9])] w fun e w' => e = .returned (.tuple #[.agg (rc S), .int .i64 (erB (a == 0 && !owB S t o))]) ∧ Ext w w' := by
  have i8 : (o : Int) < 8 := by have := ok.m1; omega
  have j8 : (t : Int) < 8 := by have := ok.n1; omega
  have OY := hide (show (rc S)[3 + o]? = some (.int .i64 (S.own o + 1)) from rc_own (by have := ok.m1; omega))
  have OW := hide (ow_eq S t o)
  generalize S.own o + 1 = y at *
  have CI := fun w => ris_any S (t : Int) w
  rw [show isT S (t : Int) = true from isT_iff.2 ⟨by omega, by omega⟩] at CI
  have CG := fun w => rgone_any ok ht w
  rw [q] at CG
  have RM := hide (show (rc S)[1]? = some (.int .i64 (S.M : Int)) from rc_at (by omega))
  have z' : decide ((o : Int) < 0) = false := decide_eq_false (by omega)
  have z2 : decide ((S.M : Int) ≤ (o : Int)) = false := decide_eq_false (by omega)
  generalize (S.M : Int) = mm at *
  obtain ⟨zz, hz1, hz2, hz3, hz4, -⟩ : ∃ zz : Array Value, (∀ w, (zeroValue 56).run Try.prog w = .ok (.agg zz) w) ∧ ¬ zz = #[] ∧ ¬ zz.size < 2 ∧ zz.size = 227 ∧ zz = zr := ⟨_, fun w => by kernel_rfl, by decide +kernel, by decide +kernel, by decide +kernel, rfl⟩
  have HZ := hide hz4
  clear hz4
  go_enter Try.func24, Try.ntmps24
  go_upto_region 1 with fail
  have HB := hide (((Blk.new w (rc S) 56).ext (Ext.alloc _ (.cells #[Value.int .i64 3, .int .i64 (t : Int), .int .i64 (o : Int), .int .i64 a, .int .i64 9] 42))).ext (Ext.alloc _ (.cells zz 56)))
  have HE := Blk.new (w.alloc (.cells (rc S) 56)) #[Value.int .i64 3, .int .i64 (t : Int), .int .i64 (o : Int), .int .i64 a, .int .i64 9] 42
  rw [World.size_alloc] at HE
  have HE := hide (HE.ext (Ext.alloc _ (.cells zz 56)))
  have HR := Blk.new ((w.alloc (.cells (rc S) 56)).alloc (.cells #[Value.int .i64 3, .int .i64 (t : Int), .int .i64 (o : Int), .int .i64 a, .int .i64 9] 42)) zz 56
  rw [World.size_alloc, World.size_alloc] at HR
  have HR := hide HR
  have HX := hide (((Ext.alloc w (.cells (rc S) 56)).trans (Ext.alloc _ (.cells #[Value.int .i64 3, .int .i64 (t : Int), .int .i64 (o : Int), .int .i64 a, .int .i64 9] 42))).trans (Ext.alloc _ (.cells zz 56)))
  generalize (((w.alloc (.cells (rc S) 56)).alloc (.cells #[Value.int .i64 3, .int .i64 (t : Int), .int .i64 (o : Int), .int .i64 a, .int .i64 9] 42)).alloc (.cells zz 56)) = W0 at *
  have re := HE.out.cell
  go_wp2_with (with_reducible refine wpList_get rfl _ rfl w.heap.size _ rfl HB.out ?_; go_frame)
  refine (CI W0).mono ?_
  rintro e w5 ⟨rfl, hx5⟩
  have HB := hide (HB.out.ext hx5)
  have HE := hide (HE.out.ext hx5)
  have HR := hide (HR.out.ext hx5)
  have HX := hide (HX.out.trans hx5)
  clear hx5 re
  generalize w5 = W0 at *
  have re := HE.out.cell
  have r1 : W0.cell? ⟨w.heap.size, 1, none⟩ = some (.int .i64 mm) := by rw [HB.out.cell]; exact RM.out
  go_wp2_with (with_reducible refine wpList_get rfl _ rfl w.heap.size _ rfl HB.out ?_; go_frame)
  refine wp_get _ rfl w.heap.size S rfl HB.out ?_
  go_frame
  go_wp2_with fail
  clear r1
  refine (CG W0).mono ?_
  rintro e w5 ⟨rfl, hx5⟩
  have HB := hide (HB.out.ext hx5)
  have HE := hide (HE.out.ext hx5)
  have HR := hide (HR.out.ext hx5)
  have HX := hide (HX.out.trans hx5)
  clear hx5 re
  generalize w5 = W0 at *
  have re := HE.out.cell
  go_wp2_with first | (with_reducible refine wpList_get rfl _ rfl w.heap.size _ rfl HB.out ?_; go_frame) | (refine wpList_put rfl _ _ rfl W0.heap.size _ rfl rfl zz (Blk.new W0 zz 56) HZ.out ?_; intro W1 hb1 hc1 hs1; have hc := ((Ext.alloc W0 (.cells zz 56)).chg [W0.heap.size]).trans hc1; have lB := HB.out.lt; have lE := HE.out.lt; have lR := HR.out.lt; have lX := HX.out.size; have HB := hide (HB.out.chg hc (by simp; omega)); have HE := hide (HE.out.chg hc (by simp; omega)); have HR := hide (HR.out.chg hc (by simp; omega)); have HX := hide (HX.out.turn hc (by simp; omega)); have HQ := hide hb1; clear hb1 hc1 hs1 hc lB lE re; have re := HE.out.cell; generalize W0.heap.size = bq at *; go_frame) | (with_reducible refine wpList_get rfl _ rfl bq _ rfl HQ.out ?_; go_frame) | (with_reducible refine wpList_put rfl _ _ rfl bq _ rfl rfl (rc S) HQ.out rc_size ?_; intro W2 hb1 hc1 hs1; have HB := hide (HB.out.chg hc1 (by simp; omega)); have HE := hide (HE.out.chg hc1 (by simp; omega)); have HR := hide (HR.out.chg hc1 (by simp; omega)); have HX := hide (HX.out.turn hc1 (by simp; omega)); have HQ := hide hb1; clear hb1 hc1 hs1 re; have re := HE.out.cell; go_frame) | (with_reducible refine wpList_put rfl _ _ rfl (w.heap.size + 1 + 1) _ rfl rfl zz HR.out HZ.out ?_; intro w' hb' hc' hs'; have HX' := hide (HX.out.turn hc' (by simp; omega)); clear hc' hs'; go_frame)
  have hy := Ext.drew W1
  have re := (HE.out.ext hy).cell
  have r1 : W1.drew.cell? ⟨w.heap.size, 3 + o, none⟩ = some (.int .i64 y) := by rw [(HB.out.ext hy).cell]; exact OY.out
  go_region
  clear r1 re
  have HB := hide (HB.out.ext hy)
  have HE := hide (HE.out.ext hy)
  have HR := hide (HR.out.ext hy)
  have HQ := hide (HQ.out.ext hy)
  have HX := hide (HX.out.trans hy)
  clear hy
  generalize W1.drew = W1 at *
  have re := HE.out.cell
  cases z : (a == 0)
  · go_wp2_with first | (with_reducible refine wpList_get rfl _ rfl w.heap.size _ rfl HB.out ?_; go_frame) | (with_reducible refine wpList_get rfl _ rfl bq _ rfl HQ.out ?_; go_frame) | (with_reducible refine wpList_put rfl _ _ rfl bq _ rfl rfl (rc S) HQ.out rc_size ?_; intro W2 hb1 hc1 hs1; have HB := hide (HB.out.chg hc1 (by simp; omega)); have HE := hide (HE.out.chg hc1 (by simp; omega)); have HR := hide (HR.out.chg hc1 (by simp; omega)); have HX := hide (HX.out.turn hc1 (by simp; omega)); have HQ := hide hb1; clear hb1 hc1 hs1 re; have re := HE.out.cell; go_frame) | (with_reducible refine wpList_put rfl _ _ rfl (w.heap.size + 1 + 1) _ rfl rfl zz HR.out HZ.out ?_; intro w' hb' hc' hs'; have HX' := hide (HX.out.turn hc' (by simp; omega)); clear hc' hs'; go_frame)
    refine bodyPost_ret (res_of Try.results24 _ _ rfl rfl hb') rfl ?_
    exact ⟨by rw [z]; rfl, HX'.out⟩
  · have HZ2 := hide z
    cases y1 : (y == (t : Int) + 1)
    · have HY1 := hide (OW.out.symm.trans y1)
      go_wp2_with first | (with_reducible refine wpList_get rfl _ rfl w.heap.size _ rfl HB.out ?_; go_frame) | (with_reducible refine wpList_get rfl _ rfl bq _ rfl HQ.out ?_; go_frame) | (with_reducible refine wpList_put rfl _ _ rfl bq _ rfl rfl (rc S) HQ.out rc_size ?_; intro W2 hb1 hc1 hs1; have HB := hide (HB.out.chg hc1 (by simp; omega)); have HE := hide (HE.out.chg hc1 (by simp; omega)); have HR := hide (HR.out.chg hc1 (by simp; omega)); have HX := hide (HX.out.turn hc1 (by simp; omega)); have HQ := hide hb1; clear hb1 hc1 hs1 re; have re := HE.out.cell; go_frame) | (with_reducible refine wpList_put rfl _ _ rfl (w.heap.size + 1 + 1) _ rfl rfl zz HR.out HZ.out ?_; intro w' hb' hc' hs'; have HX' := hide (HX.out.turn hc' (by simp; omega)); clear hc' hs'; go_frame)
      refine bodyPost_ret (res_of Try.results24 _ _ rfl rfl hb') rfl ?_
      exact ⟨by rw [HZ2.out, HY1.out]; rfl, HX'.out⟩
    · have HY1 := hide (OW.out.symm.trans y1)
      go_wp2_with first | (with_reducible refine wpList_get rfl _ rfl w.heap.size _ rfl HB.out ?_; go_frame) | (with_reducible refine wpList_get rfl _ rfl bq _ rfl HQ.out ?_; go_frame) | (with_reducible refine wpList_put rfl _ _ rfl bq _ rfl rfl (rc S) HQ.out rc_size ?_; intro W2 hb1 hc1 hs1; have HB := hide (HB.out.chg hc1 (by simp; omega)); have HE := hide (HE.out.chg hc1 (by simp; omega)); have HR := hide (HR.out.chg hc1 (by simp; omega)); have HX := hide (HX.out.turn hc1 (by simp; omega)); have HQ := hide hb1; clear hb1 hc1 hs1 re; have re := HE.out.cell; go_frame) | (with_reducible refine wpList_put rfl _ _ rfl (w.heap.size + 1 + 1) _ rfl rfl zz HR.out HZ.out ?_; intro w' hb' hc' hs'; have HX' := hide (HX.out.turn hc' (by simp; omega)); clear hc' hs'; go_frame)
      refine bodyPost_ret (res_of Try.results24 _ _ rfl rfl hb') rfl ?_
      exact ⟨by rw [HZ2.out, HY1.out]; rfl, HX'.out⟩
theorem rap_30n {S : St} (ok : Ok S) {t o : Nat} (a : Int) (ht : t < S.N) (ho : o < S.M) (q : awB S t = false) (E : (a == 0 && owB S t o) = false) (w : World) :
    Calls Try.prog 24 #[.agg (rc S), (Value.agg #[Value.int .i64 3, .int .i64 (t : Int), .int .i64 (o : Int), .int .i64 a, .int .i64 0])] w fun e w' => e = .returned (.tuple #[.agg (rc S), .int .i64 15]) ∧ Ext w w' := by
  have E := hide E
  have i8 : (o : Int) < 8 := by have := ok.m1; omega
  have j8 : (t : Int) < 8 := by have := ok.n1; omega
  have OY := hide (show (rc S)[3 + o]? = some (.int .i64 (S.own o + 1)) from rc_own (by have := ok.m1; omega))
  have OW := hide (ow_eq S t o)
  generalize S.own o + 1 = y at *
  rw [← OW.out] at E
  have CI := fun w => ris_any S (t : Int) w
  rw [show isT S (t : Int) = true from isT_iff.2 ⟨by omega, by omega⟩] at CI
  have CG := fun w => rgone_any ok ht w
  rw [q] at CG
  have RM := hide (show (rc S)[1]? = some (.int .i64 (S.M : Int)) from rc_at (by omega))
  have z' : decide ((o : Int) < 0) = false := decide_eq_false (by omega)
  have z2 : decide ((S.M : Int) ≤ (o : Int)) = false := decide_eq_false (by omega)
  generalize (S.M : Int) = mm at *
  obtain ⟨zz, hz1, hz2, hz3, hz4, -⟩ : ∃ zz : Array Value, (∀ w, (zeroValue 56).run Try.prog w = .ok (.agg zz) w) ∧ ¬ zz = #[] ∧ ¬ zz.size < 2 ∧ zz.size = 227 ∧ zz = zr := ⟨_, fun w => by kernel_rfl, by decide +kernel, by decide +kernel, by decide +kernel, rfl⟩
  have HZ := hide hz4
  clear hz4
  go_enter Try.func24, Try.ntmps24
  go_upto_region 1 with fail
  have HB := hide (((Blk.new w (rc S) 56).ext (Ext.alloc _ (.cells #[Value.int .i64 3, .int .i64 (t : Int), .int .i64 (o : Int), .int .i64 a, .int .i64 0] 42))).ext (Ext.alloc _ (.cells zz 56)))
  have HE := Blk.new (w.alloc (.cells (rc S) 56)) #[Value.int .i64 3, .int .i64 (t : Int), .int .i64 (o : Int), .int .i64 a, .int .i64 0] 42
  rw [World.size_alloc] at HE
  have HE := hide (HE.ext (Ext.alloc _ (.cells zz 56)))
  have HR := Blk.new ((w.alloc (.cells (rc S) 56)).alloc (.cells #[Value.int .i64 3, .int .i64 (t : Int), .int .i64 (o : Int), .int .i64 a, .int .i64 0] 42)) zz 56
  rw [World.size_alloc, World.size_alloc] at HR
  have HR := hide HR
  have HX := hide (((Ext.alloc w (.cells (rc S) 56)).trans (Ext.alloc _ (.cells #[Value.int .i64 3, .int .i64 (t : Int), .int .i64 (o : Int), .int .i64 a, .int .i64 0] 42))).trans (Ext.alloc _ (.cells zz 56)))
  generalize (((w.alloc (.cells (rc S) 56)).alloc (.cells #[Value.int .i64 3, .int .i64 (t : Int), .int .i64 (o : Int), .int .i64 a, .int .i64 0] 42)).alloc (.cells zz 56)) = W0 at *
  have re := HE.out.cell
  go_wp2_with (with_reducible refine wpList_get rfl _ rfl w.heap.size _ rfl HB.out ?_; go_frame)
  refine (CI W0).mono ?_
  rintro e w5 ⟨rfl, hx5⟩
  have HB := hide (HB.out.ext hx5)
  have HE := hide (HE.out.ext hx5)
  have HR := hide (HR.out.ext hx5)
  have HX := hide (HX.out.trans hx5)
  clear hx5 re
  generalize w5 = W0 at *
  have re := HE.out.cell
  have r1 : W0.cell? ⟨w.heap.size, 1, none⟩ = some (.int .i64 mm) := by rw [HB.out.cell]; exact RM.out
  go_wp2_with (with_reducible refine wpList_get rfl _ rfl w.heap.size _ rfl HB.out ?_; go_frame)
  refine wp_get _ rfl w.heap.size S rfl HB.out ?_
  go_frame
  go_wp2_with fail
  clear r1
  refine (CG W0).mono ?_
  rintro e w5 ⟨rfl, hx5⟩
  have HB := hide (HB.out.ext hx5)
  have HE := hide (HE.out.ext hx5)
  have HR := hide (HR.out.ext hx5)
  have HX := hide (HX.out.trans hx5)
  clear hx5 re
  generalize w5 = W0 at *
  have re := HE.out.cell
  go_wp2_with first | (with_reducible refine wpList_get rfl _ rfl w.heap.size _ rfl HB.out ?_; go_frame) | (refine wpList_put rfl _ _ rfl W0.heap.size _ rfl rfl zz (Blk.new W0 zz 56) HZ.out ?_; intro W1 hb1 hc1 hs1; have hc := ((Ext.alloc W0 (.cells zz 56)).chg [W0.heap.size]).trans hc1; have lB := HB.out.lt; have lE := HE.out.lt; have lR := HR.out.lt; have lX := HX.out.size; have HB := hide (HB.out.chg hc (by simp; omega)); have HE := hide (HE.out.chg hc (by simp; omega)); have HR := hide (HR.out.chg hc (by simp; omega)); have HX := hide (HX.out.turn hc (by simp; omega)); have HQ := hide hb1; clear hb1 hc1 hs1 hc lB lE re; have re := HE.out.cell; generalize W0.heap.size = bq at *; go_frame) | (with_reducible refine wpList_get rfl _ rfl bq _ rfl HQ.out ?_; go_frame) | (with_reducible refine wpList_put rfl _ _ rfl bq _ rfl rfl (rc S) HQ.out rc_size ?_; intro W2 hb1 hc1 hs1; have HB := hide (HB.out.chg hc1 (by simp; omega)); have HE := hide (HE.out.chg hc1 (by simp; omega)); have HR := hide (HR.out.chg hc1 (by simp; omega)); have HX := hide (HX.out.turn hc1 (by simp; omega)); have HQ := hide hb1; clear hb1 hc1 hs1 re; have re := HE.out.cell; go_frame) | (with_reducible refine wpList_put rfl _ _ rfl (w.heap.size + 1 + 1) _ rfl rfl zz HR.out HZ.out ?_; intro w' hb' hc' hs'; have HX' := hide (HX.out.turn hc' (by simp; omega)); clear hc' hs'; go_frame)
  have hy := Ext.drew W1
  have re := (HE.out.ext hy).cell
  have r1 : W1.drew.cell? ⟨w.heap.size, 3 + o, none⟩ = some (.int .i64 y) := by rw [(HB.out.ext hy).cell]; exact OY.out
  go_region
  clear r1 re
  have HB := hide (HB.out.ext hy)
  have HE := hide (HE.out.ext hy)
  have HR := hide (HR.out.ext hy)
  have HQ := hide (HQ.out.ext hy)
  have HX := hide (HX.out.trans hy)
  clear hy
  generalize W1.drew = W1 at *
  have re := HE.out.cell
  cases z : (a == 0)
  · go_wp2_with first | (with_reducible refine wpList_get rfl _ rfl w.heap.size _ rfl HB.out ?_; go_frame) | (with_reducible refine wpList_get rfl _ rfl bq _ rfl HQ.out ?_; go_frame) | (with_reducible refine wpList_put rfl _ _ rfl bq _ rfl rfl (rc S) HQ.out rc_size ?_; intro W2 hb1 hc1 hs1; have HB := hide (HB.out.chg hc1 (by simp; omega)); have HE := hide (HE.out.chg hc1 (by simp; omega)); have HR := hide (HR.out.chg hc1 (by simp; omega)); have HX := hide (HX.out.turn hc1 (by simp; omega)); have HQ := hide hb1; clear hb1 hc1 hs1 re; have re := HE.out.cell; go_frame) | (with_reducible refine wpList_put rfl _ _ rfl (w.heap.size + 1 + 1) _ rfl rfl zz HR.out HZ.out ?_; intro w' hb' hc' hs'; have HX' := hide (HX.out.turn hc' (by simp; omega)); clear hc' hs'; go_frame)
    refine bodyPost_ret (res_of Try.results24 _ _ rfl rfl hb') rfl ?_
    exact ⟨by rfl, HX'.out⟩
  · have y1 : (y == (t : Int) + 1) = false := by have := E.out; rw [z] at this; simpa using this
    go_wp2_with first | (with_reducible refine wpList_get rfl _ rfl w.heap.size _ rfl HB.out ?_; go_frame) | (with_reducible refine wpList_get rfl _ rfl bq _ rfl HQ.out ?_; go_frame) | (with_reducible refine wpList_put rfl _ _ rfl bq _ rfl rfl (rc S) HQ.out rc_size ?_; intro W2 hb1 hc1 hs1; have HB := hide (HB.out.chg hc1 (by simp; omega)); have HE := hide (HE.out.chg hc1 (by simp; omega)); have HR := hide (HR.out.chg hc1 (by simp; omega)); have HX := hide (HX.out.turn hc1 (by simp; omega)); have HQ := hide hb1; clear hb1 hc1 hs1 re; have re := HE.out.cell; go_frame) | (with_reducible refine wpList_put rfl _ _ rfl (w.heap.size + 1 + 1) _ rfl rfl zz HR.out HZ.out ?_; intro w' hb' hc' hs'; have HX' := hide (HX.out.turn hc' (by simp; omega)); clear hc' hs'; go_frame)
    refine bodyPost_ret (res_of Try.results24 _ _ rfl rfl hb') rfl ?_
    exact ⟨by rfl, HX'.out⟩
theorem rap_30y {S : St} (ok : Ok S) {t o : Nat} (a : Int) (ht : t < S.N) (ho : o < S.M) (q : awB S t = false) (E : (a == 0 && owB S t o) = true) (w : World) :
    Calls Try.prog 24 #[.agg (rc S), (Value.agg #[Value.int .i64 3, .int .i64 (t : Int), .int .i64 (o : Int), .int .i64 a, .int .i64 0])] w fun e w' => e = .returned (.tuple #[.agg (rc (exS S o)), .int .i64 0]) ∧ Ext w w' := by
  have E := hide E
  have ho8 : o < 8 := by have := ok.m1; omega
  have wr : IntKind.i64.wrap (S.cnt o - 1) = S.cnt o - 1 := by rw [IntKind.wrap_i64]; have := ok.own o; have := ok.k1; omega
  have EX := hide (show exS S o = { S with cnt := upd S.cnt o (S.cnt o - 1), own := if S.cnt o = 1 then upd S.own o (-1) else S.own } from rfl)
  have OC := hide (show (rc S)[11 + o]? = some (.int .i64 (S.cnt o)) from rc_cnt ho8)
  have OY2 := hide (show (rc S)[3 + o]? = some (.int .i64 (S.own o + 1)) from rc_own ho8)
  obtain ⟨cc, hcc⟩ : ∃ cc, S.cnt o = cc := ⟨_, rfl⟩
  have HCC := hide hcc
  rw [hcc] at wr OC EX
  clear hcc
  have i8 : (o : Int) < 8 := by have := ok.m1; omega
  have j8 : (t : Int) < 8 := by have := ok.n1; omega
  have OY := hide (show (rc S)[3 + o]? = some (.int .i64 (S.own o + 1)) from rc_own (by have := ok.m1; omega))
  have OW := hide (ow_eq S t o)
  generalize S.own o + 1 = y at *
  rw [← OW.out] at E
  have CI := fun w => ris_any S (t : Int) w
  rw [show isT S (t : Int) = true from isT_iff.2 ⟨by omega, by omega⟩] at CI
  have CG := fun w => rgone_any ok ht w
  rw [q] at CG
  have RM := hide (show (rc S)[1]? = some (.int .i64 (S.M : Int)) from rc_at (by omega))
  have z' : decide ((o : Int) < 0) = false := decide_eq_false (by omega)
  have z2 : decide ((S.M : Int) ≤ (o : Int)) = false := decide_eq_false (by omega)
  generalize (S.M : Int) = mm at *
  obtain ⟨zz, hz1, hz2, hz3, hz4, -⟩ : ∃ zz : Array Value, (∀ w, (zeroValue 56).run Try.prog w = .ok (.agg zz) w) ∧ ¬ zz = #[] ∧ ¬ zz.size < 2 ∧ zz.size = 227 ∧ zz = zr := ⟨_, fun w => by kernel_rfl, by decide +kernel, by decide +kernel, by decide +kernel, rfl⟩
  have HZ := hide hz4
  clear hz4
  go_enter Try.func24, Try.ntmps24
  go_upto_region 1 with fail
  have HB := hide (((Blk.new w (rc S) 56).ext (Ext.alloc _ (.cells #[Value.int .i64 3, .int .i64 (t : Int), .int .i64 (o : Int), .int .i64 a, .int .i64 0] 42))).ext (Ext.alloc _ (.cells zz 56)))
  have HE := Blk.new (w.alloc (.cells (rc S) 56)) #[Value.int .i64 3, .int .i64 (t : Int), .int .i64 (o : Int), .int .i64 a, .int .i64 0] 42
  rw [World.size_alloc] at HE
  have HE := hide (HE.ext (Ext.alloc _ (.cells zz 56)))
  have HR := Blk.new ((w.alloc (.cells (rc S) 56)).alloc (.cells #[Value.int .i64 3, .int .i64 (t : Int), .int .i64 (o : Int), .int .i64 a, .int .i64 0] 42)) zz 56
  rw [World.size_alloc, World.size_alloc] at HR
  have HR := hide HR
  have HX := hide (((Ext.alloc w (.cells (rc S) 56)).trans (Ext.alloc _ (.cells #[Value.int .i64 3, .int .i64 (t : Int), .int .i64 (o : Int), .int .i64 a, .int .i64 0] 42))).trans (Ext.alloc _ (.cells zz 56)))
  generalize (((w.alloc (.cells (rc S) 56)).alloc (.cells #[Value.int .i64 3, .int .i64 (t : Int), .int .i64 (o : Int), .int .i64 a, .int .i64 0] 42)).alloc (.cells zz 56)) = W0 at *
  have re := HE.out.cell
  go_wp2_with (with_reducible refine wpList_get rfl _ rfl w.heap.size _ rfl HB.out ?_; go_frame)
  refine (CI W0).mono ?_
  rintro e w5 ⟨rfl, hx5⟩
  have HB := hide (HB.out.ext hx5)
  have HE := hide (HE.out.ext hx5)
  have HR := hide (HR.out.ext hx5)
  have HX := hide (HX.out.trans hx5)
  clear hx5 re
  generalize w5 = W0 at *
  have re := HE.out.cell
  have r1 : W0.cell? ⟨w.heap.size, 1, none⟩ = some (.int .i64 mm) := by rw [HB.out.cell]; exact RM.out
  go_wp2_with (with_reducible refine wpList_get rfl _ rfl w.heap.size _ rfl HB.out ?_; go_frame)
  refine wp_get _ rfl w.heap.size S rfl HB.out ?_
  go_frame
  go_wp2_with fail
  clear r1
  refine (CG W0).mono ?_
  rintro e w5 ⟨rfl, hx5⟩
  have HB := hide (HB.out.ext hx5)
  have HE := hide (HE.out.ext hx5)
  have HR := hide (HR.out.ext hx5)
  have HX := hide (HX.out.trans hx5)
  clear hx5 re
  generalize w5 = W0 at *
  have re := HE.out.cell
  go_wp2_with first | (with_reducible refine wpList_get rfl _ rfl w.heap.size _ rfl HB.out ?_; go_frame) | (refine wpList_put rfl _ _ rfl W0.heap.size _ rfl rfl zz (Blk.new W0 zz 56) HZ.out ?_; intro W1 hb1 hc1 hs1; have hc := ((Ext.alloc W0 (.cells zz 56)).chg [W0.heap.size]).trans hc1; have lB := HB.out.lt; have lE := HE.out.lt; have lR := HR.out.lt; have lX := HX.out.size; have HB := hide (HB.out.chg hc (by simp; omega)); have HE := hide (HE.out.chg hc (by simp; omega)); have HR := hide (HR.out.chg hc (by simp; omega)); have HX := hide (HX.out.turn hc (by simp; omega)); have HQ := hide hb1; clear hb1 hc1 hs1 hc lB lE re; have re := HE.out.cell; generalize W0.heap.size = bq at *; go_frame) | (with_reducible refine wpList_get rfl _ rfl bq _ rfl HQ.out ?_; go_frame) | (with_reducible refine wpList_put rfl _ _ rfl bq _ rfl rfl (rc S) HQ.out rc_size ?_; intro W2 hb1 hc1 hs1; have HB := hide (HB.out.chg hc1 (by simp; omega)); have HE := hide (HE.out.chg hc1 (by simp; omega)); have HR := hide (HR.out.chg hc1 (by simp; omega)); have HX := hide (HX.out.turn hc1 (by simp; omega)); have HQ := hide hb1; clear hb1 hc1 hs1 re; have re := HE.out.cell; go_frame) | (with_reducible refine wpList_put rfl _ _ rfl (w.heap.size + 1 + 1) _ rfl rfl zz HR.out HZ.out ?_; intro w' hb' hc' hs'; have HX' := hide (HX.out.turn hc' (by simp; omega)); clear hc' hs'; go_frame)
  have hy := Ext.drew W1
  have re := (HE.out.ext hy).cell
  have r1 : W1.drew.cell? ⟨w.heap.size, 3 + o, none⟩ = some (.int .i64 y) := by rw [(HB.out.ext hy).cell]; exact OY.out
  go_region
  clear r1 re
  have HB := hide (HB.out.ext hy)
  have HE := hide (HE.out.ext hy)
  have HR := hide (HR.out.ext hy)
  have HQ := hide (HQ.out.ext hy)
  have HX := hide (HX.out.trans hy)
  clear hy
  generalize W1.drew = W1 at *
  have re := HE.out.cell
  have z : (a == 0) = true := by have := E.out; rw [Bool.and_eq_true] at this; exact this.1
  have y1 : (y == (t : Int) + 1) = true := by have := E.out; rw [Bool.and_eq_true] at this; exact this.2
  have q1 : W1.cell? ⟨bq, 11 + o, none⟩ = some (.int .i64 cc) := by rw [HQ.out.cell]; exact OC.out
  have q2 : W1.cell? ⟨bq, 3 + o, none⟩ = some (.int .i64 y) := by rw [HQ.out.cell]; exact OY2.out
  have f1 := HQ.out.free (11 + o)
  have f2 := HQ.out.free (3 + o)
  have b4 := HQ.out.set (11 + o) (.int .i64 (cc - 1))
  rw [rset_cnt ho8] at b4
  have c4 := (Chg.refl [bq] W1).set (p := ⟨bq, 11 + o, none⟩) (.inl (by simp)) (.int .i64 (cc - 1))
  have HQ4 := hide b4
  have HC4 := hide c4
  clear b4 c4
  by_cases e1 : cc = 1
  · subst e1
    rw [show (1 : Int) - 1 = 0 from rfl] at HQ4 HC4
    have b5 := HQ4.out.set (3 + o) (.int .i64 (-1 + 1))
    rw [rset_own ho8, show (-1 : Int) + 1 = 0 from rfl] at b5
    have HQ := hide b5
    have c5 := HC4.out.set (p := ⟨bq, 3 + o, none⟩) (.inl (by simp)) (.int .i64 0)
    have HR := hide (HR.out.chg c5 (by simp; omega))
    have HX := hide (HX.out.turn c5 (by simp; omega))
    clear b5 c5
    go_wp2_with first | (with_reducible refine wpList_get rfl _ rfl w.heap.size _ rfl HB.out ?_; go_frame) | (with_reducible refine wpList_get rfl _ rfl bq _ rfl HQ.out ?_; go_frame) | (with_reducible refine wpList_put rfl _ _ rfl bq _ rfl rfl (rc S) HQ.out rc_size ?_; intro W2 hb1 hc1 hs1; have HB := hide (HB.out.chg hc1 (by simp; omega)); have HE := hide (HE.out.chg hc1 (by simp; omega)); have HR := hide (HR.out.chg hc1 (by simp; omega)); have HX := hide (HX.out.turn hc1 (by simp; omega)); have HQ := hide hb1; clear hb1 hc1 hs1 re; have re := HE.out.cell; go_frame) | (with_reducible refine wpList_put rfl _ _ rfl (w.heap.size + 1 + 1) _ rfl rfl zz HR.out HZ.out ?_; intro w' hb' hc' hs'; have HX' := hide (HX.out.turn hc' (by simp; omega)); clear hc' hs'; go_frame)
    refine bodyPost_ret (res_of Try.results24 _ _ rfl rfl hb') rfl ?_
    exact ⟨by rw [EX.out]; rfl, HX'.out⟩
  · have e2 : (cc - 1 == 0) = false := by simp; omega
    have HQ := HQ4
    have HR := hide (HR.out.chg HC4.out (by simp; omega))
    have HX := hide (HX.out.turn HC4.out (by simp; omega))
    go_wp2_with first | (with_reducible refine wpList_get rfl _ rfl w.heap.size _ rfl HB.out ?_; go_frame) | (with_reducible refine wpList_get rfl _ rfl bq _ rfl HQ.out ?_; go_frame) | (with_reducible refine wpList_put rfl _ _ rfl bq _ rfl rfl (rc S) HQ.out rc_size ?_; intro W2 hb1 hc1 hs1; have HB := hide (HB.out.chg hc1 (by simp; omega)); have HE := hide (HE.out.chg hc1 (by simp; omega)); have HR := hide (HR.out.chg hc1 (by simp; omega)); have HX := hide (HX.out.turn hc1 (by simp; omega)); have HQ := hide hb1; clear hb1 hc1 hs1 re; have re := HE.out.cell; go_frame) | (with_reducible refine wpList_put rfl _ _ rfl (w.heap.size + 1 + 1) _ rfl rfl zz HR.out HZ.out ?_; intro w' hb' hc' hs'; have HX' := hide (HX.out.turn hc' (by simp; omega)); clear hc' hs'; go_frame)
    refine bodyPost_ret (res_of Try.results24 _ _ rfl rfl hb') rfl ?_
    exact ⟨by rw [EX.out, if_neg e1]; rfl, HX'.out⟩
theorem rap_o {S : St} (ok : Ok S) (k : Int) {t o : Nat} (a r : Int) (ht : t < S.N) (ho : o < S.M) (q : awB S t = false) (hk : ¬ (1 ≤ k ∧ k ≤ 12)) (w : World) :
    Calls Try.prog 24 #[.agg (rc S), (Value.agg #[Value.int .i64 k, .int .i64 (t : Int), .int .i64 (o : Int), .int .i64 a, .int .i64 r])] w fun e w' => e = .returned (.tuple #[.agg (rc S), .int .i64 15]) ∧ Ext w w' := by
  have n1 : (k == 1) = false := by simp; omega
  have n2 : (k == 2) = false := by simp; omega
  have n3 : (k == 3) = false := by simp; omega
  have n4 : (k == 4) = false := by simp; omega
  have n5 : (k == 5) = false := by simp; omega
  have n6 : (k == 6) = false := by simp; omega
  have n7 : (k == 7) = false := by simp; omega
  have n8 : (k == 8) = false := by simp; omega
  have n9 : (k == 9) = false := by simp; omega
  have n10 : (k == 10) = false := by simp; omega
  have n11 : (k == 11) = false := by simp; omega
  have n12 : (k == 12) = false := by simp; omega
  have m5 : (k != 5) = true := by simp; omega
  have m6 : (k != 6) = true := by simp; omega
  clear hk
  have CI := fun w => ris_any S (t : Int) w
  rw [show isT S (t : Int) = true from isT_iff.2 ⟨by omega, by omega⟩] at CI
  have CG := fun w => rgone_any ok ht w
  rw [q] at CG
  have RM := hide (show (rc S)[1]? = some (.int .i64 (S.M : Int)) from rc_at (by omega))
  have z' : decide ((o : Int) < 0) = false := decide_eq_false (by omega)
  have z2 : decide ((S.M : Int) ≤ (o : Int)) = false := decide_eq_false (by omega)
  generalize (S.M : Int) = mm at *
  obtain ⟨zz, hz1, hz2, hz3, hz4, -⟩ : ∃ zz : Array Value, (∀ w, (zeroValue 56).run Try.prog w = .ok (.agg zz) w) ∧ ¬ zz = #[] ∧ ¬ zz.size < 2 ∧ zz.size = 227 ∧ zz = zr := ⟨_, fun w => by kernel_rfl, by decide +kernel, by decide +kernel, by decide +kernel, rfl⟩
  have HZ := hide hz4
  clear hz4
  go_enter Try.func24, Try.ntmps24
  go_upto_region 1 with fail
  have HB := hide (((Blk.new w (rc S) 56).ext (Ext.alloc _ (.cells #[Value.int .i64 k, .int .i64 (t : Int), .int .i64 (o : Int), .int .i64 a, .int .i64 r] 42))).ext (Ext.alloc _ (.cells zz 56)))
  have HE := Blk.new (w.alloc (.cells (rc S) 56)) #[Value.int .i64 k, .int .i64 (t : Int), .int .i64 (o : Int), .int .i64 a, .int .i64 r] 42
  rw [World.size_alloc] at HE
  have HE := hide (HE.ext (Ext.alloc _ (.cells zz 56)))
  have HR := Blk.new ((w.alloc (.cells (rc S) 56)).alloc (.cells #[Value.int .i64 k, .int .i64 (t : Int), .int .i64 (o : Int), .int .i64 a, .int .i64 r] 42)) zz 56
  rw [World.size_alloc, World.size_alloc] at HR
  have HR := hide HR
  have HX := hide (((Ext.alloc w (.cells (rc S) 56)).trans (Ext.alloc _ (.cells #[Value.int .i64 k, .int .i64 (t : Int), .int .i64 (o : Int), .int .i64 a, .int .i64 r] 42))).trans (Ext.alloc _ (.cells zz 56)))
  generalize (((w.alloc (.cells (rc S) 56)).alloc (.cells #[Value.int .i64 k, .int .i64 (t : Int), .int .i64 (o : Int), .int .i64 a, .int .i64 r] 42)).alloc (.cells zz 56)) = W0 at *
  have re := HE.out.cell
  go_wp2_with (with_reducible refine wpList_get rfl _ rfl w.heap.size _ rfl HB.out ?_; go_frame)
  refine (CI W0).mono ?_
  rintro e w5 ⟨rfl, hx5⟩
  have HB := hide (HB.out.ext hx5)
  have HE := hide (HE.out.ext hx5)
  have HR := hide (HR.out.ext hx5)
  have HX := hide (HX.out.trans hx5)
  clear hx5 re
  generalize w5 = W0 at *
  have re := HE.out.cell
  have r1 : W0.cell? ⟨w.heap.size, 1, none⟩ = some (.int .i64 mm) := by rw [HB.out.cell]; exact RM.out
  go_wp2_with (with_reducible refine wpList_get rfl _ rfl w.heap.size _ rfl HB.out ?_; go_frame)
  refine wp_get _ rfl w.heap.size S rfl HB.out ?_
  go_frame
  go_wp2_with fail
  clear r1
  refine (CG W0).mono ?_
  rintro e w5 ⟨rfl, hx5⟩
  have HB := hide (HB.out.ext hx5)
  have HE := hide (HE.out.ext hx5)
  have HR := hide (HR.out.ext hx5)
  have HX := hide (HX.out.trans hx5)
  clear hx5 re
  generalize w5 = W0 at *
  have re := HE.out.cell
  go_wp2_with first | (with_reducible refine wpList_get rfl _ rfl w.heap.size _ rfl HB.out ?_; go_frame) | (refine wpList_put rfl _ _ rfl W0.heap.size _ rfl rfl zz (Blk.new W0 zz 56) HZ.out ?_; intro W1 hb1 hc1 hs1; have hc := ((Ext.alloc W0 (.cells zz 56)).chg [W0.heap.size]).trans hc1; have lB := HB.out.lt; have lE := HE.out.lt; have lR := HR.out.lt; have lX := HX.out.size; have HB := hide (HB.out.chg hc (by simp; omega)); have HE := hide (HE.out.chg hc (by simp; omega)); have HR := hide (HR.out.chg hc (by simp; omega)); have HX := hide (HX.out.turn hc (by simp; omega)); have HQ := hide hb1; clear hb1 hc1 hs1 hc lB lE re; have re := HE.out.cell; generalize W0.heap.size = bq at *; go_frame) | (with_reducible refine wpList_get rfl _ rfl bq _ rfl HQ.out ?_; go_frame) | (with_reducible refine wpList_put rfl _ _ rfl bq _ rfl rfl (rc S) HQ.out rc_size ?_; intro W2 hb1 hc1 hs1; have HB := hide (HB.out.chg hc1 (by simp; omega)); have HE := hide (HE.out.chg hc1 (by simp; omega)); have HR := hide (HR.out.chg hc1 (by simp; omega)); have HX := hide (HX.out.turn hc1 (by simp; omega)); have HQ := hide hb1; clear hb1 hc1 hs1 re; have re := HE.out.cell; go_frame) | (with_reducible refine wpList_put rfl _ _ rfl (w.heap.size + 1 + 1) _ rfl rfl zz HR.out HZ.out ?_; intro w' hb' hc' hs'; have HX' := hide (HX.out.turn hc' (by simp; omega)); clear hc' hs'; go_frame)
  refine bodyPost_ret (res_of Try.results24 _ _ rfl rfl hb') rfl ?_
  exact ⟨by rfl, HX'.out⟩
end Go.Proofs.Ytpielknodjppgaa
