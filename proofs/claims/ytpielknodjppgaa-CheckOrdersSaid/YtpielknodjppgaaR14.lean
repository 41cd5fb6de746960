/- The document's Apply: the kinds that are told by a method. -/
import Derived.Test.YtpielknodjppgaaR13
namespace Go.Proofs.Ytpielknodjppgaa
open Go.RowKit Go.Maps
set_option linter.unusedSimpArgs false
set_option linter.unusedVariables false
set_option maxRecDepth 100000
set_option maxHeartbeats 8000000




theorem rap_1 {S : St} (ok : Ok S) {t o : Nat} (a r : Int) (ht : t < S.N) (ho : o < S.M) (q : awB S t = false) (w : World) :
    Calls Try.prog 24 #[.agg (rc S), (Value.agg #[Value.int .i64 1, .int .i64 (t : Int), .int .i64 (o : Int), .int .i64 a, .int .i64 r])] w fun e w' => e = .returned (.tuple #[.agg (rc (anS S (a == 0 && mwoB S 1 t o r) 1 t o a r)), .int .i64 (erB (a == 0 && mwoB S 1 t o r))]) ∧ Ext w w' := by
  have CM := fun w => renter_any ok (.inl rfl) a r ht ho w
  unfold Ans at CM
  have HC := hide (rfl : mwoB S 1 t o r = mwoB S 1 t o r)
  obtain ⟨c, hc⟩ : ∃ c, mwoB S 1 t o r = c := ⟨_, rfl⟩
  have HC := hide hc
  rw [hc] at CM
  clear hc
  obtain ⟨S2, hs2⟩ : ∃ S2, anS S c 1 t o a r = S2 := ⟨_, rfl⟩
  have HS2 := hide hs2
  rw [hs2] at CM
  clear hs2
  have CI := fun w => ris_any S (t : Int) w
  rw [show isT S (t : Int) = true from isT_iff.2 ⟨by omega, by omega⟩] at CI
  have CG := fun w => rgone_any ok ht w
  rw [q] at CG
  have RM := hide (show (rc S)[1]? = some (.int .i64 (S.M : Int)) from rc_at (by omega))
  have z' : decide ((o : Int) < 0) = false := decide_eq_false (by omega)
  have z2 : decide ((S.M : Int) ≤ (o : Int)) = false := decide_eq_false (by omega)
  generalize (S.M : Int) = mm at *
  obtain ⟨zz, hz1, hz2, hz3, hz4, -⟩ : ∃ zz : Array Value, (∀ w, (zeroValue 56).run Try.prog w = .ok (.agg zz) w) ∧ ¬ zz = #[] ∧ ¬ zz.size < 2 ∧ zz.size = 227 ∧ zz = zr := ⟨_, fun w => by kernel_rfl, by decide +kernel, by decide +kernel, by decide +kernel, rfl⟩
  have HZ := hide hz4
  clear hz4
  go_enter Try.func24, Try.ntmps24
  go_upto_region 1 with fail
  have HB := hide (((Blk.new w (rc S) 56).ext (Ext.alloc _ (.cells #[Value.int .i64 1, .int .i64 (t : Int), .int .i64 (o : Int), .int .i64 a, .int .i64 r] 42))).ext (Ext.alloc _ (.cells zz 56)))
  have HE := Blk.new (w.alloc (.cells (rc S) 56)) #[Value.int .i64 1, .int .i64 (t : Int), .int .i64 (o : Int), .int .i64 a, .int .i64 r] 42
  rw [World.size_alloc] at HE
  have HE := hide (HE.ext (Ext.alloc _ (.cells zz 56)))
  have HR := Blk.new ((w.alloc (.cells (rc S) 56)).alloc (.cells #[Value.int .i64 1, .int .i64 (t : Int), .int .i64 (o : Int), .int .i64 a, .int .i64 r] 42)) zz 56
  rw [World.size_alloc, World.size_alloc] at HR
  have HR := hide HR
  have HX := hide (((Ext.alloc w (.cells (rc S) 56)).trans (Ext.alloc _ (.cells #[Value.int .i64 1, .int .i64 (t : Int), .int .i64 (o : Int), .int .i64 a, .int .i64 r] 42))).trans (Ext.alloc _ (.cells zz 56)))
  generalize (((w.alloc (.cells (rc S) 56)).alloc (.cells #[Value.int .i64 1, .int .i64 (t : Int), .int .i64 (o : Int), .int .i64 a, .int .i64 r] 42)).alloc (.cells zz 56)) = W0 at *
  have re := HE.out.cell
  go_wp2_with (with_reducible refine wpList_get rfl _ rfl w.heap.size _ rfl HB.out ?_; go_frame)
  refine (CI W0).mono ?_
  rintro e w5 ⟨rfl, hx5⟩
  have HB := hide (HB.out.ext hx5)
  have HE := hide (HE.out.ext hx5)
  have HR := hide (HR.out.ext hx5)
  have HX := hide (HX.out.trans hx5)
  clear hx5 re
  generalize w5 = W0 at *
  have re := HE.out.cell
  have r1 : W0.cell? ⟨w.heap.size, 1, none⟩ = some (.int .i64 mm) := by rw [HB.out.cell]; exact RM.out
  go_wp2_with (with_reducible refine wpList_get rfl _ rfl w.heap.size _ rfl HB.out ?_; go_frame)
  refine wp_get _ rfl w.heap.size S rfl HB.out ?_
  go_frame
  go_wp2_with fail
  clear r1
  refine (CG W0).mono ?_
  rintro e w5 ⟨rfl, hx5⟩
  have HB := hide (HB.out.ext hx5)
  have HE := hide (HE.out.ext hx5)
  have HR := hide (HR.out.ext hx5)
  have HX := hide (HX.out.trans hx5)
  clear hx5 re
  generalize w5 = W0 at *
  have re := HE.out.cell
  go_wp2_with first | (with_reducible refine wpList_get rfl _ rfl w.heap.size _ rfl HB.out ?_; go_frame) | (refine wpList_put rfl _ _ rfl W0.heap.size _ rfl rfl zz (Blk.new W0 zz 56) HZ.out ?_; intro W1 hb1 hc1 hs1; have hc := ((Ext.alloc W0 (.cells zz 56)).chg [W0.heap.size]).trans hc1; have lB := HB.out.lt; have lE := HE.out.lt; have lR := HR.out.lt; have lX := HX.out.size; have HB := hide (HB.out.chg hc (by simp; omega)); have HE := hide (HE.out.chg hc (by simp; omega)); have HR := hide (HR.out.chg hc (by simp; omega)); have HX := hide (HX.out.turn hc (by simp; omega)); have HQ := hide hb1; clear hb1 hc1 hs1 hc lB lE re; have re := HE.out.cell; generalize W0.heap.size = bq at *; go_frame) | (with_reducible refine wpList_get rfl _ rfl bq _ rfl HQ.out ?_; go_frame) | (with_reducible refine wpList_put rfl _ _ rfl bq _ rfl rfl (rc S) HQ.out rc_size ?_; intro W2 hb1 hc1 hs1; have HB := hide (HB.out.chg hc1 (by simp; omega)); have HE := hide (HE.out.chg hc1 (by simp; omega)); have HR := hide (HR.out.chg hc1 (by simp; omega)); have HX := hide (HX.out.turn hc1 (by simp; omega)); have HQ := hide hb1; clear hb1 hc1 hs1 re; have re := HE.out.cell; go_frame) | (with_reducible refine wpList_put rfl _ _ rfl (w.heap.size + 1 + 1) _ rfl rfl zz HR.out HZ.out ?_; intro w' hb' hc' hs'; have HX' := hide (HX.out.turn hc' (by simp; omega)); clear hc' hs'; go_frame)
  refine (CM W1).mono ?_
  rintro e w5 ⟨rfl, hx5⟩
  have HB := hide (HB.out.ext hx5)
  have HE := hide (HE.out.ext hx5)
  have HR := hide (HR.out.ext hx5)
  have HQ := hide (HQ.out.ext hx5)
  have HX := hide (HX.out.trans hx5)
  clear hx5 re
  generalize w5 = W1 at *
  have re := HE.out.cell
  cases c
  · go_wp2_with first | (with_reducible refine wpList_get rfl _ rfl w.heap.size _ rfl HB.out ?_; go_frame) | (refine wpList_put rfl _ _ rfl W0.heap.size _ rfl rfl zz (Blk.new W0 zz 56) HZ.out ?_; intro W1 hb1 hc1 hs1; have hc := ((Ext.alloc W0 (.cells zz 56)).chg [W0.heap.size]).trans hc1; have lB := HB.out.lt; have lE := HE.out.lt; have lR := HR.out.lt; have lX := HX.out.size; have HB := hide (HB.out.chg hc (by simp; omega)); have HE := hide (HE.out.chg hc (by simp; omega)); have HR := hide (HR.out.chg hc (by simp; omega)); have HX := hide (HX.out.turn hc (by simp; omega)); have HQ := hide hb1; clear hb1 hc1 hs1 hc lB lE re; have re := HE.out.cell; generalize W0.heap.size = bq at *; go_frame) | (with_reducible refine wpList_get rfl _ rfl bq _ rfl HQ.out ?_; go_frame) | (with_reducible refine wpList_put rfl _ _ rfl bq _ rfl rfl (rc S) HQ.out rc_size ?_; intro W2 hb1 hc1 hs1; have HB := hide (HB.out.chg hc1 (by simp; omega)); have HE := hide (HE.out.chg hc1 (by simp; omega)); have HR := hide (HR.out.chg hc1 (by simp; omega)); have HX := hide (HX.out.turn hc1 (by simp; omega)); have HQ := hide hb1; clear hb1 hc1 hs1 re; have re := HE.out.cell; go_frame) | (with_reducible refine wpList_put rfl _ _ rfl (w.heap.size + 1 + 1) _ rfl rfl zz HR.out HZ.out ?_; intro w' hb' hc' hs'; have HX' := hide (HX.out.turn hc' (by simp; omega)); clear hc' hs'; go_frame)
    refine bodyPost_ret (res_of Try.results24 _ _ rfl rfl hb') rfl ?_
    exact ⟨by rw [HC.out]; (try rw [HZ2.out]); (try rw [← HS2.out]); (try simp [anS, erB]); (try rfl), HX'.out⟩
  · cases z : (a == 0)
    all_goals
      have HZ2 := hide z
      go_wp2_with first | (with_reducible refine wpList_get rfl _ rfl w.heap.size _ rfl HB.out ?_; go_frame) | (refine wpList_put rfl _ _ rfl W0.heap.size _ rfl rfl zz (Blk.new W0 zz 56) HZ.out ?_; intro W1 hb1 hc1 hs1; have hc := ((Ext.alloc W0 (.cells zz 56)).chg [W0.heap.size]).trans hc1; have lB := HB.out.lt; have lE := HE.out.lt; have lR := HR.out.lt; have lX := HX.out.size; have HB := hide (HB.out.chg hc (by simp; omega)); have HE := hide (HE.out.chg hc (by simp; omega)); have HR := hide (HR.out.chg hc (by simp; omega)); have HX := hide (HX.out.turn hc (by simp; omega)); have HQ := hide hb1; clear hb1 hc1 hs1 hc lB lE re; have re := HE.out.cell; generalize W0.heap.size = bq at *; go_frame) | (with_reducible refine wpList_get rfl _ rfl bq _ rfl HQ.out ?_; go_frame) | (with_reducible refine wpList_put rfl _ _ rfl bq _ rfl rfl (rc S) HQ.out rc_size ?_; intro W2 hb1 hc1 hs1; have HB := hide (HB.out.chg hc1 (by simp; omega)); have HE := hide (HE.out.chg hc1 (by simp; omega)); have HR := hide (HR.out.chg hc1 (by simp; omega)); have HX := hide (HX.out.turn hc1 (by simp; omega)); have HQ := hide hb1; clear hb1 hc1 hs1 re; have re := HE.out.cell; go_frame) | (with_reducible refine wpList_put rfl _ _ rfl (w.heap.size + 1 + 1) _ rfl rfl zz HR.out HZ.out ?_; intro w' hb' hc' hs'; have HX' := hide (HX.out.turn hc' (by simp; omega)); clear hc' hs'; go_frame)
      refine bodyPost_ret (res_of Try.results24 _ _ rfl rfl hb') rfl ?_
      exact ⟨by rw [HC.out]; (try rw [HZ2.out]); (try rw [← HS2.out]); (try simp [anS, erB]); (try rfl), HX'.out⟩
theorem rap_2 {S : St} (ok : Ok S) {t o : Nat} (a r : Int) (ht : t < S.N) (ho : o < S.M) (q : awB S t = false) (w : World) :
    Calls Try.prog 24 #[.agg (rc S), (Value.agg #[Value.int .i64 2, .int .i64 (t : Int), .int .i64 (o : Int), .int .i64 a, .int .i64 r])] w fun e w' => e = .returned (.tuple #[.agg (rc (anS S (a == 0 && mwoB S 2 t o r) 2 t o a r)), .int .i64 (erB (a == 0 && mwoB S 2 t o r))]) ∧ Ext w w' := by
  have CM := fun w => renter_any ok (.inr rfl) a r ht ho w
  unfold Ans at CM
  have HC := hide (rfl : mwoB S 2 t o r = mwoB S 2 t o r)
  obtain ⟨c, hc⟩ : ∃ c, mwoB S 2 t o r = c := ⟨_, rfl⟩
  have HC := hide hc
  rw [hc] at CM
  clear hc
  obtain ⟨S2, hs2⟩ : ∃ S2, anS S c 2 t o a r = S2 := ⟨_, rfl⟩
  have HS2 := hide hs2
  rw [hs2] at CM
  clear hs2
  have CI := fun w => ris_any S (t : Int) w
  rw [show isT S (t : Int) = true from isT_iff.2 ⟨by omega, by omega⟩] at CI
  have CG := fun w => rgone_any ok ht w
  rw [q] at CG
  have RM := hide (show (rc S)[1]? = some (.int .i64 (S.M : Int)) from rc_at (by omega))
  have z' : decide ((o : Int) < 0) = false := decide_eq_false (by omega)
  have z2 : decide ((S.M : Int) ≤ (o : Int)) = false := decide_eq_false (by omega)
  generalize (S.M : Int) = mm at *
  obtain ⟨zz, hz1, hz2, hz3, hz4, -⟩ : ∃ zz : Array Value, (∀ w, (zeroValue 56).run Try.prog w = .ok (.agg zz) w) ∧ ¬ zz = #[] ∧ ¬ zz.size < 2 ∧ zz.size = 227 ∧ zz = zr := ⟨_, fun w => by kernel_rfl, by decide +kernel, by decide +kernel, by decide +kernel, rfl⟩
  have HZ := hide hz4
  clear hz4
  go_enter Try.func24, Try.ntmps24
  go_upto_region 1 with fail
  have HB := hide (((Blk.new w (rc S) 56).ext (Ext.alloc _ (.cells #[Value.int .i64 2, .int .i64 (t : Int), .int .i64 (o : Int), .int .i64 a, .int .i64 r] 42))).ext (Ext.alloc _ (.cells zz 56)))
  have HE := Blk.new (w.alloc (.cells (rc S) 56)) #[Value.int .i64 2, .int .i64 (t : Int), .int .i64 (o : Int), .int .i64 a, .int .i64 r] 42
  rw [World.size_alloc] at HE
  have HE := hide (HE.ext (Ext.alloc _ (.cells zz 56)))
  have HR := Blk.new ((w.alloc (.cells (rc S) 56)).alloc (.cells #[Value.int .i64 2, .int .i64 (t : Int), .int .i64 (o : Int), .int .i64 a, .int .i64 r] 42)) zz 56
  rw [World.size_alloc, World.size_alloc] at HR
  have HR := hide HR
  have HX := hide (((Ext.alloc w (.cells (rc S) 56)).trans (Ext.alloc _ (.cells #[Value.int .i64 2, .int .i64 (t : Int), .int .i64 (o : Int), .int .i64 a, .int .i64 r] 42))).trans (Ext.alloc _ (.cells zz 56)))
  generalize (((w.alloc (.cells (rc S) 56)).alloc (.cells #[Value.int .i64 2, .int .i64 (t : Int), .int .i64 (o : Int), .int .i64 a, .int .i64 r] 42)).alloc (.cells zz 56)) = W0 at *
  have re := HE.out.cell
  go_wp2_with (with_reducible refine wpList_get rfl _ rfl w.heap.size _ rfl HB.out ?_; go_frame)
  refine (CI W0).mono ?_
  rintro e w5 ⟨rfl, hx5⟩
  have HB := hide (HB.out.ext hx5)
  have HE := hide (HE.out.ext hx5)
  have HR := hide (HR.out.ext hx5)
  have HX := hide (HX.out.trans hx5)
  clear hx5 re
  generalize w5 = W0 at *
  have re := HE.out.cell
  have r1 : W0.cell? ⟨w.heap.size, 1, none⟩ = some (.int .i64 mm) := by rw [HB.out.cell]; exact RM.out
  go_wp2_with (with_reducible refine wpList_get rfl _ rfl w.heap.size _ rfl HB.out ?_; go_frame)
  refine wp_get _ rfl w.heap.size S rfl HB.out ?_
  go_frame
  go_wp2_with fail
  clear r1
  refine (CG W0).mono ?_
  rintro e w5 ⟨rfl, hx5⟩
  have HB := hide (HB.out.ext hx5)
  have HE := hide (HE.out.ext hx5)
  have HR := hide (HR.out.ext hx5)
  have HX := hide (HX.out.trans hx5)
  clear hx5 re
  generalize w5 = W0 at *
  have re := HE.out.cell
  go_wp2_with first | (with_reducible refine wpList_get rfl _ rfl w.heap.size _ rfl HB.out ?_; go_frame) | (refine wpList_put rfl _ _ rfl W0.heap.size _ rfl rfl zz (Blk.new W0 zz 56) HZ.out ?_; intro W1 hb1 hc1 hs1; have hc := ((Ext.alloc W0 (.cells zz 56)).chg [W0.heap.size]).trans hc1; have lB := HB.out.lt; have lE := HE.out.lt; have lR := HR.out.lt; have lX := HX.out.size; have HB := hide (HB.out.chg hc (by simp; omega)); have HE := hide (HE.out.chg hc (by simp; omega)); have HR := hide (HR.out.chg hc (by simp; omega)); have HX := hide (HX.out.turn hc (by simp; omega)); have HQ := hide hb1; clear hb1 hc1 hs1 hc lB lE re; have re := HE.out.cell; generalize W0.heap.size = bq at *; go_frame) | (with_reducible refine wpList_get rfl _ rfl bq _ rfl HQ.out ?_; go_frame) | (with_reducible refine wpList_put rfl _ _ rfl bq _ rfl rfl (rc S) HQ.out rc_size ?_; intro W2 hb1 hc1 hs1; have HB := hide (HB.out.chg hc1 (by simp; omega)); have HE := hide (HE.out.chg hc1 (by simp; omega)); have HR := hide (HR.out.chg hc1 (by simp; omega)); have HX := hide (HX.out.turn hc1 (by simp; omega)); have HQ := hide hb1; clear hb1 hc1 hs1 re; have re := HE.out.cell; go_frame) | (with_reducible refine wpList_put rfl _ _ rfl (w.heap.size + 1 + 1) _ rfl rfl zz HR.out HZ.out ?_; intro w' hb' hc' hs'; have HX' := hide (HX.out.turn hc' (by simp; omega)); clear hc' hs'; go_frame)
  refine (CM W1).mono ?_
  rintro e w5 ⟨rfl, hx5⟩
  have HB := hide (HB.out.ext hx5)
  have HE := hide (HE.out.ext hx5)
  have HR := hide (HR.out.ext hx5)
  have HQ := hide (HQ.out.ext hx5)
  have HX := hide (HX.out.trans hx5)
  clear hx5 re
  generalize w5 = W1 at *
  have re := HE.out.cell
  cases c
  · go_wp2_with first | (with_reducible refine wpList_get rfl _ rfl w.heap.size _ rfl HB.out ?_; go_frame) | (refine wpList_put rfl _ _ rfl W0.heap.size _ rfl rfl zz (Blk.new W0 zz 56) HZ.out ?_; intro W1 hb1 hc1 hs1; have hc := ((Ext.alloc W0 (.cells zz 56)).chg [W0.heap.size]).trans hc1; have lB := HB.out.lt; have lE := HE.out.lt; have lR := HR.out.lt; have lX := HX.out.size; have HB := hide (HB.out.chg hc (by simp; omega)); have HE := hide (HE.out.chg hc (by simp; omega)); have HR := hide (HR.out.chg hc (by simp; omega)); have HX := hide (HX.out.turn hc (by simp; omega)); have HQ := hide hb1; clear hb1 hc1 hs1 hc lB lE re; have re := HE.out.cell; generalize W0.heap.size = bq at *; go_frame) | (with_reducible refine wpList_get rfl _ rfl bq _ rfl HQ.out ?_; go_frame) | (with_reducible refine wpList_put rfl _ _ rfl bq _ rfl rfl (rc S) HQ.out rc_size ?_; intro W2 hb1 hc1 hs1; have HB := hide (HB.out.chg hc1 (by simp; omega)); have HE := hide (HE.out.chg hc1 (by simp; omega)); have HR := hide (HR.out.chg hc1 (by simp; omega)); have HX := hide (HX.out.turn hc1 (by simp; omega)); have HQ := hide hb1; clear hb1 hc1 hs1 re; have re := HE.out.cell; go_frame) | (with_reducible refine wpList_put rfl _ _ rfl (w.heap.size + 1 + 1) _ rfl rfl zz HR.out HZ.out ?_; intro w' hb' hc' hs'; have HX' := hide (HX.out.turn hc' (by simp; omega)); clear hc' hs'; go_frame)
    refine bodyPost_ret (res_of Try.results24 _ _ rfl rfl hb') rfl ?_
    exact ⟨by rw [HC.out]; (try rw [HZ2.out]); (try rw [← HS2.out]); (try simp [anS, erB]); (try rfl), HX'.out⟩
  · cases z : (a == 0)
    all_goals
      have HZ2 := hide z
      go_wp2_with first | (with_reducible refine wpList_get rfl _ rfl w.heap.size _ rfl HB.out ?_; go_frame) | (refine wpList_put rfl _ _ rfl W0.heap.size _ rfl rfl zz (Blk.new W0 zz 56) HZ.out ?_; intro W1 hb1 hc1 hs1; have hc := ((Ext.alloc W0 (.cells zz 56)).chg [W0.heap.size]).trans hc1; have lB := HB.out.lt; have lE := HE.out.lt; have lR := HR.out.lt; have lX := HX.out.size; have HB := hide (HB.out.chg hc (by simp; omega)); have HE := hide (HE.out.chg hc (by simp; omega)); have HR := hide (HR.out.chg hc (by simp; omega)); have HX := hide (HX.out.turn hc (by simp; omega)); have HQ := hide hb1; clear hb1 hc1 hs1 hc lB lE re; have re := HE.out.cell; generalize W0.heap.size = bq at *; go_frame) | (with_reducible refine wpList_get rfl _ rfl bq _ rfl HQ.out ?_; go_frame) | (with_reducible refine wpList_put rfl _ _ rfl bq _ rfl rfl (rc S) HQ.out rc_size ?_; intro W2 hb1 hc1 hs1; have HB := hide (HB.out.chg hc1 (by simp; omega)); have HE := hide (HE.out.chg hc1 (by simp; omega)); have HR := hide (HR.out.chg hc1 (by simp; omega)); have HX := hide (HX.out.turn hc1 (by simp; omega)); have HQ := hide hb1; clear hb1 hc1 hs1 re; have re := HE.out.cell; go_frame) | (with_reducible refine wpList_put rfl _ _ rfl (w.heap.size + 1 + 1) _ rfl rfl zz HR.out HZ.out ?_; intro w' hb' hc' hs'; have HX' := hide (HX.out.turn hc' (by simp; omega)); clear hc' hs'; go_frame)
      refine bodyPost_ret (res_of Try.results24 _ _ rfl rfl hb') rfl ?_
      exact ⟨by rw [HC.out]; (try rw [HZ2.out]); (try rw [← HS2.out]); (try simp [anS, erB]); (try rfl), HX'.out⟩
end Go.Proofs.Ytpielknodjppgaa
