/- The document's Apply. -/
import Derived.Test.YtpielknodjppgaaR12
namespace Go.Proofs.Ytpielknodjppgaa
open Go.RowKit Go.Maps
set_option linter.unusedSimpArgs false
set_option linter.unusedVariables false
set_option maxRecDepth 100000
set_option maxHeartbeats 8000000



theorem wp_get {o : Oper} {a : Act} {w : World} {K : Act → World → Prop} {Q : Exit → Act → World → Prop} (x : Operand) (ho : o.op = .load 56 x)
    (b : Nat) (S : St) (hx : a.eval x = .pointer (some ⟨b, 0, none⟩)) (hb : Blk w b (rc S) 56) (h : K (a.put o.dst (.agg (rc S))) w) : o.wp Try.prog a w K Q :=
  wp_load_mid 56 x ho b 0 hx (rc S).toList _ (rc_rng hb) Try.underlying56 rfl (inf_rm S) (by rw [Array.toArray_toList]; exact h)

def erB (b : Bool) : Int := if b = true then 0 else 15
theorem rap_n1 {S : St} (k t o a r : Int) (q : isT S t = false) (w : World) : Calls Try.prog 24 #[.agg (rc S), (Value.agg #[Value.int .i64 k, .int .i64 t, .int .i64 o, .int .i64 a, .int .i64 r])] w fun e w' => e = .returned (.tuple #[.agg (rc S), .int .i64 15]) ∧ Ext w w' := by
  have CI := fun w => ris_any S t w
  rw [q] at CI
  obtain ⟨zz, hz1, hz2, hz3, hz4, -⟩ : ∃ zz : Array Value, (∀ w, (zeroValue 56).run Try.prog w = .ok (.agg zz) w) ∧ ¬ zz = #[] ∧ ¬ zz.size < 2 ∧ zz.size = 227 ∧ zz = zr := ⟨_, fun w => by kernel_rfl, by decide +kernel, by decide +kernel, by decide +kernel, rfl⟩
  have HZ := hide hz4
  clear hz4
  go_enter Try.func24, Try.ntmps24
  go_upto_region 1 with fail
  have HB := hide (((Blk.new w (rc S) 56).ext (Ext.alloc _ (.cells #[Value.int .i64 k, .int .i64 t, .int .i64 o, .int .i64 a, .int .i64 r] 42))).ext (Ext.alloc _ (.cells zz 56)))
  have HE := Blk.new (w.alloc (.cells (rc S) 56)) #[Value.int .i64 k, .int .i64 t, .int .i64 o, .int .i64 a, .int .i64 r] 42
  rw [World.size_alloc] at HE
  have HE := hide (HE.ext (Ext.alloc _ (.cells zz 56)))
  have HR := Blk.new ((w.alloc (.cells (rc S) 56)).alloc (.cells #[Value.int .i64 k, .int .i64 t, .int .i64 o, .int .i64 a, .int .i64 r] 42)) zz 56
  rw [World.size_alloc, World.size_alloc] at HR
  have HR := hide HR
  have HX := hide (((Ext.alloc w (.cells (rc S) 56)).trans (Ext.alloc _ (.cells #[Value.int .i64 k, .int .i64 t, .int .i64 o, .int .i64 a, .int .i64 r] 42))).trans (Ext.alloc _ (.cells zz 56)))
  generalize (((w.alloc (.cells (rc S) 56)).alloc (.cells #[Value.int .i64 k, .int .i64 t, .int .i64 o, .int .i64 a, .int .i64 r] 42)).alloc (.cells zz 56)) = W0 at *
  have re := HE.out.cell
  go_wp2_with (with_reducible refine wpList_get rfl _ rfl w.heap.size _ rfl HB.out ?_; go_frame)
  refine (CI W0).mono ?_
  rintro e w5 ⟨rfl, hx5⟩
  have HB := hide (HB.out.ext hx5)
  have HE := hide (HE.out.ext hx5)
  have HR := hide (HR.out.ext hx5)
  have HX := hide (HX.out.trans hx5)
  clear hx5 re
  generalize w5 = W0 at *
  have re := HE.out.cell
  go_wp2_with first | (with_reducible refine wpList_get rfl _ rfl w.heap.size _ rfl HB.out ?_; go_frame) | (with_reducible refine wpList_put rfl _ _ rfl (w.heap.size + 1 + 1) S rfl rfl zz HR.out HZ.out ?_; intro w' hb' hc' hs'; have HX' := hide (HX.out.turn hc' (by simp; omega)); clear hc' hs'; go_frame) | go_in
  refine bodyPost_ret (res_of Try.results24 _ _ rfl rfl hb') rfl ?_
  exact ⟨by rfl, HX'.out⟩
theorem rap_n2 {S : St} (k t o a r : Int) (q : isT S t = true) (q2 : isO S o = false) (w : World) : Calls Try.prog 24 #[.agg (rc S), (Value.agg #[Value.int .i64 k, .int .i64 t, .int .i64 o, .int .i64 a, .int .i64 r])] w fun e w' => e = .returned (.tuple #[.agg (rc S), .int .i64 15]) ∧ Ext w w' := by
  have CI := fun w => ris_any S t w
  rw [q] at CI
  have RM := hide (show (rc S)[1]? = some (.int .i64 (S.M : Int)) from rc_at (by omega))
  have Q2 : Hid ((decide (0 ≤ o) && decide (o < S.M)) = false) := hide q2
  clear q2
  generalize (S.M : Int) = mm at *
  obtain ⟨zz, hz1, hz2, hz3, hz4, -⟩ : ∃ zz : Array Value, (∀ w, (zeroValue 56).run Try.prog w = .ok (.agg zz) w) ∧ ¬ zz = #[] ∧ ¬ zz.size < 2 ∧ zz.size = 227 ∧ zz = zr := ⟨_, fun w => by kernel_rfl, by decide +kernel, by decide +kernel, by decide +kernel, rfl⟩
  have HZ := hide hz4
  clear hz4
  go_enter Try.func24, Try.ntmps24
  go_upto_region 1 with fail
  have HB := hide (((Blk.new w (rc S) 56).ext (Ext.alloc _ (.cells #[Value.int .i64 k, .int .i64 t, .int .i64 o, .int .i64 a, .int .i64 r] 42))).ext (Ext.alloc _ (.cells zz 56)))
  have HE := Blk.new (w.alloc (.cells (rc S) 56)) #[Value.int .i64 k, .int .i64 t, .int .i64 o, .int .i64 a, .int .i64 r] 42
  rw [World.size_alloc] at HE
  have HE := hide (HE.ext (Ext.alloc _ (.cells zz 56)))
  have HR := Blk.new ((w.alloc (.cells (rc S) 56)).alloc (.cells #[Value.int .i64 k, .int .i64 t, .int .i64 o, .int .i64 a, .int .i64 r] 42)) zz 56
  rw [World.size_alloc, World.size_alloc] at HR
  have HR := hide HR
  have HX := hide (((Ext.alloc w (.cells (rc S) 56)).trans (Ext.alloc _ (.cells #[Value.int .i64 k, .int .i64 t, .int .i64 o, .int .i64 a, .int .i64 r] 42))).trans (Ext.alloc _ (.cells zz 56)))
  generalize (((w.alloc (.cells (rc S) 56)).alloc (.cells #[Value.int .i64 k, .int .i64 t, .int .i64 o, .int .i64 a, .int .i64 r] 42)).alloc (.cells zz 56)) = W0 at *
  have re := HE.out.cell
  have r1 : W0.cell? ⟨w.heap.size, 1, none⟩ = some (.int .i64 mm) := by rw [HB.out.cell]; exact RM.out
  cases z : decide (0 ≤ o)
  · have z' : decide (o < 0) = true := by simp at z ⊢; omega
    go_wp2_with (with_reducible refine wpList_get rfl _ rfl w.heap.size _ rfl HB.out ?_; go_frame)
    refine (CI W0).mono ?_
    rintro e w5 ⟨rfl, hx5⟩
    have HB := hide (HB.out.ext hx5)
    have HE := hide (HE.out.ext hx5)
    have HR := hide (HR.out.ext hx5)
    have HX := hide (HX.out.trans hx5)
    clear hx5 re
    generalize w5 = W0 at *
    have re := HE.out.cell
    have r1 : W0.cell? ⟨w.heap.size, 1, none⟩ = some (.int .i64 mm) := by rw [HB.out.cell]; exact RM.out
    go_wp2_with first | (with_reducible refine wpList_get rfl _ rfl w.heap.size _ rfl HB.out ?_; go_frame) | (with_reducible refine wpList_put rfl _ _ rfl (w.heap.size + 1 + 1) S rfl rfl zz HR.out HZ.out ?_; intro w' hb' hc' hs'; have HX' := hide (HX.out.turn hc' (by simp; omega)); clear hc' hs'; go_frame) | go_in
    refine bodyPost_ret (res_of Try.results24 _ _ rfl rfl hb') rfl ?_
    exact ⟨by rfl, HX'.out⟩
  · have z' : decide (o < 0) = false := by simp at z ⊢; omega
    have z2 : decide (mm ≤ o) = true := by have := Q2.out; rw [z] at this; simp at this ⊢; omega
    go_wp2_with (with_reducible refine wpList_get rfl _ rfl w.heap.size _ rfl HB.out ?_; go_frame)
    refine (CI W0).mono ?_
    rintro e w5 ⟨rfl, hx5⟩
    have HB := hide (HB.out.ext hx5)
    have HE := hide (HE.out.ext hx5)
    have HR := hide (HR.out.ext hx5)
    have HX := hide (HX.out.trans hx5)
    clear hx5 re
    generalize w5 = W0 at *
    have re := HE.out.cell
    have r1 : W0.cell? ⟨w.heap.size, 1, none⟩ = some (.int .i64 mm) := by rw [HB.out.cell]; exact RM.out
    go_wp2_with first | (with_reducible refine wpList_get rfl _ rfl w.heap.size _ rfl HB.out ?_; go_frame) | (with_reducible refine wpList_put rfl _ _ rfl (w.heap.size + 1 + 1) S rfl rfl zz HR.out HZ.out ?_; intro w' hb' hc' hs'; have HX' := hide (HX.out.turn hc' (by simp; omega)); clear hc' hs'; go_frame) | go_in
    refine bodyPost_ret (res_of Try.results24 _ _ rfl rfl hb') rfl ?_
    exact ⟨by rfl, HX'.out⟩
theorem rap_n3 {S : St} (ok : Ok S) (k : Int) {t o : Nat} (a r : Int) (ht : t < S.N) (ho : o < S.M) (k5 : (k != 5) = true) (k6 : (k != 6) = true) (q : awB S t = true) (w : World) : Calls Try.prog 24 #[.agg (rc S), (Value.agg #[Value.int .i64 k, .int .i64 (t : Int), .int .i64 (o : Int), .int .i64 a, .int .i64 r])] w fun e w' => e = .returned (.tuple #[.agg (rc S), .int .i64 15]) ∧ Ext w w' := by
  have CI := fun w => ris_any S (t : Int) w
  rw [show isT S (t : Int) = true from isT_iff.2 ⟨by omega, by omega⟩] at CI
  have CG := fun w => rgone_any ok ht w
  rw [q] at CG
  have RM := hide (show (rc S)[1]? = some (.int .i64 (S.M : Int)) from rc_at (by omega))
  have z' : decide ((o : Int) < 0) = false := decide_eq_false (by omega)
  have z2 : decide ((S.M : Int) ≤ (o : Int)) = false := decide_eq_false (by omega)
  generalize (S.M : Int) = mm at *
  obtain ⟨zz, hz1, hz2, hz3, hz4, -⟩ : ∃ zz : Array Value, (∀ w, (zeroValue 56).run Try.prog w = .ok (.agg zz) w) ∧ ¬ zz = #[] ∧ ¬ zz.size < 2 ∧ zz.size = 227 ∧ zz = zr := ⟨_, fun w => by kernel_rfl, by decide +kernel, by decide +kernel, by decide +kernel, rfl⟩
  have HZ := hide hz4
  clear hz4
  go_enter Try.func24, Try.ntmps24
  go_upto_region 1 with fail
  have HB := hide (((Blk.new w (rc S) 56).ext (Ext.alloc _ (.cells #[Value.int .i64 k, .int .i64 (t : Int), .int .i64 (o : Int), .int .i64 a, .int .i64 r] 42))).ext (Ext.alloc _ (.cells zz 56)))
  have HE := Blk.new (w.alloc (.cells (rc S) 56)) #[Value.int .i64 k, .int .i64 (t : Int), .int .i64 (o : Int), .int .i64 a, .int .i64 r] 42
  rw [World.size_alloc] at HE
  have HE := hide (HE.ext (Ext.alloc _ (.cells zz 56)))
  have HR := Blk.new ((w.alloc (.cells (rc S) 56)).alloc (.cells #[Value.int .i64 k, .int .i64 (t : Int), .int .i64 (o : Int), .int .i64 a, .int .i64 r] 42)) zz 56
  rw [World.size_alloc, World.size_alloc] at HR
  have HR := hide HR
  have HX := hide (((Ext.alloc w (.cells (rc S) 56)).trans (Ext.alloc _ (.cells #[Value.int .i64 k, .int .i64 (t : Int), .int .i64 (o : Int), .int .i64 a, .int .i64 r] 42))).trans (Ext.alloc _ (.cells zz 56)))
  generalize (((w.alloc (.cells (rc S) 56)).alloc (.cells #[Value.int .i64 k, .int .i64 (t : Int), .int .i64 (o : Int), .int .i64 a, .int .i64 r] 42)).alloc (.cells zz 56)) = W0 at *
  have re := HE.out.cell
  go_wp2_with (with_reducible refine wpList_get rfl _ rfl w.heap.size _ rfl HB.out ?_; go_frame)
  refine (CI W0).mono ?_
  rintro e w5 ⟨rfl, hx5⟩
  have HB := hide (HB.out.ext hx5)
  have HE := hide (HE.out.ext hx5)
  have HR := hide (HR.out.ext hx5)
  have HX := hide (HX.out.trans hx5)
  clear hx5 re
  generalize w5 = W0 at *
  have re := HE.out.cell
  have r1 : W0.cell? ⟨w.heap.size, 1, none⟩ = some (.int .i64 mm) := by rw [HB.out.cell]; exact RM.out
  go_wp2_with (with_reducible refine wpList_get rfl _ rfl w.heap.size _ rfl HB.out ?_; go_frame)
  refine wp_get _ rfl w.heap.size S rfl HB.out ?_
  go_frame
  go_wp2_with fail
  clear r1
  refine (CG W0).mono ?_
  rintro e w5 ⟨rfl, hx5⟩
  have HB := hide (HB.out.ext hx5)
  have HE := hide (HE.out.ext hx5)
  have HR := hide (HR.out.ext hx5)
  have HX := hide (HX.out.trans hx5)
  clear hx5 re
  generalize w5 = W0 at *
  have re := HE.out.cell
  go_wp2_with first | (with_reducible refine wpList_get rfl _ rfl w.heap.size _ rfl HB.out ?_; go_frame) | (with_reducible refine wpList_put rfl _ _ rfl (w.heap.size + 1 + 1) S rfl rfl zz HR.out HZ.out ?_; intro w' hb' hc' hs'; have HX' := hide (HX.out.turn hc' (by simp; omega)); clear hc' hs'; go_frame) | go_in
  refine bodyPost_ret (res_of Try.results24 _ _ rfl rfl hb') rfl ?_
  exact ⟨by rfl, HX'.out⟩
end Go.Proofs.Ytpielknodjppgaa
