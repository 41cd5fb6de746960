/- The document's Leave and End. -/
import Derived.Test.YtpielknodjppgaaR2
namespace Go.Proofs.Ytpielknodjppgaa
open Go.RowKit Go.Maps
set_option linter.unusedSimpArgs false
set_option linter.unusedVariables false
set_option maxRecDepth 100000
set_option maxHeartbeats 8000000



theorem rwait_513n {S : St} (ok : Ok S) {t o : Nat} (a : Int) (ht : t < S.N) (ho : o < S.M) (E : (plA S o t 0 == 0) = true) (w : World) :
    Calls Try.prog 37 #[.agg (rc S), (Value.agg #[Value.int .i64 5, .int .i64 (t : Int), .int .i64 (o : Int), .int .i64 a, .int .i64 13])] w fun e w' => e = .returned (.tuple #[.agg (rc S), .bool false]) ∧ Ext w w' := by
  have E := hide E
  have n1 := ok.n1
  have m1 := ok.m1
  have ho8 : o < 8 := by omega
  have ht8 : t < 8 := by omega
  have i8 : (o : Int) < 8 := by omega
  have j8 : (t : Int) < 8 := by omega
  obtain ⟨zz, hz1, hz2, hz3, hz4, -⟩ : ∃ zz : Array Value, (∀ w, (zeroValue 56).run Try.prog w = .ok (.agg zz) w) ∧ ¬ zz = #[] ∧ ¬ zz.size < 2 ∧ zz.size = 227 ∧ zz = zr := ⟨_, fun w => by kernel_rfl, by decide +kernel, by decide +kernel, by decide +kernel, rfl⟩
  have HZ := hide hz4
  clear hz4
  have hp0 : (rc S)[35 + o * 24 + t * 3]? = some (.int .i64 (plA S o t 0)) := rc_pla (o := o) (t := t) (j := 0) ho8 ht8 (by omega)
  have hp1 : (rc S)[35 + o * 24 + t * 3 + 1]? = some (.int .i64 (plA S o t 1)) := rc_pla (o := o) (t := t) (j := 1) ho8 ht8 (by omega)
  have hp2 : (rc S)[35 + o * 24 + t * 3 + 2]? = some (.int .i64 (plA S o t 2)) := rc_pla (o := o) (t := t) (j := 2) ho8 ht8 (by omega)
  have HP0 := hide (show (S.wt o t).getD 0 = plA S o t 0 from rfl)
  have HP1 := hide (show ((S.lf o t).getD (0, 0)).1 = plA S o t 1 from rfl)
  have P0 := hide hp0
  have P1 := hide hp1
  have P2 := hide hp2
  clear hp0 hp1 hp2
  generalize plA S o t 0 = p0 at *
  generalize plA S o t 1 = p1 at *
  generalize plA S o t 2 = p2 at *
  go_enter Try.func37, Try.ntmps37
  go_wp2_with fail
  have HB := hide (((Blk.new w (rc S) 56).ext (Ext.alloc _ (.cells #[Value.int .i64 5, .int .i64 (t : Int), .int .i64 (o : Int), .int .i64 a, .int .i64 13] 42))).ext (Ext.alloc _ (.cells zz 56)))
  have HE := Blk.new (w.alloc (.cells (rc S) 56)) #[Value.int .i64 5, .int .i64 (t : Int), .int .i64 (o : Int), .int .i64 a, .int .i64 13] 42
  rw [World.size_alloc] at HE
  have HE := hide (HE.ext (Ext.alloc _ (.cells zz 56)))
  have HR := Blk.new ((w.alloc (.cells (rc S) 56)).alloc (.cells #[Value.int .i64 5, .int .i64 (t : Int), .int .i64 (o : Int), .int .i64 a, .int .i64 13] 42)) zz 56
  rw [World.size_alloc, World.size_alloc] at HR
  have HR := hide HR
  have HX := hide (((Ext.alloc w (.cells (rc S) 56)).trans (Ext.alloc _ (.cells #[Value.int .i64 5, .int .i64 (t : Int), .int .i64 (o : Int), .int .i64 a, .int .i64 13] 42))).trans (Ext.alloc _ (.cells zz 56)))
  generalize (((w.alloc (.cells (rc S) 56)).alloc (.cells #[Value.int .i64 5, .int .i64 (t : Int), .int .i64 (o : Int), .int .i64 a, .int .i64 13] 42)).alloc (.cells zz 56)) = W0 at *
  clear hz1 hz2 hz3
  have re := (HE.out.ext (Ext.drew W0)).cell
  go_region
  clear re
  have HB := hide (HB.out.ext (Ext.drew W0))
  have HE := hide (HE.out.ext (Ext.drew W0))
  have HR := hide (HR.out.ext (Ext.drew W0))
  have HX := hide (HX.out.trans (Ext.drew W0))
  generalize W0.drew = W0 at *
  have re := HE.out.cell
  have r1 : W0.cell? ⟨w.heap.size, 3 + o, none⟩ = some (.int .i64 (S.own o + 1)) := by rw [HB.out.cell]; exact rc_own ho8
  have r2 : W0.cell? ⟨w.heap.size, 35 + o * 24 + t * 3, none⟩ = some (.int .i64 p0) := by rw [HB.out.cell]; exact P0.out
  have r3 : W0.cell? ⟨w.heap.size, 35 + o * 24 + t * 3 + 1, none⟩ = some (.int .i64 p1) := by rw [HB.out.cell]; exact P1.out
  have r4 : W0.cell? ⟨w.heap.size, 35 + o * 24 + t * 3 + 2, none⟩ = some (.int .i64 p2) := by rw [HB.out.cell]; exact P2.out
  have Y1 : Hid ((rc S)[3 + o]? = some (.int .i64 (S.own o + 1))) := hide (rc_own ho8)
  obtain ⟨y, hy⟩ : ∃ y, S.own o + 1 = y := ⟨_, rfl⟩
  rw [hy] at r1 Y1
  have HY := hide hy
  clear hy
  go_upto_region 4 with fail
  have lR := HR.out.lt
  have HP := hide (Blk.new W0 #[.int .i64 p0, .int .i64 p1, .int .i64 p2] 52)
  have hal := Ext.alloc W0 (.cells #[.int .i64 p0, .int .i64 p1, .int .i64 p2] 52)
  have HB := hide (HB.out.ext hal)
  have HE := hide (HE.out.ext hal)
  have HR := hide (HR.out.ext hal)
  have HX := hide (HX.out.trans hal)
  clear re r1 r2 r3 r4 hal
  generalize W0.alloc (.cells #[.int .i64 p0, .int .i64 p1, .int .i64 p2] 52) = W1 at *
  generalize W0.heap.size = bp at *
  have lbp : w.heap.size + 1 + 1 < bp := lR
  clear lR
  have re := HE.out.cell
  have rp := HP.out.cell
  have rf : W1.cell? ⟨w.heap.size, 27 + t, none⟩ = some (.bool (S.flg t)) := by rw [HB.out.cell]; exact rc_flg ht8
  have q := E.out
  go_wp2_with first | (with_reducible refine wpList_get rfl _ rfl w.heap.size _ rfl HB.out ?_; go_frame) | (with_reducible refine wpList_put rfl _ _ rfl (w.heap.size + 1 + 1) _ rfl rfl zz HR.out HZ.out ?_; intro w' hb' hc' hs'; have HX' := hide (HX.out.turn hc' (by simp; omega)); clear hc' hs'; go_frame) | go_in
  refine bodyPost_ret (res_of Try.results37 _ _ rfl rfl hb') rfl ?_
  exact ⟨by rfl, HX'.out⟩
theorem rwait_512n {S : St} (ok : Ok S) {t o : Nat} (a : Int) (ht : t < S.N) (ho : o < S.M) (E : (plA S o t 0 == 0 || !S.flg t) = true) (w : World) :
    Calls Try.prog 37 #[.agg (rc S), (Value.agg #[Value.int .i64 5, .int .i64 (t : Int), .int .i64 (o : Int), .int .i64 a, .int .i64 12])] w fun e w' => e = .returned (.tuple #[.agg (rc S), .bool false]) ∧ Ext w w' := by
  have E := hide E
  have n1 := ok.n1
  have m1 := ok.m1
  have ho8 : o < 8 := by omega
  have ht8 : t < 8 := by omega
  have i8 : (o : Int) < 8 := by omega
  have j8 : (t : Int) < 8 := by omega
  obtain ⟨zz, hz1, hz2, hz3, hz4, -⟩ : ∃ zz : Array Value, (∀ w, (zeroValue 56).run Try.prog w = .ok (.agg zz) w) ∧ ¬ zz = #[] ∧ ¬ zz.size < 2 ∧ zz.size = 227 ∧ zz = zr := ⟨_, fun w => by kernel_rfl, by decide +kernel, by decide +kernel, by decide +kernel, rfl⟩
  have HZ := hide hz4
  clear hz4
  have hp0 : (rc S)[35 + o * 24 + t * 3]? = some (.int .i64 (plA S o t 0)) := rc_pla (o := o) (t := t) (j := 0) ho8 ht8 (by omega)
  have hp1 : (rc S)[35 + o * 24 + t * 3 + 1]? = some (.int .i64 (plA S o t 1)) := rc_pla (o := o) (t := t) (j := 1) ho8 ht8 (by omega)
  have hp2 : (rc S)[35 + o * 24 + t * 3 + 2]? = some (.int .i64 (plA S o t 2)) := rc_pla (o := o) (t := t) (j := 2) ho8 ht8 (by omega)
  have HP0 := hide (show (S.wt o t).getD 0 = plA S o t 0 from rfl)
  have HP1 := hide (show ((S.lf o t).getD (0, 0)).1 = plA S o t 1 from rfl)
  have P0 := hide hp0
  have P1 := hide hp1
  have P2 := hide hp2
  clear hp0 hp1 hp2
  generalize plA S o t 0 = p0 at *
  generalize plA S o t 1 = p1 at *
  generalize plA S o t 2 = p2 at *
  go_enter Try.func37, Try.ntmps37
  go_wp2_with fail
  have HB := hide (((Blk.new w (rc S) 56).ext (Ext.alloc _ (.cells #[Value.int .i64 5, .int .i64 (t : Int), .int .i64 (o : Int), .int .i64 a, .int .i64 12] 42))).ext (Ext.alloc _ (.cells zz 56)))
  have HE := Blk.new (w.alloc (.cells (rc S) 56)) #[Value.int .i64 5, .int .i64 (t : Int), .int .i64 (o : Int), .int .i64 a, .int .i64 12] 42
  rw [World.size_alloc] at HE
  have HE := hide (HE.ext (Ext.alloc _ (.cells zz 56)))
  have HR := Blk.new ((w.alloc (.cells (rc S) 56)).alloc (.cells #[Value.int .i64 5, .int .i64 (t : Int), .int .i64 (o : Int), .int .i64 a, .int .i64 12] 42)) zz 56
  rw [World.size_alloc, World.size_alloc] at HR
  have HR := hide HR
  have HX := hide (((Ext.alloc w (.cells (rc S) 56)).trans (Ext.alloc _ (.cells #[Value.int .i64 5, .int .i64 (t : Int), .int .i64 (o : Int), .int .i64 a, .int .i64 12] 42))).trans (Ext.alloc _ (.cells zz 56)))
  generalize (((w.alloc (.cells (rc S) 56)).alloc (.cells #[Value.int .i64 5, .int .i64 (t : Int), .int .i64 (o : Int), .int .i64 a, .int .i64 12] 42)).alloc (.cells zz 56)) = W0 at *
  clear hz1 hz2 hz3
  have re := (HE.out.ext (Ext.drew W0)).cell
  go_region
  clear re
  have HB := hide (HB.out.ext (Ext.drew W0))
  have HE := hide (HE.out.ext (Ext.drew W0))
  have HR := hide (HR.out.ext (Ext.drew W0))
  have HX := hide (HX.out.trans (Ext.drew W0))
  generalize W0.drew = W0 at *
  have re := HE.out.cell
  have r1 : W0.cell? ⟨w.heap.size, 3 + o, none⟩ = some (.int .i64 (S.own o + 1)) := by rw [HB.out.cell]; exact rc_own ho8
  have r2 : W0.cell? ⟨w.heap.size, 35 + o * 24 + t * 3, none⟩ = some (.int .i64 p0) := by rw [HB.out.cell]; exact P0.out
  have r3 : W0.cell? ⟨w.heap.size, 35 + o * 24 + t * 3 + 1, none⟩ = some (.int .i64 p1) := by rw [HB.out.cell]; exact P1.out
  have r4 : W0.cell? ⟨w.heap.size, 35 + o * 24 + t * 3 + 2, none⟩ = some (.int .i64 p2) := by rw [HB.out.cell]; exact P2.out
  have Y1 : Hid ((rc S)[3 + o]? = some (.int .i64 (S.own o + 1))) := hide (rc_own ho8)
  obtain ⟨y, hy⟩ : ∃ y, S.own o + 1 = y := ⟨_, rfl⟩
  rw [hy] at r1 Y1
  have HY := hide hy
  clear hy
  go_upto_region 4 with fail
  have lR := HR.out.lt
  have HP := hide (Blk.new W0 #[.int .i64 p0, .int .i64 p1, .int .i64 p2] 52)
  have hal := Ext.alloc W0 (.cells #[.int .i64 p0, .int .i64 p1, .int .i64 p2] 52)
  have HB := hide (HB.out.ext hal)
  have HE := hide (HE.out.ext hal)
  have HR := hide (HR.out.ext hal)
  have HX := hide (HX.out.trans hal)
  clear re r1 r2 r3 r4 hal
  generalize W0.alloc (.cells #[.int .i64 p0, .int .i64 p1, .int .i64 p2] 52) = W1 at *
  generalize W0.heap.size = bp at *
  have lbp : w.heap.size + 1 + 1 < bp := lR
  clear lR
  have re := HE.out.cell
  have rp := HP.out.cell
  have rf : W1.cell? ⟨w.heap.size, 27 + t, none⟩ = some (.bool (S.flg t)) := by rw [HB.out.cell]; exact rc_flg ht8
  cases q : (p0 == 0)
  · have q2 : S.flg t = false := by have := E.out; rw [q] at this; simpa using this
    rw [q2] at rf
    go_wp2_with first | (with_reducible refine wpList_get rfl _ rfl w.heap.size _ rfl HB.out ?_; go_frame) | (with_reducible refine wpList_put rfl _ _ rfl (w.heap.size + 1 + 1) _ rfl rfl zz HR.out HZ.out ?_; intro w' hb' hc' hs'; have HX' := hide (HX.out.turn hc' (by simp; omega)); clear hc' hs'; go_frame) | go_in
    refine bodyPost_ret (res_of Try.results37 _ _ rfl rfl hb') rfl ?_
    exact ⟨by rfl, HX'.out⟩
  · go_wp2_with first | (with_reducible refine wpList_get rfl _ rfl w.heap.size _ rfl HB.out ?_; go_frame) | (with_reducible refine wpList_put rfl _ _ rfl (w.heap.size + 1 + 1) _ rfl rfl zz HR.out HZ.out ?_; intro w' hb' hc' hs'; have HX' := hide (HX.out.turn hc' (by simp; omega)); clear hc' hs'; go_frame) | go_in
    refine bodyPost_ret (res_of Try.results37 _ _ rfl rfl hb') rfl ?_
    exact ⟨by rfl, HX'.out⟩
theorem rwait_513y {S : St} (ok : Ok S) {t o : Nat} (a : Int) (ht : t < S.N) (ho : o < S.M) (E : (plA S o t 0 == 0) = false) (w : World) :
    Calls Try.prog 37 #[.agg (rc S), (Value.agg #[Value.int .i64 5, .int .i64 (t : Int), .int .i64 (o : Int), .int .i64 a, .int .i64 13])] w fun e w' => e = .returned (.tuple #[.agg (rc (lvS S o t 13)), .bool true]) ∧ Ext w w' := by
  have EB := hide (show lvS S o t 13 = { S with wt := upd2 S.wt o t none, lf := upd2 S.lf o t (some ((S.wt o t).getD 0, 13)) } from rfl)
  rw [EB.out]
  have E := hide E
  have n1 := ok.n1
  have m1 := ok.m1
  have ho8 : o < 8 := by omega
  have ht8 : t < 8 := by omega
  have i8 : (o : Int) < 8 := by omega
  have j8 : (t : Int) < 8 := by omega
  obtain ⟨zz, hz1, hz2, hz3, hz4, -⟩ : ∃ zz : Array Value, (∀ w, (zeroValue 56).run Try.prog w = .ok (.agg zz) w) ∧ ¬ zz = #[] ∧ ¬ zz.size < 2 ∧ zz.size = 227 ∧ zz = zr := ⟨_, fun w => by kernel_rfl, by decide +kernel, by decide +kernel, by decide +kernel, rfl⟩
  have HZ := hide hz4
  clear hz4
  have hp0 : (rc S)[35 + o * 24 + t * 3]? = some (.int .i64 (plA S o t 0)) := rc_pla (o := o) (t := t) (j := 0) ho8 ht8 (by omega)
  have hp1 : (rc S)[35 + o * 24 + t * 3 + 1]? = some (.int .i64 (plA S o t 1)) := rc_pla (o := o) (t := t) (j := 1) ho8 ht8 (by omega)
  have hp2 : (rc S)[35 + o * 24 + t * 3 + 2]? = some (.int .i64 (plA S o t 2)) := rc_pla (o := o) (t := t) (j := 2) ho8 ht8 (by omega)
  have HP0 := hide (show (S.wt o t).getD 0 = plA S o t 0 from rfl)
  have HP1 := hide (show ((S.lf o t).getD (0, 0)).1 = plA S o t 1 from rfl)
  have P0 := hide hp0
  have P1 := hide hp1
  have P2 := hide hp2
  clear hp0 hp1 hp2
  generalize plA S o t 0 = p0 at *
  generalize plA S o t 1 = p1 at *
  generalize plA S o t 2 = p2 at *
  go_enter Try.func37, Try.ntmps37
  go_wp2_with fail
  have HB := hide (((Blk.new w (rc S) 56).ext (Ext.alloc _ (.cells #[Value.int .i64 5, .int .i64 (t : Int), .int .i64 (o : Int), .int .i64 a, .int .i64 13] 42))).ext (Ext.alloc _ (.cells zz 56)))
  have HE := Blk.new (w.alloc (.cells (rc S) 56)) #[Value.int .i64 5, .int .i64 (t : Int), .int .i64 (o : Int), .int .i64 a, .int .i64 13] 42
  rw [World.size_alloc] at HE
  have HE := hide (HE.ext (Ext.alloc _ (.cells zz 56)))
  have HR := Blk.new ((w.alloc (.cells (rc S) 56)).alloc (.cells #[Value.int .i64 5, .int .i64 (t : Int), .int .i64 (o : Int), .int .i64 a, .int .i64 13] 42)) zz 56
  rw [World.size_alloc, World.size_alloc] at HR
  have HR := hide HR
  have HX := hide (((Ext.alloc w (.cells (rc S) 56)).trans (Ext.alloc _ (.cells #[Value.int .i64 5, .int .i64 (t : Int), .int .i64 (o : Int), .int .i64 a, .int .i64 13] 42))).trans (Ext.alloc _ (.cells zz 56)))
  generalize (((w.alloc (.cells (rc S) 56)).alloc (.cells #[Value.int .i64 5, .int .i64 (t : Int), .int .i64 (o : Int), .int .i64 a, .int .i64 13] 42)).alloc (.cells zz 56)) = W0 at *
  clear hz1 hz2 hz3
  have re := (HE.out.ext (Ext.drew W0)).cell
  go_region
  clear re
  have HB := hide (HB.out.ext (Ext.drew W0))
  have HE := hide (HE.out.ext (Ext.drew W0))
  have HR := hide (HR.out.ext (Ext.drew W0))
  have HX := hide (HX.out.trans (Ext.drew W0))
  generalize W0.drew = W0 at *
  have re := HE.out.cell
  have r1 : W0.cell? ⟨w.heap.size, 3 + o, none⟩ = some (.int .i64 (S.own o + 1)) := by rw [HB.out.cell]; exact rc_own ho8
  have r2 : W0.cell? ⟨w.heap.size, 35 + o * 24 + t * 3, none⟩ = some (.int .i64 p0) := by rw [HB.out.cell]; exact P0.out
  have r3 : W0.cell? ⟨w.heap.size, 35 + o * 24 + t * 3 + 1, none⟩ = some (.int .i64 p1) := by rw [HB.out.cell]; exact P1.out
  have r4 : W0.cell? ⟨w.heap.size, 35 + o * 24 + t * 3 + 2, none⟩ = some (.int .i64 p2) := by rw [HB.out.cell]; exact P2.out
  have Y1 : Hid ((rc S)[3 + o]? = some (.int .i64 (S.own o + 1))) := hide (rc_own ho8)
  obtain ⟨y, hy⟩ : ∃ y, S.own o + 1 = y := ⟨_, rfl⟩
  rw [hy] at r1 Y1
  have HY := hide hy
  clear hy
  go_upto_region 4 with fail
  have lR := HR.out.lt
  have HP := hide (Blk.new W0 #[.int .i64 p0, .int .i64 p1, .int .i64 p2] 52)
  have hal := Ext.alloc W0 (.cells #[.int .i64 p0, .int .i64 p1, .int .i64 p2] 52)
  have HB := hide (HB.out.ext hal)
  have HE := hide (HE.out.ext hal)
  have HR := hide (HR.out.ext hal)
  have HX := hide (HX.out.trans hal)
  clear re r1 r2 r3 r4 hal
  generalize W0.alloc (.cells #[.int .i64 p0, .int .i64 p1, .int .i64 p2] 52) = W1 at *
  generalize W0.heap.size = bp at *
  have lbp : w.heap.size + 1 + 1 < bp := lR
  clear lR
  have re := HE.out.cell
  have rp := HP.out.cell
  have rf : W1.cell? ⟨w.heap.size, 27 + t, none⟩ = some (.bool (S.flg t)) := by rw [HB.out.cell]; exact rc_flg ht8
  have q := E.out
  go_wp2_with fail
  clear re rp rf
  have hy := Ext.drew W1
  have re := (HE.out.ext hy).cell
  have rp := (HP.out.ext hy).cell
  have r2 : W1.drew.cell? ⟨w.heap.size, 35 + o * 24 + t * 3, none⟩ = some (.int .i64 p0) := by rw [(HB.out.ext hy).cell]; exact P0.out
  have r3 : W1.drew.cell? ⟨w.heap.size, 35 + o * 24 + t * 3 + 1, none⟩ = some (.int .i64 p1) := by rw [(HB.out.ext hy).cell]; exact P1.out
  have r4 : W1.drew.cell? ⟨w.heap.size, 35 + o * 24 + t * 3 + 2, none⟩ = some (.int .i64 p2) := by rw [(HB.out.ext hy).cell]; exact P2.out
  have f0 := (HB.out.ext hy).free (35 + o * 24 + t * 3)
  have f1 := (HB.out.ext hy).free (35 + o * 24 + t * 3 + 1)
  have f2 := (HB.out.ext hy).free (35 + o * 24 + t * 3 + 2)
  have r3' : W1.cell? ⟨w.heap.size, 35 + o * 24 + t * 3 + 1, none⟩ = some (.int .i64 p1) := by rw [HB.out.cell]; exact P1.out
  have r4' : W1.cell? ⟨w.heap.size, 35 + o * 24 + t * 3 + 2, none⟩ = some (.int .i64 p2) := by rw [HB.out.cell]; exact P2.out
  have f1' := HB.out.free (35 + o * 24 + t * 3 + 1)
  have f2' := HB.out.free (35 + o * 24 + t * 3 + 2)
  go_region
  clear re rp r2 r3 r4 f0 f1 f2 r3' r4' f1' f2' hy
  have b4 := ((HB.out.set (35 + o * 24 + t * 3) (.int .i64 0)).set (35 + o * 24 + t * 3 + 1) (.int .i64 p0)).set (35 + o * 24 + t * 3 + 2) (.int .i64 13)
  rw [rset_pl ho8 ht8 none (some (p0, 13)) (x := 0) (y := p0) (z := 13) rfl rfl rfl] at b4
  have b4 := b4.ext (Ext.drew _)
  have c4 := ((((Chg.refl [w.heap.size] W1).set (p := ⟨w.heap.size, 35 + o * 24 + t * 3, none⟩) (.inl (by simp)) (.int .i64 0)).set (p := ⟨w.heap.size, 35 + o * 24 + t * 3 + 1, none⟩) (.inl (by simp)) (.int .i64 p0)).set (p := ⟨w.heap.size, 35 + o * 24 + t * 3 + 2, none⟩) (.inl (by simp)) (.int .i64 13)).trans (Chg.drew [w.heap.size] _)
  have HB4 := hide b4
  have HR4 := hide (HR.out.chg c4 (by simp; omega))
  have HX4 := hide (HX.out.turn c4 (by simp))
  clear b4 c4
  go_wp2_with first | (with_reducible refine wpList_get rfl _ rfl w.heap.size _ rfl HB4.out ?_; go_frame) | (with_reducible refine wpList_put rfl _ _ rfl (w.heap.size + 1 + 1) _ rfl rfl zz HR4.out HZ.out ?_; intro w' hb' hc' hs'; have HX' := hide (HX4.out.turn hc' (by simp; omega)); clear hc' hs'; go_frame) | go_in
  refine bodyPost_ret (res_of Try.results37 _ _ rfl rfl hb') rfl ?_
  exact ⟨by rw [HP0.out]; rfl, HX'.out⟩
theorem rwait_512y {S : St} (ok : Ok S) {t o : Nat} (a : Int) (ht : t < S.N) (ho : o < S.M) (E : (plA S o t 0 == 0) = false) (F : S.flg t = true) (w : World) :
    Calls Try.prog 37 #[.agg (rc S), (Value.agg #[Value.int .i64 5, .int .i64 (t : Int), .int .i64 (o : Int), .int .i64 a, .int .i64 12])] w fun e w' => e = .returned (.tuple #[.agg (rc (lvS S o t 12)), .bool true]) ∧ Ext w w' := by
  have EB := hide (show lvS S o t 12 = { S with wt := upd2 S.wt o t none, lf := upd2 S.lf o t (some ((S.wt o t).getD 0, 12)) } from rfl)
  rw [EB.out]
  have F := hide F
  have E := hide E
  have n1 := ok.n1
  have m1 := ok.m1
  have ho8 : o < 8 := by omega
  have ht8 : t < 8 := by omega
  have i8 : (o : Int) < 8 := by omega
  have j8 : (t : Int) < 8 := by omega
  obtain ⟨zz, hz1, hz2, hz3, hz4, -⟩ : ∃ zz : Array Value, (∀ w, (zeroValue 56).run Try.prog w = .ok (.agg zz) w) ∧ ¬ zz = #[] ∧ ¬ zz.size < 2 ∧ zz.size = 227 ∧ zz = zr := ⟨_, fun w => by kernel_rfl, by decide +kernel, by decide +kernel, by decide +kernel, rfl⟩
  have HZ := hide hz4
  clear hz4
  have hp0 : (rc S)[35 + o * 24 + t * 3]? = some (.int .i64 (plA S o t 0)) := rc_pla (o := o) (t := t) (j := 0) ho8 ht8 (by omega)
  have hp1 : (rc S)[35 + o * 24 + t * 3 + 1]? = some (.int .i64 (plA S o t 1)) := rc_pla (o := o) (t := t) (j := 1) ho8 ht8 (by omega)
  have hp2 : (rc S)[35 + o * 24 + t * 3 + 2]? = some (.int .i64 (plA S o t 2)) := rc_pla (o := o) (t := t) (j := 2) ho8 ht8 (by omega)
  have HP0 := hide (show (S.wt o t).getD 0 = plA S o t 0 from rfl)
  have HP1 := hide (show ((S.lf o t).getD (0, 0)).1 = plA S o t 1 from rfl)
  have P0 := hide hp0
  have P1 := hide hp1
  have P2 := hide hp2
  clear hp0 hp1 hp2
  generalize plA S o t 0 = p0 at *
  generalize plA S o t 1 = p1 at *
  generalize plA S o t 2 = p2 at *
  go_enter Try.func37, Try.ntmps37
  go_wp2_with fail
  have HB := hide (((Blk.new w (rc S) 56).ext (Ext.alloc _ (.cells #[Value.int .i64 5, .int .i64 (t : Int), .int .i64 (o : Int), .int .i64 a, .int .i64 12] 42))).ext (Ext.alloc _ (.cells zz 56)))
  have HE := Blk.new (w.alloc (.cells (rc S) 56)) #[Value.int .i64 5, .int .i64 (t : Int), .int .i64 (o : Int), .int .i64 a, .int .i64 12] 42
  rw [World.size_alloc] at HE
  have HE := hide (HE.ext (Ext.alloc _ (.cells zz 56)))
  have HR := Blk.new ((w.alloc (.cells (rc S) 56)).alloc (.cells #[Value.int .i64 5, .int .i64 (t : Int), .int .i64 (o : Int), .int .i64 a, .int .i64 12] 42)) zz 56
  rw [World.size_alloc, World.size_alloc] at HR
  have HR := hide HR
  have HX := hide (((Ext.alloc w (.cells (rc S) 56)).trans (Ext.alloc _ (.cells #[Value.int .i64 5, .int .i64 (t : Int), .int .i64 (o : Int), .int .i64 a, .int .i64 12] 42))).trans (Ext.alloc _ (.cells zz 56)))
  generalize (((w.alloc (.cells (rc S) 56)).alloc (.cells #[Value.int .i64 5, .int .i64 (t : Int), .int .i64 (o : Int), .int .i64 a, .int .i64 12] 42)).alloc (.cells zz 56)) = W0 at *
  clear hz1 hz2 hz3
  have re := (HE.out.ext (Ext.drew W0)).cell
  go_region
  clear re
  have HB := hide (HB.out.ext (Ext.drew W0))
  have HE := hide (HE.out.ext (Ext.drew W0))
  have HR := hide (HR.out.ext (Ext.drew W0))
  have HX := hide (HX.out.trans (Ext.drew W0))
  generalize W0.drew = W0 at *
  have re := HE.out.cell
  have r1 : W0.cell? ⟨w.heap.size, 3 + o, none⟩ = some (.int .i64 (S.own o + 1)) := by rw [HB.out.cell]; exact rc_own ho8
  have r2 : W0.cell? ⟨w.heap.size, 35 + o * 24 + t * 3, none⟩ = some (.int .i64 p0) := by rw [HB.out.cell]; exact P0.out
  have r3 : W0.cell? ⟨w.heap.size, 35 + o * 24 + t * 3 + 1, none⟩ = some (.int .i64 p1) := by rw [HB.out.cell]; exact P1.out
  have r4 : W0.cell? ⟨w.heap.size, 35 + o * 24 + t * 3 + 2, none⟩ = some (.int .i64 p2) := by rw [HB.out.cell]; exact P2.out
  have Y1 : Hid ((rc S)[3 + o]? = some (.int .i64 (S.own o + 1))) := hide (rc_own ho8)
  obtain ⟨y, hy⟩ : ∃ y, S.own o + 1 = y := ⟨_, rfl⟩
  rw [hy] at r1 Y1
  have HY := hide hy
  clear hy
  go_upto_region 4 with fail
  have lR := HR.out.lt
  have HP := hide (Blk.new W0 #[.int .i64 p0, .int .i64 p1, .int .i64 p2] 52)
  have hal := Ext.alloc W0 (.cells #[.int .i64 p0, .int .i64 p1, .int .i64 p2] 52)
  have HB := hide (HB.out.ext hal)
  have HE := hide (HE.out.ext hal)
  have HR := hide (HR.out.ext hal)
  have HX := hide (HX.out.trans hal)
  clear re r1 r2 r3 r4 hal
  generalize W0.alloc (.cells #[.int .i64 p0, .int .i64 p1, .int .i64 p2] 52) = W1 at *
  generalize W0.heap.size = bp at *
  have lbp : w.heap.size + 1 + 1 < bp := lR
  clear lR
  have re := HE.out.cell
  have rp := HP.out.cell
  have rf : W1.cell? ⟨w.heap.size, 27 + t, none⟩ = some (.bool (S.flg t)) := by rw [HB.out.cell]; exact rc_flg ht8
  rw [F.out] at rf
  have q := E.out
  go_wp2_with fail
  clear re rp rf
  have hy := Ext.drew W1
  have re := (HE.out.ext hy).cell
  have rp := (HP.out.ext hy).cell
  have r2 : W1.drew.cell? ⟨w.heap.size, 35 + o * 24 + t * 3, none⟩ = some (.int .i64 p0) := by rw [(HB.out.ext hy).cell]; exact P0.out
  have r3 : W1.drew.cell? ⟨w.heap.size, 35 + o * 24 + t * 3 + 1, none⟩ = some (.int .i64 p1) := by rw [(HB.out.ext hy).cell]; exact P1.out
  have r4 : W1.drew.cell? ⟨w.heap.size, 35 + o * 24 + t * 3 + 2, none⟩ = some (.int .i64 p2) := by rw [(HB.out.ext hy).cell]; exact P2.out
  have f0 := (HB.out.ext hy).free (35 + o * 24 + t * 3)
  have f1 := (HB.out.ext hy).free (35 + o * 24 + t * 3 + 1)
  have f2 := (HB.out.ext hy).free (35 + o * 24 + t * 3 + 2)
  have r3' : W1.cell? ⟨w.heap.size, 35 + o * 24 + t * 3 + 1, none⟩ = some (.int .i64 p1) := by rw [HB.out.cell]; exact P1.out
  have r4' : W1.cell? ⟨w.heap.size, 35 + o * 24 + t * 3 + 2, none⟩ = some (.int .i64 p2) := by rw [HB.out.cell]; exact P2.out
  have f1' := HB.out.free (35 + o * 24 + t * 3 + 1)
  have f2' := HB.out.free (35 + o * 24 + t * 3 + 2)
  go_region
  clear re rp r2 r3 r4 f0 f1 f2 r3' r4' f1' f2' hy
  have b4 := ((HB.out.set (35 + o * 24 + t * 3) (.int .i64 0)).set (35 + o * 24 + t * 3 + 1) (.int .i64 p0)).set (35 + o * 24 + t * 3 + 2) (.int .i64 12)
  rw [rset_pl ho8 ht8 none (some (p0, 12)) (x := 0) (y := p0) (z := 12) rfl rfl rfl] at b4
  have b4 := b4.ext (Ext.drew _)
  have c4 := ((((Chg.refl [w.heap.size] W1).set (p := ⟨w.heap.size, 35 + o * 24 + t * 3, none⟩) (.inl (by simp)) (.int .i64 0)).set (p := ⟨w.heap.size, 35 + o * 24 + t * 3 + 1, none⟩) (.inl (by simp)) (.int .i64 p0)).set (p := ⟨w.heap.size, 35 + o * 24 + t * 3 + 2, none⟩) (.inl (by simp)) (.int .i64 12)).trans (Chg.drew [w.heap.size] _)
  have HB4 := hide b4
  have HR4 := hide (HR.out.chg c4 (by simp; omega))
  have HX4 := hide (HX.out.turn c4 (by simp))
  clear b4 c4
  go_wp2_with first | (with_reducible refine wpList_get rfl _ rfl w.heap.size _ rfl HB4.out ?_; go_frame) | (with_reducible refine wpList_put rfl _ _ rfl (w.heap.size + 1 + 1) _ rfl rfl zz HR4.out HZ.out ?_; intro w' hb' hc' hs'; have HX' := hide (HX4.out.turn hc' (by simp; omega)); clear hc' hs'; go_frame) | go_in
  refine bodyPost_ret (res_of Try.results37 _ _ rfl rfl hb') rfl ?_
  exact ⟨by rw [HP0.out]; rfl, HX'.out⟩
theorem rwait_5o {S : St} (ok : Ok S) {t o : Nat} (a r : Int) (ht : t < S.N) (ho : o < S.M) (hr0 : 0 ≤ r) (hr1 : r < 100) (h12 : r ≠ 12) (h13 : r ≠ 13) (w : World) :
    Calls Try.prog 37 #[.agg (rc S), (Value.agg #[Value.int .i64 5, .int .i64 (t : Int), .int .i64 (o : Int), .int .i64 a, .int .i64 r])] w fun e w' => e = .returned (.tuple #[.agg (rc S), .bool false]) ∧ Ext w w' := by
  obtain ⟨x, hx⟩ : ∃ x, x = IntKind.i64.wrap (500 + r) := ⟨_, rfl⟩
  have hx2 : x = 500 + r := by rw [hx, IntKind.wrap_i64]; omega
  have x1 : (x == 409) = false := by simp; omega
  have x2 : (x == 412) = false := by simp; omega
  have x3 : (x == 411) = false := by simp; omega
  have x4 : (x == 400) = false := by simp; omega
  have x5 : (x == 513) = false := by simp; omega
  have x6 : (x == 512) = false := by simp; omega
  have x7 : (x == 600) = false := by simp; omega
  have x8 : (x == 613) = false := by simp; omega
  have x9 : (x == 612) = false := by simp; omega
  have hw := hx.symm
  clear hx hx2 hr0 hr1 h12 h13
  have n1 := ok.n1
  have m1 := ok.m1
  have ho8 : o < 8 := by omega
  have ht8 : t < 8 := by omega
  have i8 : (o : Int) < 8 := by omega
  have j8 : (t : Int) < 8 := by omega
  obtain ⟨zz, hz1, hz2, hz3, hz4, -⟩ : ∃ zz : Array Value, (∀ w, (zeroValue 56).run Try.prog w = .ok (.agg zz) w) ∧ ¬ zz = #[] ∧ ¬ zz.size < 2 ∧ zz.size = 227 ∧ zz = zr := ⟨_, fun w => by kernel_rfl, by decide +kernel, by decide +kernel, by decide +kernel, rfl⟩
  have HZ := hide hz4
  clear hz4
  have hp0 : (rc S)[35 + o * 24 + t * 3]? = some (.int .i64 (plA S o t 0)) := rc_pla (o := o) (t := t) (j := 0) ho8 ht8 (by omega)
  have hp1 : (rc S)[35 + o * 24 + t * 3 + 1]? = some (.int .i64 (plA S o t 1)) := rc_pla (o := o) (t := t) (j := 1) ho8 ht8 (by omega)
  have hp2 : (rc S)[35 + o * 24 + t * 3 + 2]? = some (.int .i64 (plA S o t 2)) := rc_pla (o := o) (t := t) (j := 2) ho8 ht8 (by omega)
  have HP0 := hide (show (S.wt o t).getD 0 = plA S o t 0 from rfl)
  have HP1 := hide (show ((S.lf o t).getD (0, 0)).1 = plA S o t 1 from rfl)
  have P0 := hide hp0
  have P1 := hide hp1
  have P2 := hide hp2
  clear hp0 hp1 hp2
  generalize plA S o t 0 = p0 at *
  generalize plA S o t 1 = p1 at *
  generalize plA S o t 2 = p2 at *
  go_enter Try.func37, Try.ntmps37
  go_wp2_with fail
  have HB := hide (((Blk.new w (rc S) 56).ext (Ext.alloc _ (.cells #[Value.int .i64 5, .int .i64 (t : Int), .int .i64 (o : Int), .int .i64 a, .int .i64 r] 42))).ext (Ext.alloc _ (.cells zz 56)))
  have HE := Blk.new (w.alloc (.cells (rc S) 56)) #[Value.int .i64 5, .int .i64 (t : Int), .int .i64 (o : Int), .int .i64 a, .int .i64 r] 42
  rw [World.size_alloc] at HE
  have HE := hide (HE.ext (Ext.alloc _ (.cells zz 56)))
  have HR := Blk.new ((w.alloc (.cells (rc S) 56)).alloc (.cells #[Value.int .i64 5, .int .i64 (t : Int), .int .i64 (o : Int), .int .i64 a, .int .i64 r] 42)) zz 56
  rw [World.size_alloc, World.size_alloc] at HR
  have HR := hide HR
  have HX := hide (((Ext.alloc w (.cells (rc S) 56)).trans (Ext.alloc _ (.cells #[Value.int .i64 5, .int .i64 (t : Int), .int .i64 (o : Int), .int .i64 a, .int .i64 r] 42))).trans (Ext.alloc _ (.cells zz 56)))
  generalize (((w.alloc (.cells (rc S) 56)).alloc (.cells #[Value.int .i64 5, .int .i64 (t : Int), .int .i64 (o : Int), .int .i64 a, .int .i64 r] 42)).alloc (.cells zz 56)) = W0 at *
  clear hz1 hz2 hz3
  have re := (HE.out.ext (Ext.drew W0)).cell
  go_region
  clear re
  have HB := hide (HB.out.ext (Ext.drew W0))
  have HE := hide (HE.out.ext (Ext.drew W0))
  have HR := hide (HR.out.ext (Ext.drew W0))
  have HX := hide (HX.out.trans (Ext.drew W0))
  generalize W0.drew = W0 at *
  have re := HE.out.cell
  have r1 : W0.cell? ⟨w.heap.size, 3 + o, none⟩ = some (.int .i64 (S.own o + 1)) := by rw [HB.out.cell]; exact rc_own ho8
  have r2 : W0.cell? ⟨w.heap.size, 35 + o * 24 + t * 3, none⟩ = some (.int .i64 p0) := by rw [HB.out.cell]; exact P0.out
  have r3 : W0.cell? ⟨w.heap.size, 35 + o * 24 + t * 3 + 1, none⟩ = some (.int .i64 p1) := by rw [HB.out.cell]; exact P1.out
  have r4 : W0.cell? ⟨w.heap.size, 35 + o * 24 + t * 3 + 2, none⟩ = some (.int .i64 p2) := by rw [HB.out.cell]; exact P2.out
  have Y1 : Hid ((rc S)[3 + o]? = some (.int .i64 (S.own o + 1))) := hide (rc_own ho8)
  obtain ⟨y, hy⟩ : ∃ y, S.own o + 1 = y := ⟨_, rfl⟩
  rw [hy] at r1 Y1
  have HY := hide hy
  clear hy
  go_upto_region 4 with fail
  have lR := HR.out.lt
  have HP := hide (Blk.new W0 #[.int .i64 p0, .int .i64 p1, .int .i64 p2] 52)
  have hal := Ext.alloc W0 (.cells #[.int .i64 p0, .int .i64 p1, .int .i64 p2] 52)
  have HB := hide (HB.out.ext hal)
  have HE := hide (HE.out.ext hal)
  have HR := hide (HR.out.ext hal)
  have HX := hide (HX.out.trans hal)
  clear re r1 r2 r3 r4 hal
  generalize W0.alloc (.cells #[.int .i64 p0, .int .i64 p1, .int .i64 p2] 52) = W1 at *
  generalize W0.heap.size = bp at *
  have lbp : w.heap.size + 1 + 1 < bp := lR
  clear lR
  have re := HE.out.cell
  have rp := HP.out.cell
  go_wp2_with first | (with_reducible refine wpList_get rfl _ rfl w.heap.size _ rfl HB.out ?_; go_frame) | (with_reducible refine wpList_put rfl _ _ rfl (w.heap.size + 1 + 1) _ rfl rfl zz HR.out HZ.out ?_; intro w' hb' hc' hs'; have HX' := hide (HX.out.turn hc' (by simp; omega)); clear hc' hs'; go_frame) | go_in
  refine bodyPost_ret (res_of Try.results37 _ _ rfl rfl hb') rfl ?_
  exact ⟨by rfl, HX'.out⟩
theorem rwait_6o {S : St} (ok : Ok S) {t o : Nat} (a r : Int) (ht : t < S.N) (ho : o < S.M) (hr0 : 0 ≤ r) (hr1 : r < 100) (h12 : r ≠ 12) (h13 : r ≠ 13) (h0 : r ≠ 0) (w : World) :
    Calls Try.prog 37 #[.agg (rc S), (Value.agg #[Value.int .i64 6, .int .i64 (t : Int), .int .i64 (o : Int), .int .i64 a, .int .i64 r])] w fun e w' => e = .returned (.tuple #[.agg (rc S), .bool false]) ∧ Ext w w' := by
  obtain ⟨x, hx⟩ : ∃ x, x = IntKind.i64.wrap (600 + r) := ⟨_, rfl⟩
  have hx2 : x = 600 + r := by rw [hx, IntKind.wrap_i64]; omega
  have x1 : (x == 409) = false := by simp; omega
  have x2 : (x == 412) = false := by simp; omega
  have x3 : (x == 411) = false := by simp; omega
  have x4 : (x == 400) = false := by simp; omega
  have x5 : (x == 513) = false := by simp; omega
  have x6 : (x == 512) = false := by simp; omega
  have x7 : (x == 600) = false := by simp; omega
  have x8 : (x == 613) = false := by simp; omega
  have x9 : (x == 612) = false := by simp; omega
  have hw := hx.symm
  clear hx hx2 hr0 hr1 h12 h13 h0
  have n1 := ok.n1
  have m1 := ok.m1
  have ho8 : o < 8 := by omega
  have ht8 : t < 8 := by omega
  have i8 : (o : Int) < 8 := by omega
  have j8 : (t : Int) < 8 := by omega
  obtain ⟨zz, hz1, hz2, hz3, hz4, -⟩ : ∃ zz : Array Value, (∀ w, (zeroValue 56).run Try.prog w = .ok (.agg zz) w) ∧ ¬ zz = #[] ∧ ¬ zz.size < 2 ∧ zz.size = 227 ∧ zz = zr := ⟨_, fun w => by kernel_rfl, by decide +kernel, by decide +kernel, by decide +kernel, rfl⟩
  have HZ := hide hz4
  clear hz4
  have hp0 : (rc S)[35 + o * 24 + t * 3]? = some (.int .i64 (plA S o t 0)) := rc_pla (o := o) (t := t) (j := 0) ho8 ht8 (by omega)
  have hp1 : (rc S)[35 + o * 24 + t * 3 + 1]? = some (.int .i64 (plA S o t 1)) := rc_pla (o := o) (t := t) (j := 1) ho8 ht8 (by omega)
  have hp2 : (rc S)[35 + o * 24 + t * 3 + 2]? = some (.int .i64 (plA S o t 2)) := rc_pla (o := o) (t := t) (j := 2) ho8 ht8 (by omega)
  have HP0 := hide (show (S.wt o t).getD 0 = plA S o t 0 from rfl)
  have HP1 := hide (show ((S.lf o t).getD (0, 0)).1 = plA S o t 1 from rfl)
  have P0 := hide hp0
  have P1 := hide hp1
  have P2 := hide hp2
  clear hp0 hp1 hp2
  generalize plA S o t 0 = p0 at *
  generalize plA S o t 1 = p1 at *
  generalize plA S o t 2 = p2 at *
  go_enter Try.func37, Try.ntmps37
  go_wp2_with fail
  have HB := hide (((Blk.new w (rc S) 56).ext (Ext.alloc _ (.cells #[Value.int .i64 6, .int .i64 (t : Int), .int .i64 (o : Int), .int .i64 a, .int .i64 r] 42))).ext (Ext.alloc _ (.cells zz 56)))
  have HE := Blk.new (w.alloc (.cells (rc S) 56)) #[Value.int .i64 6, .int .i64 (t : Int), .int .i64 (o : Int), .int .i64 a, .int .i64 r] 42
  rw [World.size_alloc] at HE
  have HE := hide (HE.ext (Ext.alloc _ (.cells zz 56)))
  have HR := Blk.new ((w.alloc (.cells (rc S) 56)).alloc (.cells #[Value.int .i64 6, .int .i64 (t : Int), .int .i64 (o : Int), .int .i64 a, .int .i64 r] 42)) zz 56
  rw [World.size_alloc, World.size_alloc] at HR
  have HR := hide HR
  have HX := hide (((Ext.alloc w (.cells (rc S) 56)).trans (Ext.alloc _ (.cells #[Value.int .i64 6, .int .i64 (t : Int), .int .i64 (o : Int), .int .i64 a, .int .i64 r] 42))).trans (Ext.alloc _ (.cells zz 56)))
  generalize (((w.alloc (.cells (rc S) 56)).alloc (.cells #[Value.int .i64 6, .int .i64 (t : Int), .int .i64 (o : Int), .int .i64 a, .int .i64 r] 42)).alloc (.cells zz 56)) = W0 at *
  clear hz1 hz2 hz3
  have re := (HE.out.ext (Ext.drew W0)).cell
  go_region
  clear re
  have HB := hide (HB.out.ext (Ext.drew W0))
  have HE := hide (HE.out.ext (Ext.drew W0))
  have HR := hide (HR.out.ext (Ext.drew W0))
  have HX := hide (HX.out.trans (Ext.drew W0))
  generalize W0.drew = W0 at *
  have re := HE.out.cell
  have r1 : W0.cell? ⟨w.heap.size, 3 + o, none⟩ = some (.int .i64 (S.own o + 1)) := by rw [HB.out.cell]; exact rc_own ho8
  have r2 : W0.cell? ⟨w.heap.size, 35 + o * 24 + t * 3, none⟩ = some (.int .i64 p0) := by rw [HB.out.cell]; exact P0.out
  have r3 : W0.cell? ⟨w.heap.size, 35 + o * 24 + t * 3 + 1, none⟩ = some (.int .i64 p1) := by rw [HB.out.cell]; exact P1.out
  have r4 : W0.cell? ⟨w.heap.size, 35 + o * 24 + t * 3 + 2, none⟩ = some (.int .i64 p2) := by rw [HB.out.cell]; exact P2.out
  have Y1 : Hid ((rc S)[3 + o]? = some (.int .i64 (S.own o + 1))) := hide (rc_own ho8)
  obtain ⟨y, hy⟩ : ∃ y, S.own o + 1 = y := ⟨_, rfl⟩
  rw [hy] at r1 Y1
  have HY := hide hy
  clear hy
  go_upto_region 4 with fail
  have lR := HR.out.lt
  have HP := hide (Blk.new W0 #[.int .i64 p0, .int .i64 p1, .int .i64 p2] 52)
  have hal := Ext.alloc W0 (.cells #[.int .i64 p0, .int .i64 p1, .int .i64 p2] 52)
  have HB := hide (HB.out.ext hal)
  have HE := hide (HE.out.ext hal)
  have HR := hide (HR.out.ext hal)
  have HX := hide (HX.out.trans hal)
  clear re r1 r2 r3 r4 hal
  generalize W0.alloc (.cells #[.int .i64 p0, .int .i64 p1, .int .i64 p2] 52) = W1 at *
  generalize W0.heap.size = bp at *
  have lbp : w.heap.size + 1 + 1 < bp := lR
  clear lR
  have re := HE.out.cell
  have rp := HP.out.cell
  go_wp2_with first | (with_reducible refine wpList_get rfl _ rfl w.heap.size _ rfl HB.out ?_; go_frame) | (with_reducible refine wpList_put rfl _ _ rfl (w.heap.size + 1 + 1) _ rfl rfl zz HR.out HZ.out ?_; intro w' hb' hc' hs'; have HX' := hide (HX.out.turn hc' (by simp; omega)); clear hc' hs'; go_frame) | go_in
  refine bodyPost_ret (res_of Try.results37 _ _ rfl rfl hb') rfl ?_
  exact ⟨by rfl, HX'.out⟩
theorem rwait_60n {S : St} (ok : Ok S) {t o : Nat} (a : Int) (ht : t < S.N) (ho : o < S.M) (E : (S.own o + 1 != 0 || (plA S o t 1 == 0 || plA S o t 2 != 0)) = true) (w : World) :
    Calls Try.prog 37 #[.agg (rc S), (Value.agg #[Value.int .i64 6, .int .i64 (t : Int), .int .i64 (o : Int), .int .i64 a, .int .i64 0])] w fun e w' => e = .returned (.tuple #[.agg (rc S), .bool false]) ∧ Ext w w' := by
  have E := hide E
  have n1 := ok.n1
  have m1 := ok.m1
  have ho8 : o < 8 := by omega
  have ht8 : t < 8 := by omega
  have i8 : (o : Int) < 8 := by omega
  have j8 : (t : Int) < 8 := by omega
  obtain ⟨zz, hz1, hz2, hz3, hz4, -⟩ : ∃ zz : Array Value, (∀ w, (zeroValue 56).run Try.prog w = .ok (.agg zz) w) ∧ ¬ zz = #[] ∧ ¬ zz.size < 2 ∧ zz.size = 227 ∧ zz = zr := ⟨_, fun w => by kernel_rfl, by decide +kernel, by decide +kernel, by decide +kernel, rfl⟩
  have HZ := hide hz4
  clear hz4
  have hp0 : (rc S)[35 + o * 24 + t * 3]? = some (.int .i64 (plA S o t 0)) := rc_pla (o := o) (t := t) (j := 0) ho8 ht8 (by omega)
  have hp1 : (rc S)[35 + o * 24 + t * 3 + 1]? = some (.int .i64 (plA S o t 1)) := rc_pla (o := o) (t := t) (j := 1) ho8 ht8 (by omega)
  have hp2 : (rc S)[35 + o * 24 + t * 3 + 2]? = some (.int .i64 (plA S o t 2)) := rc_pla (o := o) (t := t) (j := 2) ho8 ht8 (by omega)
  have HP0 := hide (show (S.wt o t).getD 0 = plA S o t 0 from rfl)
  have HP1 := hide (show ((S.lf o t).getD (0, 0)).1 = plA S o t 1 from rfl)
  have P0 := hide hp0
  have P1 := hide hp1
  have P2 := hide hp2
  clear hp0 hp1 hp2
  generalize plA S o t 0 = p0 at *
  generalize plA S o t 1 = p1 at *
  generalize plA S o t 2 = p2 at *
  go_enter Try.func37, Try.ntmps37
  go_wp2_with fail
  have HB := hide (((Blk.new w (rc S) 56).ext (Ext.alloc _ (.cells #[Value.int .i64 6, .int .i64 (t : Int), .int .i64 (o : Int), .int .i64 a, .int .i64 0] 42))).ext (Ext.alloc _ (.cells zz 56)))
  have HE := Blk.new (w.alloc (.cells (rc S) 56)) #[Value.int .i64 6, .int .i64 (t : Int), .int .i64 (o : Int), .int .i64 a, .int .i64 0] 42
  rw [World.size_alloc] at HE
  have HE := hide (HE.ext (Ext.alloc _ (.cells zz 56)))
  have HR := Blk.new ((w.alloc (.cells (rc S) 56)).alloc (.cells #[Value.int .i64 6, .int .i64 (t : Int), .int .i64 (o : Int), .int .i64 a, .int .i64 0] 42)) zz 56
  rw [World.size_alloc, World.size_alloc] at HR
  have HR := hide HR
  have HX := hide (((Ext.alloc w (.cells (rc S) 56)).trans (Ext.alloc _ (.cells #[Value.int .i64 6, .int .i64 (t : Int), .int .i64 (o : Int), .int .i64 a, .int .i64 0] 42))).trans (Ext.alloc _ (.cells zz 56)))
  generalize (((w.alloc (.cells (rc S) 56)).alloc (.cells #[Value.int .i64 6, .int .i64 (t : Int), .int .i64 (o : Int), .int .i64 a, .int .i64 0] 42)).alloc (.cells zz 56)) = W0 at *
  clear hz1 hz2 hz3
  have re := (HE.out.ext (Ext.drew W0)).cell
  go_region
  clear re
  have HB := hide (HB.out.ext (Ext.drew W0))
  have HE := hide (HE.out.ext (Ext.drew W0))
  have HR := hide (HR.out.ext (Ext.drew W0))
  have HX := hide (HX.out.trans (Ext.drew W0))
  generalize W0.drew = W0 at *
  have re := HE.out.cell
  have r1 : W0.cell? ⟨w.heap.size, 3 + o, none⟩ = some (.int .i64 (S.own o + 1)) := by rw [HB.out.cell]; exact rc_own ho8
  have r2 : W0.cell? ⟨w.heap.size, 35 + o * 24 + t * 3, none⟩ = some (.int .i64 p0) := by rw [HB.out.cell]; exact P0.out
  have r3 : W0.cell? ⟨w.heap.size, 35 + o * 24 + t * 3 + 1, none⟩ = some (.int .i64 p1) := by rw [HB.out.cell]; exact P1.out
  have r4 : W0.cell? ⟨w.heap.size, 35 + o * 24 + t * 3 + 2, none⟩ = some (.int .i64 p2) := by rw [HB.out.cell]; exact P2.out
  have Y1 : Hid ((rc S)[3 + o]? = some (.int .i64 (S.own o + 1))) := hide (rc_own ho8)
  obtain ⟨y, hy⟩ : ∃ y, S.own o + 1 = y := ⟨_, rfl⟩
  rw [hy] at r1 Y1
  have HY := hide hy
  clear hy
  go_upto_region 4 with fail
  have lR := HR.out.lt
  have HP := hide (Blk.new W0 #[.int .i64 p0, .int .i64 p1, .int .i64 p2] 52)
  have hal := Ext.alloc W0 (.cells #[.int .i64 p0, .int .i64 p1, .int .i64 p2] 52)
  have HB := hide (HB.out.ext hal)
  have HE := hide (HE.out.ext hal)
  have HR := hide (HR.out.ext hal)
  have HX := hide (HX.out.trans hal)
  clear re r1 r2 r3 r4 hal
  generalize W0.alloc (.cells #[.int .i64 p0, .int .i64 p1, .int .i64 p2] 52) = W1 at *
  generalize W0.heap.size = bp at *
  have lbp : w.heap.size + 1 + 1 < bp := lR
  clear lR
  have re := HE.out.cell
  have rp := HP.out.cell
  have rf : W1.cell? ⟨w.heap.size, 27 + t, none⟩ = some (.bool (S.flg t)) := by rw [HB.out.cell]; exact rc_flg ht8
  rw [HY.out] at E
  have r1 : W1.cell? ⟨w.heap.size, 3 + o, none⟩ = some (.int .i64 y) := by rw [HB.out.cell]; exact Y1.out
  cases q0 : (y != 0)
  · cases q1 : (p1 == 0)
    · have q2 : (p2 != 0) = true := by have := E.out; rw [q0, q1] at this; simpa using this
      go_wp2_with first | (with_reducible refine wpList_get rfl _ rfl w.heap.size _ rfl HB.out ?_; go_frame) | (with_reducible refine wpList_put rfl _ _ rfl (w.heap.size + 1 + 1) _ rfl rfl zz HR.out HZ.out ?_; intro w' hb' hc' hs'; have HX' := hide (HX.out.turn hc' (by simp; omega)); clear hc' hs'; go_frame) | go_in
      refine bodyPost_ret (res_of Try.results37 _ _ rfl rfl hb') rfl ?_
      exact ⟨by rfl, HX'.out⟩
    · go_wp2_with first | (with_reducible refine wpList_get rfl _ rfl w.heap.size _ rfl HB.out ?_; go_frame) | (with_reducible refine wpList_put rfl _ _ rfl (w.heap.size + 1 + 1) _ rfl rfl zz HR.out HZ.out ?_; intro w' hb' hc' hs'; have HX' := hide (HX.out.turn hc' (by simp; omega)); clear hc' hs'; go_frame) | go_in
      refine bodyPost_ret (res_of Try.results37 _ _ rfl rfl hb') rfl ?_
      exact ⟨by rfl, HX'.out⟩
  · go_wp2_with first | (with_reducible refine wpList_get rfl _ rfl w.heap.size _ rfl HB.out ?_; go_frame) | (with_reducible refine wpList_put rfl _ _ rfl (w.heap.size + 1 + 1) _ rfl rfl zz HR.out HZ.out ?_; intro w' hb' hc' hs'; have HX' := hide (HX.out.turn hc' (by simp; omega)); clear hc' hs'; go_frame) | go_in
    refine bodyPost_ret (res_of Try.results37 _ _ rfl rfl hb') rfl ?_
    exact ⟨by rfl, HX'.out⟩
theorem rwait_613n {S : St} (ok : Ok S) {t o : Nat} (a : Int) (ht : t < S.N) (ho : o < S.M) (E : (S.own o + 1 != 0 || (plA S o t 1 == 0 || plA S o t 2 != 13)) = true) (w : World) :
    Calls Try.prog 37 #[.agg (rc S), (Value.agg #[Value.int .i64 6, .int .i64 (t : Int), .int .i64 (o : Int), .int .i64 a, .int .i64 13])] w fun e w' => e = .returned (.tuple #[.agg (rc S), .bool false]) ∧ Ext w w' := by
  have E := hide E
  have n1 := ok.n1
  have m1 := ok.m1
  have ho8 : o < 8 := by omega
  have ht8 : t < 8 := by omega
  have i8 : (o : Int) < 8 := by omega
  have j8 : (t : Int) < 8 := by omega
  obtain ⟨zz, hz1, hz2, hz3, hz4, -⟩ : ∃ zz : Array Value, (∀ w, (zeroValue 56).run Try.prog w = .ok (.agg zz) w) ∧ ¬ zz = #[] ∧ ¬ zz.size < 2 ∧ zz.size = 227 ∧ zz = zr := ⟨_, fun w => by kernel_rfl, by decide +kernel, by decide +kernel, by decide +kernel, rfl⟩
  have HZ := hide hz4
  clear hz4
  have hp0 : (rc S)[35 + o * 24 + t * 3]? = some (.int .i64 (plA S o t 0)) := rc_pla (o := o) (t := t) (j := 0) ho8 ht8 (by omega)
  have hp1 : (rc S)[35 + o * 24 + t * 3 + 1]? = some (.int .i64 (plA S o t 1)) := rc_pla (o := o) (t := t) (j := 1) ho8 ht8 (by omega)
  have hp2 : (rc S)[35 + o * 24 + t * 3 + 2]? = some (.int .i64 (plA S o t 2)) := rc_pla (o := o) (t := t) (j := 2) ho8 ht8 (by omega)
  have HP0 := hide (show (S.wt o t).getD 0 = plA S o t 0 from rfl)
  have HP1 := hide (show ((S.lf o t).getD (0, 0)).1 = plA S o t 1 from rfl)
  have P0 := hide hp0
  have P1 := hide hp1
  have P2 := hide hp2
  clear hp0 hp1 hp2
  generalize plA S o t 0 = p0 at *
  generalize plA S o t 1 = p1 at *
  generalize plA S o t 2 = p2 at *
  go_enter Try.func37, Try.ntmps37
  go_wp2_with fail
  have HB := hide (((Blk.new w (rc S) 56).ext (Ext.alloc _ (.cells #[Value.int .i64 6, .int .i64 (t : Int), .int .i64 (o : Int), .int .i64 a, .int .i64 13] 42))).ext (Ext.alloc _ (.cells zz 56)))
  have HE := Blk.new (w.alloc (.cells (rc S) 56)) #[Value.int .i64 6, .int .i64 (t : Int), .int .i64 (o : Int), .int .i64 a, .int .i64 13] 42
  rw [World.size_alloc] at HE
  have HE := hide (HE.ext (Ext.alloc _ (.cells zz 56)))
  have HR := Blk.new ((w.alloc (.cells (rc S) 56)).alloc (.cells #[Value.int .i64 6, .int .i64 (t : Int), .int .i64 (o : Int), .int .i64 a, .int .i64 13] 42)) zz 56
  rw [World.size_alloc, World.size_alloc] at HR
  have HR := hide HR
  have HX := hide (((Ext.alloc w (.cells (rc S) 56)).trans (Ext.alloc _ (.cells #[Value.int .i64 6, .int .i64 (t : Int), .int .i64 (o : Int), .int .i64 a, .int .i64 13] 42))).trans (Ext.alloc _ (.cells zz 56)))
  generalize (((w.alloc (.cells (rc S) 56)).alloc (.cells #[Value.int .i64 6, .int .i64 (t : Int), .int .i64 (o : Int), .int .i64 a, .int .i64 13] 42)).alloc (.cells zz 56)) = W0 at *
  clear hz1 hz2 hz3
  have re := (HE.out.ext (Ext.drew W0)).cell
  go_region
  clear re
  have HB := hide (HB.out.ext (Ext.drew W0))
  have HE := hide (HE.out.ext (Ext.drew W0))
  have HR := hide (HR.out.ext (Ext.drew W0))
  have HX := hide (HX.out.trans (Ext.drew W0))
  generalize W0.drew = W0 at *
  have re := HE.out.cell
  have r1 : W0.cell? ⟨w.heap.size, 3 + o, none⟩ = some (.int .i64 (S.own o + 1)) := by rw [HB.out.cell]; exact rc_own ho8
  have r2 : W0.cell? ⟨w.heap.size, 35 + o * 24 + t * 3, none⟩ = some (.int .i64 p0) := by rw [HB.out.cell]; exact P0.out
  have r3 : W0.cell? ⟨w.heap.size, 35 + o * 24 + t * 3 + 1, none⟩ = some (.int .i64 p1) := by rw [HB.out.cell]; exact P1.out
  have r4 : W0.cell? ⟨w.heap.size, 35 + o * 24 + t * 3 + 2, none⟩ = some (.int .i64 p2) := by rw [HB.out.cell]; exact P2.out
  have Y1 : Hid ((rc S)[3 + o]? = some (.int .i64 (S.own o + 1))) := hide (rc_own ho8)
  obtain ⟨y, hy⟩ : ∃ y, S.own o + 1 = y := ⟨_, rfl⟩
  rw [hy] at r1 Y1
  have HY := hide hy
  clear hy
  go_upto_region 4 with fail
  have lR := HR.out.lt
  have HP := hide (Blk.new W0 #[.int .i64 p0, .int .i64 p1, .int .i64 p2] 52)
  have hal := Ext.alloc W0 (.cells #[.int .i64 p0, .int .i64 p1, .int .i64 p2] 52)
  have HB := hide (HB.out.ext hal)
  have HE := hide (HE.out.ext hal)
  have HR := hide (HR.out.ext hal)
  have HX := hide (HX.out.trans hal)
  clear re r1 r2 r3 r4 hal
  generalize W0.alloc (.cells #[.int .i64 p0, .int .i64 p1, .int .i64 p2] 52) = W1 at *
  generalize W0.heap.size = bp at *
  have lbp : w.heap.size + 1 + 1 < bp := lR
  clear lR
  have re := HE.out.cell
  have rp := HP.out.cell
  have rf : W1.cell? ⟨w.heap.size, 27 + t, none⟩ = some (.bool (S.flg t)) := by rw [HB.out.cell]; exact rc_flg ht8
  rw [HY.out] at E
  have r1 : W1.cell? ⟨w.heap.size, 3 + o, none⟩ = some (.int .i64 y) := by rw [HB.out.cell]; exact Y1.out
  cases q0 : (y != 0)
  · cases q1 : (p1 == 0)
    · have q2 : (p2 != 13) = true := by have := E.out; rw [q0, q1] at this; simpa using this
      go_wp2_with first | (with_reducible refine wpList_get rfl _ rfl w.heap.size _ rfl HB.out ?_; go_frame) | (with_reducible refine wpList_put rfl _ _ rfl (w.heap.size + 1 + 1) _ rfl rfl zz HR.out HZ.out ?_; intro w' hb' hc' hs'; have HX' := hide (HX.out.turn hc' (by simp; omega)); clear hc' hs'; go_frame) | go_in
      refine bodyPost_ret (res_of Try.results37 _ _ rfl rfl hb') rfl ?_
      exact ⟨by rfl, HX'.out⟩
    · go_wp2_with first | (with_reducible refine wpList_get rfl _ rfl w.heap.size _ rfl HB.out ?_; go_frame) | (with_reducible refine wpList_put rfl _ _ rfl (w.heap.size + 1 + 1) _ rfl rfl zz HR.out HZ.out ?_; intro w' hb' hc' hs'; have HX' := hide (HX.out.turn hc' (by simp; omega)); clear hc' hs'; go_frame) | go_in
      refine bodyPost_ret (res_of Try.results37 _ _ rfl rfl hb') rfl ?_
      exact ⟨by rfl, HX'.out⟩
  · go_wp2_with first | (with_reducible refine wpList_get rfl _ rfl w.heap.size _ rfl HB.out ?_; go_frame) | (with_reducible refine wpList_put rfl _ _ rfl (w.heap.size + 1 + 1) _ rfl rfl zz HR.out HZ.out ?_; intro w' hb' hc' hs'; have HX' := hide (HX.out.turn hc' (by simp; omega)); clear hc' hs'; go_frame) | go_in
    refine bodyPost_ret (res_of Try.results37 _ _ rfl rfl hb') rfl ?_
    exact ⟨by rfl, HX'.out⟩
theorem rwait_612n {S : St} (ok : Ok S) {t o : Nat} (a : Int) (ht : t < S.N) (ho : o < S.M) (E : (S.own o + 1 != 0 || (plA S o t 1 == 0 || plA S o t 2 != 12)) = true) (w : World) :
    Calls Try.prog 37 #[.agg (rc S), (Value.agg #[Value.int .i64 6, .int .i64 (t : Int), .int .i64 (o : Int), .int .i64 a, .int .i64 12])] w fun e w' => e = .returned (.tuple #[.agg (rc S), .bool false]) ∧ Ext w w' := by
  have E := hide E
  have n1 := ok.n1
  have m1 := ok.m1
  have ho8 : o < 8 := by omega
  have ht8 : t < 8 := by omega
  have i8 : (o : Int) < 8 := by omega
  have j8 : (t : Int) < 8 := by omega
  obtain ⟨zz, hz1, hz2, hz3, hz4, -⟩ : ∃ zz : Array Value, (∀ w, (zeroValue 56).run Try.prog w = .ok (.agg zz) w) ∧ ¬ zz = #[] ∧ ¬ zz.size < 2 ∧ zz.size = 227 ∧ zz = zr := ⟨_, fun w => by kernel_rfl, by decide +kernel, by decide +kernel, by decide +kernel, rfl⟩
  have HZ := hide hz4
  clear hz4
  have hp0 : (rc S)[35 + o * 24 + t * 3]? = some (.int .i64 (plA S o t 0)) := rc_pla (o := o) (t := t) (j := 0) ho8 ht8 (by omega)
  have hp1 : (rc S)[35 + o * 24 + t * 3 + 1]? = some (.int .i64 (plA S o t 1)) := rc_pla (o := o) (t := t) (j := 1) ho8 ht8 (by omega)
  have hp2 : (rc S)[35 + o * 24 + t * 3 + 2]? = some (.int .i64 (plA S o t 2)) := rc_pla (o := o) (t := t) (j := 2) ho8 ht8 (by omega)
  have HP0 := hide (show (S.wt o t).getD 0 = plA S o t 0 from rfl)
  have HP1 := hide (show ((S.lf o t).getD (0, 0)).1 = plA S o t 1 from rfl)
  have P0 := hide hp0
  have P1 := hide hp1
  have P2 := hide hp2
  clear hp0 hp1 hp2
  generalize plA S o t 0 = p0 at *
  generalize plA S o t 1 = p1 at *
  generalize plA S o t 2 = p2 at *
  go_enter Try.func37, Try.ntmps37
  go_wp2_with fail
  have HB := hide (((Blk.new w (rc S) 56).ext (Ext.alloc _ (.cells #[Value.int .i64 6, .int .i64 (t : Int), .int .i64 (o : Int), .int .i64 a, .int .i64 12] 42))).ext (Ext.alloc _ (.cells zz 56)))
  have HE := Blk.new (w.alloc (.cells (rc S) 56)) #[Value.int .i64 6, .int .i64 (t : Int), .int .i64 (o : Int), .int .i64 a, .int .i64 12] 42
  rw [World.size_alloc] at HE
  have HE := hide (HE.ext (Ext.alloc _ (.cells zz 56)))
  have HR := Blk.new ((w.alloc (.cells (rc S) 56)).alloc (.cells #[Value.int .i64 6, .int .i64 (t : Int), .int .i64 (o : Int), .int .i64 a, .int .i64 12] 42)) zz 56
  rw [World.size_alloc, World.size_alloc] at HR
  have HR := hide HR
  have HX := hide (((Ext.alloc w (.cells (rc S) 56)).trans (Ext.alloc _ (.cells #[Value.int .i64 6, .int .i64 (t : Int), .int .i64 (o : Int), .int .i64 a, .int .i64 12] 42))).trans (Ext.alloc _ (.cells zz 56)))
  generalize (((w.alloc (.cells (rc S) 56)).alloc (.cells #[Value.int .i64 6, .int .i64 (t : Int), .int .i64 (o : Int), .int .i64 a, .int .i64 12] 42)).alloc (.cells zz 56)) = W0 at *
  clear hz1 hz2 hz3
  have re := (HE.out.ext (Ext.drew W0)).cell
  go_region
  clear re
  have HB := hide (HB.out.ext (Ext.drew W0))
  have HE := hide (HE.out.ext (Ext.drew W0))
  have HR := hide (HR.out.ext (Ext.drew W0))
  have HX := hide (HX.out.trans (Ext.drew W0))
  generalize W0.drew = W0 at *
  have re := HE.out.cell
  have r1 : W0.cell? ⟨w.heap.size, 3 + o, none⟩ = some (.int .i64 (S.own o + 1)) := by rw [HB.out.cell]; exact rc_own ho8
  have r2 : W0.cell? ⟨w.heap.size, 35 + o * 24 + t * 3, none⟩ = some (.int .i64 p0) := by rw [HB.out.cell]; exact P0.out
  have r3 : W0.cell? ⟨w.heap.size, 35 + o * 24 + t * 3 + 1, none⟩ = some (.int .i64 p1) := by rw [HB.out.cell]; exact P1.out
  have r4 : W0.cell? ⟨w.heap.size, 35 + o * 24 + t * 3 + 2, none⟩ = some (.int .i64 p2) := by rw [HB.out.cell]; exact P2.out
  have Y1 : Hid ((rc S)[3 + o]? = some (.int .i64 (S.own o + 1))) := hide (rc_own ho8)
  obtain ⟨y, hy⟩ : ∃ y, S.own o + 1 = y := ⟨_, rfl⟩
  rw [hy] at r1 Y1
  have HY := hide hy
  clear hy
  go_upto_region 4 with fail
  have lR := HR.out.lt
  have HP := hide (Blk.new W0 #[.int .i64 p0, .int .i64 p1, .int .i64 p2] 52)
  have hal := Ext.alloc W0 (.cells #[.int .i64 p0, .int .i64 p1, .int .i64 p2] 52)
  have HB := hide (HB.out.ext hal)
  have HE := hide (HE.out.ext hal)
  have HR := hide (HR.out.ext hal)
  have HX := hide (HX.out.trans hal)
  clear re r1 r2 r3 r4 hal
  generalize W0.alloc (.cells #[.int .i64 p0, .int .i64 p1, .int .i64 p2] 52) = W1 at *
  generalize W0.heap.size = bp at *
  have lbp : w.heap.size + 1 + 1 < bp := lR
  clear lR
  have re := HE.out.cell
  have rp := HP.out.cell
  have rf : W1.cell? ⟨w.heap.size, 27 + t, none⟩ = some (.bool (S.flg t)) := by rw [HB.out.cell]; exact rc_flg ht8
  rw [HY.out] at E
  have r1 : W1.cell? ⟨w.heap.size, 3 + o, none⟩ = some (.int .i64 y) := by rw [HB.out.cell]; exact Y1.out
  cases q0 : (y != 0)
  · cases q1 : (p1 == 0)
    · have q2 : (p2 != 12) = true := by have := E.out; rw [q0, q1] at this; simpa using this
      go_wp2_with first | (with_reducible refine wpList_get rfl _ rfl w.heap.size _ rfl HB.out ?_; go_frame) | (with_reducible refine wpList_put rfl _ _ rfl (w.heap.size + 1 + 1) _ rfl rfl zz HR.out HZ.out ?_; intro w' hb' hc' hs'; have HX' := hide (HX.out.turn hc' (by simp; omega)); clear hc' hs'; go_frame) | go_in
      refine bodyPost_ret (res_of Try.results37 _ _ rfl rfl hb') rfl ?_
      exact ⟨by rfl, HX'.out⟩
    · go_wp2_with first | (with_reducible refine wpList_get rfl _ rfl w.heap.size _ rfl HB.out ?_; go_frame) | (with_reducible refine wpList_put rfl _ _ rfl (w.heap.size + 1 + 1) _ rfl rfl zz HR.out HZ.out ?_; intro w' hb' hc' hs'; have HX' := hide (HX.out.turn hc' (by simp; omega)); clear hc' hs'; go_frame) | go_in
      refine bodyPost_ret (res_of Try.results37 _ _ rfl rfl hb') rfl ?_
      exact ⟨by rfl, HX'.out⟩
  · go_wp2_with first | (with_reducible refine wpList_get rfl _ rfl w.heap.size _ rfl HB.out ?_; go_frame) | (with_reducible refine wpList_put rfl _ _ rfl (w.heap.size + 1 + 1) _ rfl rfl zz HR.out HZ.out ?_; intro w' hb' hc' hs'; have HX' := hide (HX.out.turn hc' (by simp; omega)); clear hc' hs'; go_frame) | go_in
    refine bodyPost_ret (res_of Try.results37 _ _ rfl rfl hb') rfl ?_
    exact ⟨by rfl, HX'.out⟩
end Go.Proofs.Ytpielknodjppgaa
