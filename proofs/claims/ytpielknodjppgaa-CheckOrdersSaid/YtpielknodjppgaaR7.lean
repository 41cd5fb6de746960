/- The document's End that may be. -/
import Derived.Test.YtpielknodjppgaaR2
namespace Go.Proofs.Ytpielknodjppgaa
open Go.RowKit Go.Maps
set_option linter.unusedSimpArgs false
set_option linter.unusedVariables false
set_option maxRecDepth 100000
set_option maxHeartbeats 8000000



theorem rwait_60y {S : St} (ok : Ok S) {t o : Nat} (a : Int) (ht : t < S.N) (ho : o < S.M) (hwn : upd2 S.wt o t none = S.wt) (E : (S.own o + 1 != 0 || (plA S o t 1 == 0 || plA S o t 2 != 0)) = false) (w : World) :
    Calls Try.prog 37 #[.agg (rc S), (Value.agg #[Value.int .i64 6, .int .i64 (t : Int), .int .i64 (o : Int), .int .i64 a, .int .i64 0])] w fun e w' => e = .returned (.tuple #[.agg (rc (enS S t o 0)), .bool true]) ∧ Ext w w' := by
  have EB : Hid (enS S t o 0 = { S with own := upd S.own o (t : Int), cnt := upd S.cnt o (plA S o t 1), wt := upd2 S.wt o t none, lf := upd2 S.lf o t none }) := hide (by rw [hwn]; rfl)
  rw [EB.out]
  clear hwn
  have E2 := hide (show (S.own o + 1 != 0) = false ∧ (plA S o t 1 == 0) = false ∧ (plA S o t 2 != 0) = false by simpa [Bool.or_eq_false_iff] using E)
  have E := hide E
  have n1 := ok.n1
  have m1 := ok.m1
  have ho8 : o < 8 := by omega
  have ht8 : t < 8 := by omega
  have i8 : (o : Int) < 8 := by omega
  have j8 : (t : Int) < 8 := by omega
  obtain ⟨zz, hz1, hz2, hz3, hz4, -⟩ : ∃ zz : Array Value, (∀ w, (zeroValue 56).run Try.prog w = .ok (.agg zz) w) ∧ ¬ zz = #[] ∧ ¬ zz.size < 2 ∧ zz.size = 227 ∧ zz = zr := ⟨_, fun w => by kernel_rfl, by decide +kernel, by decide +kernel, by decide +kernel, rfl⟩
  have HZ := hide hz4
  clear hz4
  have hp0 : (rc S)[35 + o * 24 + t * 3]? = some (.int .i64 (plA S o t 0)) := rc_pla (o := o) (t := t) (j := 0) ho8 ht8 (by omega)
  have hp1 : (rc S)[35 + o * 24 + t * 3 + 1]? = some (.int .i64 (plA S o t 1)) := rc_pla (o := o) (t := t) (j := 1) ho8 ht8 (by omega)
  have hp2 : (rc S)[35 + o * 24 + t * 3 + 2]? = some (.int .i64 (plA S o t 2)) := rc_pla (o := o) (t := t) (j := 2) ho8 ht8 (by omega)
  have HP0 := hide (show (S.wt o t).getD 0 = plA S o t 0 from rfl)
  have HP1 := hide (show ((S.lf o t).getD (0, 0)).1 = plA S o t 1 from rfl)
  have P0 := hide hp0
  have P1 := hide hp1
  have P2 := hide hp2
  clear hp0 hp1 hp2
  generalize plA S o t 0 = p0 at *
  generalize plA S o t 1 = p1 at *
  generalize plA S o t 2 = p2 at *
  go_enter Try.func37, Try.ntmps37
  go_wp2_with fail
  have HB := hide (((Blk.new w (rc S) 56).ext (Ext.alloc _ (.cells #[Value.int .i64 6, .int .i64 (t : Int), .int .i64 (o : Int), .int .i64 a, .int .i64 0] 42))).ext (Ext.alloc _ (.cells zz 56)))
  have HE := Blk.new (w.alloc (.cells (rc S) 56)) #[Value.int .i64 6, .int .i64 (t : Int), .int .i64 (o : Int), .int .i64 a, .int .i64 0] 42
  rw [World.size_alloc] at HE
  have HE := hide (HE.ext (Ext.alloc _ (.cells zz 56)))
  have HR := Blk.new ((w.alloc (.cells (rc S) 56)).alloc (.cells #[Value.int .i64 6, .int .i64 (t : Int), .int .i64 (o : Int), .int .i64 a, .int .i64 0] 42)) zz 56
  rw [World.size_alloc, World.size_alloc] at HR
  have HR := hide HR
  have HX := hide (((Ext.alloc w (.cells (rc S) 56)).trans (Ext.alloc _ (.cells #[Value.int .i64 6, .int .i64 (t : Int), .int .i64 (o : Int), .int .i64 a, .int .i64 0] 42))).trans (Ext.alloc _ (.cells zz 56)))
  generalize (((w.alloc (.cells (rc S) 56)).alloc (.cells #[Value.int .i64 6, .int .i64 (t : Int), .int .i64 (o : Int), .int .i64 a, .int .i64 0] 42)).alloc (.cells zz 56)) = W0 at *
  clear hz1 hz2 hz3
  have re := (HE.out.ext (Ext.drew W0)).cell
  go_region
  clear re
  have HB := hide (HB.out.ext (Ext.drew W0))
  have HE := hide (HE.out.ext (Ext.drew W0))
  have HR := hide (HR.out.ext (Ext.drew W0))
  have HX := hide (HX.out.trans (Ext.drew W0))
  generalize W0.drew = W0 at *
  have re := HE.out.cell
  have r1 : W0.cell? ⟨w.heap.size, 3 + o, none⟩ = some (.int .i64 (S.own o + 1)) := by rw [HB.out.cell]; exact rc_own ho8
  have r2 : W0.cell? ⟨w.heap.size, 35 + o * 24 + t * 3, none⟩ = some (.int .i64 p0) := by rw [HB.out.cell]; exact P0.out
  have r3 : W0.cell? ⟨w.heap.size, 35 + o * 24 + t * 3 + 1, none⟩ = some (.int .i64 p1) := by rw [HB.out.cell]; exact P1.out
  have r4 : W0.cell? ⟨w.heap.size, 35 + o * 24 + t * 3 + 2, none⟩ = some (.int .i64 p2) := by rw [HB.out.cell]; exact P2.out
  have Y1 : Hid ((rc S)[3 + o]? = some (.int .i64 (S.own o + 1))) := hide (rc_own ho8)
  obtain ⟨y, hy⟩ : ∃ y, S.own o + 1 = y := ⟨_, rfl⟩
  rw [hy] at r1 Y1
  have HY := hide hy
  clear hy
  go_upto_region 4 with fail
  have lR := HR.out.lt
  have HP := hide (Blk.new W0 #[.int .i64 p0, .int .i64 p1, .int .i64 p2] 52)
  have hal := Ext.alloc W0 (.cells #[.int .i64 p0, .int .i64 p1, .int .i64 p2] 52)
  have HB := hide (HB.out.ext hal)
  have HE := hide (HE.out.ext hal)
  have HR := hide (HR.out.ext hal)
  have HX := hide (HX.out.trans hal)
  clear re r1 r2 r3 r4 hal
  generalize W0.alloc (.cells #[.int .i64 p0, .int .i64 p1, .int .i64 p2] 52) = W1 at *
  generalize W0.heap.size = bp at *
  have lbp : w.heap.size + 1 + 1 < bp := lR
  clear lR
  have re := HE.out.cell
  have rp := HP.out.cell
  have rf : W1.cell? ⟨w.heap.size, 27 + t, none⟩ = some (.bool (S.flg t)) := by rw [HB.out.cell]; exact rc_flg ht8
  rw [HY.out] at E2
  have r1 : W1.cell? ⟨w.heap.size, 3 + o, none⟩ = some (.int .i64 y) := by rw [HB.out.cell]; exact Y1.out
  obtain ⟨q0, q1, q2⟩ := E2.out
  clear E rf
  have r2 : W1.cell? ⟨w.heap.size, 35 + o * 24 + t * 3, none⟩ = some (.int .i64 p0) := by rw [HB.out.cell]; exact P0.out
  have r3 : W1.cell? ⟨w.heap.size, 35 + o * 24 + t * 3 + 1, none⟩ = some (.int .i64 p1) := by rw [HB.out.cell]; exact P1.out
  have r4 : W1.cell? ⟨w.heap.size, 35 + o * 24 + t * 3 + 2, none⟩ = some (.int .i64 p2) := by rw [HB.out.cell]; exact P2.out
  have f0 := HB.out.free (35 + o * 24 + t * 3)
  have f1 := HB.out.free (35 + o * 24 + t * 3 + 1)
  have f2 := HB.out.free (35 + o * 24 + t * 3 + 2)
  go_wp2_with fail
  clear re rp r1 r2 r3 r4 f0 f1 f2
  have b4 := ((HB.out.set (35 + o * 24 + t * 3) (.int .i64 0)).set (35 + o * 24 + t * 3 + 1) (.int .i64 0)).set (35 + o * 24 + t * 3 + 2) (.int .i64 0)
  rw [rset_pl ho8 ht8 none none (x := 0) (y := 0) (z := 0) rfl rfl rfl] at b4
  have c4 := ((((Chg.refl [w.heap.size] W1).set (p := ⟨w.heap.size, 35 + o * 24 + t * 3, none⟩) (.inl (by simp)) (.int .i64 0)).set (p := ⟨w.heap.size, 35 + o * 24 + t * 3 + 1, none⟩) (.inl (by simp)) (.int .i64 0)).set (p := ⟨w.heap.size, 35 + o * 24 + t * 3 + 2, none⟩) (.inl (by simp)) (.int .i64 0))
  have HB4 := hide b4
  have HR4 := hide (HR.out.chg c4 (by simp; omega))
  have HE4 := hide (HE.out.chg c4 (by simp))
  have HP4 := hide (HP.out.chg c4 (by simp; omega))
  have HX4 := hide (HX.out.turn c4 (by simp))
  clear b4 c4
  generalize (((W1.setCell ⟨w.heap.size, 35 + o * 24 + t * 3, none⟩ (.int .i64 0)).setCell ⟨w.heap.size, 35 + o * 24 + t * 3 + 1, none⟩ (.int .i64 0)).setCell ⟨w.heap.size, 35 + o * 24 + t * 3 + 2, none⟩ (.int .i64 0)) = W2 at *
  have hy := Ext.drew W2
  have rp := (HP4.out.ext hy).cell
  have rp' := HP4.out.cell
  have s1 : W2.drew.cell? ⟨w.heap.size, 3 + o, none⟩ = some (.int .i64 (S.own o + 1)) := by rw [(HB4.out.ext hy).cell]; exact rc_own ho8
  have s2 : W2.drew.cell? ⟨w.heap.size, 11 + o, none⟩ = some (.int .i64 (S.cnt o)) := by rw [(HB4.out.ext hy).cell]; exact rc_cnt ho8
  have f1 := (HB4.out.ext hy).free (3 + o)
  have f2 := (HB4.out.ext hy).free (11 + o)
  have s1' : W2.cell? ⟨w.heap.size, 3 + o, none⟩ = some (.int .i64 (S.own o + 1)) := by rw [HB4.out.cell]; exact rc_own ho8
  have s2' : W2.cell? ⟨w.heap.size, 11 + o, none⟩ = some (.int .i64 (S.cnt o)) := by rw [HB4.out.cell]; exact rc_cnt ho8
  have f1' := HB4.out.free (3 + o)
  have f2' := HB4.out.free (11 + o)
  go_region
  clear rp rp' s1 s2 f1 f2 s1' s2' f1' f2' hy
  have b5 := HB4.out.set (3 + o) (.int .i64 ((t : Int) + 1))
  rw [rset_own ho8] at b5
  have b5 := b5.set (11 + o) (.int .i64 p1)
  rw [rset_cnt ho8] at b5
  have b5 := b5.ext (Ext.drew _)
  have c5 := (((Chg.refl [w.heap.size] W2).set (p := ⟨w.heap.size, 3 + o, none⟩) (.inl (by simp)) (.int .i64 ((t : Int) + 1))).set (p := ⟨w.heap.size, 11 + o, none⟩) (.inl (by simp)) (.int .i64 p1)).trans (Chg.drew [w.heap.size] _)
  have HB5 := hide b5
  have HR5 := hide (HR4.out.chg c5 (by simp; omega))
  have HX5 := hide (HX4.out.turn c5 (by simp))
  have re := (HE4.out.chg c5 (by simp)).cell
  clear b5 c5
  generalize ((W2.setCell ⟨w.heap.size, 3 + o, none⟩ (.int .i64 ((t : Int) + 1))).setCell ⟨w.heap.size, 11 + o, none⟩ (.int .i64 p1)).drew = W3 at *
  go_wp2_with first | (with_reducible refine wpList_get rfl _ rfl w.heap.size _ rfl HB5.out ?_; go_frame) | (with_reducible refine wpList_put rfl _ _ rfl (w.heap.size + 1 + 1) _ rfl rfl zz HR5.out HZ.out ?_; intro w' hb' hc' hs'; have HX' := hide (HX5.out.turn hc' (by simp; omega)); clear hc' hs'; go_frame) | go_in
  refine bodyPost_ret (res_of Try.results37 _ _ rfl rfl hb') rfl ?_
  exact ⟨by rfl, HX'.out⟩
theorem rwait_613y {S : St} (ok : Ok S) {t o : Nat} (a : Int) (ht : t < S.N) (ho : o < S.M) (hwn : upd2 S.wt o t none = S.wt) (E : (S.own o + 1 != 0 || (plA S o t 1 == 0 || plA S o t 2 != 13)) = false) (w : World) :
    Calls Try.prog 37 #[.agg (rc S), (Value.agg #[Value.int .i64 6, .int .i64 (t : Int), .int .i64 (o : Int), .int .i64 a, .int .i64 13])] w fun e w' => e = .returned (.tuple #[.agg (rc (enS S t o 13)), .bool true]) ∧ Ext w w' := by
  have EB : Hid (enS S t o 13 = { S with own := upd S.own o (t : Int), cnt := upd S.cnt o (plA S o t 1), wt := upd2 S.wt o t none, lf := upd2 S.lf o t none }) := hide (by rw [hwn]; rfl)
  rw [EB.out]
  clear hwn
  have E2 := hide (show (S.own o + 1 != 0) = false ∧ (plA S o t 1 == 0) = false ∧ (plA S o t 2 != 13) = false by simpa [Bool.or_eq_false_iff] using E)
  have E := hide E
  have n1 := ok.n1
  have m1 := ok.m1
  have ho8 : o < 8 := by omega
  have ht8 : t < 8 := by omega
  have i8 : (o : Int) < 8 := by omega
  have j8 : (t : Int) < 8 := by omega
  obtain ⟨zz, hz1, hz2, hz3, hz4, -⟩ : ∃ zz : Array Value, (∀ w, (zeroValue 56).run Try.prog w = .ok (.agg zz) w) ∧ ¬ zz = #[] ∧ ¬ zz.size < 2 ∧ zz.size = 227 ∧ zz = zr := ⟨_, fun w => by kernel_rfl, by decide +kernel, by decide +kernel, by decide +kernel, rfl⟩
  have HZ := hide hz4
  clear hz4
  have hp0 : (rc S)[35 + o * 24 + t * 3]? = some (.int .i64 (plA S o t 0)) := rc_pla (o := o) (t := t) (j := 0) ho8 ht8 (by omega)
  have hp1 : (rc S)[35 + o * 24 + t * 3 + 1]? = some (.int .i64 (plA S o t 1)) := rc_pla (o := o) (t := t) (j := 1) ho8 ht8 (by omega)
  have hp2 : (rc S)[35 + o * 24 + t * 3 + 2]? = some (.int .i64 (plA S o t 2)) := rc_pla (o := o) (t := t) (j := 2) ho8 ht8 (by omega)
  have HP0 := hide (show (S.wt o t).getD 0 = plA S o t 0 from rfl)
  have HP1 := hide (show ((S.lf o t).getD (0, 0)).1 = plA S o t 1 from rfl)
  have P0 := hide hp0
  have P1 := hide hp1
  have P2 := hide hp2
  clear hp0 hp1 hp2
  generalize plA S o t 0 = p0 at *
  generalize plA S o t 1 = p1 at *
  generalize plA S o t 2 = p2 at *
  go_enter Try.func37, Try.ntmps37
  go_wp2_with fail
  have HB := hide (((Blk.new w (rc S) 56).ext (Ext.alloc _ (.cells #[Value.int .i64 6, .int .i64 (t : Int), .int .i64 (o : Int), .int .i64 a, .int .i64 13] 42))).ext (Ext.alloc _ (.cells zz 56)))
  have HE := Blk.new (w.alloc (.cells (rc S) 56)) #[Value.int .i64 6, .int .i64 (t : Int), .int .i64 (o : Int), .int .i64 a, .int .i64 13] 42
  rw [World.size_alloc] at HE
  have HE := hide (HE.ext (Ext.alloc _ (.cells zz 56)))
  have HR := Blk.new ((w.alloc (.cells (rc S) 56)).alloc (.cells #[Value.int .i64 6, .int .i64 (t : Int), .int .i64 (o : Int), .int .i64 a, .int .i64 13] 42)) zz 56
  rw [World.size_alloc, World.size_alloc] at HR
  have HR := hide HR
  have HX := hide (((Ext.alloc w (.cells (rc S) 56)).trans (Ext.alloc _ (.cells #[Value.int .i64 6, .int .i64 (t : Int), .int .i64 (o : Int), .int .i64 a, .int .i64 13] 42))).trans (Ext.alloc _ (.cells zz 56)))
  generalize (((w.alloc (.cells (rc S) 56)).alloc (.cells #[Value.int .i64 6, .int .i64 (t : Int), .int .i64 (o : Int), .int .i64 a, .int .i64 13] 42)).alloc (.cells zz 56)) = W0 at *
  clear hz1 hz2 hz3
  have re := (HE.out.ext (Ext.drew W0)).cell
  go_region
  clear re
  have HB := hide (HB.out.ext (Ext.drew W0))
  have HE := hide (HE.out.ext (Ext.drew W0))
  have HR := hide (HR.out.ext (Ext.drew W0))
  have HX := hide (HX.out.trans (Ext.drew W0))
  generalize W0.drew = W0 at *
  have re := HE.out.cell
  have r1 : W0.cell? ⟨w.heap.size, 3 + o, none⟩ = some (.int .i64 (S.own o + 1)) := by rw [HB.out.cell]; exact rc_own ho8
  have r2 : W0.cell? ⟨w.heap.size, 35 + o * 24 + t * 3, none⟩ = some (.int .i64 p0) := by rw [HB.out.cell]; exact P0.out
  have r3 : W0.cell? ⟨w.heap.size, 35 + o * 24 + t * 3 + 1, none⟩ = some (.int .i64 p1) := by rw [HB.out.cell]; exact P1.out
  have r4 : W0.cell? ⟨w.heap.size, 35 + o * 24 + t * 3 + 2, none⟩ = some (.int .i64 p2) := by rw [HB.out.cell]; exact P2.out
  have Y1 : Hid ((rc S)[3 + o]? = some (.int .i64 (S.own o + 1))) := hide (rc_own ho8)
  obtain ⟨y, hy⟩ : ∃ y, S.own o + 1 = y := ⟨_, rfl⟩
  rw [hy] at r1 Y1
  have HY := hide hy
  clear hy
  go_upto_region 4 with fail
  have lR := HR.out.lt
  have HP := hide (Blk.new W0 #[.int .i64 p0, .int .i64 p1, .int .i64 p2] 52)
  have hal := Ext.alloc W0 (.cells #[.int .i64 p0, .int .i64 p1, .int .i64 p2] 52)
  have HB := hide (HB.out.ext hal)
  have HE := hide (HE.out.ext hal)
  have HR := hide (HR.out.ext hal)
  have HX := hide (HX.out.trans hal)
  clear re r1 r2 r3 r4 hal
  generalize W0.alloc (.cells #[.int .i64 p0, .int .i64 p1, .int .i64 p2] 52) = W1 at *
  generalize W0.heap.size = bp at *
  have lbp : w.heap.size + 1 + 1 < bp := lR
  clear lR
  have re := HE.out.cell
  have rp := HP.out.cell
  have rf : W1.cell? ⟨w.heap.size, 27 + t, none⟩ = some (.bool (S.flg t)) := by rw [HB.out.cell]; exact rc_flg ht8
  rw [HY.out] at E2
  have r1 : W1.cell? ⟨w.heap.size, 3 + o, none⟩ = some (.int .i64 y) := by rw [HB.out.cell]; exact Y1.out
  obtain ⟨q0, q1, q2⟩ := E2.out
  clear E rf
  have r2 : W1.cell? ⟨w.heap.size, 35 + o * 24 + t * 3, none⟩ = some (.int .i64 p0) := by rw [HB.out.cell]; exact P0.out
  have r3 : W1.cell? ⟨w.heap.size, 35 + o * 24 + t * 3 + 1, none⟩ = some (.int .i64 p1) := by rw [HB.out.cell]; exact P1.out
  have r4 : W1.cell? ⟨w.heap.size, 35 + o * 24 + t * 3 + 2, none⟩ = some (.int .i64 p2) := by rw [HB.out.cell]; exact P2.out
  have f0 := HB.out.free (35 + o * 24 + t * 3)
  have f1 := HB.out.free (35 + o * 24 + t * 3 + 1)
  have f2 := HB.out.free (35 + o * 24 + t * 3 + 2)
  go_wp2_with fail
  clear re rp r1 r2 r3 r4 f0 f1 f2
  have b4 := ((HB.out.set (35 + o * 24 + t * 3) (.int .i64 0)).set (35 + o * 24 + t * 3 + 1) (.int .i64 0)).set (35 + o * 24 + t * 3 + 2) (.int .i64 0)
  rw [rset_pl ho8 ht8 none none (x := 0) (y := 0) (z := 0) rfl rfl rfl] at b4
  have c4 := ((((Chg.refl [w.heap.size] W1).set (p := ⟨w.heap.size, 35 + o * 24 + t * 3, none⟩) (.inl (by simp)) (.int .i64 0)).set (p := ⟨w.heap.size, 35 + o * 24 + t * 3 + 1, none⟩) (.inl (by simp)) (.int .i64 0)).set (p := ⟨w.heap.size, 35 + o * 24 + t * 3 + 2, none⟩) (.inl (by simp)) (.int .i64 0))
  have HB4 := hide b4
  have HR4 := hide (HR.out.chg c4 (by simp; omega))
  have HE4 := hide (HE.out.chg c4 (by simp))
  have HP4 := hide (HP.out.chg c4 (by simp; omega))
  have HX4 := hide (HX.out.turn c4 (by simp))
  clear b4 c4
  generalize (((W1.setCell ⟨w.heap.size, 35 + o * 24 + t * 3, none⟩ (.int .i64 0)).setCell ⟨w.heap.size, 35 + o * 24 + t * 3 + 1, none⟩ (.int .i64 0)).setCell ⟨w.heap.size, 35 + o * 24 + t * 3 + 2, none⟩ (.int .i64 0)) = W2 at *
  have hy := Ext.drew W2
  have rp := (HP4.out.ext hy).cell
  have rp' := HP4.out.cell
  have s1 : W2.drew.cell? ⟨w.heap.size, 3 + o, none⟩ = some (.int .i64 (S.own o + 1)) := by rw [(HB4.out.ext hy).cell]; exact rc_own ho8
  have s2 : W2.drew.cell? ⟨w.heap.size, 11 + o, none⟩ = some (.int .i64 (S.cnt o)) := by rw [(HB4.out.ext hy).cell]; exact rc_cnt ho8
  have f1 := (HB4.out.ext hy).free (3 + o)
  have f2 := (HB4.out.ext hy).free (11 + o)
  have s1' : W2.cell? ⟨w.heap.size, 3 + o, none⟩ = some (.int .i64 (S.own o + 1)) := by rw [HB4.out.cell]; exact rc_own ho8
  have s2' : W2.cell? ⟨w.heap.size, 11 + o, none⟩ = some (.int .i64 (S.cnt o)) := by rw [HB4.out.cell]; exact rc_cnt ho8
  have f1' := HB4.out.free (3 + o)
  have f2' := HB4.out.free (11 + o)
  go_region
  clear rp rp' s1 s2 f1 f2 s1' s2' f1' f2' hy
  have b5 := HB4.out.set (3 + o) (.int .i64 ((t : Int) + 1))
  rw [rset_own ho8] at b5
  have b5 := b5.set (11 + o) (.int .i64 p1)
  rw [rset_cnt ho8] at b5
  have b5 := b5.ext (Ext.drew _)
  have c5 := (((Chg.refl [w.heap.size] W2).set (p := ⟨w.heap.size, 3 + o, none⟩) (.inl (by simp)) (.int .i64 ((t : Int) + 1))).set (p := ⟨w.heap.size, 11 + o, none⟩) (.inl (by simp)) (.int .i64 p1)).trans (Chg.drew [w.heap.size] _)
  have HB5 := hide b5
  have HR5 := hide (HR4.out.chg c5 (by simp; omega))
  have HX5 := hide (HX4.out.turn c5 (by simp))
  have re := (HE4.out.chg c5 (by simp)).cell
  clear b5 c5
  generalize ((W2.setCell ⟨w.heap.size, 3 + o, none⟩ (.int .i64 ((t : Int) + 1))).setCell ⟨w.heap.size, 11 + o, none⟩ (.int .i64 p1)).drew = W3 at *
  go_wp2_with first | (with_reducible refine wpList_get rfl _ rfl w.heap.size _ rfl HB5.out ?_; go_frame) | (with_reducible refine wpList_put rfl _ _ rfl (w.heap.size + 1 + 1) _ rfl rfl zz HR5.out HZ.out ?_; intro w' hb' hc' hs'; have HX' := hide (HX5.out.turn hc' (by simp; omega)); clear hc' hs'; go_frame) | go_in
  refine bodyPost_ret (res_of Try.results37 _ _ rfl rfl hb') rfl ?_
  exact ⟨by rfl, HX'.out⟩
theorem rwait_612y {S : St} (ok : Ok S) {t o : Nat} (a : Int) (ht : t < S.N) (ho : o < S.M) (hwn : upd2 S.wt o t none = S.wt) (E : (S.own o + 1 != 0 || (plA S o t 1 == 0 || plA S o t 2 != 12)) = false) (w : World) :
    Calls Try.prog 37 #[.agg (rc S), (Value.agg #[Value.int .i64 6, .int .i64 (t : Int), .int .i64 (o : Int), .int .i64 a, .int .i64 12])] w fun e w' => e = .returned (.tuple #[.agg (rc (enS S t o 12)), .bool true]) ∧ Ext w w' := by
  have EB : Hid (enS S t o 12 = { S with own := upd S.own o (t : Int), cnt := upd S.cnt o (plA S o t 1), wt := upd2 S.wt o t none, lf := upd2 S.lf o t none, flg := upd S.flg t false }) := hide (by rw [hwn]; rfl)
  rw [EB.out]
  clear hwn
  have E2 := hide (show (S.own o + 1 != 0) = false ∧ (plA S o t 1 == 0) = false ∧ (plA S o t 2 != 12) = false by simpa [Bool.or_eq_false_iff] using E)
  have E := hide E
  have n1 := ok.n1
  have m1 := ok.m1
  have ho8 : o < 8 := by omega
  have ht8 : t < 8 := by omega
  have i8 : (o : Int) < 8 := by omega
  have j8 : (t : Int) < 8 := by omega
  obtain ⟨zz, hz1, hz2, hz3, hz4, -⟩ : ∃ zz : Array Value, (∀ w, (zeroValue 56).run Try.prog w = .ok (.agg zz) w) ∧ ¬ zz = #[] ∧ ¬ zz.size < 2 ∧ zz.size = 227 ∧ zz = zr := ⟨_, fun w => by kernel_rfl, by decide +kernel, by decide +kernel, by decide +kernel, rfl⟩
  have HZ := hide hz4
  clear hz4
  have hp0 : (rc S)[35 + o * 24 + t * 3]? = some (.int .i64 (plA S o t 0)) := rc_pla (o := o) (t := t) (j := 0) ho8 ht8 (by omega)
  have hp1 : (rc S)[35 + o * 24 + t * 3 + 1]? = some (.int .i64 (plA S o t 1)) := rc_pla (o := o) (t := t) (j := 1) ho8 ht8 (by omega)
  have hp2 : (rc S)[35 + o * 24 + t * 3 + 2]? = some (.int .i64 (plA S o t 2)) := rc_pla (o := o) (t := t) (j := 2) ho8 ht8 (by omega)
  have HP0 := hide (show (S.wt o t).getD 0 = plA S o t 0 from rfl)
  have HP1 := hide (show ((S.lf o t).getD (0, 0)).1 = plA S o t 1 from rfl)
  have P0 := hide hp0
  have P1 := hide hp1
  have P2 := hide hp2
  clear hp0 hp1 hp2
  generalize plA S o t 0 = p0 at *
  generalize plA S o t 1 = p1 at *
  generalize plA S o t 2 = p2 at *
  go_enter Try.func37, Try.ntmps37
  go_wp2_with fail
  have HB := hide (((Blk.new w (rc S) 56).ext (Ext.alloc _ (.cells #[Value.int .i64 6, .int .i64 (t : Int), .int .i64 (o : Int), .int .i64 a, .int .i64 12] 42))).ext (Ext.alloc _ (.cells zz 56)))
  have HE := Blk.new (w.alloc (.cells (rc S) 56)) #[Value.int .i64 6, .int .i64 (t : Int), .int .i64 (o : Int), .int .i64 a, .int .i64 12] 42
  rw [World.size_alloc] at HE
  have HE := hide (HE.ext (Ext.alloc _ (.cells zz 56)))
  have HR := Blk.new ((w.alloc (.cells (rc S) 56)).alloc (.cells #[Value.int .i64 6, .int .i64 (t : Int), .int .i64 (o : Int), .int .i64 a, .int .i64 12] 42)) zz 56
  rw [World.size_alloc, World.size_alloc] at HR
  have HR := hide HR
  have HX := hide (((Ext.alloc w (.cells (rc S) 56)).trans (Ext.alloc _ (.cells #[Value.int .i64 6, .int .i64 (t : Int), .int .i64 (o : Int), .int .i64 a, .int .i64 12] 42))).trans (Ext.alloc _ (.cells zz 56)))
  generalize (((w.alloc (.cells (rc S) 56)).alloc (.cells #[Value.int .i64 6, .int .i64 (t : Int), .int .i64 (o : Int), .int .i64 a, .int .i64 12] 42)).alloc (.cells zz 56)) = W0 at *
  clear hz1 hz2 hz3
  have re := (HE.out.ext (Ext.drew W0)).cell
  go_region
  clear re
  have HB := hide (HB.out.ext (Ext.drew W0))
  have HE := hide (HE.out.ext (Ext.drew W0))
  have HR := hide (HR.out.ext (Ext.drew W0))
  have HX := hide (HX.out.trans (Ext.drew W0))
  generalize W0.drew = W0 at *
  have re := HE.out.cell
  have r1 : W0.cell? ⟨w.heap.size, 3 + o, none⟩ = some (.int .i64 (S.own o + 1)) := by rw [HB.out.cell]; exact rc_own ho8
  have r2 : W0.cell? ⟨w.heap.size, 35 + o * 24 + t * 3, none⟩ = some (.int .i64 p0) := by rw [HB.out.cell]; exact P0.out
  have r3 : W0.cell? ⟨w.heap.size, 35 + o * 24 + t * 3 + 1, none⟩ = some (.int .i64 p1) := by rw [HB.out.cell]; exact P1.out
  have r4 : W0.cell? ⟨w.heap.size, 35 + o * 24 + t * 3 + 2, none⟩ = some (.int .i64 p2) := by rw [HB.out.cell]; exact P2.out
  have Y1 : Hid ((rc S)[3 + o]? = some (.int .i64 (S.own o + 1))) := hide (rc_own ho8)
  obtain ⟨y, hy⟩ : ∃ y, S.own o + 1 = y := ⟨_, rfl⟩
  rw [hy] at r1 Y1
  have HY := hide hy
  clear hy
  go_upto_region 4 with fail
  have lR := HR.out.lt
  have HP := hide (Blk.new W0 #[.int .i64 p0, .int .i64 p1, .int .i64 p2] 52)
  have hal := Ext.alloc W0 (.cells #[.int .i64 p0, .int .i64 p1, .int .i64 p2] 52)
  have HB := hide (HB.out.ext hal)
  have HE := hide (HE.out.ext hal)
  have HR := hide (HR.out.ext hal)
  have HX := hide (HX.out.trans hal)
  clear re r1 r2 r3 r4 hal
  generalize W0.alloc (.cells #[.int .i64 p0, .int .i64 p1, .int .i64 p2] 52) = W1 at *
  generalize W0.heap.size = bp at *
  have lbp : w.heap.size + 1 + 1 < bp := lR
  clear lR
  have re := HE.out.cell
  have rp := HP.out.cell
  have rf : W1.cell? ⟨w.heap.size, 27 + t, none⟩ = some (.bool (S.flg t)) := by rw [HB.out.cell]; exact rc_flg ht8
  rw [HY.out] at E2
  have r1 : W1.cell? ⟨w.heap.size, 3 + o, none⟩ = some (.int .i64 y) := by rw [HB.out.cell]; exact Y1.out
  obtain ⟨q0, q1, q2⟩ := E2.out
  clear E rf
  have r2 : W1.cell? ⟨w.heap.size, 35 + o * 24 + t * 3, none⟩ = some (.int .i64 p0) := by rw [HB.out.cell]; exact P0.out
  have r3 : W1.cell? ⟨w.heap.size, 35 + o * 24 + t * 3 + 1, none⟩ = some (.int .i64 p1) := by rw [HB.out.cell]; exact P1.out
  have r4 : W1.cell? ⟨w.heap.size, 35 + o * 24 + t * 3 + 2, none⟩ = some (.int .i64 p2) := by rw [HB.out.cell]; exact P2.out
  have f0 := HB.out.free (35 + o * 24 + t * 3)
  have f1 := HB.out.free (35 + o * 24 + t * 3 + 1)
  have f2 := HB.out.free (35 + o * 24 + t * 3 + 2)
  go_wp2_with fail
  clear re rp r1 r2 r3 r4 f0 f1 f2
  have b4 := ((HB.out.set (35 + o * 24 + t * 3) (.int .i64 0)).set (35 + o * 24 + t * 3 + 1) (.int .i64 0)).set (35 + o * 24 + t * 3 + 2) (.int .i64 0)
  rw [rset_pl ho8 ht8 none none (x := 0) (y := 0) (z := 0) rfl rfl rfl] at b4
  have c4 := ((((Chg.refl [w.heap.size] W1).set (p := ⟨w.heap.size, 35 + o * 24 + t * 3, none⟩) (.inl (by simp)) (.int .i64 0)).set (p := ⟨w.heap.size, 35 + o * 24 + t * 3 + 1, none⟩) (.inl (by simp)) (.int .i64 0)).set (p := ⟨w.heap.size, 35 + o * 24 + t * 3 + 2, none⟩) (.inl (by simp)) (.int .i64 0))
  have HB4 := hide b4
  have HR4 := hide (HR.out.chg c4 (by simp; omega))
  have HE4 := hide (HE.out.chg c4 (by simp))
  have HP4 := hide (HP.out.chg c4 (by simp; omega))
  have HX4 := hide (HX.out.turn c4 (by simp))
  clear b4 c4
  generalize (((W1.setCell ⟨w.heap.size, 35 + o * 24 + t * 3, none⟩ (.int .i64 0)).setCell ⟨w.heap.size, 35 + o * 24 + t * 3 + 1, none⟩ (.int .i64 0)).setCell ⟨w.heap.size, 35 + o * 24 + t * 3 + 2, none⟩ (.int .i64 0)) = W2 at *
  have hy := Ext.drew W2
  have rp := (HP4.out.ext hy).cell
  have rp' := HP4.out.cell
  have s1 : W2.drew.cell? ⟨w.heap.size, 3 + o, none⟩ = some (.int .i64 (S.own o + 1)) := by rw [(HB4.out.ext hy).cell]; exact rc_own ho8
  have s2 : W2.drew.cell? ⟨w.heap.size, 11 + o, none⟩ = some (.int .i64 (S.cnt o)) := by rw [(HB4.out.ext hy).cell]; exact rc_cnt ho8
  have f1 := (HB4.out.ext hy).free (3 + o)
  have f2 := (HB4.out.ext hy).free (11 + o)
  have s1' : W2.cell? ⟨w.heap.size, 3 + o, none⟩ = some (.int .i64 (S.own o + 1)) := by rw [HB4.out.cell]; exact rc_own ho8
  have s2' : W2.cell? ⟨w.heap.size, 11 + o, none⟩ = some (.int .i64 (S.cnt o)) := by rw [HB4.out.cell]; exact rc_cnt ho8
  have f1' := HB4.out.free (3 + o)
  have f2' := HB4.out.free (11 + o)
  go_region
  clear rp rp' s1 s2 f1 f2 s1' s2' f1' f2' hy
  have b5 := HB4.out.set (3 + o) (.int .i64 ((t : Int) + 1))
  rw [rset_own ho8] at b5
  have b5 := b5.set (11 + o) (.int .i64 p1)
  rw [rset_cnt ho8] at b5
  have b5 := b5.ext (Ext.drew _)
  have c5 := (((Chg.refl [w.heap.size] W2).set (p := ⟨w.heap.size, 3 + o, none⟩) (.inl (by simp)) (.int .i64 ((t : Int) + 1))).set (p := ⟨w.heap.size, 11 + o, none⟩) (.inl (by simp)) (.int .i64 p1)).trans (Chg.drew [w.heap.size] _)
  have HB5 := hide b5
  have HR5 := hide (HR4.out.chg c5 (by simp; omega))
  have HX5 := hide (HX4.out.turn c5 (by simp))
  have re := (HE4.out.chg c5 (by simp)).cell
  clear b5 c5
  generalize ((W2.setCell ⟨w.heap.size, 3 + o, none⟩ (.int .i64 ((t : Int) + 1))).setCell ⟨w.heap.size, 11 + o, none⟩ (.int .i64 p1)).drew = W3 at *
  have s1 : W3.cell? ⟨w.heap.size, 27 + t, none⟩ = some (.bool (S.flg t)) := by rw [HB5.out.cell]; exact rc_flg ht8
  have f1 := HB5.out.free (27 + t)
  have b6 := HB5.out.set (27 + t) (.bool false)
  rw [rset_flg ht8] at b6
  have c6 := (Chg.refl [w.heap.size] W3).set (p := ⟨w.heap.size, 27 + t, none⟩) (.inl (by simp)) (.bool false)
  have HB6 := hide b6
  have HR6 := hide (HR5.out.chg c6 (by simp; omega))
  have HX6 := hide (HX5.out.turn c6 (by simp))
  clear b6 c6
  go_wp2_with first | (with_reducible refine wpList_get rfl _ rfl w.heap.size _ rfl HB6.out ?_; go_frame) | (with_reducible refine wpList_put rfl _ _ rfl (w.heap.size + 1 + 1) _ rfl rfl zz HR6.out HZ.out ?_; intro w' hb' hc' hs'; have HX' := hide (HX6.out.turn hc' (by simp; omega)); clear hc' hs'; go_frame) | go_in
  refine bodyPost_ret (res_of Try.results37 _ _ rfl rfl hb') rfl ?_
  exact ⟨by rfl, HX'.out⟩
end Go.Proofs.Ytpielknodjppgaa
