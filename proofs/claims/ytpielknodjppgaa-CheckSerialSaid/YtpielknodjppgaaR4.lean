/- The document's Enter and Try that tell OK. -/
import Derived.Test.YtpielknodjppgaaR2
namespace Go.Proofs.Ytpielknodjppgaa
open Go.RowKit Go.Maps
set_option linter.unusedSimpArgs false
set_option linter.unusedVariables false
set_option maxRecDepth 100000
set_option maxHeartbeats 8000000



theorem renter_0n {S : St} (ok : Ok S) (k : Int) {t o : Nat} (a : Int) (ht : t < S.N) (ho : o < S.M) (E : ((S.own o + 1 != 0 && S.own o + 1 != (t : Int) + 1) || decide ((S.K : Int) ≤ S.cnt o)) = true) (w : World) :
    Calls Try.prog 36 #[.agg (rc S), (Value.agg #[Value.int .i64 k, .int .i64 (t : Int), .int .i64 (o : Int), .int .i64 a, .int .i64 0])] w fun e w' => e = .returned (.tuple #[.agg (rc S), .bool false]) ∧ Ext w w' := by
  have E := hide E
  have n1 := ok.n1
  have m1 := ok.m1
  have ho8 : o < 8 := by omega
  have ht8 : t < 8 := by omega
  have i8 : (o : Int) < 8 := by omega
  have j8 : (t : Int) < 8 := by omega
  obtain ⟨zz, hz1, hz2, hz3, hz4, -⟩ : ∃ zz : Array Value, (∀ w, (zeroValue 56).run Try.prog w = .ok (.agg zz) w) ∧ ¬ zz = #[] ∧ ¬ zz.size < 2 ∧ zz.size = 227 ∧ zz = zr := ⟨_, fun w => by kernel_rfl, by decide +kernel, by decide +kernel, by decide +kernel, rfl⟩
  have HZ := hide hz4
  clear hz4
  go_enter Try.func36, Try.ntmps36
  go_wp2_with fail
  have HB := hide (((Blk.new w (rc S) 56).ext (Ext.alloc _ (.cells #[Value.int .i64 k, .int .i64 (t : Int), .int .i64 (o : Int), .int .i64 a, .int .i64 0] 42))).ext (Ext.alloc _ (.cells zz 56)))
  have HE := Blk.new (w.alloc (.cells (rc S) 56)) #[Value.int .i64 k, .int .i64 (t : Int), .int .i64 (o : Int), .int .i64 a, .int .i64 0] 42
  rw [World.size_alloc] at HE
  have HE := hide (HE.ext (Ext.alloc _ (.cells zz 56)))
  have HR := Blk.new ((w.alloc (.cells (rc S) 56)).alloc (.cells #[Value.int .i64 k, .int .i64 (t : Int), .int .i64 (o : Int), .int .i64 a, .int .i64 0] 42)) zz 56
  rw [World.size_alloc, World.size_alloc] at HR
  have HR := hide HR
  have HX := hide (((Ext.alloc w (.cells (rc S) 56)).trans (Ext.alloc _ (.cells #[Value.int .i64 k, .int .i64 (t : Int), .int .i64 (o : Int), .int .i64 a, .int .i64 0] 42))).trans (Ext.alloc _ (.cells zz 56)))
  generalize (((w.alloc (.cells (rc S) 56)).alloc (.cells #[Value.int .i64 k, .int .i64 (t : Int), .int .i64 (o : Int), .int .i64 a, .int .i64 0] 42)).alloc (.cells zz 56)) = W0 at *
  clear hz1 hz2 hz3
  have re := (HE.out.ext (Ext.drew W0)).cell
  go_region
  clear re
  have HB := hide (HB.out.ext (Ext.drew W0))
  have HE := hide (HE.out.ext (Ext.drew W0))
  have HR := hide (HR.out.ext (Ext.drew W0))
  have HX := hide (HX.out.trans (Ext.drew W0))
  generalize W0.drew = W0 at *
  have re := HE.out.cell
  have r1 : W0.cell? ⟨w.heap.size, 3 + o, none⟩ = some (.int .i64 (S.own o + 1)) := by rw [HB.out.cell]; exact rc_own ho8
  have r2 : W0.cell? ⟨w.heap.size, 11 + o, none⟩ = some (.int .i64 (S.cnt o)) := by rw [HB.out.cell]; exact rc_cnt ho8
  have r3 : W0.cell? ⟨w.heap.size, 2, none⟩ = some (.int .i64 (S.K : Int)) := by rw [HB.out.cell]; exact rc_at (by omega)
  generalize S.own o + 1 = y at *
  have R1 : Hid ((rc S)[3 + o]? = some (.int .i64 y)) := hide (by rw [← HB.out.cell]; exact r1)
  have R2 : Hid ((rc S)[11 + o]? = some (.int .i64 (S.cnt o))) := hide (rc_cnt ho8)
  have R3 : Hid ((rc S)[2]? = some (.int .i64 (S.K : Int))) := hide (rc_at (by omega))
  generalize (S.K : Int) = kk at *
  generalize S.cnt o = cc at *
  cases y0 : (y != 0)
  · have q : decide (kk ≤ cc) = true := by have := E.out; rw [y0] at this; simpa using this
    go_wp2_with fail
    have hy := Ext.drew W0
    have s1 : W0.drew.cell? ⟨w.heap.size, 3 + o, none⟩ = some (.int .i64 y) := by rw [(HB.out.ext hy).cell]; exact R1.out
    have s2 : W0.drew.cell? ⟨w.heap.size, 11 + o, none⟩ = some (.int .i64 cc) := by rw [(HB.out.ext hy).cell]; exact R2.out
    have s3 : W0.drew.cell? ⟨w.heap.size, 2, none⟩ = some (.int .i64 kk) := by rw [(HB.out.ext hy).cell]; exact R3.out
    clear re r1 r2 r3
    go_region
    clear s1 s2 s3 hy
    have HB := hide (HB.out.ext (Ext.drew W0))
    have HE := hide (HE.out.ext (Ext.drew W0))
    have HR := hide (HR.out.ext (Ext.drew W0))
    have HX := hide (HX.out.trans (Ext.drew W0))
    generalize W0.drew = W0 at *
    go_wp2_with first | (with_reducible refine wpList_get rfl _ rfl w.heap.size _ rfl HB.out ?_; go_frame) | (with_reducible refine wpList_put rfl _ _ rfl (w.heap.size + 1 + 1) S rfl rfl zz HR.out HZ.out ?_; intro w' hb' hc' hs'; have HX' := hide (HX.out.turn hc' (by simp; omega)); clear hc' hs'; go_frame) | go_in
    refine bodyPost_ret (res_of Try.results36 _ _ rfl rfl hb') rfl ?_
    exact ⟨rfl, HX'.out⟩
  · cases y1 : (y != (t : Int) + 1)
    · have q : decide (kk ≤ cc) = true := by have := E.out; rw [y0, y1] at this; simpa using this
      go_wp2_with fail
      have hy := Ext.drew W0
      have s1 : W0.drew.cell? ⟨w.heap.size, 3 + o, none⟩ = some (.int .i64 y) := by rw [(HB.out.ext hy).cell]; exact R1.out
      have s2 : W0.drew.cell? ⟨w.heap.size, 11 + o, none⟩ = some (.int .i64 cc) := by rw [(HB.out.ext hy).cell]; exact R2.out
      have s3 : W0.drew.cell? ⟨w.heap.size, 2, none⟩ = some (.int .i64 kk) := by rw [(HB.out.ext hy).cell]; exact R3.out
      clear re r1 r2 r3
      go_region
      clear s1 s2 s3 hy
      have HB := hide (HB.out.ext (Ext.drew W0))
      have HE := hide (HE.out.ext (Ext.drew W0))
      have HR := hide (HR.out.ext (Ext.drew W0))
      have HX := hide (HX.out.trans (Ext.drew W0))
      generalize W0.drew = W0 at *
      go_wp2_with first | (with_reducible refine wpList_get rfl _ rfl w.heap.size _ rfl HB.out ?_; go_frame) | (with_reducible refine wpList_put rfl _ _ rfl (w.heap.size + 1 + 1) S rfl rfl zz HR.out HZ.out ?_; intro w' hb' hc' hs'; have HX' := hide (HX.out.turn hc' (by simp; omega)); clear hc' hs'; go_frame) | go_in
      refine bodyPost_ret (res_of Try.results36 _ _ rfl rfl hb') rfl ?_
      exact ⟨rfl, HX'.out⟩
    · go_wp2_with fail
      have hy := Ext.drew W0
      have s1 : W0.drew.cell? ⟨w.heap.size, 3 + o, none⟩ = some (.int .i64 y) := by rw [(HB.out.ext hy).cell]; exact R1.out
      have s2 : W0.drew.cell? ⟨w.heap.size, 11 + o, none⟩ = some (.int .i64 cc) := by rw [(HB.out.ext hy).cell]; exact R2.out
      have s3 : W0.drew.cell? ⟨w.heap.size, 2, none⟩ = some (.int .i64 kk) := by rw [(HB.out.ext hy).cell]; exact R3.out
      clear re r1 r2 r3
      go_region
      clear s1 s2 s3 hy
      have HB := hide (HB.out.ext (Ext.drew W0))
      have HE := hide (HE.out.ext (Ext.drew W0))
      have HR := hide (HR.out.ext (Ext.drew W0))
      have HX := hide (HX.out.trans (Ext.drew W0))
      generalize W0.drew = W0 at *
      go_wp2_with first | (with_reducible refine wpList_get rfl _ rfl w.heap.size _ rfl HB.out ?_; go_frame) | (with_reducible refine wpList_put rfl _ _ rfl (w.heap.size + 1 + 1) S rfl rfl zz HR.out HZ.out ?_; intro w' hb' hc' hs'; have HX' := hide (HX.out.turn hc' (by simp; omega)); clear hc' hs'; go_frame) | go_in
      refine bodyPost_ret (res_of Try.results36 _ _ rfl rfl hb') rfl ?_
      exact ⟨rfl, HX'.out⟩
theorem renter_0y {S : St} (ok : Ok S) (k : Int) {t o : Nat} (a : Int) (ht : t < S.N) (ho : o < S.M) (E : ((S.own o + 1 != 0 && S.own o + 1 != (t : Int) + 1) || decide ((S.K : Int) ≤ S.cnt o)) = false) (w : World) :
    Calls Try.prog 36 #[.agg (rc S), (Value.agg #[Value.int .i64 k, .int .i64 (t : Int), .int .i64 (o : Int), .int .i64 a, .int .i64 0])] w fun e w' => e = .returned (.tuple #[.agg (rc (inS S t o)), .bool true]) ∧ Ext w w' := by
  have E := hide E
  have wr : IntKind.i64.wrap (S.cnt o + 1) = S.cnt o + 1 := by rw [IntKind.wrap_i64]; have := ok.own o; have := ok.k1; omega
  have EI := hide (show inS S t o = { S with own := upd S.own o (t : Int), cnt := upd S.cnt o (S.cnt o + 1) } from rfl)
  rw [EI.out]
  have n1 := ok.n1
  have m1 := ok.m1
  have ho8 : o < 8 := by omega
  have ht8 : t < 8 := by omega
  have i8 : (o : Int) < 8 := by omega
  have j8 : (t : Int) < 8 := by omega
  obtain ⟨zz, hz1, hz2, hz3, hz4, -⟩ : ∃ zz : Array Value, (∀ w, (zeroValue 56).run Try.prog w = .ok (.agg zz) w) ∧ ¬ zz = #[] ∧ ¬ zz.size < 2 ∧ zz.size = 227 ∧ zz = zr := ⟨_, fun w => by kernel_rfl, by decide +kernel, by decide +kernel, by decide +kernel, rfl⟩
  have HZ := hide hz4
  clear hz4
  go_enter Try.func36, Try.ntmps36
  go_wp2_with fail
  have HB := hide (((Blk.new w (rc S) 56).ext (Ext.alloc _ (.cells #[Value.int .i64 k, .int .i64 (t : Int), .int .i64 (o : Int), .int .i64 a, .int .i64 0] 42))).ext (Ext.alloc _ (.cells zz 56)))
  have HE := Blk.new (w.alloc (.cells (rc S) 56)) #[Value.int .i64 k, .int .i64 (t : Int), .int .i64 (o : Int), .int .i64 a, .int .i64 0] 42
  rw [World.size_alloc] at HE
  have HE := hide (HE.ext (Ext.alloc _ (.cells zz 56)))
  have HR := Blk.new ((w.alloc (.cells (rc S) 56)).alloc (.cells #[Value.int .i64 k, .int .i64 (t : Int), .int .i64 (o : Int), .int .i64 a, .int .i64 0] 42)) zz 56
  rw [World.size_alloc, World.size_alloc] at HR
  have HR := hide HR
  have HX := hide (((Ext.alloc w (.cells (rc S) 56)).trans (Ext.alloc _ (.cells #[Value.int .i64 k, .int .i64 (t : Int), .int .i64 (o : Int), .int .i64 a, .int .i64 0] 42))).trans (Ext.alloc _ (.cells zz 56)))
  generalize (((w.alloc (.cells (rc S) 56)).alloc (.cells #[Value.int .i64 k, .int .i64 (t : Int), .int .i64 (o : Int), .int .i64 a, .int .i64 0] 42)).alloc (.cells zz 56)) = W0 at *
  clear hz1 hz2 hz3
  have re := (HE.out.ext (Ext.drew W0)).cell
  go_region
  clear re
  have HB := hide (HB.out.ext (Ext.drew W0))
  have HE := hide (HE.out.ext (Ext.drew W0))
  have HR := hide (HR.out.ext (Ext.drew W0))
  have HX := hide (HX.out.trans (Ext.drew W0))
  generalize W0.drew = W0 at *
  have re := HE.out.cell
  have r1 : W0.cell? ⟨w.heap.size, 3 + o, none⟩ = some (.int .i64 (S.own o + 1)) := by rw [HB.out.cell]; exact rc_own ho8
  have r2 : W0.cell? ⟨w.heap.size, 11 + o, none⟩ = some (.int .i64 (S.cnt o)) := by rw [HB.out.cell]; exact rc_cnt ho8
  have r3 : W0.cell? ⟨w.heap.size, 2, none⟩ = some (.int .i64 (S.K : Int)) := by rw [HB.out.cell]; exact rc_at (by omega)
  generalize S.own o + 1 = y at *
  have R1 : Hid ((rc S)[3 + o]? = some (.int .i64 y)) := hide (by rw [← HB.out.cell]; exact r1)
  have R2 : Hid ((rc S)[11 + o]? = some (.int .i64 (S.cnt o))) := hide (rc_cnt ho8)
  have R3 : Hid ((rc S)[2]? = some (.int .i64 (S.K : Int))) := hide (rc_at (by omega))
  obtain ⟨kk, hkk⟩ : ∃ kk, (S.K : Int) = kk := ⟨_, rfl⟩
  rw [hkk] at R3 E r3
  obtain ⟨cc, hcc⟩ : ∃ cc, S.cnt o = cc := ⟨_, rfl⟩
  rw [hcc] at R2 E r2 wr
  have HK := hide hcc
  clear hkk hcc
  have q : decide (kk ≤ cc) = false := by have := E.out; simp at this; simp; omega
  cases y0 : (y != 0)
  · go_wp2_with fail
    have hy := Ext.drew W0
    have s1 : W0.drew.cell? ⟨w.heap.size, 3 + o, none⟩ = some (.int .i64 y) := by rw [(HB.out.ext hy).cell]; exact R1.out
    have s2 : W0.drew.cell? ⟨w.heap.size, 11 + o, none⟩ = some (.int .i64 cc) := by rw [(HB.out.ext hy).cell]; exact R2.out
    have s3 : W0.drew.cell? ⟨w.heap.size, 2, none⟩ = some (.int .i64 kk) := by rw [(HB.out.ext hy).cell]; exact R3.out
    clear re r1 r2 r3
    go_region
    clear s1 s2 s3 hy
    have HB := hide (HB.out.ext (Ext.drew W0))
    have HE := hide (HE.out.ext (Ext.drew W0))
    have HR := hide (HR.out.ext (Ext.drew W0))
    have HX := hide (HX.out.trans (Ext.drew W0))
    generalize W0.drew = W0 at *
    have b4 := HB.out.set (3 + o) (.int .i64 ((t : Int) + 1))
    rw [rset_own ho8] at b4
    have b4 := b4.set (11 + o) (.int .i64 (cc + 1))
    rw [rset_cnt ho8] at b4
    have f1 := HB.out.free (3 + o)
    have f2 := HB.out.free (11 + o)
    have r1 : W0.cell? ⟨w.heap.size, 3 + o, none⟩ = some (.int .i64 y) := by rw [HB.out.cell]; exact R1.out
    have r2 : W0.cell? ⟨w.heap.size, 11 + o, none⟩ = some (.int .i64 cc) := by rw [HB.out.cell]; exact R2.out
    have c4 := ((Chg.refl [w.heap.size] W0).set (p := ⟨w.heap.size, 3 + o, none⟩) (.inl (by simp)) (.int .i64 ((t : Int) + 1))).set (p := ⟨w.heap.size, 11 + o, none⟩) (.inl (by simp)) (.int .i64 (cc + 1))
    have HC := hide c4
    have H4 := hide b4
    have HR4 := hide (HR.out.chg c4 (by simp; omega))
    clear b4 c4
    go_wp2_with first | (with_reducible refine wpList_get rfl _ rfl w.heap.size _ rfl H4.out ?_; go_frame) | (with_reducible refine wpList_put rfl _ _ rfl (w.heap.size + 1 + 1) _ rfl rfl zz HR4.out HZ.out ?_; intro w' hb' hc' hs'; have HX' := hide ((HX.out.turn HC.out (by simp)).turn hc' (by simp; omega)); clear hc' hs'; go_frame) | go_in
    refine bodyPost_ret (res_of Try.results36 _ _ rfl rfl hb') rfl ?_
    exact ⟨by rw [HK.out]; rfl, HX'.out⟩
  · have y1 : (y != (t : Int) + 1) = false := by have := E.out; rw [y0] at this; simp at this; simp; omega
    go_wp2_with fail
    have hy := Ext.drew W0
    have s1 : W0.drew.cell? ⟨w.heap.size, 3 + o, none⟩ = some (.int .i64 y) := by rw [(HB.out.ext hy).cell]; exact R1.out
    have s2 : W0.drew.cell? ⟨w.heap.size, 11 + o, none⟩ = some (.int .i64 cc) := by rw [(HB.out.ext hy).cell]; exact R2.out
    have s3 : W0.drew.cell? ⟨w.heap.size, 2, none⟩ = some (.int .i64 kk) := by rw [(HB.out.ext hy).cell]; exact R3.out
    clear re r1 r2 r3
    go_region
    clear s1 s2 s3 hy
    have HB := hide (HB.out.ext (Ext.drew W0))
    have HE := hide (HE.out.ext (Ext.drew W0))
    have HR := hide (HR.out.ext (Ext.drew W0))
    have HX := hide (HX.out.trans (Ext.drew W0))
    generalize W0.drew = W0 at *
    have b4 := HB.out.set (3 + o) (.int .i64 ((t : Int) + 1))
    rw [rset_own ho8] at b4
    have b4 := b4.set (11 + o) (.int .i64 (cc + 1))
    rw [rset_cnt ho8] at b4
    have f1 := HB.out.free (3 + o)
    have f2 := HB.out.free (11 + o)
    have r1 : W0.cell? ⟨w.heap.size, 3 + o, none⟩ = some (.int .i64 y) := by rw [HB.out.cell]; exact R1.out
    have r2 : W0.cell? ⟨w.heap.size, 11 + o, none⟩ = some (.int .i64 cc) := by rw [HB.out.cell]; exact R2.out
    have c4 := ((Chg.refl [w.heap.size] W0).set (p := ⟨w.heap.size, 3 + o, none⟩) (.inl (by simp)) (.int .i64 ((t : Int) + 1))).set (p := ⟨w.heap.size, 11 + o, none⟩) (.inl (by simp)) (.int .i64 (cc + 1))
    have HC := hide c4
    have H4 := hide b4
    have HR4 := hide (HR.out.chg c4 (by simp; omega))
    clear b4 c4
    go_wp2_with first | (with_reducible refine wpList_get rfl _ rfl w.heap.size _ rfl H4.out ?_; go_frame) | (with_reducible refine wpList_put rfl _ _ rfl (w.heap.size + 1 + 1) _ rfl rfl zz HR4.out HZ.out ?_; intro w' hb' hc' hs'; have HX' := hide ((HX.out.turn HC.out (by simp)).turn hc' (by simp; omega)); clear hc' hs'; go_frame) | go_in
    refine bodyPost_ret (res_of Try.results36 _ _ rfl rfl hb') rfl ?_
    exact ⟨by rw [HK.out]; rfl, HX'.out⟩
end Go.Proofs.Ytpielknodjppgaa
