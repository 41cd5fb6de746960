/- The document's Enter and Try. -/
import Derived.Test.YtacneghgimfklaaR2
namespace Go.Proofs.Ytacneghgimfklaa
open Go.RowKit Go.Maps
set_option linter.unusedSimpArgs false
set_option linter.unusedVariables false
set_option maxRecDepth 100000
set_option maxHeartbeats 8000000



theorem renter_o {S : St} (ok : Ok S) (k : Int) {t o : Nat} (a r : Int) (ht : t < S.N) (ho : o < S.M) (h0 : (r == 0) = false) (h10 : (r == 10) = false) (h11 : (r == 11) = false) (h14 : (r == 14) = false) (w : World) :
    Calls Try.prog 42 #[.agg (rc S), (Value.agg #[.int .i64 k, .int .i64 (t : Int), .int .i64 (o : Int), .int .i64 a, .int .i64 r])] w fun e w' => e = .returned (.tuple #[.agg (rc S), .bool false]) ∧ Ext w w' := by
  have n1 := ok.n1
  have m1 := ok.m1
  have ho8 : o < 8 := by omega
  have ht8 : t < 8 := by omega
  have i8 : (o : Int) < 8 := by omega
  have j8 : (t : Int) < 8 := by omega
  obtain ⟨zz, hz1, hz2, hz3, hz4, -⟩ : ∃ zz : Array Value, (∀ w, (zeroValue 47).run Try.prog w = .ok (.agg zz) w) ∧ ¬ zz = #[] ∧ ¬ zz.size < 2 ∧ zz.size = 227 ∧ zz = zr := ⟨_, fun w => by kernel_rfl, by decide +kernel, by decide +kernel, by decide +kernel, rfl⟩
  have HZ := hide hz4
  clear hz4
  go_enter Try.func42, Try.ntmps42
  go_wp2_with fail
  have HB := hide (((Blk.new w (rc S) 47).ext (Ext.alloc _ (.cells #[Value.int .i64 k, .int .i64 (t : Int), .int .i64 (o : Int), .int .i64 a, .int .i64 r] 29))).ext (Ext.alloc _ (.cells zz 47)))
  have HE := Blk.new (w.alloc (.cells (rc S) 47)) #[Value.int .i64 k, .int .i64 (t : Int), .int .i64 (o : Int), .int .i64 a, .int .i64 r] 29
  rw [World.size_alloc] at HE
  have HE := hide (HE.ext (Ext.alloc _ (.cells zz 47)))
  have HR := Blk.new ((w.alloc (.cells (rc S) 47)).alloc (.cells #[Value.int .i64 k, .int .i64 (t : Int), .int .i64 (o : Int), .int .i64 a, .int .i64 r] 29)) zz 47
  rw [World.size_alloc, World.size_alloc] at HR
  have HR := hide HR
  have HX := hide (((Ext.alloc w (.cells (rc S) 47)).trans (Ext.alloc _ (.cells #[Value.int .i64 k, .int .i64 (t : Int), .int .i64 (o : Int), .int .i64 a, .int .i64 r] 29))).trans (Ext.alloc _ (.cells zz 47)))
  generalize (((w.alloc (.cells (rc S) 47)).alloc (.cells #[Value.int .i64 k, .int .i64 (t : Int), .int .i64 (o : Int), .int .i64 a, .int .i64 r] 29)).alloc (.cells zz 47)) = W0 at *
  clear hz1 hz2 hz3
  have re := (HE.out.ext (Ext.drew W0)).cell
  go_region
  clear re
  have HB := hide (HB.out.ext (Ext.drew W0))
  have HE := hide (HE.out.ext (Ext.drew W0))
  have HR := hide (HR.out.ext (Ext.drew W0))
  have HX := hide (HX.out.trans (Ext.drew W0))
  generalize W0.drew = W0 at *
  have re := HE.out.cell
  have r1 : W0.cell? ⟨w.heap.size, 3 + o, none⟩ = some (.int .i64 (S.own o + 1)) := by rw [HB.out.cell]; exact rc_own ho8
  have r2 : W0.cell? ⟨w.heap.size, 11 + o, none⟩ = some (.int .i64 (S.cnt o)) := by rw [HB.out.cell]; exact rc_cnt ho8
  have r3 : W0.cell? ⟨w.heap.size, 2, none⟩ = some (.int .i64 (S.K : Int)) := by rw [HB.out.cell]; exact rc_at (by omega)
  generalize S.own o + 1 = y at *
  by_cases y0 : y = 0
  · go_wp2_with first | (with_reducible refine wpList_get rfl _ rfl w.heap.size _ rfl HB.out ?_; go_frame) | (with_reducible refine wpList_put rfl _ _ rfl (w.heap.size + 1 + 1) S rfl rfl zz HR.out HZ.out ?_; intro w' hb' hc' hs'; have HX' := hide (HX.out.turn hc' (by simp; omega)); clear hc' hs'; go_frame) | go_in
    refine bodyPost_ret (res_of Try.results42 _ _ rfl rfl hb') rfl ?_
    exact ⟨rfl, HX'.out⟩
  · cases y1 : (y != (t : Int) + 1)
    · go_wp2_with first | (with_reducible refine wpList_get rfl _ rfl w.heap.size _ rfl HB.out ?_; go_frame) | (with_reducible refine wpList_put rfl _ _ rfl (w.heap.size + 1 + 1) S rfl rfl zz HR.out HZ.out ?_; intro w' hb' hc' hs'; have HX' := hide (HX.out.turn hc' (by simp; omega)); clear hc' hs'; go_frame) | go_in
      refine bodyPost_ret (res_of Try.results42 _ _ rfl rfl hb') rfl ?_
      exact ⟨rfl, HX'.out⟩
    · go_wp2_with first | (with_reducible refine wpList_get rfl _ rfl w.heap.size _ rfl HB.out ?_; go_frame) | (with_reducible refine wpList_put rfl _ _ rfl (w.heap.size + 1 + 1) S rfl rfl zz HR.out HZ.out ?_; intro w' hb' hc' hs'; have HX' := hide (HX.out.turn hc' (by simp; omega)); clear hc' hs'; go_frame) | go_in
      refine bodyPost_ret (res_of Try.results42 _ _ rfl rfl hb') rfl ?_
      exact ⟨rfl, HX'.out⟩
theorem renter_10 {S : St} (ok : Ok S) (k : Int) {t o : Nat} (a : Int) (ht : t < S.N) (ho : o < S.M) {b : Bool} (E : Hid (b = (S.own o + 1 == (t : Int) + 1 && decide ((S.K : Int) ≤ S.cnt o)))) (w : World) :
    Calls Try.prog 42 #[.agg (rc S), (Value.agg #[Value.int .i64 k, .int .i64 (t : Int), .int .i64 (o : Int), .int .i64 a, .int .i64 10])] w fun e w' => e = .returned (.tuple #[.agg (rc S), .bool b]) ∧ Ext w w' := by
  have n1 := ok.n1
  have m1 := ok.m1
  have ho8 : o < 8 := by omega
  have ht8 : t < 8 := by omega
  have i8 : (o : Int) < 8 := by omega
  have j8 : (t : Int) < 8 := by omega
  obtain ⟨zz, hz1, hz2, hz3, hz4, -⟩ : ∃ zz : Array Value, (∀ w, (zeroValue 47).run Try.prog w = .ok (.agg zz) w) ∧ ¬ zz = #[] ∧ ¬ zz.size < 2 ∧ zz.size = 227 ∧ zz = zr := ⟨_, fun w => by kernel_rfl, by decide +kernel, by decide +kernel, by decide +kernel, rfl⟩
  have HZ := hide hz4
  clear hz4
  go_enter Try.func42, Try.ntmps42
  go_wp2_with fail
  have HB := hide (((Blk.new w (rc S) 47).ext (Ext.alloc _ (.cells #[Value.int .i64 k, .int .i64 (t : Int), .int .i64 (o : Int), .int .i64 a, .int .i64 10] 29))).ext (Ext.alloc _ (.cells zz 47)))
  have HE := Blk.new (w.alloc (.cells (rc S) 47)) #[Value.int .i64 k, .int .i64 (t : Int), .int .i64 (o : Int), .int .i64 a, .int .i64 10] 29
  rw [World.size_alloc] at HE
  have HE := hide (HE.ext (Ext.alloc _ (.cells zz 47)))
  have HR := Blk.new ((w.alloc (.cells (rc S) 47)).alloc (.cells #[Value.int .i64 k, .int .i64 (t : Int), .int .i64 (o : Int), .int .i64 a, .int .i64 10] 29)) zz 47
  rw [World.size_alloc, World.size_alloc] at HR
  have HR := hide HR
  have HX := hide (((Ext.alloc w (.cells (rc S) 47)).trans (Ext.alloc _ (.cells #[Value.int .i64 k, .int .i64 (t : Int), .int .i64 (o : Int), .int .i64 a, .int .i64 10] 29))).trans (Ext.alloc _ (.cells zz 47)))
  generalize (((w.alloc (.cells (rc S) 47)).alloc (.cells #[Value.int .i64 k, .int .i64 (t : Int), .int .i64 (o : Int), .int .i64 a, .int .i64 10] 29)).alloc (.cells zz 47)) = W0 at *
  clear hz1 hz2 hz3
  have re := (HE.out.ext (Ext.drew W0)).cell
  go_region
  clear re
  have HB := hide (HB.out.ext (Ext.drew W0))
  have HE := hide (HE.out.ext (Ext.drew W0))
  have HR := hide (HR.out.ext (Ext.drew W0))
  have HX := hide (HX.out.trans (Ext.drew W0))
  generalize W0.drew = W0 at *
  have re := HE.out.cell
  have r1 : W0.cell? ⟨w.heap.size, 3 + o, none⟩ = some (.int .i64 (S.own o + 1)) := by rw [HB.out.cell]; exact rc_own ho8
  have r2 : W0.cell? ⟨w.heap.size, 11 + o, none⟩ = some (.int .i64 (S.cnt o)) := by rw [HB.out.cell]; exact rc_cnt ho8
  have r3 : W0.cell? ⟨w.heap.size, 2, none⟩ = some (.int .i64 (S.K : Int)) := by rw [HB.out.cell]; exact rc_at (by omega)
  generalize S.own o + 1 = y at *
  have R1 : Hid ((rc S)[3 + o]? = some (.int .i64 y)) := hide (by rw [← HB.out.cell]; exact r1)
  have R2 : Hid ((rc S)[11 + o]? = some (.int .i64 (S.cnt o))) := hide (rc_cnt ho8)
  have R3 : Hid ((rc S)[2]? = some (.int .i64 (S.K : Int))) := hide (rc_at (by omega))
  generalize (S.K : Int) = kk at *
  generalize S.cnt o = cc at *
  cases y0 : (y != 0)
  · have y1 : (y == (t : Int) + 1) = false := by simp at y0 ⊢; omega
    go_wp2_with fail
    clear re r1 r2 r3
    have HB := hide (HB.out.ext (Ext.drew W0))
    have HE := hide (HE.out.ext (Ext.drew W0))
    have HR := hide (HR.out.ext (Ext.drew W0))
    have HX := hide (HX.out.trans (Ext.drew W0))
    refine wp_region_held_drew (S := fun w' => w'.rangeAt w.heap.size 0 (rc S).toList ∧ (w'.cell? ⟨w.heap.size, 3 + o, none⟩ = some (.int .i64 y) ∧ w'.cell? ⟨w.heap.size, 11 + o, none⟩ = some (.int .i64 cc) ∧ w'.cell? ⟨w.heap.size, 2, none⟩ = some (.int .i64 kk))) (by kernel_rfl) (by exact ⟨rc_rng HB.out, by rw [HB.out.cell]; exact R1.out, by rw [HB.out.cell]; exact R2.out, by rw [HB.out.cell]; exact R3.out⟩) (fun hHeld => ?_)
    generalize W0.drew = W0 at *
    refine wpAnyH_take (i := 0) (at_drop rfl) (by kernel_rfl) (by kernel_rfl) (by kernel_rfl) (fun _ _ _ h => h) (yieldsIf_load_mid (by rfl) 47 _ rfl w.heap.size 0 rfl (rc S).toList _ (fun w h => h.1) Try.underlying47 rfl (inf_rm S)) (by assumption) ?_
    rw [Array.toArray_toList]
    (try simp only [Act.put, List.setIfInBounds_toArray, List.set_cons_zero, List.set_cons_succ])
    (refine held_take (i := 1) (v := ?_) rfl (by kernel_rfl) (by kernel_rfl) (by kernel_rfl) (fun _ _ _ h => h) (by rfl) ?_ (by assumption) ?_; rotate_left; (intro w hSw; (try dsimp only at hSw); (first | (go_simp; done) | (go_simp; with_reducible rfl))); (try simp only [Act.put, List.setIfInBounds_toArray, List.set_cons_zero, List.set_cons_succ]))
    (refine held_take (i := 2) (v := ?_) rfl (by kernel_rfl) (by kernel_rfl) (by kernel_rfl) (fun _ _ _ h => h) (by rfl) ?_ (by assumption) ?_; rotate_left; (intro w hSw; (try dsimp only at hSw); (first | (go_simp; done) | (go_simp; with_reducible rfl))); (try simp only [Act.put, List.setIfInBounds_toArray, List.set_cons_zero, List.set_cons_succ]))
    (refine held_take (i := 3) (v := ?_) rfl (by kernel_rfl) (by kernel_rfl) (by kernel_rfl) (fun _ _ _ h => h) (by rfl) ?_ (by assumption) ?_; rotate_left; (intro w hSw; (try dsimp only at hSw); (first | (go_simp; done) | (go_simp; with_reducible rfl))); (try simp only [Act.put, List.setIfInBounds_toArray, List.set_cons_zero, List.set_cons_succ]))
    (refine held_take (i := 4) (v := ?_) rfl (by kernel_rfl) (by kernel_rfl) (by kernel_rfl) (fun _ _ _ h => h) (by rfl) ?_ (by assumption) ?_; rotate_left; (intro w hSw; (try dsimp only at hSw); (first | (go_simp; done) | (go_simp; with_reducible rfl))); (try simp only [Act.put, List.setIfInBounds_toArray, List.set_cons_zero, List.set_cons_succ]))
    (refine held_take (i := 5) (v := ?_) rfl (by kernel_rfl) (by kernel_rfl) (by kernel_rfl) (fun _ _ _ h => h) (by rfl) ?_ (by assumption) ?_; rotate_left; (intro w hSw; (try dsimp only at hSw); (first | (go_simp; done) | (go_simp; with_reducible rfl))); (try simp only [Act.put, List.setIfInBounds_toArray, List.set_cons_zero, List.set_cons_succ]))
    (refine held_take (i := 6) (v := ?_) rfl (by kernel_rfl) (by kernel_rfl) (by kernel_rfl) (fun _ _ _ h => h) (by rfl) ?_ (by assumption) ?_; rotate_left; (intro w hSw; (try dsimp only at hSw); (first | (go_simp; done) | (go_simp; with_reducible rfl))); (try simp only [Act.put, List.setIfInBounds_toArray, List.set_cons_zero, List.set_cons_succ]))
    (refine held_take (i := 7) (v := ?_) rfl (by kernel_rfl) (by kernel_rfl) (by kernel_rfl) (fun _ _ _ h => h) (by rfl) ?_ (by assumption) ?_; rotate_left; (intro w hSw; (try dsimp only at hSw); (first | (go_simp; done) | (go_simp; with_reducible rfl))); (try simp only [Act.put, List.setIfInBounds_toArray, List.set_cons_zero, List.set_cons_succ]))
    (refine held_skip (i := 8) rfl (by kernel_rfl) (by kernel_rfl) (by kernel_rfl) (fun _ _ _ h => h) (by rfl) (by assumption) ?_; (try simp only [Act.put, List.setIfInBounds_toArray, List.set_cons_zero, List.set_cons_succ]))
    (refine held_skip (i := 9) rfl (by kernel_rfl) (by kernel_rfl) (by kernel_rfl) (fun _ _ _ h => h) (by rfl) (by assumption) ?_; (try simp only [Act.put, List.setIfInBounds_toArray, List.set_cons_zero, List.set_cons_succ]))
    (refine held_skip (i := 10) rfl (by kernel_rfl) (by kernel_rfl) (by kernel_rfl) (fun _ _ _ h => h) (by rfl) (by assumption) ?_; (try simp only [Act.put, List.setIfInBounds_toArray, List.set_cons_zero, List.set_cons_succ]))
    (refine held_skip (i := 11) rfl (by kernel_rfl) (by kernel_rfl) (by kernel_rfl) (fun _ _ _ h => h) (by rfl) (by assumption) ?_; (try simp only [Act.put, List.setIfInBounds_toArray, List.set_cons_zero, List.set_cons_succ]))
    (refine held_skip (i := 12) rfl (by kernel_rfl) (by kernel_rfl) (by kernel_rfl) (fun _ _ _ h => h) (by rfl) (by assumption) ?_; (try simp only [Act.put, List.setIfInBounds_toArray, List.set_cons_zero, List.set_cons_succ]))
    (refine held_skip (i := 13) rfl (by kernel_rfl) (by kernel_rfl) (by kernel_rfl) (fun _ _ _ h => h) (by rfl) (by assumption) ?_; (try simp only [Act.put, List.setIfInBounds_toArray, List.set_cons_zero, List.set_cons_succ]))
    (refine held_skip (i := 14) rfl (by kernel_rfl) (by kernel_rfl) (by kernel_rfl) (fun _ _ _ h => h) (by rfl) (by assumption) ?_; (try simp only [Act.put, List.setIfInBounds_toArray, List.set_cons_zero, List.set_cons_succ]))
    (refine held_take (i := 15) (v := ?_) rfl (by kernel_rfl) (by kernel_rfl) (by kernel_rfl) (fun _ _ _ h => h) (by rfl) ?_ (by assumption) ?_; rotate_left; (intro w hSw; (try dsimp only at hSw); (first | (go_simp; done) | (go_simp; with_reducible rfl))); (try simp only [Act.put, List.setIfInBounds_toArray, List.set_cons_zero, List.set_cons_succ]))
    refine wpAnyH_ready (rs := [16]) (by kernel_rfl) (by simp) (held_cons rfl (fun K hK => ?_) AllReadyH.nil)
    rw [if_pos (by rfl)]
    refine wp_store_row 47 _ _ rfl (w.heap.size + 1 + 1) (rc S) rfl rfl 47 zz HR.out (by rw [rc_size]; exact inf_rz) (by rw [HZ.out, rc_size]) (all_rc S) ?_
    have hb' := setRow_heap W0 (w.heap.size + 1 + 1) zz (rc S) 47 _ HR.out
    have hc' := Chg.row (cs := rc S) HR.out
    have HX' := hide (HX.out.turn hc' (by simp; omega))
    have HB' := hide (HB.out.chg hc' (by simp; omega))
    have HE' := hide (HE.out.chg hc' (by simp))
    clear hc'
    generalize W0.setRow (w.heap.size + 1 + 1) (rc S) = w' at *
    (refine hK.out _ _ ?_ (fun hHeld => ?_))
    · exact ⟨rc_rng HB'.out, by rw [HB'.out.cell]; exact R1.out, by rw [HB'.out.cell]; exact R2.out, by rw [HB'.out.cell]; exact R3.out⟩
    (try simp only [Act.put, List.setIfInBounds_toArray, List.set_cons_zero, List.set_cons_succ])
    (refine held_take (i := 17) (v := ?_) rfl (by kernel_rfl) (by kernel_rfl) (by kernel_rfl) (fun _ _ _ h => h) (by rfl) ?_ (by assumption) ?_; rotate_left; (intro w hSw; (try dsimp only at hSw); (first | (go_simp; done) | (go_simp; with_reducible rfl))); (try simp only [Act.put, List.setIfInBounds_toArray, List.set_cons_zero, List.set_cons_succ]))
    refine wpAnyH_done (by kernel_rfl) ?_ _
    go_wp2_with fail
    refine bodyPost_ret (res_of Try.results42 _ _ rfl rfl hb') rfl ?_
    exact ⟨by rw [E.out, y1]; simp, HX'.out⟩
  · cases y1 : (y == (t : Int) + 1)
    · have y2 : (y != (t : Int) + 1) = true := by rw [bne, y1]; rfl
      go_wp2_with fail
      clear re r1 r2 r3
      have HB := hide (HB.out.ext (Ext.drew W0))
      have HE := hide (HE.out.ext (Ext.drew W0))
      have HR := hide (HR.out.ext (Ext.drew W0))
      have HX := hide (HX.out.trans (Ext.drew W0))
      refine wp_region_held_drew (S := fun w' => w'.rangeAt w.heap.size 0 (rc S).toList ∧ (w'.cell? ⟨w.heap.size, 3 + o, none⟩ = some (.int .i64 y) ∧ w'.cell? ⟨w.heap.size, 11 + o, none⟩ = some (.int .i64 cc) ∧ w'.cell? ⟨w.heap.size, 2, none⟩ = some (.int .i64 kk))) (by kernel_rfl) (by exact ⟨rc_rng HB.out, by rw [HB.out.cell]; exact R1.out, by rw [HB.out.cell]; exact R2.out, by rw [HB.out.cell]; exact R3.out⟩) (fun hHeld => ?_)
      generalize W0.drew = W0 at *
      refine wpAnyH_take (i := 0) (at_drop rfl) (by kernel_rfl) (by kernel_rfl) (by kernel_rfl) (fun _ _ _ h => h) (yieldsIf_load_mid (by rfl) 47 _ rfl w.heap.size 0 rfl (rc S).toList _ (fun w h => h.1) Try.underlying47 rfl (inf_rm S)) (by assumption) ?_
      rw [Array.toArray_toList]
      (try simp only [Act.put, List.setIfInBounds_toArray, List.set_cons_zero, List.set_cons_succ])
      (refine held_take (i := 1) (v := ?_) rfl (by kernel_rfl) (by kernel_rfl) (by kernel_rfl) (fun _ _ _ h => h) (by rfl) ?_ (by assumption) ?_; rotate_left; (intro w hSw; (try dsimp only at hSw); (first | (go_simp; done) | (go_simp; with_reducible rfl))); (try simp only [Act.put, List.setIfInBounds_toArray, List.set_cons_zero, List.set_cons_succ]))
      (refine held_take (i := 2) (v := ?_) rfl (by kernel_rfl) (by kernel_rfl) (by kernel_rfl) (fun _ _ _ h => h) (by rfl) ?_ (by assumption) ?_; rotate_left; (intro w hSw; (try dsimp only at hSw); (first | (go_simp; done) | (go_simp; with_reducible rfl))); (try simp only [Act.put, List.setIfInBounds_toArray, List.set_cons_zero, List.set_cons_succ]))
      (refine held_take (i := 3) (v := ?_) rfl (by kernel_rfl) (by kernel_rfl) (by kernel_rfl) (fun _ _ _ h => h) (by rfl) ?_ (by assumption) ?_; rotate_left; (intro w hSw; (try dsimp only at hSw); (first | (go_simp; done) | (go_simp; with_reducible rfl))); (try simp only [Act.put, List.setIfInBounds_toArray, List.set_cons_zero, List.set_cons_succ]))
      (refine held_take (i := 4) (v := ?_) rfl (by kernel_rfl) (by kernel_rfl) (by kernel_rfl) (fun _ _ _ h => h) (by rfl) ?_ (by assumption) ?_; rotate_left; (intro w hSw; (try dsimp only at hSw); (first | (go_simp; done) | (go_simp; with_reducible rfl))); (try simp only [Act.put, List.setIfInBounds_toArray, List.set_cons_zero, List.set_cons_succ]))
      (refine held_take (i := 5) (v := ?_) rfl (by kernel_rfl) (by kernel_rfl) (by kernel_rfl) (fun _ _ _ h => h) (by rfl) ?_ (by assumption) ?_; rotate_left; (intro w hSw; (try dsimp only at hSw); (first | (go_simp; done) | (go_simp; with_reducible rfl))); (try simp only [Act.put, List.setIfInBounds_toArray, List.set_cons_zero, List.set_cons_succ]))
      (refine held_take (i := 6) (v := ?_) rfl (by kernel_rfl) (by kernel_rfl) (by kernel_rfl) (fun _ _ _ h => h) (by rfl) ?_ (by assumption) ?_; rotate_left; (intro w hSw; (try dsimp only at hSw); (first | (go_simp; done) | (go_simp; with_reducible rfl))); (try simp only [Act.put, List.setIfInBounds_toArray, List.set_cons_zero, List.set_cons_succ]))
      (refine held_take (i := 7) (v := ?_) rfl (by kernel_rfl) (by kernel_rfl) (by kernel_rfl) (fun _ _ _ h => h) (by rfl) ?_ (by assumption) ?_; rotate_left; (intro w hSw; (try dsimp only at hSw); (first | (go_simp; done) | (go_simp; with_reducible rfl))); (try simp only [Act.put, List.setIfInBounds_toArray, List.set_cons_zero, List.set_cons_succ]))
      (refine held_skip (i := 8) rfl (by kernel_rfl) (by kernel_rfl) (by kernel_rfl) (fun _ _ _ h => h) (by rfl) (by assumption) ?_; (try simp only [Act.put, List.setIfInBounds_toArray, List.set_cons_zero, List.set_cons_succ]))
      (refine held_skip (i := 9) rfl (by kernel_rfl) (by kernel_rfl) (by kernel_rfl) (fun _ _ _ h => h) (by rfl) (by assumption) ?_; (try simp only [Act.put, List.setIfInBounds_toArray, List.set_cons_zero, List.set_cons_succ]))
      (refine held_skip (i := 10) rfl (by kernel_rfl) (by kernel_rfl) (by kernel_rfl) (fun _ _ _ h => h) (by rfl) (by assumption) ?_; (try simp only [Act.put, List.setIfInBounds_toArray, List.set_cons_zero, List.set_cons_succ]))
      (refine held_skip (i := 11) rfl (by kernel_rfl) (by kernel_rfl) (by kernel_rfl) (fun _ _ _ h => h) (by rfl) (by assumption) ?_; (try simp only [Act.put, List.setIfInBounds_toArray, List.set_cons_zero, List.set_cons_succ]))
      (refine held_skip (i := 12) rfl (by kernel_rfl) (by kernel_rfl) (by kernel_rfl) (fun _ _ _ h => h) (by rfl) (by assumption) ?_; (try simp only [Act.put, List.setIfInBounds_toArray, List.set_cons_zero, List.set_cons_succ]))
      (refine held_skip (i := 13) rfl (by kernel_rfl) (by kernel_rfl) (by kernel_rfl) (fun _ _ _ h => h) (by rfl) (by assumption) ?_; (try simp only [Act.put, List.setIfInBounds_toArray, List.set_cons_zero, List.set_cons_succ]))
      (refine held_skip (i := 14) rfl (by kernel_rfl) (by kernel_rfl) (by kernel_rfl) (fun _ _ _ h => h) (by rfl) (by assumption) ?_; (try simp only [Act.put, List.setIfInBounds_toArray, List.set_cons_zero, List.set_cons_succ]))
      (refine held_take (i := 15) (v := ?_) rfl (by kernel_rfl) (by kernel_rfl) (by kernel_rfl) (fun _ _ _ h => h) (by rfl) ?_ (by assumption) ?_; rotate_left; (intro w hSw; (try dsimp only at hSw); (first | (go_simp; done) | (go_simp; with_reducible rfl))); (try simp only [Act.put, List.setIfInBounds_toArray, List.set_cons_zero, List.set_cons_succ]))
      refine wpAnyH_ready (rs := [16]) (by kernel_rfl) (by simp) (held_cons rfl (fun K hK => ?_) AllReadyH.nil)
      rw [if_pos (by rfl)]
      refine wp_store_row 47 _ _ rfl (w.heap.size + 1 + 1) (rc S) rfl rfl 47 zz HR.out (by rw [rc_size]; exact inf_rz) (by rw [HZ.out, rc_size]) (all_rc S) ?_
      have hb' := setRow_heap W0 (w.heap.size + 1 + 1) zz (rc S) 47 _ HR.out
      have hc' := Chg.row (cs := rc S) HR.out
      have HX' := hide (HX.out.turn hc' (by simp; omega))
      have HB' := hide (HB.out.chg hc' (by simp; omega))
      have HE' := hide (HE.out.chg hc' (by simp))
      clear hc'
      generalize W0.setRow (w.heap.size + 1 + 1) (rc S) = w' at *
      (refine hK.out _ _ ?_ (fun hHeld => ?_))
      · exact ⟨rc_rng HB'.out, by rw [HB'.out.cell]; exact R1.out, by rw [HB'.out.cell]; exact R2.out, by rw [HB'.out.cell]; exact R3.out⟩
      (try simp only [Act.put, List.setIfInBounds_toArray, List.set_cons_zero, List.set_cons_succ])
      (refine held_take (i := 17) (v := ?_) rfl (by kernel_rfl) (by kernel_rfl) (by kernel_rfl) (fun _ _ _ h => h) (by rfl) ?_ (by assumption) ?_; rotate_left; (intro w hSw; (try dsimp only at hSw); (first | (go_simp; done) | (go_simp; with_reducible rfl))); (try simp only [Act.put, List.setIfInBounds_toArray, List.set_cons_zero, List.set_cons_succ]))
      refine wpAnyH_done (by kernel_rfl) ?_ _
      go_wp2_with fail
      refine bodyPost_ret (res_of Try.results42 _ _ rfl rfl hb') rfl ?_
      exact ⟨by rw [E.out, y1]; simp, HX'.out⟩
    · have y2 : (y != (t : Int) + 1) = false := by rw [bne, y1]; rfl
      go_wp2_with fail
      clear re r1 r2 r3
      have HB := hide (HB.out.ext (Ext.drew W0))
      have HE := hide (HE.out.ext (Ext.drew W0))
      have HR := hide (HR.out.ext (Ext.drew W0))
      have HX := hide (HX.out.trans (Ext.drew W0))
      refine wp_region_held_drew (S := fun w' => w'.rangeAt w.heap.size 0 (rc S).toList ∧ (w'.cell? ⟨w.heap.size, 3 + o, none⟩ = some (.int .i64 y) ∧ w'.cell? ⟨w.heap.size, 11 + o, none⟩ = some (.int .i64 cc) ∧ w'.cell? ⟨w.heap.size, 2, none⟩ = some (.int .i64 kk))) (by kernel_rfl) (by exact ⟨rc_rng HB.out, by rw [HB.out.cell]; exact R1.out, by rw [HB.out.cell]; exact R2.out, by rw [HB.out.cell]; exact R3.out⟩) (fun hHeld => ?_)
      generalize W0.drew = W0 at *
      refine wpAnyH_take (i := 0) (at_drop rfl) (by kernel_rfl) (by kernel_rfl) (by kernel_rfl) (fun _ _ _ h => h) (yieldsIf_load_mid (by rfl) 47 _ rfl w.heap.size 0 rfl (rc S).toList _ (fun w h => h.1) Try.underlying47 rfl (inf_rm S)) (by assumption) ?_
      rw [Array.toArray_toList]
      (try simp only [Act.put, List.setIfInBounds_toArray, List.set_cons_zero, List.set_cons_succ])
      (refine held_take (i := 1) (v := ?_) rfl (by kernel_rfl) (by kernel_rfl) (by kernel_rfl) (fun _ _ _ h => h) (by rfl) ?_ (by assumption) ?_; rotate_left; (intro w hSw; (try dsimp only at hSw); (first | (go_simp; done) | (go_simp; with_reducible rfl))); (try simp only [Act.put, List.setIfInBounds_toArray, List.set_cons_zero, List.set_cons_succ]))
      (refine held_take (i := 2) (v := ?_) rfl (by kernel_rfl) (by kernel_rfl) (by kernel_rfl) (fun _ _ _ h => h) (by rfl) ?_ (by assumption) ?_; rotate_left; (intro w hSw; (try dsimp only at hSw); (first | (go_simp; done) | (go_simp; with_reducible rfl))); (try simp only [Act.put, List.setIfInBounds_toArray, List.set_cons_zero, List.set_cons_succ]))
      (refine held_take (i := 3) (v := ?_) rfl (by kernel_rfl) (by kernel_rfl) (by kernel_rfl) (fun _ _ _ h => h) (by rfl) ?_ (by assumption) ?_; rotate_left; (intro w hSw; (try dsimp only at hSw); (first | (go_simp; done) | (go_simp; with_reducible rfl))); (try simp only [Act.put, List.setIfInBounds_toArray, List.set_cons_zero, List.set_cons_succ]))
      (refine held_take (i := 4) (v := ?_) rfl (by kernel_rfl) (by kernel_rfl) (by kernel_rfl) (fun _ _ _ h => h) (by rfl) ?_ (by assumption) ?_; rotate_left; (intro w hSw; (try dsimp only at hSw); (first | (go_simp; done) | (go_simp; with_reducible rfl))); (try simp only [Act.put, List.setIfInBounds_toArray, List.set_cons_zero, List.set_cons_succ]))
      (refine held_take (i := 5) (v := ?_) rfl (by kernel_rfl) (by kernel_rfl) (by kernel_rfl) (fun _ _ _ h => h) (by rfl) ?_ (by assumption) ?_; rotate_left; (intro w hSw; (try dsimp only at hSw); (first | (go_simp; done) | (go_simp; with_reducible rfl))); (try simp only [Act.put, List.setIfInBounds_toArray, List.set_cons_zero, List.set_cons_succ]))
      (refine held_take (i := 6) (v := ?_) rfl (by kernel_rfl) (by kernel_rfl) (by kernel_rfl) (fun _ _ _ h => h) (by rfl) ?_ (by assumption) ?_; rotate_left; (intro w hSw; (try dsimp only at hSw); (first | (go_simp; done) | (go_simp; with_reducible rfl))); (try simp only [Act.put, List.setIfInBounds_toArray, List.set_cons_zero, List.set_cons_succ]))
      (refine held_take (i := 7) (v := ?_) rfl (by kernel_rfl) (by kernel_rfl) (by kernel_rfl) (fun _ _ _ h => h) (by rfl) ?_ (by assumption) ?_; rotate_left; (intro w hSw; (try dsimp only at hSw); (first | (go_simp; done) | (go_simp; with_reducible rfl))); (try simp only [Act.put, List.setIfInBounds_toArray, List.set_cons_zero, List.set_cons_succ]))
      (refine held_take (i := 8) (v := ?_) rfl (by kernel_rfl) (by kernel_rfl) (by kernel_rfl) (fun _ _ _ h => h) (by rfl) ?_ (by assumption) ?_; rotate_left; (intro w hSw; (try dsimp only at hSw); (first | (go_simp; done) | (go_simp; with_reducible rfl))); (try simp only [Act.put, List.setIfInBounds_toArray, List.set_cons_zero, List.set_cons_succ]))
      (refine held_take (i := 9) (v := ?_) rfl (by kernel_rfl) (by kernel_rfl) (by kernel_rfl) (fun _ _ _ h => h) (by rfl) ?_ (by assumption) ?_; rotate_left; (intro w hSw; (try dsimp only at hSw); (first | (go_simp; done) | (go_simp; with_reducible rfl))); (try simp only [Act.put, List.setIfInBounds_toArray, List.set_cons_zero, List.set_cons_succ]))
      (refine held_take (i := 10) (v := ?_) rfl (by kernel_rfl) (by kernel_rfl) (by kernel_rfl) (fun _ _ _ h => h) (by rfl) ?_ (by assumption) ?_; rotate_left; (intro w hSw; (try dsimp only at hSw); (first | (go_simp; done) | (go_simp; with_reducible rfl))); (try simp only [Act.put, List.setIfInBounds_toArray, List.set_cons_zero, List.set_cons_succ]))
      (refine held_take (i := 11) (v := ?_) rfl (by kernel_rfl) (by kernel_rfl) (by kernel_rfl) (fun _ _ _ h => h) (by rfl) ?_ (by assumption) ?_; rotate_left; (intro w hSw; (try dsimp only at hSw); (first | (go_simp; done) | (go_simp; with_reducible rfl))); (try simp only [Act.put, List.setIfInBounds_toArray, List.set_cons_zero, List.set_cons_succ]))
      (refine held_take (i := 12) (v := ?_) rfl (by kernel_rfl) (by kernel_rfl) (by kernel_rfl) (fun _ _ _ h => h) (by rfl) ?_ (by assumption) ?_; rotate_left; (intro w hSw; (try dsimp only at hSw); (first | (go_simp; done) | (go_simp; with_reducible rfl))); (try simp only [Act.put, List.setIfInBounds_toArray, List.set_cons_zero, List.set_cons_succ]))
      (refine held_take (i := 13) (v := ?_) rfl (by kernel_rfl) (by kernel_rfl) (by kernel_rfl) (fun _ _ _ h => h) (by rfl) ?_ (by assumption) ?_; rotate_left; (intro w hSw; (try dsimp only at hSw); (first | (go_simp; done) | (go_simp; with_reducible rfl))); (try simp only [Act.put, List.setIfInBounds_toArray, List.set_cons_zero, List.set_cons_succ]))
      (refine held_take (i := 14) (v := ?_) rfl (by kernel_rfl) (by kernel_rfl) (by kernel_rfl) (fun _ _ _ h => h) (by rfl) ?_ (by assumption) ?_; rotate_left; (intro w hSw; (try dsimp only at hSw); (first | (go_simp; done) | (go_simp; with_reducible rfl))); (try simp only [Act.put, List.setIfInBounds_toArray, List.set_cons_zero, List.set_cons_succ]))
      (refine held_take (i := 15) (v := ?_) rfl (by kernel_rfl) (by kernel_rfl) (by kernel_rfl) (fun _ _ _ h => h) (by rfl) ?_ (by assumption) ?_; rotate_left; (intro w hSw; (try dsimp only at hSw); (first | (go_simp; done) | (go_simp; with_reducible rfl))); (try simp only [Act.put, List.setIfInBounds_toArray, List.set_cons_zero, List.set_cons_succ]))
      refine wpAnyH_ready (rs := [16]) (by kernel_rfl) (by simp) (held_cons rfl (fun K hK => ?_) AllReadyH.nil)
      rw [if_pos (by rfl)]
      refine wp_store_row 47 _ _ rfl (w.heap.size + 1 + 1) (rc S) rfl rfl 47 zz HR.out (by rw [rc_size]; exact inf_rz) (by rw [HZ.out, rc_size]) (all_rc S) ?_
      have hb' := setRow_heap W0 (w.heap.size + 1 + 1) zz (rc S) 47 _ HR.out
      have hc' := Chg.row (cs := rc S) HR.out
      have HX' := hide (HX.out.turn hc' (by simp; omega))
      have HB' := hide (HB.out.chg hc' (by simp; omega))
      have HE' := hide (HE.out.chg hc' (by simp))
      clear hc'
      generalize W0.setRow (w.heap.size + 1 + 1) (rc S) = w' at *
      (refine hK.out _ _ ?_ (fun hHeld => ?_))
      · exact ⟨rc_rng HB'.out, by rw [HB'.out.cell]; exact R1.out, by rw [HB'.out.cell]; exact R2.out, by rw [HB'.out.cell]; exact R3.out⟩
      (try simp only [Act.put, List.setIfInBounds_toArray, List.set_cons_zero, List.set_cons_succ])
      (refine held_take (i := 17) (v := ?_) rfl (by kernel_rfl) (by kernel_rfl) (by kernel_rfl) (fun _ _ _ h => h) (by rfl) ?_ (by assumption) ?_; rotate_left; (intro w hSw; (try dsimp only at hSw); (first | (go_simp; done) | (go_simp; with_reducible rfl))); (try simp only [Act.put, List.setIfInBounds_toArray, List.set_cons_zero, List.set_cons_succ]))
      refine wpAnyH_done (by kernel_rfl) ?_ _
      go_wp2_with fail
      refine bodyPost_ret (res_of Try.results42 _ _ rfl rfl hb') rfl ?_
      exact ⟨by rw [E.out, y1]; simp, HX'.out⟩
theorem renter_11 {S : St} (ok : Ok S) (k : Int) {t o : Nat} (a : Int) (ht : t < S.N) (ho : o < S.M) {b : Bool} (E : Hid (b = (k == 1 && (S.own o + 1 != 0 && S.own o + 1 != (t : Int) + 1)))) (w : World) :
    Calls Try.prog 42 #[.agg (rc S), (Value.agg #[Value.int .i64 k, .int .i64 (t : Int), .int .i64 (o : Int), .int .i64 a, .int .i64 11])] w fun e w' => e = .returned (.tuple #[.agg (rc S), .bool b]) ∧ Ext w w' := by
  have n1 := ok.n1
  have m1 := ok.m1
  have ho8 : o < 8 := by omega
  have ht8 : t < 8 := by omega
  have i8 : (o : Int) < 8 := by omega
  have j8 : (t : Int) < 8 := by omega
  obtain ⟨zz, hz1, hz2, hz3, hz4, -⟩ : ∃ zz : Array Value, (∀ w, (zeroValue 47).run Try.prog w = .ok (.agg zz) w) ∧ ¬ zz = #[] ∧ ¬ zz.size < 2 ∧ zz.size = 227 ∧ zz = zr := ⟨_, fun w => by kernel_rfl, by decide +kernel, by decide +kernel, by decide +kernel, rfl⟩
  have HZ := hide hz4
  clear hz4
  go_enter Try.func42, Try.ntmps42
  go_wp2_with fail
  have HB := hide (((Blk.new w (rc S) 47).ext (Ext.alloc _ (.cells #[Value.int .i64 k, .int .i64 (t : Int), .int .i64 (o : Int), .int .i64 a, .int .i64 11] 29))).ext (Ext.alloc _ (.cells zz 47)))
  have HE := Blk.new (w.alloc (.cells (rc S) 47)) #[Value.int .i64 k, .int .i64 (t : Int), .int .i64 (o : Int), .int .i64 a, .int .i64 11] 29
  rw [World.size_alloc] at HE
  have HE := hide (HE.ext (Ext.alloc _ (.cells zz 47)))
  have HR := Blk.new ((w.alloc (.cells (rc S) 47)).alloc (.cells #[Value.int .i64 k, .int .i64 (t : Int), .int .i64 (o : Int), .int .i64 a, .int .i64 11] 29)) zz 47
  rw [World.size_alloc, World.size_alloc] at HR
  have HR := hide HR
  have HX := hide (((Ext.alloc w (.cells (rc S) 47)).trans (Ext.alloc _ (.cells #[Value.int .i64 k, .int .i64 (t : Int), .int .i64 (o : Int), .int .i64 a, .int .i64 11] 29))).trans (Ext.alloc _ (.cells zz 47)))
  generalize (((w.alloc (.cells (rc S) 47)).alloc (.cells #[Value.int .i64 k, .int .i64 (t : Int), .int .i64 (o : Int), .int .i64 a, .int .i64 11] 29)).alloc (.cells zz 47)) = W0 at *
  clear hz1 hz2 hz3
  have re := (HE.out.ext (Ext.drew W0)).cell
  go_region
  clear re
  have HB := hide (HB.out.ext (Ext.drew W0))
  have HE := hide (HE.out.ext (Ext.drew W0))
  have HR := hide (HR.out.ext (Ext.drew W0))
  have HX := hide (HX.out.trans (Ext.drew W0))
  generalize W0.drew = W0 at *
  have re := HE.out.cell
  have r1 : W0.cell? ⟨w.heap.size, 3 + o, none⟩ = some (.int .i64 (S.own o + 1)) := by rw [HB.out.cell]; exact rc_own ho8
  have r2 : W0.cell? ⟨w.heap.size, 11 + o, none⟩ = some (.int .i64 (S.cnt o)) := by rw [HB.out.cell]; exact rc_cnt ho8
  have r3 : W0.cell? ⟨w.heap.size, 2, none⟩ = some (.int .i64 (S.K : Int)) := by rw [HB.out.cell]; exact rc_at (by omega)
  generalize S.own o + 1 = y at *
  cases y0 : (y != 0)
  · cases q : (k == 1)
    all_goals
      go_wp2_with first | (with_reducible refine wpList_get rfl _ rfl w.heap.size _ rfl HB.out ?_; go_frame) | (with_reducible refine wpList_put rfl _ _ rfl (w.heap.size + 1 + 1) S rfl rfl zz HR.out HZ.out ?_; intro w' hb' hc' hs'; have HX' := hide (HX.out.turn hc' (by simp; omega)); clear hc' hs'; go_frame) | go_in
      refine bodyPost_ret (res_of Try.results42 _ _ rfl rfl hb') rfl ?_
      exact ⟨by rw [E.out, y0, q]; rfl, HX'.out⟩
  · cases y1 : (y == (t : Int) + 1) <;> cases q : (k == 1)
    all_goals
      have y2 : (y != (t : Int) + 1) = !(y == (t : Int) + 1) := rfl
      rw [y1] at y2
      go_wp2_with first | (with_reducible refine wpList_get rfl _ rfl w.heap.size _ rfl HB.out ?_; go_frame) | (with_reducible refine wpList_put rfl _ _ rfl (w.heap.size + 1 + 1) S rfl rfl zz HR.out HZ.out ?_; intro w' hb' hc' hs'; have HX' := hide (HX.out.turn hc' (by simp; omega)); clear hc' hs'; go_frame) | go_in
      refine bodyPost_ret (res_of Try.results42 _ _ rfl rfl hb') rfl ?_
      exact ⟨by rw [E.out, y0, y2, q]; rfl, HX'.out⟩
theorem renter_14 {S : St} (ok : Ok S) (k : Int) {t o : Nat} (a : Int) (ht : t < S.N) (ho : o < S.M) {b : Bool} (E : Hid (b = (k == 2 && (S.own o + 1 != 0 && S.own o + 1 != (t : Int) + 1)))) (w : World) :
    Calls Try.prog 42 #[.agg (rc S), (Value.agg #[Value.int .i64 k, .int .i64 (t : Int), .int .i64 (o : Int), .int .i64 a, .int .i64 14])] w fun e w' => e = .returned (.tuple #[.agg (rc S), .bool b]) ∧ Ext w w' := by
  have n1 := ok.n1
  have m1 := ok.m1
  have ho8 : o < 8 := by omega
  have ht8 : t < 8 := by omega
  have i8 : (o : Int) < 8 := by omega
  have j8 : (t : Int) < 8 := by omega
  obtain ⟨zz, hz1, hz2, hz3, hz4, -⟩ : ∃ zz : Array Value, (∀ w, (zeroValue 47).run Try.prog w = .ok (.agg zz) w) ∧ ¬ zz = #[] ∧ ¬ zz.size < 2 ∧ zz.size = 227 ∧ zz = zr := ⟨_, fun w => by kernel_rfl, by decide +kernel, by decide +kernel, by decide +kernel, rfl⟩
  have HZ := hide hz4
  clear hz4
  go_enter Try.func42, Try.ntmps42
  go_wp2_with fail
  have HB := hide (((Blk.new w (rc S) 47).ext (Ext.alloc _ (.cells #[Value.int .i64 k, .int .i64 (t : Int), .int .i64 (o : Int), .int .i64 a, .int .i64 14] 29))).ext (Ext.alloc _ (.cells zz 47)))
  have HE := Blk.new (w.alloc (.cells (rc S) 47)) #[Value.int .i64 k, .int .i64 (t : Int), .int .i64 (o : Int), .int .i64 a, .int .i64 14] 29
  rw [World.size_alloc] at HE
  have HE := hide (HE.ext (Ext.alloc _ (.cells zz 47)))
  have HR := Blk.new ((w.alloc (.cells (rc S) 47)).alloc (.cells #[Value.int .i64 k, .int .i64 (t : Int), .int .i64 (o : Int), .int .i64 a, .int .i64 14] 29)) zz 47
  rw [World.size_alloc, World.size_alloc] at HR
  have HR := hide HR
  have HX := hide (((Ext.alloc w (.cells (rc S) 47)).trans (Ext.alloc _ (.cells #[Value.int .i64 k, .int .i64 (t : Int), .int .i64 (o : Int), .int .i64 a, .int .i64 14] 29))).trans (Ext.alloc _ (.cells zz 47)))
  generalize (((w.alloc (.cells (rc S) 47)).alloc (.cells #[Value.int .i64 k, .int .i64 (t : Int), .int .i64 (o : Int), .int .i64 a, .int .i64 14] 29)).alloc (.cells zz 47)) = W0 at *
  clear hz1 hz2 hz3
  have re := (HE.out.ext (Ext.drew W0)).cell
  go_region
  clear re
  have HB := hide (HB.out.ext (Ext.drew W0))
  have HE := hide (HE.out.ext (Ext.drew W0))
  have HR := hide (HR.out.ext (Ext.drew W0))
  have HX := hide (HX.out.trans (Ext.drew W0))
  generalize W0.drew = W0 at *
  have re := HE.out.cell
  have r1 : W0.cell? ⟨w.heap.size, 3 + o, none⟩ = some (.int .i64 (S.own o + 1)) := by rw [HB.out.cell]; exact rc_own ho8
  have r2 : W0.cell? ⟨w.heap.size, 11 + o, none⟩ = some (.int .i64 (S.cnt o)) := by rw [HB.out.cell]; exact rc_cnt ho8
  have r3 : W0.cell? ⟨w.heap.size, 2, none⟩ = some (.int .i64 (S.K : Int)) := by rw [HB.out.cell]; exact rc_at (by omega)
  generalize S.own o + 1 = y at *
  cases y0 : (y != 0)
  · cases q : (k == 2)
    all_goals
      go_wp2_with first | (with_reducible refine wpList_get rfl _ rfl w.heap.size _ rfl HB.out ?_; go_frame) | (with_reducible refine wpList_put rfl _ _ rfl (w.heap.size + 1 + 1) S rfl rfl zz HR.out HZ.out ?_; intro w' hb' hc' hs'; have HX' := hide (HX.out.turn hc' (by simp; omega)); clear hc' hs'; go_frame) | go_in
      refine bodyPost_ret (res_of Try.results42 _ _ rfl rfl hb') rfl ?_
      exact ⟨by rw [E.out, y0, q]; rfl, HX'.out⟩
  · cases y1 : (y == (t : Int) + 1) <;> cases q : (k == 2)
    all_goals
      have y2 : (y != (t : Int) + 1) = !(y == (t : Int) + 1) := rfl
      rw [y1] at y2
      go_wp2_with first | (with_reducible refine wpList_get rfl _ rfl w.heap.size _ rfl HB.out ?_; go_frame) | (with_reducible refine wpList_put rfl _ _ rfl (w.heap.size + 1 + 1) S rfl rfl zz HR.out HZ.out ?_; intro w' hb' hc' hs'; have HX' := hide (HX.out.turn hc' (by simp; omega)); clear hc' hs'; go_frame) | go_in
      refine bodyPost_ret (res_of Try.results42 _ _ rfl rfl hb') rfl ?_
      exact ⟨by rw [E.out, y0, y2, q]; rfl, HX'.out⟩
end Go.Proofs.Ytacneghgimfklaa

namespace Go.Proofs.Ytacneghgimfklaa
open Go.RowKit Go.Maps
set_option linter.unusedSimpArgs false
set_option linter.unusedVariables false
set_option maxRecDepth 100000
set_option maxHeartbeats 8000000



theorem renter_0n {S : St} (ok : Ok S) (k : Int) {t o : Nat} (a : Int) (ht : t < S.N) (ho : o < S.M) (E : ((S.own o + 1 != 0 && S.own o + 1 != (t : Int) + 1) || decide ((S.K : Int) ≤ S.cnt o)) = true) (w : World) :
    Calls Try.prog 42 #[.agg (rc S), (Value.agg #[Value.int .i64 k, .int .i64 (t : Int), .int .i64 (o : Int), .int .i64 a, .int .i64 0])] w fun e w' => e = .returned (.tuple #[.agg (rc S), .bool false]) ∧ Ext w w' := by
  have E := hide E
  have n1 := ok.n1
  have m1 := ok.m1
  have ho8 : o < 8 := by omega
  have ht8 : t < 8 := by omega
  have i8 : (o : Int) < 8 := by omega
  have j8 : (t : Int) < 8 := by omega
  obtain ⟨zz, hz1, hz2, hz3, hz4, -⟩ : ∃ zz : Array Value, (∀ w, (zeroValue 47).run Try.prog w = .ok (.agg zz) w) ∧ ¬ zz = #[] ∧ ¬ zz.size < 2 ∧ zz.size = 227 ∧ zz = zr := ⟨_, fun w => by kernel_rfl, by decide +kernel, by decide +kernel, by decide +kernel, rfl⟩
  have HZ := hide hz4
  clear hz4
  go_enter Try.func42, Try.ntmps42
  go_wp2_with fail
  have HB := hide (((Blk.new w (rc S) 47).ext (Ext.alloc _ (.cells #[Value.int .i64 k, .int .i64 (t : Int), .int .i64 (o : Int), .int .i64 a, .int .i64 0] 29))).ext (Ext.alloc _ (.cells zz 47)))
  have HE := Blk.new (w.alloc (.cells (rc S) 47)) #[Value.int .i64 k, .int .i64 (t : Int), .int .i64 (o : Int), .int .i64 a, .int .i64 0] 29
  rw [World.size_alloc] at HE
  have HE := hide (HE.ext (Ext.alloc _ (.cells zz 47)))
  have HR := Blk.new ((w.alloc (.cells (rc S) 47)).alloc (.cells #[Value.int .i64 k, .int .i64 (t : Int), .int .i64 (o : Int), .int .i64 a, .int .i64 0] 29)) zz 47
  rw [World.size_alloc, World.size_alloc] at HR
  have HR := hide HR
  have HX := hide (((Ext.alloc w (.cells (rc S) 47)).trans (Ext.alloc _ (.cells #[Value.int .i64 k, .int .i64 (t : Int), .int .i64 (o : Int), .int .i64 a, .int .i64 0] 29))).trans (Ext.alloc _ (.cells zz 47)))
  generalize (((w.alloc (.cells (rc S) 47)).alloc (.cells #[Value.int .i64 k, .int .i64 (t : Int), .int .i64 (o : Int), .int .i64 a, .int .i64 0] 29)).alloc (.cells zz 47)) = W0 at *
  clear hz1 hz2 hz3
  have re := (HE.out.ext (Ext.drew W0)).cell
  go_region
  clear re
  have HB := hide (HB.out.ext (Ext.drew W0))
  have HE := hide (HE.out.ext (Ext.drew W0))
  have HR := hide (HR.out.ext (Ext.drew W0))
  have HX := hide (HX.out.trans (Ext.drew W0))
  generalize W0.drew = W0 at *
  have re := HE.out.cell
  have r1 : W0.cell? ⟨w.heap.size, 3 + o, none⟩ = some (.int .i64 (S.own o + 1)) := by rw [HB.out.cell]; exact rc_own ho8
  have r2 : W0.cell? ⟨w.heap.size, 11 + o, none⟩ = some (.int .i64 (S.cnt o)) := by rw [HB.out.cell]; exact rc_cnt ho8
  have r3 : W0.cell? ⟨w.heap.size, 2, none⟩ = some (.int .i64 (S.K : Int)) := by rw [HB.out.cell]; exact rc_at (by omega)
  generalize S.own o + 1 = y at *
  have R1 : Hid ((rc S)[3 + o]? = some (.int .i64 y)) := hide (by rw [← HB.out.cell]; exact r1)
  have R2 : Hid ((rc S)[11 + o]? = some (.int .i64 (S.cnt o))) := hide (rc_cnt ho8)
  have R3 : Hid ((rc S)[2]? = some (.int .i64 (S.K : Int))) := hide (rc_at (by omega))
  generalize (S.K : Int) = kk at *
  generalize S.cnt o = cc at *
  cases y0 : (y != 0)
  · have q : decide (kk ≤ cc) = true := by have := E.out; rw [y0] at this; simpa using this
    go_wp2_with fail
    have hy := Ext.drew W0
    have s1 : W0.drew.cell? ⟨w.heap.size, 3 + o, none⟩ = some (.int .i64 y) := by rw [(HB.out.ext hy).cell]; exact R1.out
    have s2 : W0.drew.cell? ⟨w.heap.size, 11 + o, none⟩ = some (.int .i64 cc) := by rw [(HB.out.ext hy).cell]; exact R2.out
    have s3 : W0.drew.cell? ⟨w.heap.size, 2, none⟩ = some (.int .i64 kk) := by rw [(HB.out.ext hy).cell]; exact R3.out
    clear re r1 r2 r3
    go_region
    clear s1 s2 s3 hy
    have HB := hide (HB.out.ext (Ext.drew W0))
    have HE := hide (HE.out.ext (Ext.drew W0))
    have HR := hide (HR.out.ext (Ext.drew W0))
    have HX := hide (HX.out.trans (Ext.drew W0))
    generalize W0.drew = W0 at *
    go_wp2_with first | (with_reducible refine wpList_get rfl _ rfl w.heap.size _ rfl HB.out ?_; go_frame) | (with_reducible refine wpList_put rfl _ _ rfl (w.heap.size + 1 + 1) S rfl rfl zz HR.out HZ.out ?_; intro w' hb' hc' hs'; have HX' := hide (HX.out.turn hc' (by simp; omega)); clear hc' hs'; go_frame) | go_in
    refine bodyPost_ret (res_of Try.results42 _ _ rfl rfl hb') rfl ?_
    exact ⟨rfl, HX'.out⟩
  · cases y1 : (y != (t : Int) + 1)
    · have q : decide (kk ≤ cc) = true := by have := E.out; rw [y0, y1] at this; simpa using this
      go_wp2_with fail
      have hy := Ext.drew W0
      have s1 : W0.drew.cell? ⟨w.heap.size, 3 + o, none⟩ = some (.int .i64 y) := by rw [(HB.out.ext hy).cell]; exact R1.out
      have s2 : W0.drew.cell? ⟨w.heap.size, 11 + o, none⟩ = some (.int .i64 cc) := by rw [(HB.out.ext hy).cell]; exact R2.out
      have s3 : W0.drew.cell? ⟨w.heap.size, 2, none⟩ = some (.int .i64 kk) := by rw [(HB.out.ext hy).cell]; exact R3.out
      clear re r1 r2 r3
      go_region
      clear s1 s2 s3 hy
      have HB := hide (HB.out.ext (Ext.drew W0))
      have HE := hide (HE.out.ext (Ext.drew W0))
      have HR := hide (HR.out.ext (Ext.drew W0))
      have HX := hide (HX.out.trans (Ext.drew W0))
      generalize W0.drew = W0 at *
      go_wp2_with first | (with_reducible refine wpList_get rfl _ rfl w.heap.size _ rfl HB.out ?_; go_frame) | (with_reducible refine wpList_put rfl _ _ rfl (w.heap.size + 1 + 1) S rfl rfl zz HR.out HZ.out ?_; intro w' hb' hc' hs'; have HX' := hide (HX.out.turn hc' (by simp; omega)); clear hc' hs'; go_frame) | go_in
      refine bodyPost_ret (res_of Try.results42 _ _ rfl rfl hb') rfl ?_
      exact ⟨rfl, HX'.out⟩
    · go_wp2_with fail
      have hy := Ext.drew W0
      have s1 : W0.drew.cell? ⟨w.heap.size, 3 + o, none⟩ = some (.int .i64 y) := by rw [(HB.out.ext hy).cell]; exact R1.out
      have s2 : W0.drew.cell? ⟨w.heap.size, 11 + o, none⟩ = some (.int .i64 cc) := by rw [(HB.out.ext hy).cell]; exact R2.out
      have s3 : W0.drew.cell? ⟨w.heap.size, 2, none⟩ = some (.int .i64 kk) := by rw [(HB.out.ext hy).cell]; exact R3.out
      clear re r1 r2 r3
      go_region
      clear s1 s2 s3 hy
      have HB := hide (HB.out.ext (Ext.drew W0))
      have HE := hide (HE.out.ext (Ext.drew W0))
      have HR := hide (HR.out.ext (Ext.drew W0))
      have HX := hide (HX.out.trans (Ext.drew W0))
      generalize W0.drew = W0 at *
      go_wp2_with first | (with_reducible refine wpList_get rfl _ rfl w.heap.size _ rfl HB.out ?_; go_frame) | (with_reducible refine wpList_put rfl _ _ rfl (w.heap.size + 1 + 1) S rfl rfl zz HR.out HZ.out ?_; intro w' hb' hc' hs'; have HX' := hide (HX.out.turn hc' (by simp; omega)); clear hc' hs'; go_frame) | go_in
      refine bodyPost_ret (res_of Try.results42 _ _ rfl rfl hb') rfl ?_
      exact ⟨rfl, HX'.out⟩
theorem renter_0y {S : St} (ok : Ok S) (k : Int) {t o : Nat} (a : Int) (ht : t < S.N) (ho : o < S.M) (E : ((S.own o + 1 != 0 && S.own o + 1 != (t : Int) + 1) || decide ((S.K : Int) ≤ S.cnt o)) = false) (w : World) :
    Calls Try.prog 42 #[.agg (rc S), (Value.agg #[Value.int .i64 k, .int .i64 (t : Int), .int .i64 (o : Int), .int .i64 a, .int .i64 0])] w fun e w' => e = .returned (.tuple #[.agg (rc (inS S t o)), .bool true]) ∧ Ext w w' := by
  have E := hide E
  have wr : IntKind.i64.wrap (S.cnt o + 1) = S.cnt o + 1 := by rw [IntKind.wrap_i64]; have := ok.own o; have := ok.k1; omega
  have EI := hide (show inS S t o = { S with own := upd S.own o (t : Int), cnt := upd S.cnt o (S.cnt o + 1) } from rfl)
  rw [EI.out]
  have n1 := ok.n1
  have m1 := ok.m1
  have ho8 : o < 8 := by omega
  have ht8 : t < 8 := by omega
  have i8 : (o : Int) < 8 := by omega
  have j8 : (t : Int) < 8 := by omega
  obtain ⟨zz, hz1, hz2, hz3, hz4, -⟩ : ∃ zz : Array Value, (∀ w, (zeroValue 47).run Try.prog w = .ok (.agg zz) w) ∧ ¬ zz = #[] ∧ ¬ zz.size < 2 ∧ zz.size = 227 ∧ zz = zr := ⟨_, fun w => by kernel_rfl, by decide +kernel, by decide +kernel, by decide +kernel, rfl⟩
  have HZ := hide hz4
  clear hz4
  go_enter Try.func42, Try.ntmps42
  go_wp2_with fail
  have HB := hide (((Blk.new w (rc S) 47).ext (Ext.alloc _ (.cells #[Value.int .i64 k, .int .i64 (t : Int), .int .i64 (o : Int), .int .i64 a, .int .i64 0] 29))).ext (Ext.alloc _ (.cells zz 47)))
  have HE := Blk.new (w.alloc (.cells (rc S) 47)) #[Value.int .i64 k, .int .i64 (t : Int), .int .i64 (o : Int), .int .i64 a, .int .i64 0] 29
  rw [World.size_alloc] at HE
  have HE := hide (HE.ext (Ext.alloc _ (.cells zz 47)))
  have HR := Blk.new ((w.alloc (.cells (rc S) 47)).alloc (.cells #[Value.int .i64 k, .int .i64 (t : Int), .int .i64 (o : Int), .int .i64 a, .int .i64 0] 29)) zz 47
  rw [World.size_alloc, World.size_alloc] at HR
  have HR := hide HR
  have HX := hide (((Ext.alloc w (.cells (rc S) 47)).trans (Ext.alloc _ (.cells #[Value.int .i64 k, .int .i64 (t : Int), .int .i64 (o : Int), .int .i64 a, .int .i64 0] 29))).trans (Ext.alloc _ (.cells zz 47)))
  generalize (((w.alloc (.cells (rc S) 47)).alloc (.cells #[Value.int .i64 k, .int .i64 (t : Int), .int .i64 (o : Int), .int .i64 a, .int .i64 0] 29)).alloc (.cells zz 47)) = W0 at *
  clear hz1 hz2 hz3
  have re := (HE.out.ext (Ext.drew W0)).cell
  go_region
  clear re
  have HB := hide (HB.out.ext (Ext.drew W0))
  have HE := hide (HE.out.ext (Ext.drew W0))
  have HR := hide (HR.out.ext (Ext.drew W0))
  have HX := hide (HX.out.trans (Ext.drew W0))
  generalize W0.drew = W0 at *
  have re := HE.out.cell
  have r1 : W0.cell? ⟨w.heap.size, 3 + o, none⟩ = some (.int .i64 (S.own o + 1)) := by rw [HB.out.cell]; exact rc_own ho8
  have r2 : W0.cell? ⟨w.heap.size, 11 + o, none⟩ = some (.int .i64 (S.cnt o)) := by rw [HB.out.cell]; exact rc_cnt ho8
  have r3 : W0.cell? ⟨w.heap.size, 2, none⟩ = some (.int .i64 (S.K : Int)) := by rw [HB.out.cell]; exact rc_at (by omega)
  generalize S.own o + 1 = y at *
  have R1 : Hid ((rc S)[3 + o]? = some (.int .i64 y)) := hide (by rw [← HB.out.cell]; exact r1)
  have R2 : Hid ((rc S)[11 + o]? = some (.int .i64 (S.cnt o))) := hide (rc_cnt ho8)
  have R3 : Hid ((rc S)[2]? = some (.int .i64 (S.K : Int))) := hide (rc_at (by omega))
  obtain ⟨kk, hkk⟩ : ∃ kk, (S.K : Int) = kk := ⟨_, rfl⟩
  rw [hkk] at R3 E r3
  obtain ⟨cc, hcc⟩ : ∃ cc, S.cnt o = cc := ⟨_, rfl⟩
  rw [hcc] at R2 E r2 wr
  have HK := hide hcc
  clear hkk hcc
  have q : decide (kk ≤ cc) = false := by have := E.out; simp at this; simp; omega
  cases y0 : (y != 0)
  · go_wp2_with fail
    have hy := Ext.drew W0
    have s1 : W0.drew.cell? ⟨w.heap.size, 3 + o, none⟩ = some (.int .i64 y) := by rw [(HB.out.ext hy).cell]; exact R1.out
    have s2 : W0.drew.cell? ⟨w.heap.size, 11 + o, none⟩ = some (.int .i64 cc) := by rw [(HB.out.ext hy).cell]; exact R2.out
    have s3 : W0.drew.cell? ⟨w.heap.size, 2, none⟩ = some (.int .i64 kk) := by rw [(HB.out.ext hy).cell]; exact R3.out
    clear re r1 r2 r3
    go_region
    clear s1 s2 s3 hy
    have HB := hide (HB.out.ext (Ext.drew W0))
    have HE := hide (HE.out.ext (Ext.drew W0))
    have HR := hide (HR.out.ext (Ext.drew W0))
    have HX := hide (HX.out.trans (Ext.drew W0))
    generalize W0.drew = W0 at *
    have b4 := HB.out.set (3 + o) (.int .i64 ((t : Int) + 1))
    rw [rset_own ho8] at b4
    have b4 := b4.set (11 + o) (.int .i64 (cc + 1))
    rw [rset_cnt ho8] at b4
    have f1 := HB.out.free (3 + o)
    have f2 := HB.out.free (11 + o)
    have r1 : W0.cell? ⟨w.heap.size, 3 + o, none⟩ = some (.int .i64 y) := by rw [HB.out.cell]; exact R1.out
    have r2 : W0.cell? ⟨w.heap.size, 11 + o, none⟩ = some (.int .i64 cc) := by rw [HB.out.cell]; exact R2.out
    have c4 := ((Chg.refl [w.heap.size] W0).set (p := ⟨w.heap.size, 3 + o, none⟩) (.inl (by simp)) (.int .i64 ((t : Int) + 1))).set (p := ⟨w.heap.size, 11 + o, none⟩) (.inl (by simp)) (.int .i64 (cc + 1))
    have HC := hide c4
    have H4 := hide b4
    have HR4 := hide (HR.out.chg c4 (by simp; omega))
    clear b4 c4
    go_wp2_with first | (with_reducible refine wpList_get rfl _ rfl w.heap.size _ rfl H4.out ?_; go_frame) | (with_reducible refine wpList_put rfl _ _ rfl (w.heap.size + 1 + 1) _ rfl rfl zz HR4.out HZ.out ?_; intro w' hb' hc' hs'; have HX' := hide ((HX.out.turn HC.out (by simp)).turn hc' (by simp; omega)); clear hc' hs'; go_frame) | go_in
    refine bodyPost_ret (res_of Try.results42 _ _ rfl rfl hb') rfl ?_
    exact ⟨by rw [HK.out]; rfl, HX'.out⟩
  · have y1 : (y != (t : Int) + 1) = false := by have := E.out; rw [y0] at this; simp at this; simp; omega
    go_wp2_with fail
    have hy := Ext.drew W0
    have s1 : W0.drew.cell? ⟨w.heap.size, 3 + o, none⟩ = some (.int .i64 y) := by rw [(HB.out.ext hy).cell]; exact R1.out
    have s2 : W0.drew.cell? ⟨w.heap.size, 11 + o, none⟩ = some (.int .i64 cc) := by rw [(HB.out.ext hy).cell]; exact R2.out
    have s3 : W0.drew.cell? ⟨w.heap.size, 2, none⟩ = some (.int .i64 kk) := by rw [(HB.out.ext hy).cell]; exact R3.out
    clear re r1 r2 r3
    go_region
    clear s1 s2 s3 hy
    have HB := hide (HB.out.ext (Ext.drew W0))
    have HE := hide (HE.out.ext (Ext.drew W0))
    have HR := hide (HR.out.ext (Ext.drew W0))
    have HX := hide (HX.out.trans (Ext.drew W0))
    generalize W0.drew = W0 at *
    have b4 := HB.out.set (3 + o) (.int .i64 ((t : Int) + 1))
    rw [rset_own ho8] at b4
    have b4 := b4.set (11 + o) (.int .i64 (cc + 1))
    rw [rset_cnt ho8] at b4
    have f1 := HB.out.free (3 + o)
    have f2 := HB.out.free (11 + o)
    have r1 : W0.cell? ⟨w.heap.size, 3 + o, none⟩ = some (.int .i64 y) := by rw [HB.out.cell]; exact R1.out
    have r2 : W0.cell? ⟨w.heap.size, 11 + o, none⟩ = some (.int .i64 cc) := by rw [HB.out.cell]; exact R2.out
    have c4 := ((Chg.refl [w.heap.size] W0).set (p := ⟨w.heap.size, 3 + o, none⟩) (.inl (by simp)) (.int .i64 ((t : Int) + 1))).set (p := ⟨w.heap.size, 11 + o, none⟩) (.inl (by simp)) (.int .i64 (cc + 1))
    have HC := hide c4
    have H4 := hide b4
    have HR4 := hide (HR.out.chg c4 (by simp; omega))
    clear b4 c4
    go_wp2_with first | (with_reducible refine wpList_get rfl _ rfl w.heap.size _ rfl H4.out ?_; go_frame) | (with_reducible refine wpList_put rfl _ _ rfl (w.heap.size + 1 + 1) _ rfl rfl zz HR4.out HZ.out ?_; intro w' hb' hc' hs'; have HX' := hide ((HX.out.turn HC.out (by simp)).turn hc' (by simp; omega)); clear hc' hs'; go_frame) | go_in
    refine bodyPost_ret (res_of Try.results42 _ _ rfl rfl hb') rfl ?_
    exact ⟨by rw [HK.out]; rfl, HX'.out⟩
end Go.Proofs.Ytacneghgimfklaa

namespace Go.Proofs.Ytacneghgimfklaa
open Go.RowKit Go.Maps
set_option linter.unusedSimpArgs false
set_option linter.unusedVariables false
set_option maxRecDepth 100000
set_option maxHeartbeats 8000000



theorem rwait_49 {S : St} (ok : Ok S) {t o : Nat} (a : Int) (ht : t < S.N) (ho : o < S.M) (w : World) :
    Calls Try.prog 43 #[.agg (rc S), (Value.agg #[Value.int .i64 4, .int .i64 (t : Int), .int .i64 (o : Int), .int .i64 a, .int .i64 9])] w fun e w' => e = .returned (.tuple #[.agg (rc S), .bool !(S.own o + 1 == (t : Int) + 1)]) ∧ Ext w w' := by
  have n1 := ok.n1
  have m1 := ok.m1
  have ho8 : o < 8 := by omega
  have ht8 : t < 8 := by omega
  have i8 : (o : Int) < 8 := by omega
  have j8 : (t : Int) < 8 := by omega
  obtain ⟨zz, hz1, hz2, hz3, hz4, -⟩ : ∃ zz : Array Value, (∀ w, (zeroValue 47).run Try.prog w = .ok (.agg zz) w) ∧ ¬ zz = #[] ∧ ¬ zz.size < 2 ∧ zz.size = 227 ∧ zz = zr := ⟨_, fun w => by kernel_rfl, by decide +kernel, by decide +kernel, by decide +kernel, rfl⟩
  have HZ := hide hz4
  clear hz4
  have hp0 : (rc S)[35 + o * 24 + t * 3]? = some (.int .i64 (plA S o t 0)) := rc_pla (o := o) (t := t) (j := 0) ho8 ht8 (by omega)
  have hp1 : (rc S)[35 + o * 24 + t * 3 + 1]? = some (.int .i64 (plA S o t 1)) := rc_pla (o := o) (t := t) (j := 1) ho8 ht8 (by omega)
  have hp2 : (rc S)[35 + o * 24 + t * 3 + 2]? = some (.int .i64 (plA S o t 2)) := rc_pla (o := o) (t := t) (j := 2) ho8 ht8 (by omega)
  have P0 := hide hp0
  have P1 := hide hp1
  have P2 := hide hp2
  clear hp0 hp1 hp2
  generalize plA S o t 0 = p0 at *
  generalize plA S o t 1 = p1 at *
  generalize plA S o t 2 = p2 at *
  go_enter Try.func43, Try.ntmps43
  go_wp2_with fail
  have HB := hide (((Blk.new w (rc S) 47).ext (Ext.alloc _ (.cells #[Value.int .i64 4, .int .i64 (t : Int), .int .i64 (o : Int), .int .i64 a, .int .i64 9] 29))).ext (Ext.alloc _ (.cells zz 47)))
  have HE := Blk.new (w.alloc (.cells (rc S) 47)) #[Value.int .i64 4, .int .i64 (t : Int), .int .i64 (o : Int), .int .i64 a, .int .i64 9] 29
  rw [World.size_alloc] at HE
  have HE := hide (HE.ext (Ext.alloc _ (.cells zz 47)))
  have HR := Blk.new ((w.alloc (.cells (rc S) 47)).alloc (.cells #[Value.int .i64 4, .int .i64 (t : Int), .int .i64 (o : Int), .int .i64 a, .int .i64 9] 29)) zz 47
  rw [World.size_alloc, World.size_alloc] at HR
  have HR := hide HR
  have HX := hide (((Ext.alloc w (.cells (rc S) 47)).trans (Ext.alloc _ (.cells #[Value.int .i64 4, .int .i64 (t : Int), .int .i64 (o : Int), .int .i64 a, .int .i64 9] 29))).trans (Ext.alloc _ (.cells zz 47)))
  generalize (((w.alloc (.cells (rc S) 47)).alloc (.cells #[Value.int .i64 4, .int .i64 (t : Int), .int .i64 (o : Int), .int .i64 a, .int .i64 9] 29)).alloc (.cells zz 47)) = W0 at *
  clear hz1 hz2 hz3
  have re := (HE.out.ext (Ext.drew W0)).cell
  go_region
  clear re
  have HB := hide (HB.out.ext (Ext.drew W0))
  have HE := hide (HE.out.ext (Ext.drew W0))
  have HR := hide (HR.out.ext (Ext.drew W0))
  have HX := hide (HX.out.trans (Ext.drew W0))
  generalize W0.drew = W0 at *
  have re := HE.out.cell
  have r1 : W0.cell? ⟨w.heap.size, 3 + o, none⟩ = some (.int .i64 (S.own o + 1)) := by rw [HB.out.cell]; exact rc_own ho8
  have r2 : W0.cell? ⟨w.heap.size, 35 + o * 24 + t * 3, none⟩ = some (.int .i64 p0) := by rw [HB.out.cell]; exact P0.out
  have r3 : W0.cell? ⟨w.heap.size, 35 + o * 24 + t * 3 + 1, none⟩ = some (.int .i64 p1) := by rw [HB.out.cell]; exact P1.out
  have r4 : W0.cell? ⟨w.heap.size, 35 + o * 24 + t * 3 + 2, none⟩ = some (.int .i64 p2) := by rw [HB.out.cell]; exact P2.out
  have Y1 : Hid ((rc S)[3 + o]? = some (.int .i64 (S.own o + 1))) := hide (rc_own ho8)
  obtain ⟨y, hy⟩ : ∃ y, S.own o + 1 = y := ⟨_, rfl⟩
  rw [hy] at r1 Y1
  have HY := hide hy
  clear hy
  go_upto_region 4 with fail
  have lR := HR.out.lt
  have HP := hide (Blk.new W0 #[.int .i64 p0, .int .i64 p1, .int .i64 p2] 43)
  have hal := Ext.alloc W0 (.cells #[.int .i64 p0, .int .i64 p1, .int .i64 p2] 43)
  have HB := hide (HB.out.ext hal)
  have HE := hide (HE.out.ext hal)
  have HR := hide (HR.out.ext hal)
  have HX := hide (HX.out.trans hal)
  clear re r1 r2 r3 r4 hal
  generalize W0.alloc (.cells #[.int .i64 p0, .int .i64 p1, .int .i64 p2] 43) = W1 at *
  generalize W0.heap.size = bp at *
  have lbp : w.heap.size + 1 + 1 < bp := lR
  clear lR
  have re := HE.out.cell
  have rp := HP.out.cell
  go_wp2_with first | (with_reducible refine wpList_get rfl _ rfl w.heap.size _ rfl HB.out ?_; go_frame) | (with_reducible refine wpList_put rfl _ _ rfl (w.heap.size + 1 + 1) _ rfl rfl zz HR.out HZ.out ?_; intro w' hb' hc' hs'; have HX' := hide (HX.out.turn hc' (by simp; omega)); clear hc' hs'; go_frame) | go_in
  refine bodyPost_ret (res_of Try.results43 _ _ rfl rfl hb') rfl ?_
  exact ⟨by rw [HY.out]; rfl, HX'.out⟩
theorem rwait_411 {S : St} (ok : Ok S) {t o : Nat} (a : Int) (ht : t < S.N) (ho : o < S.M) (w : World) :
    Calls Try.prog 43 #[.agg (rc S), (Value.agg #[Value.int .i64 4, .int .i64 (t : Int), .int .i64 (o : Int), .int .i64 a, .int .i64 11])] w fun e w' => e = .returned (.tuple #[.agg (rc S), .bool (S.own o + 1 == (t : Int) + 1)]) ∧ Ext w w' := by
  have n1 := ok.n1
  have m1 := ok.m1
  have ho8 : o < 8 := by omega
  have ht8 : t < 8 := by omega
  have i8 : (o : Int) < 8 := by omega
  have j8 : (t : Int) < 8 := by omega
  obtain ⟨zz, hz1, hz2, hz3, hz4, -⟩ : ∃ zz : Array Value, (∀ w, (zeroValue 47).run Try.prog w = .ok (.agg zz) w) ∧ ¬ zz = #[] ∧ ¬ zz.size < 2 ∧ zz.size = 227 ∧ zz = zr := ⟨_, fun w => by kernel_rfl, by decide +kernel, by decide +kernel, by decide +kernel, rfl⟩
  have HZ := hide hz4
  clear hz4
  have hp0 : (rc S)[35 + o * 24 + t * 3]? = some (.int .i64 (plA S o t 0)) := rc_pla (o := o) (t := t) (j := 0) ho8 ht8 (by omega)
  have hp1 : (rc S)[35 + o * 24 + t * 3 + 1]? = some (.int .i64 (plA S o t 1)) := rc_pla (o := o) (t := t) (j := 1) ho8 ht8 (by omega)
  have hp2 : (rc S)[35 + o * 24 + t * 3 + 2]? = some (.int .i64 (plA S o t 2)) := rc_pla (o := o) (t := t) (j := 2) ho8 ht8 (by omega)
  have P0 := hide hp0
  have P1 := hide hp1
  have P2 := hide hp2
  clear hp0 hp1 hp2
  generalize plA S o t 0 = p0 at *
  generalize plA S o t 1 = p1 at *
  generalize plA S o t 2 = p2 at *
  go_enter Try.func43, Try.ntmps43
  go_wp2_with fail
  have HB := hide (((Blk.new w (rc S) 47).ext (Ext.alloc _ (.cells #[Value.int .i64 4, .int .i64 (t : Int), .int .i64 (o : Int), .int .i64 a, .int .i64 11] 29))).ext (Ext.alloc _ (.cells zz 47)))
  have HE := Blk.new (w.alloc (.cells (rc S) 47)) #[Value.int .i64 4, .int .i64 (t : Int), .int .i64 (o : Int), .int .i64 a, .int .i64 11] 29
  rw [World.size_alloc] at HE
  have HE := hide (HE.ext (Ext.alloc _ (.cells zz 47)))
  have HR := Blk.new ((w.alloc (.cells (rc S) 47)).alloc (.cells #[Value.int .i64 4, .int .i64 (t : Int), .int .i64 (o : Int), .int .i64 a, .int .i64 11] 29)) zz 47
  rw [World.size_alloc, World.size_alloc] at HR
  have HR := hide HR
  have HX := hide (((Ext.alloc w (.cells (rc S) 47)).trans (Ext.alloc _ (.cells #[Value.int .i64 4, .int .i64 (t : Int), .int .i64 (o : Int), .int .i64 a, .int .i64 11] 29))).trans (Ext.alloc _ (.cells zz 47)))
  generalize (((w.alloc (.cells (rc S) 47)).alloc (.cells #[Value.int .i64 4, .int .i64 (t : Int), .int .i64 (o : Int), .int .i64 a, .int .i64 11] 29)).alloc (.cells zz 47)) = W0 at *
  clear hz1 hz2 hz3
  have re := (HE.out.ext (Ext.drew W0)).cell
  go_region
  clear re
  have HB := hide (HB.out.ext (Ext.drew W0))
  have HE := hide (HE.out.ext (Ext.drew W0))
  have HR := hide (HR.out.ext (Ext.drew W0))
  have HX := hide (HX.out.trans (Ext.drew W0))
  generalize W0.drew = W0 at *
  have re := HE.out.cell
  have r1 : W0.cell? ⟨w.heap.size, 3 + o, none⟩ = some (.int .i64 (S.own o + 1)) := by rw [HB.out.cell]; exact rc_own ho8
  have r2 : W0.cell? ⟨w.heap.size, 35 + o * 24 + t * 3, none⟩ = some (.int .i64 p0) := by rw [HB.out.cell]; exact P0.out
  have r3 : W0.cell? ⟨w.heap.size, 35 + o * 24 + t * 3 + 1, none⟩ = some (.int .i64 p1) := by rw [HB.out.cell]; exact P1.out
  have r4 : W0.cell? ⟨w.heap.size, 35 + o * 24 + t * 3 + 2, none⟩ = some (.int .i64 p2) := by rw [HB.out.cell]; exact P2.out
  have Y1 : Hid ((rc S)[3 + o]? = some (.int .i64 (S.own o + 1))) := hide (rc_own ho8)
  obtain ⟨y, hy⟩ : ∃ y, S.own o + 1 = y := ⟨_, rfl⟩
  rw [hy] at r1 Y1
  have HY := hide hy
  clear hy
  go_upto_region 4 with fail
  have lR := HR.out.lt
  have HP := hide (Blk.new W0 #[.int .i64 p0, .int .i64 p1, .int .i64 p2] 43)
  have hal := Ext.alloc W0 (.cells #[.int .i64 p0, .int .i64 p1, .int .i64 p2] 43)
  have HB := hide (HB.out.ext hal)
  have HE := hide (HE.out.ext hal)
  have HR := hide (HR.out.ext hal)
  have HX := hide (HX.out.trans hal)
  clear re r1 r2 r3 r4 hal
  generalize W0.alloc (.cells #[.int .i64 p0, .int .i64 p1, .int .i64 p2] 43) = W1 at *
  generalize W0.heap.size = bp at *
  have lbp : w.heap.size + 1 + 1 < bp := lR
  clear lR
  have re := HE.out.cell
  have rp := HP.out.cell
  go_wp2_with first | (with_reducible refine wpList_get rfl _ rfl w.heap.size _ rfl HB.out ?_; go_frame) | (with_reducible refine wpList_put rfl _ _ rfl (w.heap.size + 1 + 1) _ rfl rfl zz HR.out HZ.out ?_; intro w' hb' hc' hs'; have HX' := hide (HX.out.turn hc' (by simp; omega)); clear hc' hs'; go_frame) | go_in
  refine bodyPost_ret (res_of Try.results43 _ _ rfl rfl hb') rfl ?_
  exact ⟨by rw [HY.out]; rfl, HX'.out⟩
theorem rwait_412n {S : St} (ok : Ok S) {t o : Nat} (a : Int) (ht : t < S.N) (ho : o < S.M) (E : (S.own o + 1 == (t : Int) + 1 && S.flg t) = false) (w : World) :
    Calls Try.prog 43 #[.agg (rc S), (Value.agg #[Value.int .i64 4, .int .i64 (t : Int), .int .i64 (o : Int), .int .i64 a, .int .i64 12])] w fun e w' => e = .returned (.tuple #[.agg (rc S), .bool false]) ∧ Ext w w' := by
  have E := hide E
  have n1 := ok.n1
  have m1 := ok.m1
  have ho8 : o < 8 := by omega
  have ht8 : t < 8 := by omega
  have i8 : (o : Int) < 8 := by omega
  have j8 : (t : Int) < 8 := by omega
  obtain ⟨zz, hz1, hz2, hz3, hz4, -⟩ : ∃ zz : Array Value, (∀ w, (zeroValue 47).run Try.prog w = .ok (.agg zz) w) ∧ ¬ zz = #[] ∧ ¬ zz.size < 2 ∧ zz.size = 227 ∧ zz = zr := ⟨_, fun w => by kernel_rfl, by decide +kernel, by decide +kernel, by decide +kernel, rfl⟩
  have HZ := hide hz4
  clear hz4
  have hp0 : (rc S)[35 + o * 24 + t * 3]? = some (.int .i64 (plA S o t 0)) := rc_pla (o := o) (t := t) (j := 0) ho8 ht8 (by omega)
  have hp1 : (rc S)[35 + o * 24 + t * 3 + 1]? = some (.int .i64 (plA S o t 1)) := rc_pla (o := o) (t := t) (j := 1) ho8 ht8 (by omega)
  have hp2 : (rc S)[35 + o * 24 + t * 3 + 2]? = some (.int .i64 (plA S o t 2)) := rc_pla (o := o) (t := t) (j := 2) ho8 ht8 (by omega)
  have P0 := hide hp0
  have P1 := hide hp1
  have P2 := hide hp2
  clear hp0 hp1 hp2
  generalize plA S o t 0 = p0 at *
  generalize plA S o t 1 = p1 at *
  generalize plA S o t 2 = p2 at *
  go_enter Try.func43, Try.ntmps43
  go_wp2_with fail
  have HB := hide (((Blk.new w (rc S) 47).ext (Ext.alloc _ (.cells #[Value.int .i64 4, .int .i64 (t : Int), .int .i64 (o : Int), .int .i64 a, .int .i64 12] 29))).ext (Ext.alloc _ (.cells zz 47)))
  have HE := Blk.new (w.alloc (.cells (rc S) 47)) #[Value.int .i64 4, .int .i64 (t : Int), .int .i64 (o : Int), .int .i64 a, .int .i64 12] 29
  rw [World.size_alloc] at HE
  have HE := hide (HE.ext (Ext.alloc _ (.cells zz 47)))
  have HR := Blk.new ((w.alloc (.cells (rc S) 47)).alloc (.cells #[Value.int .i64 4, .int .i64 (t : Int), .int .i64 (o : Int), .int .i64 a, .int .i64 12] 29)) zz 47
  rw [World.size_alloc, World.size_alloc] at HR
  have HR := hide HR
  have HX := hide (((Ext.alloc w (.cells (rc S) 47)).trans (Ext.alloc _ (.cells #[Value.int .i64 4, .int .i64 (t : Int), .int .i64 (o : Int), .int .i64 a, .int .i64 12] 29))).trans (Ext.alloc _ (.cells zz 47)))
  generalize (((w.alloc (.cells (rc S) 47)).alloc (.cells #[Value.int .i64 4, .int .i64 (t : Int), .int .i64 (o : Int), .int .i64 a, .int .i64 12] 29)).alloc (.cells zz 47)) = W0 at *
  clear hz1 hz2 hz3
  have re := (HE.out.ext (Ext.drew W0)).cell
  go_region
  clear re
  have HB := hide (HB.out.ext (Ext.drew W0))
  have HE := hide (HE.out.ext (Ext.drew W0))
  have HR := hide (HR.out.ext (Ext.drew W0))
  have HX := hide (HX.out.trans (Ext.drew W0))
  generalize W0.drew = W0 at *
  have re := HE.out.cell
  have r1 : W0.cell? ⟨w.heap.size, 3 + o, none⟩ = some (.int .i64 (S.own o + 1)) := by rw [HB.out.cell]; exact rc_own ho8
  have r2 : W0.cell? ⟨w.heap.size, 35 + o * 24 + t * 3, none⟩ = some (.int .i64 p0) := by rw [HB.out.cell]; exact P0.out
  have r3 : W0.cell? ⟨w.heap.size, 35 + o * 24 + t * 3 + 1, none⟩ = some (.int .i64 p1) := by rw [HB.out.cell]; exact P1.out
  have r4 : W0.cell? ⟨w.heap.size, 35 + o * 24 + t * 3 + 2, none⟩ = some (.int .i64 p2) := by rw [HB.out.cell]; exact P2.out
  have Y1 : Hid ((rc S)[3 + o]? = some (.int .i64 (S.own o + 1))) := hide (rc_own ho8)
  obtain ⟨y, hy⟩ : ∃ y, S.own o + 1 = y := ⟨_, rfl⟩
  rw [hy] at r1 Y1
  have HY := hide hy
  clear hy
  go_upto_region 4 with fail
  have lR := HR.out.lt
  have HP := hide (Blk.new W0 #[.int .i64 p0, .int .i64 p1, .int .i64 p2] 43)
  have hal := Ext.alloc W0 (.cells #[.int .i64 p0, .int .i64 p1, .int .i64 p2] 43)
  have HB := hide (HB.out.ext hal)
  have HE := hide (HE.out.ext hal)
  have HR := hide (HR.out.ext hal)
  have HX := hide (HX.out.trans hal)
  clear re r1 r2 r3 r4 hal
  generalize W0.alloc (.cells #[.int .i64 p0, .int .i64 p1, .int .i64 p2] 43) = W1 at *
  generalize W0.heap.size = bp at *
  have lbp : w.heap.size + 1 + 1 < bp := lR
  clear lR
  have re := HE.out.cell
  have rp := HP.out.cell
  have rf : W1.cell? ⟨w.heap.size, 27 + t, none⟩ = some (.bool (S.flg t)) := by rw [HB.out.cell]; exact rc_flg ht8
  rw [HY.out] at E
  cases y1 : (y == (t : Int) + 1)
  · go_wp2_with first | (with_reducible refine wpList_get rfl _ rfl w.heap.size _ rfl HB.out ?_; go_frame) | (with_reducible refine wpList_put rfl _ _ rfl (w.heap.size + 1 + 1) _ rfl rfl zz HR.out HZ.out ?_; intro w' hb' hc' hs'; have HX' := hide (HX.out.turn hc' (by simp; omega)); clear hc' hs'; go_frame) | go_in
    refine bodyPost_ret (res_of Try.results43 _ _ rfl rfl hb') rfl ?_
    exact ⟨by rfl, HX'.out⟩
  · have q : S.flg t = false := by have := E.out; rw [y1] at this; simpa using this
    rw [q] at rf
    go_wp2_with first | (with_reducible refine wpList_get rfl _ rfl w.heap.size _ rfl HB.out ?_; go_frame) | (with_reducible refine wpList_put rfl _ _ rfl (w.heap.size + 1 + 1) _ rfl rfl zz HR.out HZ.out ?_; intro w' hb' hc' hs'; have HX' := hide (HX.out.turn hc' (by simp; omega)); clear hc' hs'; go_frame) | go_in
    refine bodyPost_ret (res_of Try.results43 _ _ rfl rfl hb') rfl ?_
    exact ⟨by rfl, HX'.out⟩
theorem rwait_412y {S : St} (ok : Ok S) {t o : Nat} (a : Int) (ht : t < S.N) (ho : o < S.M) (E : (S.own o + 1 == (t : Int) + 1 && S.flg t) = true) (w : World) :
    Calls Try.prog 43 #[.agg (rc S), (Value.agg #[Value.int .i64 4, .int .i64 (t : Int), .int .i64 (o : Int), .int .i64 a, .int .i64 12])] w fun e w' => e = .returned (.tuple #[.agg (rc (flS S t false)), .bool true]) ∧ Ext w w' := by
  have E := hide E
  have n1 := ok.n1
  have m1 := ok.m1
  have ho8 : o < 8 := by omega
  have ht8 : t < 8 := by omega
  have i8 : (o : Int) < 8 := by omega
  have j8 : (t : Int) < 8 := by omega
  obtain ⟨zz, hz1, hz2, hz3, hz4, -⟩ : ∃ zz : Array Value, (∀ w, (zeroValue 47).run Try.prog w = .ok (.agg zz) w) ∧ ¬ zz = #[] ∧ ¬ zz.size < 2 ∧ zz.size = 227 ∧ zz = zr := ⟨_, fun w => by kernel_rfl, by decide +kernel, by decide +kernel, by decide +kernel, rfl⟩
  have HZ := hide hz4
  clear hz4
  have hp0 : (rc S)[35 + o * 24 + t * 3]? = some (.int .i64 (plA S o t 0)) := rc_pla (o := o) (t := t) (j := 0) ho8 ht8 (by omega)
  have hp1 : (rc S)[35 + o * 24 + t * 3 + 1]? = some (.int .i64 (plA S o t 1)) := rc_pla (o := o) (t := t) (j := 1) ho8 ht8 (by omega)
  have hp2 : (rc S)[35 + o * 24 + t * 3 + 2]? = some (.int .i64 (plA S o t 2)) := rc_pla (o := o) (t := t) (j := 2) ho8 ht8 (by omega)
  have P0 := hide hp0
  have P1 := hide hp1
  have P2 := hide hp2
  clear hp0 hp1 hp2
  generalize plA S o t 0 = p0 at *
  generalize plA S o t 1 = p1 at *
  generalize plA S o t 2 = p2 at *
  go_enter Try.func43, Try.ntmps43
  go_wp2_with fail
  have HB := hide (((Blk.new w (rc S) 47).ext (Ext.alloc _ (.cells #[Value.int .i64 4, .int .i64 (t : Int), .int .i64 (o : Int), .int .i64 a, .int .i64 12] 29))).ext (Ext.alloc _ (.cells zz 47)))
  have HE := Blk.new (w.alloc (.cells (rc S) 47)) #[Value.int .i64 4, .int .i64 (t : Int), .int .i64 (o : Int), .int .i64 a, .int .i64 12] 29
  rw [World.size_alloc] at HE
  have HE := hide (HE.ext (Ext.alloc _ (.cells zz 47)))
  have HR := Blk.new ((w.alloc (.cells (rc S) 47)).alloc (.cells #[Value.int .i64 4, .int .i64 (t : Int), .int .i64 (o : Int), .int .i64 a, .int .i64 12] 29)) zz 47
  rw [World.size_alloc, World.size_alloc] at HR
  have HR := hide HR
  have HX := hide (((Ext.alloc w (.cells (rc S) 47)).trans (Ext.alloc _ (.cells #[Value.int .i64 4, .int .i64 (t : Int), .int .i64 (o : Int), .int .i64 a, .int .i64 12] 29))).trans (Ext.alloc _ (.cells zz 47)))
  generalize (((w.alloc (.cells (rc S) 47)).alloc (.cells #[Value.int .i64 4, .int .i64 (t : Int), .int .i64 (o : Int), .int .i64 a, .int .i64 12] 29)).alloc (.cells zz 47)) = W0 at *
  clear hz1 hz2 hz3
  have re := (HE.out.ext (Ext.drew W0)).cell
  go_region
  clear re
  have HB := hide (HB.out.ext (Ext.drew W0))
  have HE := hide (HE.out.ext (Ext.drew W0))
  have HR := hide (HR.out.ext (Ext.drew W0))
  have HX := hide (HX.out.trans (Ext.drew W0))
  generalize W0.drew = W0 at *
  have re := HE.out.cell
  have r1 : W0.cell? ⟨w.heap.size, 3 + o, none⟩ = some (.int .i64 (S.own o + 1)) := by rw [HB.out.cell]; exact rc_own ho8
  have r2 : W0.cell? ⟨w.heap.size, 35 + o * 24 + t * 3, none⟩ = some (.int .i64 p0) := by rw [HB.out.cell]; exact P0.out
  have r3 : W0.cell? ⟨w.heap.size, 35 + o * 24 + t * 3 + 1, none⟩ = some (.int .i64 p1) := by rw [HB.out.cell]; exact P1.out
  have r4 : W0.cell? ⟨w.heap.size, 35 + o * 24 + t * 3 + 2, none⟩ = some (.int .i64 p2) := by rw [HB.out.cell]; exact P2.out
  have Y1 : Hid ((rc S)[3 + o]? = some (.int .i64 (S.own o + 1))) := hide (rc_own ho8)
  obtain ⟨y, hy⟩ : ∃ y, S.own o + 1 = y := ⟨_, rfl⟩
  rw [hy] at r1 Y1
  have HY := hide hy
  clear hy
  go_upto_region 4 with fail
  have lR := HR.out.lt
  have HP := hide (Blk.new W0 #[.int .i64 p0, .int .i64 p1, .int .i64 p2] 43)
  have hal := Ext.alloc W0 (.cells #[.int .i64 p0, .int .i64 p1, .int .i64 p2] 43)
  have HB := hide (HB.out.ext hal)
  have HE := hide (HE.out.ext hal)
  have HR := hide (HR.out.ext hal)
  have HX := hide (HX.out.trans hal)
  clear re r1 r2 r3 r4 hal
  generalize W0.alloc (.cells #[.int .i64 p0, .int .i64 p1, .int .i64 p2] 43) = W1 at *
  generalize W0.heap.size = bp at *
  have lbp : w.heap.size + 1 + 1 < bp := lR
  clear lR
  have re := HE.out.cell
  have rp := HP.out.cell
  have rf : W1.cell? ⟨w.heap.size, 27 + t, none⟩ = some (.bool (S.flg t)) := by rw [HB.out.cell]; exact rc_flg ht8
  rw [HY.out] at E
  have y1 : (y == (t : Int) + 1) = true := by have := E.out; rw [Bool.and_eq_true] at this; exact this.1
  have q : S.flg t = true := by have := E.out; rw [Bool.and_eq_true] at this; exact this.2
  rw [q] at rf
  have f1 := HB.out.free (27 + t)
  have b4 := HB.out.set (27 + t) (.bool false)
  rw [rset_flg ht8] at b4
  have c4 := (Chg.refl [w.heap.size] W1).set (p := ⟨w.heap.size, 27 + t, none⟩) (.inl (by simp)) (.bool false)
  have H4 := hide b4
  have HR4 := hide (HR.out.chg c4 (by simp; omega))
  have HX4 := hide (HX.out.turn c4 (by simp))
  clear b4 c4
  go_wp2_with first | (with_reducible refine wpList_get rfl _ rfl w.heap.size _ rfl H4.out ?_; go_frame) | (with_reducible refine wpList_put rfl _ _ rfl (w.heap.size + 1 + 1) _ rfl rfl zz HR4.out HZ.out ?_; intro w' hb' hc' hs'; have HX' := hide (HX4.out.turn hc' (by simp; omega)); clear hc' hs'; go_frame) | go_in
  refine bodyPost_ret (res_of Try.results43 _ _ rfl rfl hb') rfl ?_
  exact ⟨by rfl, HX'.out⟩
theorem rwait_40n {S : St} (ok : Ok S) {t o : Nat} (a : Int) (ht : t < S.N) (ho : o < S.M) (E : (S.own o + 1 == (t : Int) + 1) = false) (w : World) :
    Calls Try.prog 43 #[.agg (rc S), (Value.agg #[Value.int .i64 4, .int .i64 (t : Int), .int .i64 (o : Int), .int .i64 a, .int .i64 0])] w fun e w' => e = .returned (.tuple #[.agg (rc S), .bool false]) ∧ Ext w w' := by
  have E := hide E
  have n1 := ok.n1
  have m1 := ok.m1
  have ho8 : o < 8 := by omega
  have ht8 : t < 8 := by omega
  have i8 : (o : Int) < 8 := by omega
  have j8 : (t : Int) < 8 := by omega
  obtain ⟨zz, hz1, hz2, hz3, hz4, -⟩ : ∃ zz : Array Value, (∀ w, (zeroValue 47).run Try.prog w = .ok (.agg zz) w) ∧ ¬ zz = #[] ∧ ¬ zz.size < 2 ∧ zz.size = 227 ∧ zz = zr := ⟨_, fun w => by kernel_rfl, by decide +kernel, by decide +kernel, by decide +kernel, rfl⟩
  have HZ := hide hz4
  clear hz4
  have hp0 : (rc S)[35 + o * 24 + t * 3]? = some (.int .i64 (plA S o t 0)) := rc_pla (o := o) (t := t) (j := 0) ho8 ht8 (by omega)
  have hp1 : (rc S)[35 + o * 24 + t * 3 + 1]? = some (.int .i64 (plA S o t 1)) := rc_pla (o := o) (t := t) (j := 1) ho8 ht8 (by omega)
  have hp2 : (rc S)[35 + o * 24 + t * 3 + 2]? = some (.int .i64 (plA S o t 2)) := rc_pla (o := o) (t := t) (j := 2) ho8 ht8 (by omega)
  have P0 := hide hp0
  have P1 := hide hp1
  have P2 := hide hp2
  clear hp0 hp1 hp2
  generalize plA S o t 0 = p0 at *
  generalize plA S o t 1 = p1 at *
  generalize plA S o t 2 = p2 at *
  go_enter Try.func43, Try.ntmps43
  go_wp2_with fail
  have HB := hide (((Blk.new w (rc S) 47).ext (Ext.alloc _ (.cells #[Value.int .i64 4, .int .i64 (t : Int), .int .i64 (o : Int), .int .i64 a, .int .i64 0] 29))).ext (Ext.alloc _ (.cells zz 47)))
  have HE := Blk.new (w.alloc (.cells (rc S) 47)) #[Value.int .i64 4, .int .i64 (t : Int), .int .i64 (o : Int), .int .i64 a, .int .i64 0] 29
  rw [World.size_alloc] at HE
  have HE := hide (HE.ext (Ext.alloc _ (.cells zz 47)))
  have HR := Blk.new ((w.alloc (.cells (rc S) 47)).alloc (.cells #[Value.int .i64 4, .int .i64 (t : Int), .int .i64 (o : Int), .int .i64 a, .int .i64 0] 29)) zz 47
  rw [World.size_alloc, World.size_alloc] at HR
  have HR := hide HR
  have HX := hide (((Ext.alloc w (.cells (rc S) 47)).trans (Ext.alloc _ (.cells #[Value.int .i64 4, .int .i64 (t : Int), .int .i64 (o : Int), .int .i64 a, .int .i64 0] 29))).trans (Ext.alloc _ (.cells zz 47)))
  generalize (((w.alloc (.cells (rc S) 47)).alloc (.cells #[Value.int .i64 4, .int .i64 (t : Int), .int .i64 (o : Int), .int .i64 a, .int .i64 0] 29)).alloc (.cells zz 47)) = W0 at *
  clear hz1 hz2 hz3
  have re := (HE.out.ext (Ext.drew W0)).cell
  go_region
  clear re
  have HB := hide (HB.out.ext (Ext.drew W0))
  have HE := hide (HE.out.ext (Ext.drew W0))
  have HR := hide (HR.out.ext (Ext.drew W0))
  have HX := hide (HX.out.trans (Ext.drew W0))
  generalize W0.drew = W0 at *
  have re := HE.out.cell
  have r1 : W0.cell? ⟨w.heap.size, 3 + o, none⟩ = some (.int .i64 (S.own o + 1)) := by rw [HB.out.cell]; exact rc_own ho8
  have r2 : W0.cell? ⟨w.heap.size, 35 + o * 24 + t * 3, none⟩ = some (.int .i64 p0) := by rw [HB.out.cell]; exact P0.out
  have r3 : W0.cell? ⟨w.heap.size, 35 + o * 24 + t * 3 + 1, none⟩ = some (.int .i64 p1) := by rw [HB.out.cell]; exact P1.out
  have r4 : W0.cell? ⟨w.heap.size, 35 + o * 24 + t * 3 + 2, none⟩ = some (.int .i64 p2) := by rw [HB.out.cell]; exact P2.out
  have Y1 : Hid ((rc S)[3 + o]? = some (.int .i64 (S.own o + 1))) := hide (rc_own ho8)
  obtain ⟨y, hy⟩ : ∃ y, S.own o + 1 = y := ⟨_, rfl⟩
  rw [hy] at r1 Y1
  have HY := hide hy
  clear hy
  go_upto_region 4 with fail
  have lR := HR.out.lt
  have HP := hide (Blk.new W0 #[.int .i64 p0, .int .i64 p1, .int .i64 p2] 43)
  have hal := Ext.alloc W0 (.cells #[.int .i64 p0, .int .i64 p1, .int .i64 p2] 43)
  have HB := hide (HB.out.ext hal)
  have HE := hide (HE.out.ext hal)
  have HR := hide (HR.out.ext hal)
  have HX := hide (HX.out.trans hal)
  clear re r1 r2 r3 r4 hal
  generalize W0.alloc (.cells #[.int .i64 p0, .int .i64 p1, .int .i64 p2] 43) = W1 at *
  generalize W0.heap.size = bp at *
  have lbp : w.heap.size + 1 + 1 < bp := lR
  clear lR
  have re := HE.out.cell
  have rp := HP.out.cell
  rw [HY.out] at E
  have y1 := E.out
  go_wp2_with first | (with_reducible refine wpList_get rfl _ rfl w.heap.size _ rfl HB.out ?_; go_frame) | (with_reducible refine wpList_put rfl _ _ rfl (w.heap.size + 1 + 1) _ rfl rfl zz HR.out HZ.out ?_; intro w' hb' hc' hs'; have HX' := hide (HX.out.turn hc' (by simp; omega)); clear hc' hs'; go_frame) | go_in
  refine bodyPost_ret (res_of Try.results43 _ _ rfl rfl hb') rfl ?_
  exact ⟨by rfl, HX'.out⟩
theorem rwait_40y {S : St} (ok : Ok S) {t o : Nat} (a : Int) (ht : t < S.N) (ho : o < S.M) (E : (S.own o + 1 == (t : Int) + 1) = true) (w : World) :
    Calls Try.prog 43 #[.agg (rc S), (Value.agg #[Value.int .i64 4, .int .i64 (t : Int), .int .i64 (o : Int), .int .i64 a, .int .i64 0])] w fun e w' => e = .returned (.tuple #[.agg (rc (beS S t o)), .bool true]) ∧ Ext w w' := by
  have E := hide E
  have EB := hide (show beS S t o = { S with own := upd S.own o (-1), cnt := upd S.cnt o 0, wt := upd2 S.wt o t (some (S.cnt o)) } from rfl)
  rw [EB.out]
  have n1 := ok.n1
  have m1 := ok.m1
  have ho8 : o < 8 := by omega
  have ht8 : t < 8 := by omega
  have i8 : (o : Int) < 8 := by omega
  have j8 : (t : Int) < 8 := by omega
  obtain ⟨zz, hz1, hz2, hz3, hz4, -⟩ : ∃ zz : Array Value, (∀ w, (zeroValue 47).run Try.prog w = .ok (.agg zz) w) ∧ ¬ zz = #[] ∧ ¬ zz.size < 2 ∧ zz.size = 227 ∧ zz = zr := ⟨_, fun w => by kernel_rfl, by decide +kernel, by decide +kernel, by decide +kernel, rfl⟩
  have HZ := hide hz4
  clear hz4
  have hp0 : (rc S)[35 + o * 24 + t * 3]? = some (.int .i64 (plA S o t 0)) := rc_pla (o := o) (t := t) (j := 0) ho8 ht8 (by omega)
  have hp1 : (rc S)[35 + o * 24 + t * 3 + 1]? = some (.int .i64 (plA S o t 1)) := rc_pla (o := o) (t := t) (j := 1) ho8 ht8 (by omega)
  have hp2 : (rc S)[35 + o * 24 + t * 3 + 2]? = some (.int .i64 (plA S o t 2)) := rc_pla (o := o) (t := t) (j := 2) ho8 ht8 (by omega)
  have P0 := hide hp0
  have P1 := hide hp1
  have P2 := hide hp2
  clear hp0 hp1 hp2
  generalize plA S o t 0 = p0 at *
  generalize plA S o t 1 = p1 at *
  generalize plA S o t 2 = p2 at *
  go_enter Try.func43, Try.ntmps43
  go_wp2_with fail
  have HB := hide (((Blk.new w (rc S) 47).ext (Ext.alloc _ (.cells #[Value.int .i64 4, .int .i64 (t : Int), .int .i64 (o : Int), .int .i64 a, .int .i64 0] 29))).ext (Ext.alloc _ (.cells zz 47)))
  have HE := Blk.new (w.alloc (.cells (rc S) 47)) #[Value.int .i64 4, .int .i64 (t : Int), .int .i64 (o : Int), .int .i64 a, .int .i64 0] 29
  rw [World.size_alloc] at HE
  have HE := hide (HE.ext (Ext.alloc _ (.cells zz 47)))
  have HR := Blk.new ((w.alloc (.cells (rc S) 47)).alloc (.cells #[Value.int .i64 4, .int .i64 (t : Int), .int .i64 (o : Int), .int .i64 a, .int .i64 0] 29)) zz 47
  rw [World.size_alloc, World.size_alloc] at HR
  have HR := hide HR
  have HX := hide (((Ext.alloc w (.cells (rc S) 47)).trans (Ext.alloc _ (.cells #[Value.int .i64 4, .int .i64 (t : Int), .int .i64 (o : Int), .int .i64 a, .int .i64 0] 29))).trans (Ext.alloc _ (.cells zz 47)))
  generalize (((w.alloc (.cells (rc S) 47)).alloc (.cells #[Value.int .i64 4, .int .i64 (t : Int), .int .i64 (o : Int), .int .i64 a, .int .i64 0] 29)).alloc (.cells zz 47)) = W0 at *
  clear hz1 hz2 hz3
  have re := (HE.out.ext (Ext.drew W0)).cell
  go_region
  clear re
  have HB := hide (HB.out.ext (Ext.drew W0))
  have HE := hide (HE.out.ext (Ext.drew W0))
  have HR := hide (HR.out.ext (Ext.drew W0))
  have HX := hide (HX.out.trans (Ext.drew W0))
  generalize W0.drew = W0 at *
  have re := HE.out.cell
  have r1 : W0.cell? ⟨w.heap.size, 3 + o, none⟩ = some (.int .i64 (S.own o + 1)) := by rw [HB.out.cell]; exact rc_own ho8
  have r2 : W0.cell? ⟨w.heap.size, 35 + o * 24 + t * 3, none⟩ = some (.int .i64 p0) := by rw [HB.out.cell]; exact P0.out
  have r3 : W0.cell? ⟨w.heap.size, 35 + o * 24 + t * 3 + 1, none⟩ = some (.int .i64 p1) := by rw [HB.out.cell]; exact P1.out
  have r4 : W0.cell? ⟨w.heap.size, 35 + o * 24 + t * 3 + 2, none⟩ = some (.int .i64 p2) := by rw [HB.out.cell]; exact P2.out
  have Y1 : Hid ((rc S)[3 + o]? = some (.int .i64 (S.own o + 1))) := hide (rc_own ho8)
  obtain ⟨y, hy⟩ : ∃ y, S.own o + 1 = y := ⟨_, rfl⟩
  rw [hy] at r1 Y1
  have HY := hide hy
  clear hy
  go_upto_region 4 with fail
  have lR := HR.out.lt
  have HP := hide (Blk.new W0 #[.int .i64 p0, .int .i64 p1, .int .i64 p2] 43)
  have hal := Ext.alloc W0 (.cells #[.int .i64 p0, .int .i64 p1, .int .i64 p2] 43)
  have HB := hide (HB.out.ext hal)
  have HE := hide (HE.out.ext hal)
  have HR := hide (HR.out.ext hal)
  have HX := hide (HX.out.trans hal)
  clear re r1 r2 r3 r4 hal
  generalize W0.alloc (.cells #[.int .i64 p0, .int .i64 p1, .int .i64 p2] 43) = W1 at *
  generalize W0.heap.size = bp at *
  have lbp : w.heap.size + 1 + 1 < bp := lR
  clear lR
  have re := HE.out.cell
  have rp := HP.out.cell
  rw [HY.out] at E
  have y1 := E.out
  go_wp2_with fail
  clear re rp
  have hy := Ext.drew W1
  have rc1 : W1.drew.cell? ⟨w.heap.size, 11 + o, none⟩ = some (.int .i64 (S.cnt o)) := by rw [(HB.out.ext hy).cell]; exact rc_cnt ho8
  have r2 : W1.drew.cell? ⟨w.heap.size, 35 + o * 24 + t * 3, none⟩ = some (.int .i64 p0) := by rw [(HB.out.ext hy).cell]; exact P0.out
  have f0 := (HB.out.ext hy).free (35 + o * 24 + t * 3)
  go_region
  clear rc1 r2 f0 hy
  have b4 := HB.out.set (35 + o * 24 + t * 3) (.int .i64 (S.cnt o))
  rw [rset_wt ho8 ht8] at b4
  have b4 := b4.ext (Ext.drew _)
  have c4 := ((Chg.refl [w.heap.size] W1).set (p := ⟨w.heap.size, 35 + o * 24 + t * 3, none⟩) (.inl (by simp)) (.int .i64 (S.cnt o))).trans (Chg.drew [w.heap.size] _)
  have HB4 := hide b4
  have HR4 := hide (HR.out.chg c4 (by simp; omega))
  have HX4 := hide (HX.out.turn c4 (by simp))
  clear b4 c4
  generalize (W1.setCell ⟨w.heap.size, 35 + o * 24 + t * 3, none⟩ (.int .i64 (S.cnt o))).drew = W2 at *
  have s1 : W2.cell? ⟨w.heap.size, 3 + o, none⟩ = some (.int .i64 (S.own o + 1)) := by rw [HB4.out.cell]; exact rc_own ho8
  have s2 : W2.cell? ⟨w.heap.size, 11 + o, none⟩ = some (.int .i64 (S.cnt o)) := by rw [HB4.out.cell]; exact rc_cnt ho8
  have f1 := HB4.out.free (3 + o)
  have f2 := HB4.out.free (11 + o)
  have b5 := HB4.out.set (3 + o) (.int .i64 (-1 + 1))
  rw [rset_own ho8] at b5
  have b5 := b5.set (11 + o) (.int .i64 0)
  rw [rset_cnt ho8] at b5
  have c5 := ((Chg.refl [w.heap.size] W2).set (p := ⟨w.heap.size, 3 + o, none⟩) (.inl (by simp)) (.int .i64 (-1 + 1))).set (p := ⟨w.heap.size, 11 + o, none⟩) (.inl (by simp)) (.int .i64 0)
  rw [show (-1 : Int) + 1 = 0 from rfl] at b5 c5
  have HB5 := hide b5
  have HR5 := hide (HR4.out.chg c5 (by simp; omega))
  have HX5 := hide (HX4.out.turn c5 (by simp))
  clear b5 c5
  go_wp2_with first | (with_reducible refine wpList_get rfl _ rfl w.heap.size _ rfl HB5.out ?_; go_frame) | (with_reducible refine wpList_put rfl _ _ rfl (w.heap.size + 1 + 1) _ rfl rfl zz HR5.out HZ.out ?_; intro w' hb' hc' hs'; have HX' := hide (HX5.out.turn hc' (by simp; omega)); clear hc' hs'; go_frame) | go_in
  refine bodyPost_ret (res_of Try.results43 _ _ rfl rfl hb') rfl ?_
  exact ⟨by rfl, HX'.out⟩
theorem rwait_4o {S : St} (ok : Ok S) {t o : Nat} (a r : Int) (ht : t < S.N) (ho : o < S.M) (hr0 : 0 ≤ r) (hr1 : r < 100) (h9 : r ≠ 9) (h12 : r ≠ 12) (h11 : r ≠ 11) (h0 : r ≠ 0) (w : World) :
    Calls Try.prog 43 #[.agg (rc S), (Value.agg #[Value.int .i64 4, .int .i64 (t : Int), .int .i64 (o : Int), .int .i64 a, .int .i64 r])] w fun e w' => e = .returned (.tuple #[.agg (rc S), .bool false]) ∧ Ext w w' := by
  obtain ⟨x, hx⟩ : ∃ x, x = IntKind.i64.wrap (400 + r) := ⟨_, rfl⟩
  have hx2 : x = 400 + r := by rw [hx, IntKind.wrap_i64]; omega
  have x1 : (x == 409) = false := by simp; omega
  have x2 : (x == 412) = false := by simp; omega
  have x3 : (x == 411) = false := by simp; omega
  have x4 : (x == 400) = false := by simp; omega
  have x5 : (x == 513) = false := by simp; omega
  have x6 : (x == 512) = false := by simp; omega
  have x7 : (x == 600) = false := by simp; omega
  have x8 : (x == 613) = false := by simp; omega
  have x9 : (x == 612) = false := by simp; omega
  have hw := hx.symm
  clear hx hx2 hr0 hr1 h9 h12 h11 h0
  have n1 := ok.n1
  have m1 := ok.m1
  have ho8 : o < 8 := by omega
  have ht8 : t < 8 := by omega
  have i8 : (o : Int) < 8 := by omega
  have j8 : (t : Int) < 8 := by omega
  obtain ⟨zz, hz1, hz2, hz3, hz4, -⟩ : ∃ zz : Array Value, (∀ w, (zeroValue 47).run Try.prog w = .ok (.agg zz) w) ∧ ¬ zz = #[] ∧ ¬ zz.size < 2 ∧ zz.size = 227 ∧ zz = zr := ⟨_, fun w => by kernel_rfl, by decide +kernel, by decide +kernel, by decide +kernel, rfl⟩
  have HZ := hide hz4
  clear hz4
  have hp0 : (rc S)[35 + o * 24 + t * 3]? = some (.int .i64 (plA S o t 0)) := rc_pla (o := o) (t := t) (j := 0) ho8 ht8 (by omega)
  have hp1 : (rc S)[35 + o * 24 + t * 3 + 1]? = some (.int .i64 (plA S o t 1)) := rc_pla (o := o) (t := t) (j := 1) ho8 ht8 (by omega)
  have hp2 : (rc S)[35 + o * 24 + t * 3 + 2]? = some (.int .i64 (plA S o t 2)) := rc_pla (o := o) (t := t) (j := 2) ho8 ht8 (by omega)
  have P0 := hide hp0
  have P1 := hide hp1
  have P2 := hide hp2
  clear hp0 hp1 hp2
  generalize plA S o t 0 = p0 at *
  generalize plA S o t 1 = p1 at *
  generalize plA S o t 2 = p2 at *
  go_enter Try.func43, Try.ntmps43
  go_wp2_with fail
  have HB := hide (((Blk.new w (rc S) 47).ext (Ext.alloc _ (.cells #[Value.int .i64 4, .int .i64 (t : Int), .int .i64 (o : Int), .int .i64 a, .int .i64 r] 29))).ext (Ext.alloc _ (.cells zz 47)))
  have HE := Blk.new (w.alloc (.cells (rc S) 47)) #[Value.int .i64 4, .int .i64 (t : Int), .int .i64 (o : Int), .int .i64 a, .int .i64 r] 29
  rw [World.size_alloc] at HE
  have HE := hide (HE.ext (Ext.alloc _ (.cells zz 47)))
  have HR := Blk.new ((w.alloc (.cells (rc S) 47)).alloc (.cells #[Value.int .i64 4, .int .i64 (t : Int), .int .i64 (o : Int), .int .i64 a, .int .i64 r] 29)) zz 47
  rw [World.size_alloc, World.size_alloc] at HR
  have HR := hide HR
  have HX := hide (((Ext.alloc w (.cells (rc S) 47)).trans (Ext.alloc _ (.cells #[Value.int .i64 4, .int .i64 (t : Int), .int .i64 (o : Int), .int .i64 a, .int .i64 r] 29))).trans (Ext.alloc _ (.cells zz 47)))
  generalize (((w.alloc (.cells (rc S) 47)).alloc (.cells #[Value.int .i64 4, .int .i64 (t : Int), .int .i64 (o : Int), .int .i64 a, .int .i64 r] 29)).alloc (.cells zz 47)) = W0 at *
  clear hz1 hz2 hz3
  have re := (HE.out.ext (Ext.drew W0)).cell
  go_region
  clear re
  have HB := hide (HB.out.ext (Ext.drew W0))
  have HE := hide (HE.out.ext (Ext.drew W0))
  have HR := hide (HR.out.ext (Ext.drew W0))
  have HX := hide (HX.out.trans (Ext.drew W0))
  generalize W0.drew = W0 at *
  have re := HE.out.cell
  have r1 : W0.cell? ⟨w.heap.size, 3 + o, none⟩ = some (.int .i64 (S.own o + 1)) := by rw [HB.out.cell]; exact rc_own ho8
  have r2 : W0.cell? ⟨w.heap.size, 35 + o * 24 + t * 3, none⟩ = some (.int .i64 p0) := by rw [HB.out.cell]; exact P0.out
  have r3 : W0.cell? ⟨w.heap.size, 35 + o * 24 + t * 3 + 1, none⟩ = some (.int .i64 p1) := by rw [HB.out.cell]; exact P1.out
  have r4 : W0.cell? ⟨w.heap.size, 35 + o * 24 + t * 3 + 2, none⟩ = some (.int .i64 p2) := by rw [HB.out.cell]; exact P2.out
  have Y1 : Hid ((rc S)[3 + o]? = some (.int .i64 (S.own o + 1))) := hide (rc_own ho8)
  obtain ⟨y, hy⟩ : ∃ y, S.own o + 1 = y := ⟨_, rfl⟩
  rw [hy] at r1 Y1
  have HY := hide hy
  clear hy
  go_upto_region 4 with fail
  have lR := HR.out.lt
  have HP := hide (Blk.new W0 #[.int .i64 p0, .int .i64 p1, .int .i64 p2] 43)
  have hal := Ext.alloc W0 (.cells #[.int .i64 p0, .int .i64 p1, .int .i64 p2] 43)
  have HB := hide (HB.out.ext hal)
  have HE := hide (HE.out.ext hal)
  have HR := hide (HR.out.ext hal)
  have HX := hide (HX.out.trans hal)
  clear re r1 r2 r3 r4 hal
  generalize W0.alloc (.cells #[.int .i64 p0, .int .i64 p1, .int .i64 p2] 43) = W1 at *
  generalize W0.heap.size = bp at *
  have lbp : w.heap.size + 1 + 1 < bp := lR
  clear lR
  have re := HE.out.cell
  have rp := HP.out.cell
  go_wp2_with first | (with_reducible refine wpList_get rfl _ rfl w.heap.size _ rfl HB.out ?_; go_frame) | (with_reducible refine wpList_put rfl _ _ rfl (w.heap.size + 1 + 1) _ rfl rfl zz HR.out HZ.out ?_; intro w' hb' hc' hs'; have HX' := hide (HX.out.turn hc' (by simp; omega)); clear hc' hs'; go_frame) | go_in
  refine bodyPost_ret (res_of Try.results43 _ _ rfl rfl hb') rfl ?_
  exact ⟨by rfl, HX'.out⟩
end Go.Proofs.Ytacneghgimfklaa

namespace Go.Proofs.Ytacneghgimfklaa
open Go.RowKit Go.Maps
set_option linter.unusedSimpArgs false
set_option linter.unusedVariables false
set_option maxRecDepth 100000
set_option maxHeartbeats 8000000



theorem rwait_513n {S : St} (ok : Ok S) {t o : Nat} (a : Int) (ht : t < S.N) (ho : o < S.M) (E : (plA S o t 0 == 0) = true) (w : World) :
    Calls Try.prog 43 #[.agg (rc S), (Value.agg #[Value.int .i64 5, .int .i64 (t : Int), .int .i64 (o : Int), .int .i64 a, .int .i64 13])] w fun e w' => e = .returned (.tuple #[.agg (rc S), .bool false]) ∧ Ext w w' := by
  have E := hide E
  have n1 := ok.n1
  have m1 := ok.m1
  have ho8 : o < 8 := by omega
  have ht8 : t < 8 := by omega
  have i8 : (o : Int) < 8 := by omega
  have j8 : (t : Int) < 8 := by omega
  obtain ⟨zz, hz1, hz2, hz3, hz4, -⟩ : ∃ zz : Array Value, (∀ w, (zeroValue 47).run Try.prog w = .ok (.agg zz) w) ∧ ¬ zz = #[] ∧ ¬ zz.size < 2 ∧ zz.size = 227 ∧ zz = zr := ⟨_, fun w => by kernel_rfl, by decide +kernel, by decide +kernel, by decide +kernel, rfl⟩
  have HZ := hide hz4
  clear hz4
  have hp0 : (rc S)[35 + o * 24 + t * 3]? = some (.int .i64 (plA S o t 0)) := rc_pla (o := o) (t := t) (j := 0) ho8 ht8 (by omega)
  have hp1 : (rc S)[35 + o * 24 + t * 3 + 1]? = some (.int .i64 (plA S o t 1)) := rc_pla (o := o) (t := t) (j := 1) ho8 ht8 (by omega)
  have hp2 : (rc S)[35 + o * 24 + t * 3 + 2]? = some (.int .i64 (plA S o t 2)) := rc_pla (o := o) (t := t) (j := 2) ho8 ht8 (by omega)
  have HP0 := hide (show (S.wt o t).getD 0 = plA S o t 0 from rfl)
  have HP1 := hide (show ((S.lf o t).getD (0, 0)).1 = plA S o t 1 from rfl)
  have P0 := hide hp0
  have P1 := hide hp1
  have P2 := hide hp2
  clear hp0 hp1 hp2
  generalize plA S o t 0 = p0 at *
  generalize plA S o t 1 = p1 at *
  generalize plA S o t 2 = p2 at *
  go_enter Try.func43, Try.ntmps43
  go_wp2_with fail
  have HB := hide (((Blk.new w (rc S) 47).ext (Ext.alloc _ (.cells #[Value.int .i64 5, .int .i64 (t : Int), .int .i64 (o : Int), .int .i64 a, .int .i64 13] 29))).ext (Ext.alloc _ (.cells zz 47)))
  have HE := Blk.new (w.alloc (.cells (rc S) 47)) #[Value.int .i64 5, .int .i64 (t : Int), .int .i64 (o : Int), .int .i64 a, .int .i64 13] 29
  rw [World.size_alloc] at HE
  have HE := hide (HE.ext (Ext.alloc _ (.cells zz 47)))
  have HR := Blk.new ((w.alloc (.cells (rc S) 47)).alloc (.cells #[Value.int .i64 5, .int .i64 (t : Int), .int .i64 (o : Int), .int .i64 a, .int .i64 13] 29)) zz 47
  rw [World.size_alloc, World.size_alloc] at HR
  have HR := hide HR
  have HX := hide (((Ext.alloc w (.cells (rc S) 47)).trans (Ext.alloc _ (.cells #[Value.int .i64 5, .int .i64 (t : Int), .int .i64 (o : Int), .int .i64 a, .int .i64 13] 29))).trans (Ext.alloc _ (.cells zz 47)))
  generalize (((w.alloc (.cells (rc S) 47)).alloc (.cells #[Value.int .i64 5, .int .i64 (t : Int), .int .i64 (o : Int), .int .i64 a, .int .i64 13] 29)).alloc (.cells zz 47)) = W0 at *
  clear hz1 hz2 hz3
  have re := (HE.out.ext (Ext.drew W0)).cell
  go_region
  clear re
  have HB := hide (HB.out.ext (Ext.drew W0))
  have HE := hide (HE.out.ext (Ext.drew W0))
  have HR := hide (HR.out.ext (Ext.drew W0))
  have HX := hide (HX.out.trans (Ext.drew W0))
  generalize W0.drew = W0 at *
  have re := HE.out.cell
  have r1 : W0.cell? ⟨w.heap.size, 3 + o, none⟩ = some (.int .i64 (S.own o + 1)) := by rw [HB.out.cell]; exact rc_own ho8
  have r2 : W0.cell? ⟨w.heap.size, 35 + o * 24 + t * 3, none⟩ = some (.int .i64 p0) := by rw [HB.out.cell]; exact P0.out
  have r3 : W0.cell? ⟨w.heap.size, 35 + o * 24 + t * 3 + 1, none⟩ = some (.int .i64 p1) := by rw [HB.out.cell]; exact P1.out
  have r4 : W0.cell? ⟨w.heap.size, 35 + o * 24 + t * 3 + 2, none⟩ = some (.int .i64 p2) := by rw [HB.out.cell]; exact P2.out
  have Y1 : Hid ((rc S)[3 + o]? = some (.int .i64 (S.own o + 1))) := hide (rc_own ho8)
  obtain ⟨y, hy⟩ : ∃ y, S.own o + 1 = y := ⟨_, rfl⟩
  rw [hy] at r1 Y1
  have HY := hide hy
  clear hy
  go_upto_region 4 with fail
  have lR := HR.out.lt
  have HP := hide (Blk.new W0 #[.int .i64 p0, .int .i64 p1, .int .i64 p2] 43)
  have hal := Ext.alloc W0 (.cells #[.int .i64 p0, .int .i64 p1, .int .i64 p2] 43)
  have HB := hide (HB.out.ext hal)
  have HE := hide (HE.out.ext hal)
  have HR := hide (HR.out.ext hal)
  have HX := hide (HX.out.trans hal)
  clear re r1 r2 r3 r4 hal
  generalize W0.alloc (.cells #[.int .i64 p0, .int .i64 p1, .int .i64 p2] 43) = W1 at *
  generalize W0.heap.size = bp at *
  have lbp : w.heap.size + 1 + 1 < bp := lR
  clear lR
  have re := HE.out.cell
  have rp := HP.out.cell
  have rf : W1.cell? ⟨w.heap.size, 27 + t, none⟩ = some (.bool (S.flg t)) := by rw [HB.out.cell]; exact rc_flg ht8
  have q := E.out
  go_wp2_with first | (with_reducible refine wpList_get rfl _ rfl w.heap.size _ rfl HB.out ?_; go_frame) | (with_reducible refine wpList_put rfl _ _ rfl (w.heap.size + 1 + 1) _ rfl rfl zz HR.out HZ.out ?_; intro w' hb' hc' hs'; have HX' := hide (HX.out.turn hc' (by simp; omega)); clear hc' hs'; go_frame) | go_in
  refine bodyPost_ret (res_of Try.results43 _ _ rfl rfl hb') rfl ?_
  exact ⟨by rfl, HX'.out⟩
theorem rwait_512n {S : St} (ok : Ok S) {t o : Nat} (a : Int) (ht : t < S.N) (ho : o < S.M) (E : (plA S o t 0 == 0 || !S.flg t) = true) (w : World) :
    Calls Try.prog 43 #[.agg (rc S), (Value.agg #[Value.int .i64 5, .int .i64 (t : Int), .int .i64 (o : Int), .int .i64 a, .int .i64 12])] w fun e w' => e = .returned (.tuple #[.agg (rc S), .bool false]) ∧ Ext w w' := by
  have E := hide E
  have n1 := ok.n1
  have m1 := ok.m1
  have ho8 : o < 8 := by omega
  have ht8 : t < 8 := by omega
  have i8 : (o : Int) < 8 := by omega
  have j8 : (t : Int) < 8 := by omega
  obtain ⟨zz, hz1, hz2, hz3, hz4, -⟩ : ∃ zz : Array Value, (∀ w, (zeroValue 47).run Try.prog w = .ok (.agg zz) w) ∧ ¬ zz = #[] ∧ ¬ zz.size < 2 ∧ zz.size = 227 ∧ zz = zr := ⟨_, fun w => by kernel_rfl, by decide +kernel, by decide +kernel, by decide +kernel, rfl⟩
  have HZ := hide hz4
  clear hz4
  have hp0 : (rc S)[35 + o * 24 + t * 3]? = some (.int .i64 (plA S o t 0)) := rc_pla (o := o) (t := t) (j := 0) ho8 ht8 (by omega)
  have hp1 : (rc S)[35 + o * 24 + t * 3 + 1]? = some (.int .i64 (plA S o t 1)) := rc_pla (o := o) (t := t) (j := 1) ho8 ht8 (by omega)
  have hp2 : (rc S)[35 + o * 24 + t * 3 + 2]? = some (.int .i64 (plA S o t 2)) := rc_pla (o := o) (t := t) (j := 2) ho8 ht8 (by omega)
  have HP0 := hide (show (S.wt o t).getD 0 = plA S o t 0 from rfl)
  have HP1 := hide (show ((S.lf o t).getD (0, 0)).1 = plA S o t 1 from rfl)
  have P0 := hide hp0
  have P1 := hide hp1
  have P2 := hide hp2
  clear hp0 hp1 hp2
  generalize plA S o t 0 = p0 at *
  generalize plA S o t 1 = p1 at *
  generalize plA S o t 2 = p2 at *
  go_enter Try.func43, Try.ntmps43
  go_wp2_with fail
  have HB := hide (((Blk.new w (rc S) 47).ext (Ext.alloc _ (.cells #[Value.int .i64 5, .int .i64 (t : Int), .int .i64 (o : Int), .int .i64 a, .int .i64 12] 29))).ext (Ext.alloc _ (.cells zz 47)))
  have HE := Blk.new (w.alloc (.cells (rc S) 47)) #[Value.int .i64 5, .int .i64 (t : Int), .int .i64 (o : Int), .int .i64 a, .int .i64 12] 29
  rw [World.size_alloc] at HE
  have HE := hide (HE.ext (Ext.alloc _ (.cells zz 47)))
  have HR := Blk.new ((w.alloc (.cells (rc S) 47)).alloc (.cells #[Value.int .i64 5, .int .i64 (t : Int), .int .i64 (o : Int), .int .i64 a, .int .i64 12] 29)) zz 47
  rw [World.size_alloc, World.size_alloc] at HR
  have HR := hide HR
  have HX := hide (((Ext.alloc w (.cells (rc S) 47)).trans (Ext.alloc _ (.cells #[Value.int .i64 5, .int .i64 (t : Int), .int .i64 (o : Int), .int .i64 a, .int .i64 12] 29))).trans (Ext.alloc _ (.cells zz 47)))
  generalize (((w.alloc (.cells (rc S) 47)).alloc (.cells #[Value.int .i64 5, .int .i64 (t : Int), .int .i64 (o : Int), .int .i64 a, .int .i64 12] 29)).alloc (.cells zz 47)) = W0 at *
  clear hz1 hz2 hz3
  have re := (HE.out.ext (Ext.drew W0)).cell
  go_region
  clear re
  have HB := hide (HB.out.ext (Ext.drew W0))
  have HE := hide (HE.out.ext (Ext.drew W0))
  have HR := hide (HR.out.ext (Ext.drew W0))
  have HX := hide (HX.out.trans (Ext.drew W0))
  generalize W0.drew = W0 at *
  have re := HE.out.cell
  have r1 : W0.cell? ⟨w.heap.size, 3 + o, none⟩ = some (.int .i64 (S.own o + 1)) := by rw [HB.out.cell]; exact rc_own ho8
  have r2 : W0.cell? ⟨w.heap.size, 35 + o * 24 + t * 3, none⟩ = some (.int .i64 p0) := by rw [HB.out.cell]; exact P0.out
  have r3 : W0.cell? ⟨w.heap.size, 35 + o * 24 + t * 3 + 1, none⟩ = some (.int .i64 p1) := by rw [HB.out.cell]; exact P1.out
  have r4 : W0.cell? ⟨w.heap.size, 35 + o * 24 + t * 3 + 2, none⟩ = some (.int .i64 p2) := by rw [HB.out.cell]; exact P2.out
  have Y1 : Hid ((rc S)[3 + o]? = some (.int .i64 (S.own o + 1))) := hide (rc_own ho8)
  obtain ⟨y, hy⟩ : ∃ y, S.own o + 1 = y := ⟨_, rfl⟩
  rw [hy] at r1 Y1
  have HY := hide hy
  clear hy
  go_upto_region 4 with fail
  have lR := HR.out.lt
  have HP := hide (Blk.new W0 #[.int .i64 p0, .int .i64 p1, .int .i64 p2] 43)
  have hal := Ext.alloc W0 (.cells #[.int .i64 p0, .int .i64 p1, .int .i64 p2] 43)
  have HB := hide (HB.out.ext hal)
  have HE := hide (HE.out.ext hal)
  have HR := hide (HR.out.ext hal)
  have HX := hide (HX.out.trans hal)
  clear re r1 r2 r3 r4 hal
  generalize W0.alloc (.cells #[.int .i64 p0, .int .i64 p1, .int .i64 p2] 43) = W1 at *
  generalize W0.heap.size = bp at *
  have lbp : w.heap.size + 1 + 1 < bp := lR
  clear lR
  have re := HE.out.cell
  have rp := HP.out.cell
  have rf : W1.cell? ⟨w.heap.size, 27 + t, none⟩ = some (.bool (S.flg t)) := by rw [HB.out.cell]; exact rc_flg ht8
  cases q : (p0 == 0)
  · have q2 : S.flg t = false := by have := E.out; rw [q] at this; simpa using this
    rw [q2] at rf
    go_wp2_with first | (with_reducible refine wpList_get rfl _ rfl w.heap.size _ rfl HB.out ?_; go_frame) | (with_reducible refine wpList_put rfl _ _ rfl (w.heap.size + 1 + 1) _ rfl rfl zz HR.out HZ.out ?_; intro w' hb' hc' hs'; have HX' := hide (HX.out.turn hc' (by simp; omega)); clear hc' hs'; go_frame) | go_in
    refine bodyPost_ret (res_of Try.results43 _ _ rfl rfl hb') rfl ?_
    exact ⟨by rfl, HX'.out⟩
  · go_wp2_with first | (with_reducible refine wpList_get rfl _ rfl w.heap.size _ rfl HB.out ?_; go_frame) | (with_reducible refine wpList_put rfl _ _ rfl (w.heap.size + 1 + 1) _ rfl rfl zz HR.out HZ.out ?_; intro w' hb' hc' hs'; have HX' := hide (HX.out.turn hc' (by simp; omega)); clear hc' hs'; go_frame) | go_in
    refine bodyPost_ret (res_of Try.results43 _ _ rfl rfl hb') rfl ?_
    exact ⟨by rfl, HX'.out⟩
theorem rwait_513y {S : St} (ok : Ok S) {t o : Nat} (a : Int) (ht : t < S.N) (ho : o < S.M) (E : (plA S o t 0 == 0) = false) (w : World) :
    Calls Try.prog 43 #[.agg (rc S), (Value.agg #[Value.int .i64 5, .int .i64 (t : Int), .int .i64 (o : Int), .int .i64 a, .int .i64 13])] w fun e w' => e = .returned (.tuple #[.agg (rc (lvS S o t 13)), .bool true]) ∧ Ext w w' := by
  have EB := hide (show lvS S o t 13 = { S with wt := upd2 S.wt o t none, lf := upd2 S.lf o t (some ((S.wt o t).getD 0, 13)) } from rfl)
  rw [EB.out]
  have E := hide E
  have n1 := ok.n1
  have m1 := ok.m1
  have ho8 : o < 8 := by omega
  have ht8 : t < 8 := by omega
  have i8 : (o : Int) < 8 := by omega
  have j8 : (t : Int) < 8 := by omega
  obtain ⟨zz, hz1, hz2, hz3, hz4, -⟩ : ∃ zz : Array Value, (∀ w, (zeroValue 47).run Try.prog w = .ok (.agg zz) w) ∧ ¬ zz = #[] ∧ ¬ zz.size < 2 ∧ zz.size = 227 ∧ zz = zr := ⟨_, fun w => by kernel_rfl, by decide +kernel, by decide +kernel, by decide +kernel, rfl⟩
  have HZ := hide hz4
  clear hz4
  have hp0 : (rc S)[35 + o * 24 + t * 3]? = some (.int .i64 (plA S o t 0)) := rc_pla (o := o) (t := t) (j := 0) ho8 ht8 (by omega)
  have hp1 : (rc S)[35 + o * 24 + t * 3 + 1]? = some (.int .i64 (plA S o t 1)) := rc_pla (o := o) (t := t) (j := 1) ho8 ht8 (by omega)
  have hp2 : (rc S)[35 + o * 24 + t * 3 + 2]? = some (.int .i64 (plA S o t 2)) := rc_pla (o := o) (t := t) (j := 2) ho8 ht8 (by omega)
  have HP0 := hide (show (S.wt o t).getD 0 = plA S o t 0 from rfl)
  have HP1 := hide (show ((S.lf o t).getD (0, 0)).1 = plA S o t 1 from rfl)
  have P0 := hide hp0
  have P1 := hide hp1
  have P2 := hide hp2
  clear hp0 hp1 hp2
  generalize plA S o t 0 = p0 at *
  generalize plA S o t 1 = p1 at *
  generalize plA S o t 2 = p2 at *
  go_enter Try.func43, Try.ntmps43
  go_wp2_with fail
  have HB := hide (((Blk.new w (rc S) 47).ext (Ext.alloc _ (.cells #[Value.int .i64 5, .int .i64 (t : Int), .int .i64 (o : Int), .int .i64 a, .int .i64 13] 29))).ext (Ext.alloc _ (.cells zz 47)))
  have HE := Blk.new (w.alloc (.cells (rc S) 47)) #[Value.int .i64 5, .int .i64 (t : Int), .int .i64 (o : Int), .int .i64 a, .int .i64 13] 29
  rw [World.size_alloc] at HE
  have HE := hide (HE.ext (Ext.alloc _ (.cells zz 47)))
  have HR := Blk.new ((w.alloc (.cells (rc S) 47)).alloc (.cells #[Value.int .i64 5, .int .i64 (t : Int), .int .i64 (o : Int), .int .i64 a, .int .i64 13] 29)) zz 47
  rw [World.size_alloc, World.size_alloc] at HR
  have HR := hide HR
  have HX := hide (((Ext.alloc w (.cells (rc S) 47)).trans (Ext.alloc _ (.cells #[Value.int .i64 5, .int .i64 (t : Int), .int .i64 (o : Int), .int .i64 a, .int .i64 13] 29))).trans (Ext.alloc _ (.cells zz 47)))
  generalize (((w.alloc (.cells (rc S) 47)).alloc (.cells #[Value.int .i64 5, .int .i64 (t : Int), .int .i64 (o : Int), .int .i64 a, .int .i64 13] 29)).alloc (.cells zz 47)) = W0 at *
  clear hz1 hz2 hz3
  have re := (HE.out.ext (Ext.drew W0)).cell
  go_region
  clear re
  have HB := hide (HB.out.ext (Ext.drew W0))
  have HE := hide (HE.out.ext (Ext.drew W0))
  have HR := hide (HR.out.ext (Ext.drew W0))
  have HX := hide (HX.out.trans (Ext.drew W0))
  generalize W0.drew = W0 at *
  have re := HE.out.cell
  have r1 : W0.cell? ⟨w.heap.size, 3 + o, none⟩ = some (.int .i64 (S.own o + 1)) := by rw [HB.out.cell]; exact rc_own ho8
  have r2 : W0.cell? ⟨w.heap.size, 35 + o * 24 + t * 3, none⟩ = some (.int .i64 p0) := by rw [HB.out.cell]; exact P0.out
  have r3 : W0.cell? ⟨w.heap.size, 35 + o * 24 + t * 3 + 1, none⟩ = some (.int .i64 p1) := by rw [HB.out.cell]; exact P1.out
  have r4 : W0.cell? ⟨w.heap.size, 35 + o * 24 + t * 3 + 2, none⟩ = some (.int .i64 p2) := by rw [HB.out.cell]; exact P2.out
  have Y1 : Hid ((rc S)[3 + o]? = some (.int .i64 (S.own o + 1))) := hide (rc_own ho8)
  obtain ⟨y, hy⟩ : ∃ y, S.own o + 1 = y := ⟨_, rfl⟩
  rw [hy] at r1 Y1
  have HY := hide hy
  clear hy
  go_upto_region 4 with fail
  have lR := HR.out.lt
  have HP := hide (Blk.new W0 #[.int .i64 p0, .int .i64 p1, .int .i64 p2] 43)
  have hal := Ext.alloc W0 (.cells #[.int .i64 p0, .int .i64 p1, .int .i64 p2] 43)
  have HB := hide (HB.out.ext hal)
  have HE := hide (HE.out.ext hal)
  have HR := hide (HR.out.ext hal)
  have HX := hide (HX.out.trans hal)
  clear re r1 r2 r3 r4 hal
  generalize W0.alloc (.cells #[.int .i64 p0, .int .i64 p1, .int .i64 p2] 43) = W1 at *
  generalize W0.heap.size = bp at *
  have lbp : w.heap.size + 1 + 1 < bp := lR
  clear lR
  have re := HE.out.cell
  have rp := HP.out.cell
  have rf : W1.cell? ⟨w.heap.size, 27 + t, none⟩ = some (.bool (S.flg t)) := by rw [HB.out.cell]; exact rc_flg ht8
  have q := E.out
  go_wp2_with fail
  clear re rp rf
  have hy := Ext.drew W1
  have re := (HE.out.ext hy).cell
  have rp := (HP.out.ext hy).cell
  have r2 : W1.drew.cell? ⟨w.heap.size, 35 + o * 24 + t * 3, none⟩ = some (.int .i64 p0) := by rw [(HB.out.ext hy).cell]; exact P0.out
  have r3 : W1.drew.cell? ⟨w.heap.size, 35 + o * 24 + t * 3 + 1, none⟩ = some (.int .i64 p1) := by rw [(HB.out.ext hy).cell]; exact P1.out
  have r4 : W1.drew.cell? ⟨w.heap.size, 35 + o * 24 + t * 3 + 2, none⟩ = some (.int .i64 p2) := by rw [(HB.out.ext hy).cell]; exact P2.out
  have f0 := (HB.out.ext hy).free (35 + o * 24 + t * 3)
  have f1 := (HB.out.ext hy).free (35 + o * 24 + t * 3 + 1)
  have f2 := (HB.out.ext hy).free (35 + o * 24 + t * 3 + 2)
  have r3' : W1.cell? ⟨w.heap.size, 35 + o * 24 + t * 3 + 1, none⟩ = some (.int .i64 p1) := by rw [HB.out.cell]; exact P1.out
  have r4' : W1.cell? ⟨w.heap.size, 35 + o * 24 + t * 3 + 2, none⟩ = some (.int .i64 p2) := by rw [HB.out.cell]; exact P2.out
  have f1' := HB.out.free (35 + o * 24 + t * 3 + 1)
  have f2' := HB.out.free (35 + o * 24 + t * 3 + 2)
  go_region
  clear re rp r2 r3 r4 f0 f1 f2 r3' r4' f1' f2' hy
  have b4 := ((HB.out.set (35 + o * 24 + t * 3) (.int .i64 0)).set (35 + o * 24 + t * 3 + 1) (.int .i64 p0)).set (35 + o * 24 + t * 3 + 2) (.int .i64 13)
  rw [rset_pl ho8 ht8 none (some (p0, 13)) (x := 0) (y := p0) (z := 13) rfl rfl rfl] at b4
  have b4 := b4.ext (Ext.drew _)
  have c4 := ((((Chg.refl [w.heap.size] W1).set (p := ⟨w.heap.size, 35 + o * 24 + t * 3, none⟩) (.inl (by simp)) (.int .i64 0)).set (p := ⟨w.heap.size, 35 + o * 24 + t * 3 + 1, none⟩) (.inl (by simp)) (.int .i64 p0)).set (p := ⟨w.heap.size, 35 + o * 24 + t * 3 + 2, none⟩) (.inl (by simp)) (.int .i64 13)).trans (Chg.drew [w.heap.size] _)
  have HB4 := hide b4
  have HR4 := hide (HR.out.chg c4 (by simp; omega))
  have HX4 := hide (HX.out.turn c4 (by simp))
  clear b4 c4
  go_wp2_with first | (with_reducible refine wpList_get rfl _ rfl w.heap.size _ rfl HB4.out ?_; go_frame) | (with_reducible refine wpList_put rfl _ _ rfl (w.heap.size + 1 + 1) _ rfl rfl zz HR4.out HZ.out ?_; intro w' hb' hc' hs'; have HX' := hide (HX4.out.turn hc' (by simp; omega)); clear hc' hs'; go_frame) | go_in
  refine bodyPost_ret (res_of Try.results43 _ _ rfl rfl hb') rfl ?_
  exact ⟨by rw [HP0.out]; rfl, HX'.out⟩
theorem rwait_512y {S : St} (ok : Ok S) {t o : Nat} (a : Int) (ht : t < S.N) (ho : o < S.M) (E : (plA S o t 0 == 0) = false) (F : S.flg t = true) (w : World) :
    Calls Try.prog 43 #[.agg (rc S), (Value.agg #[Value.int .i64 5, .int .i64 (t : Int), .int .i64 (o : Int), .int .i64 a, .int .i64 12])] w fun e w' => e = .returned (.tuple #[.agg (rc (lvS S o t 12)), .bool true]) ∧ Ext w w' := by
  have EB := hide (show lvS S o t 12 = { S with wt := upd2 S.wt o t none, lf := upd2 S.lf o t (some ((S.wt o t).getD 0, 12)) } from rfl)
  rw [EB.out]
  have F := hide F
  have E := hide E
  have n1 := ok.n1
  have m1 := ok.m1
  have ho8 : o < 8 := by omega
  have ht8 : t < 8 := by omega
  have i8 : (o : Int) < 8 := by omega
  have j8 : (t : Int) < 8 := by omega
  obtain ⟨zz, hz1, hz2, hz3, hz4, -⟩ : ∃ zz : Array Value, (∀ w, (zeroValue 47).run Try.prog w = .ok (.agg zz) w) ∧ ¬ zz = #[] ∧ ¬ zz.size < 2 ∧ zz.size = 227 ∧ zz = zr := ⟨_, fun w => by kernel_rfl, by decide +kernel, by decide +kernel, by decide +kernel, rfl⟩
  have HZ := hide hz4
  clear hz4
  have hp0 : (rc S)[35 + o * 24 + t * 3]? = some (.int .i64 (plA S o t 0)) := rc_pla (o := o) (t := t) (j := 0) ho8 ht8 (by omega)
  have hp1 : (rc S)[35 + o * 24 + t * 3 + 1]? = some (.int .i64 (plA S o t 1)) := rc_pla (o := o) (t := t) (j := 1) ho8 ht8 (by omega)
  have hp2 : (rc S)[35 + o * 24 + t * 3 + 2]? = some (.int .i64 (plA S o t 2)) := rc_pla (o := o) (t := t) (j := 2) ho8 ht8 (by omega)
  have HP0 := hide (show (S.wt o t).getD 0 = plA S o t 0 from rfl)
  have HP1 := hide (show ((S.lf o t).getD (0, 0)).1 = plA S o t 1 from rfl)
  have P0 := hide hp0
  have P1 := hide hp1
  have P2 := hide hp2
  clear hp0 hp1 hp2
  generalize plA S o t 0 = p0 at *
  generalize plA S o t 1 = p1 at *
  generalize plA S o t 2 = p2 at *
  go_enter Try.func43, Try.ntmps43
  go_wp2_with fail
  have HB := hide (((Blk.new w (rc S) 47).ext (Ext.alloc _ (.cells #[Value.int .i64 5, .int .i64 (t : Int), .int .i64 (o : Int), .int .i64 a, .int .i64 12] 29))).ext (Ext.alloc _ (.cells zz 47)))
  have HE := Blk.new (w.alloc (.cells (rc S) 47)) #[Value.int .i64 5, .int .i64 (t : Int), .int .i64 (o : Int), .int .i64 a, .int .i64 12] 29
  rw [World.size_alloc] at HE
  have HE := hide (HE.ext (Ext.alloc _ (.cells zz 47)))
  have HR := Blk.new ((w.alloc (.cells (rc S) 47)).alloc (.cells #[Value.int .i64 5, .int .i64 (t : Int), .int .i64 (o : Int), .int .i64 a, .int .i64 12] 29)) zz 47
  rw [World.size_alloc, World.size_alloc] at HR
  have HR := hide HR
  have HX := hide (((Ext.alloc w (.cells (rc S) 47)).trans (Ext.alloc _ (.cells #[Value.int .i64 5, .int .i64 (t : Int), .int .i64 (o : Int), .int .i64 a, .int .i64 12] 29))).trans (Ext.alloc _ (.cells zz 47)))
  generalize (((w.alloc (.cells (rc S) 47)).alloc (.cells #[Value.int .i64 5, .int .i64 (t : Int), .int .i64 (o : Int), .int .i64 a, .int .i64 12] 29)).alloc (.cells zz 47)) = W0 at *
  clear hz1 hz2 hz3
  have re := (HE.out.ext (Ext.drew W0)).cell
  go_region
  clear re
  have HB := hide (HB.out.ext (Ext.drew W0))
  have HE := hide (HE.out.ext (Ext.drew W0))
  have HR := hide (HR.out.ext (Ext.drew W0))
  have HX := hide (HX.out.trans (Ext.drew W0))
  generalize W0.drew = W0 at *
  have re := HE.out.cell
  have r1 : W0.cell? ⟨w.heap.size, 3 + o, none⟩ = some (.int .i64 (S.own o + 1)) := by rw [HB.out.cell]; exact rc_own ho8
  have r2 : W0.cell? ⟨w.heap.size, 35 + o * 24 + t * 3, none⟩ = some (.int .i64 p0) := by rw [HB.out.cell]; exact P0.out
  have r3 : W0.cell? ⟨w.heap.size, 35 + o * 24 + t * 3 + 1, none⟩ = some (.int .i64 p1) := by rw [HB.out.cell]; exact P1.out
  have r4 : W0.cell? ⟨w.heap.size, 35 + o * 24 + t * 3 + 2, none⟩ = some (.int .i64 p2) := by rw [HB.out.cell]; exact P2.out
  have Y1 : Hid ((rc S)[3 + o]? = some (.int .i64 (S.own o + 1))) := hide (rc_own ho8)
  obtain ⟨y, hy⟩ : ∃ y, S.own o + 1 = y := ⟨_, rfl⟩
  rw [hy] at r1 Y1
  have HY := hide hy
  clear hy
  go_upto_region 4 with fail
  have lR := HR.out.lt
  have HP := hide (Blk.new W0 #[.int .i64 p0, .int .i64 p1, .int .i64 p2] 43)
  have hal := Ext.alloc W0 (.cells #[.int .i64 p0, .int .i64 p1, .int .i64 p2] 43)
  have HB := hide (HB.out.ext hal)
  have HE := hide (HE.out.ext hal)
  have HR := hide (HR.out.ext hal)
  have HX := hide (HX.out.trans hal)
  clear re r1 r2 r3 r4 hal
  generalize W0.alloc (.cells #[.int .i64 p0, .int .i64 p1, .int .i64 p2] 43) = W1 at *
  generalize W0.heap.size = bp at *
  have lbp : w.heap.size + 1 + 1 < bp := lR
  clear lR
  have re := HE.out.cell
  have rp := HP.out.cell
  have rf : W1.cell? ⟨w.heap.size, 27 + t, none⟩ = some (.bool (S.flg t)) := by rw [HB.out.cell]; exact rc_flg ht8
  rw [F.out] at rf
  have q := E.out
  go_wp2_with fail
  clear re rp rf
  have hy := Ext.drew W1
  have re := (HE.out.ext hy).cell
  have rp := (HP.out.ext hy).cell
  have r2 : W1.drew.cell? ⟨w.heap.size, 35 + o * 24 + t * 3, none⟩ = some (.int .i64 p0) := by rw [(HB.out.ext hy).cell]; exact P0.out
  have r3 : W1.drew.cell? ⟨w.heap.size, 35 + o * 24 + t * 3 + 1, none⟩ = some (.int .i64 p1) := by rw [(HB.out.ext hy).cell]; exact P1.out
  have r4 : W1.drew.cell? ⟨w.heap.size, 35 + o * 24 + t * 3 + 2, none⟩ = some (.int .i64 p2) := by rw [(HB.out.ext hy).cell]; exact P2.out
  have f0 := (HB.out.ext hy).free (35 + o * 24 + t * 3)
  have f1 := (HB.out.ext hy).free (35 + o * 24 + t * 3 + 1)
  have f2 := (HB.out.ext hy).free (35 + o * 24 + t * 3 + 2)
  have r3' : W1.cell? ⟨w.heap.size, 35 + o * 24 + t * 3 + 1, none⟩ = some (.int .i64 p1) := by rw [HB.out.cell]; exact P1.out
  have r4' : W1.cell? ⟨w.heap.size, 35 + o * 24 + t * 3 + 2, none⟩ = some (.int .i64 p2) := by rw [HB.out.cell]; exact P2.out
  have f1' := HB.out.free (35 + o * 24 + t * 3 + 1)
  have f2' := HB.out.free (35 + o * 24 + t * 3 + 2)
  go_region
  clear re rp r2 r3 r4 f0 f1 f2 r3' r4' f1' f2' hy
  have b4 := ((HB.out.set (35 + o * 24 + t * 3) (.int .i64 0)).set (35 + o * 24 + t * 3 + 1) (.int .i64 p0)).set (35 + o * 24 + t * 3 + 2) (.int .i64 12)
  rw [rset_pl ho8 ht8 none (some (p0, 12)) (x := 0) (y := p0) (z := 12) rfl rfl rfl] at b4
  have b4 := b4.ext (Ext.drew _)
  have c4 := ((((Chg.refl [w.heap.size] W1).set (p := ⟨w.heap.size, 35 + o * 24 + t * 3, none⟩) (.inl (by simp)) (.int .i64 0)).set (p := ⟨w.heap.size, 35 + o * 24 + t * 3 + 1, none⟩) (.inl (by simp)) (.int .i64 p0)).set (p := ⟨w.heap.size, 35 + o * 24 + t * 3 + 2, none⟩) (.inl (by simp)) (.int .i64 12)).trans (Chg.drew [w.heap.size] _)
  have HB4 := hide b4
  have HR4 := hide (HR.out.chg c4 (by simp; omega))
  have HX4 := hide (HX.out.turn c4 (by simp))
  clear b4 c4
  go_wp2_with first | (with_reducible refine wpList_get rfl _ rfl w.heap.size _ rfl HB4.out ?_; go_frame) | (with_reducible refine wpList_put rfl _ _ rfl (w.heap.size + 1 + 1) _ rfl rfl zz HR4.out HZ.out ?_; intro w' hb' hc' hs'; have HX' := hide (HX4.out.turn hc' (by simp; omega)); clear hc' hs'; go_frame) | go_in
  refine bodyPost_ret (res_of Try.results43 _ _ rfl rfl hb') rfl ?_
  exact ⟨by rw [HP0.out]; rfl, HX'.out⟩
theorem rwait_5o {S : St} (ok : Ok S) {t o : Nat} (a r : Int) (ht : t < S.N) (ho : o < S.M) (hr0 : 0 ≤ r) (hr1 : r < 100) (h12 : r ≠ 12) (h13 : r ≠ 13) (w : World) :
    Calls Try.prog 43 #[.agg (rc S), (Value.agg #[Value.int .i64 5, .int .i64 (t : Int), .int .i64 (o : Int), .int .i64 a, .int .i64 r])] w fun e w' => e = .returned (.tuple #[.agg (rc S), .bool false]) ∧ Ext w w' := by
  obtain ⟨x, hx⟩ : ∃ x, x = IntKind.i64.wrap (500 + r) := ⟨_, rfl⟩
  have hx2 : x = 500 + r := by rw [hx, IntKind.wrap_i64]; omega
  have x1 : (x == 409) = false := by simp; omega
  have x2 : (x == 412) = false := by simp; omega
  have x3 : (x == 411) = false := by simp; omega
  have x4 : (x == 400) = false := by simp; omega
  have x5 : (x == 513) = false := by simp; omega
  have x6 : (x == 512) = false := by simp; omega
  have x7 : (x == 600) = false := by simp; omega
  have x8 : (x == 613) = false := by simp; omega
  have x9 : (x == 612) = false := by simp; omega
  have hw := hx.symm
  clear hx hx2 hr0 hr1 h12 h13
  have n1 := ok.n1
  have m1 := ok.m1
  have ho8 : o < 8 := by omega
  have ht8 : t < 8 := by omega
  have i8 : (o : Int) < 8 := by omega
  have j8 : (t : Int) < 8 := by omega
  obtain ⟨zz, hz1, hz2, hz3, hz4, -⟩ : ∃ zz : Array Value, (∀ w, (zeroValue 47).run Try.prog w = .ok (.agg zz) w) ∧ ¬ zz = #[] ∧ ¬ zz.size < 2 ∧ zz.size = 227 ∧ zz = zr := ⟨_, fun w => by kernel_rfl, by decide +kernel, by decide +kernel, by decide +kernel, rfl⟩
  have HZ := hide hz4
  clear hz4
  have hp0 : (rc S)[35 + o * 24 + t * 3]? = some (.int .i64 (plA S o t 0)) := rc_pla (o := o) (t := t) (j := 0) ho8 ht8 (by omega)
  have hp1 : (rc S)[35 + o * 24 + t * 3 + 1]? = some (.int .i64 (plA S o t 1)) := rc_pla (o := o) (t := t) (j := 1) ho8 ht8 (by omega)
  have hp2 : (rc S)[35 + o * 24 + t * 3 + 2]? = some (.int .i64 (plA S o t 2)) := rc_pla (o := o) (t := t) (j := 2) ho8 ht8 (by omega)
  have HP0 := hide (show (S.wt o t).getD 0 = plA S o t 0 from rfl)
  have HP1 := hide (show ((S.lf o t).getD (0, 0)).1 = plA S o t 1 from rfl)
  have P0 := hide hp0
  have P1 := hide hp1
  have P2 := hide hp2
  clear hp0 hp1 hp2
  generalize plA S o t 0 = p0 at *
  generalize plA S o t 1 = p1 at *
  generalize plA S o t 2 = p2 at *
  go_enter Try.func43, Try.ntmps43
  go_wp2_with fail
  have HB := hide (((Blk.new w (rc S) 47).ext (Ext.alloc _ (.cells #[Value.int .i64 5, .int .i64 (t : Int), .int .i64 (o : Int), .int .i64 a, .int .i64 r] 29))).ext (Ext.alloc _ (.cells zz 47)))
  have HE := Blk.new (w.alloc (.cells (rc S) 47)) #[Value.int .i64 5, .int .i64 (t : Int), .int .i64 (o : Int), .int .i64 a, .int .i64 r] 29
  rw [World.size_alloc] at HE
  have HE := hide (HE.ext (Ext.alloc _ (.cells zz 47)))
  have HR := Blk.new ((w.alloc (.cells (rc S) 47)).alloc (.cells #[Value.int .i64 5, .int .i64 (t : Int), .int .i64 (o : Int), .int .i64 a, .int .i64 r] 29)) zz 47
  rw [World.size_alloc, World.size_alloc] at HR
  have HR := hide HR
  have HX := hide (((Ext.alloc w (.cells (rc S) 47)).trans (Ext.alloc _ (.cells #[Value.int .i64 5, .int .i64 (t : Int), .int .i64 (o : Int), .int .i64 a, .int .i64 r] 29))).trans (Ext.alloc _ (.cells zz 47)))
  generalize (((w.alloc (.cells (rc S) 47)).alloc (.cells #[Value.int .i64 5, .int .i64 (t : Int), .int .i64 (o : Int), .int .i64 a, .int .i64 r] 29)).alloc (.cells zz 47)) = W0 at *
  clear hz1 hz2 hz3
  have re := (HE.out.ext (Ext.drew W0)).cell
  go_region
  clear re
  have HB := hide (HB.out.ext (Ext.drew W0))
  have HE := hide (HE.out.ext (Ext.drew W0))
  have HR := hide (HR.out.ext (Ext.drew W0))
  have HX := hide (HX.out.trans (Ext.drew W0))
  generalize W0.drew = W0 at *
  have re := HE.out.cell
  have r1 : W0.cell? ⟨w.heap.size, 3 + o, none⟩ = some (.int .i64 (S.own o + 1)) := by rw [HB.out.cell]; exact rc_own ho8
  have r2 : W0.cell? ⟨w.heap.size, 35 + o * 24 + t * 3, none⟩ = some (.int .i64 p0) := by rw [HB.out.cell]; exact P0.out
  have r3 : W0.cell? ⟨w.heap.size, 35 + o * 24 + t * 3 + 1, none⟩ = some (.int .i64 p1) := by rw [HB.out.cell]; exact P1.out
  have r4 : W0.cell? ⟨w.heap.size, 35 + o * 24 + t * 3 + 2, none⟩ = some (.int .i64 p2) := by rw [HB.out.cell]; exact P2.out
  have Y1 : Hid ((rc S)[3 + o]? = some (.int .i64 (S.own o + 1))) := hide (rc_own ho8)
  obtain ⟨y, hy⟩ : ∃ y, S.own o + 1 = y := ⟨_, rfl⟩
  rw [hy] at r1 Y1
  have HY := hide hy
  clear hy
  go_upto_region 4 with fail
  have lR := HR.out.lt
  have HP := hide (Blk.new W0 #[.int .i64 p0, .int .i64 p1, .int .i64 p2] 43)
  have hal := Ext.alloc W0 (.cells #[.int .i64 p0, .int .i64 p1, .int .i64 p2] 43)
  have HB := hide (HB.out.ext hal)
  have HE := hide (HE.out.ext hal)
  have HR := hide (HR.out.ext hal)
  have HX := hide (HX.out.trans hal)
  clear re r1 r2 r3 r4 hal
  generalize W0.alloc (.cells #[.int .i64 p0, .int .i64 p1, .int .i64 p2] 43) = W1 at *
  generalize W0.heap.size = bp at *
  have lbp : w.heap.size + 1 + 1 < bp := lR
  clear lR
  have re := HE.out.cell
  have rp := HP.out.cell
  go_wp2_with first | (with_reducible refine wpList_get rfl _ rfl w.heap.size _ rfl HB.out ?_; go_frame) | (with_reducible refine wpList_put rfl _ _ rfl (w.heap.size + 1 + 1) _ rfl rfl zz HR.out HZ.out ?_; intro w' hb' hc' hs'; have HX' := hide (HX.out.turn hc' (by simp; omega)); clear hc' hs'; go_frame) | go_in
  refine bodyPost_ret (res_of Try.results43 _ _ rfl rfl hb') rfl ?_
  exact ⟨by rfl, HX'.out⟩
theorem rwait_6o {S : St} (ok : Ok S) {t o : Nat} (a r : Int) (ht : t < S.N) (ho : o < S.M) (hr0 : 0 ≤ r) (hr1 : r < 100) (h12 : r ≠ 12) (h13 : r ≠ 13) (h0 : r ≠ 0) (w : World) :
    Calls Try.prog 43 #[.agg (rc S), (Value.agg #[Value.int .i64 6, .int .i64 (t : Int), .int .i64 (o : Int), .int .i64 a, .int .i64 r])] w fun e w' => e = .returned (.tuple #[.agg (rc S), .bool false]) ∧ Ext w w' := by
  obtain ⟨x, hx⟩ : ∃ x, x = IntKind.i64.wrap (600 + r) := ⟨_, rfl⟩
  have hx2 : x = 600 + r := by rw [hx, IntKind.wrap_i64]; omega
  have x1 : (x == 409) = false := by simp; omega
  have x2 : (x == 412) = false := by simp; omega
  have x3 : (x == 411) = false := by simp; omega
  have x4 : (x == 400) = false := by simp; omega
  have x5 : (x == 513) = false := by simp; omega
  have x6 : (x == 512) = false := by simp; omega
  have x7 : (x == 600) = false := by simp; omega
  have x8 : (x == 613) = false := by simp; omega
  have x9 : (x == 612) = false := by simp; omega
  have hw := hx.symm
  clear hx hx2 hr0 hr1 h12 h13 h0
  have n1 := ok.n1
  have m1 := ok.m1
  have ho8 : o < 8 := by omega
  have ht8 : t < 8 := by omega
  have i8 : (o : Int) < 8 := by omega
  have j8 : (t : Int) < 8 := by omega
  obtain ⟨zz, hz1, hz2, hz3, hz4, -⟩ : ∃ zz : Array Value, (∀ w, (zeroValue 47).run Try.prog w = .ok (.agg zz) w) ∧ ¬ zz = #[] ∧ ¬ zz.size < 2 ∧ zz.size = 227 ∧ zz = zr := ⟨_, fun w => by kernel_rfl, by decide +kernel, by decide +kernel, by decide +kernel, rfl⟩
  have HZ := hide hz4
  clear hz4
  have hp0 : (rc S)[35 + o * 24 + t * 3]? = some (.int .i64 (plA S o t 0)) := rc_pla (o := o) (t := t) (j := 0) ho8 ht8 (by omega)
  have hp1 : (rc S)[35 + o * 24 + t * 3 + 1]? = some (.int .i64 (plA S o t 1)) := rc_pla (o := o) (t := t) (j := 1) ho8 ht8 (by omega)
  have hp2 : (rc S)[35 + o * 24 + t * 3 + 2]? = some (.int .i64 (plA S o t 2)) := rc_pla (o := o) (t := t) (j := 2) ho8 ht8 (by omega)
  have HP0 := hide (show (S.wt o t).getD 0 = plA S o t 0 from rfl)
  have HP1 := hide (show ((S.lf o t).getD (0, 0)).1 = plA S o t 1 from rfl)
  have P0 := hide hp0
  have P1 := hide hp1
  have P2 := hide hp2
  clear hp0 hp1 hp2
  generalize plA S o t 0 = p0 at *
  generalize plA S o t 1 = p1 at *
  generalize plA S o t 2 = p2 at *
  go_enter Try.func43, Try.ntmps43
  go_wp2_with fail
  have HB := hide (((Blk.new w (rc S) 47).ext (Ext.alloc _ (.cells #[Value.int .i64 6, .int .i64 (t : Int), .int .i64 (o : Int), .int .i64 a, .int .i64 r] 29))).ext (Ext.alloc _ (.cells zz 47)))
  have HE := Blk.new (w.alloc (.cells (rc S) 47)) #[Value.int .i64 6, .int .i64 (t : Int), .int .i64 (o : Int), .int .i64 a, .int .i64 r] 29
  rw [World.size_alloc] at HE
  have HE := hide (HE.ext (Ext.alloc _ (.cells zz 47)))
  have HR := Blk.new ((w.alloc (.cells (rc S) 47)).alloc (.cells #[Value.int .i64 6, .int .i64 (t : Int), .int .i64 (o : Int), .int .i64 a, .int .i64 r] 29)) zz 47
  rw [World.size_alloc, World.size_alloc] at HR
  have HR := hide HR
  have HX := hide (((Ext.alloc w (.cells (rc S) 47)).trans (Ext.alloc _ (.cells #[Value.int .i64 6, .int .i64 (t : Int), .int .i64 (o : Int), .int .i64 a, .int .i64 r] 29))).trans (Ext.alloc _ (.cells zz 47)))
  generalize (((w.alloc (.cells (rc S) 47)).alloc (.cells #[Value.int .i64 6, .int .i64 (t : Int), .int .i64 (o : Int), .int .i64 a, .int .i64 r] 29)).alloc (.cells zz 47)) = W0 at *
  clear hz1 hz2 hz3
  have re := (HE.out.ext (Ext.drew W0)).cell
  go_region
  clear re
  have HB := hide (HB.out.ext (Ext.drew W0))
  have HE := hide (HE.out.ext (Ext.drew W0))
  have HR := hide (HR.out.ext (Ext.drew W0))
  have HX := hide (HX.out.trans (Ext.drew W0))
  generalize W0.drew = W0 at *
  have re := HE.out.cell
  have r1 : W0.cell? ⟨w.heap.size, 3 + o, none⟩ = some (.int .i64 (S.own o + 1)) := by rw [HB.out.cell]; exact rc_own ho8
  have r2 : W0.cell? ⟨w.heap.size, 35 + o * 24 + t * 3, none⟩ = some (.int .i64 p0) := by rw [HB.out.cell]; exact P0.out
  have r3 : W0.cell? ⟨w.heap.size, 35 + o * 24 + t * 3 + 1, none⟩ = some (.int .i64 p1) := by rw [HB.out.cell]; exact P1.out
  have r4 : W0.cell? ⟨w.heap.size, 35 + o * 24 + t * 3 + 2, none⟩ = some (.int .i64 p2) := by rw [HB.out.cell]; exact P2.out
  have Y1 : Hid ((rc S)[3 + o]? = some (.int .i64 (S.own o + 1))) := hide (rc_own ho8)
  obtain ⟨y, hy⟩ : ∃ y, S.own o + 1 = y := ⟨_, rfl⟩
  rw [hy] at r1 Y1
  have HY := hide hy
  clear hy
  go_upto_region 4 with fail
  have lR := HR.out.lt
  have HP := hide (Blk.new W0 #[.int .i64 p0, .int .i64 p1, .int .i64 p2] 43)
  have hal := Ext.alloc W0 (.cells #[.int .i64 p0, .int .i64 p1, .int .i64 p2] 43)
  have HB := hide (HB.out.ext hal)
  have HE := hide (HE.out.ext hal)
  have HR := hide (HR.out.ext hal)
  have HX := hide (HX.out.trans hal)
  clear re r1 r2 r3 r4 hal
  generalize W0.alloc (.cells #[.int .i64 p0, .int .i64 p1, .int .i64 p2] 43) = W1 at *
  generalize W0.heap.size = bp at *
  have lbp : w.heap.size + 1 + 1 < bp := lR
  clear lR
  have re := HE.out.cell
  have rp := HP.out.cell
  go_wp2_with first | (with_reducible refine wpList_get rfl _ rfl w.heap.size _ rfl HB.out ?_; go_frame) | (with_reducible refine wpList_put rfl _ _ rfl (w.heap.size + 1 + 1) _ rfl rfl zz HR.out HZ.out ?_; intro w' hb' hc' hs'; have HX' := hide (HX.out.turn hc' (by simp; omega)); clear hc' hs'; go_frame) | go_in
  refine bodyPost_ret (res_of Try.results43 _ _ rfl rfl hb') rfl ?_
  exact ⟨by rfl, HX'.out⟩
theorem rwait_60n {S : St} (ok : Ok S) {t o : Nat} (a : Int) (ht : t < S.N) (ho : o < S.M) (E : (S.own o + 1 != 0 || (plA S o t 1 == 0 || plA S o t 2 != 0)) = true) (w : World) :
    Calls Try.prog 43 #[.agg (rc S), (Value.agg #[Value.int .i64 6, .int .i64 (t : Int), .int .i64 (o : Int), .int .i64 a, .int .i64 0])] w fun e w' => e = .returned (.tuple #[.agg (rc S), .bool false]) ∧ Ext w w' := by
  have E := hide E
  have n1 := ok.n1
  have m1 := ok.m1
  have ho8 : o < 8 := by omega
  have ht8 : t < 8 := by omega
  have i8 : (o : Int) < 8 := by omega
  have j8 : (t : Int) < 8 := by omega
  obtain ⟨zz, hz1, hz2, hz3, hz4, -⟩ : ∃ zz : Array Value, (∀ w, (zeroValue 47).run Try.prog w = .ok (.agg zz) w) ∧ ¬ zz = #[] ∧ ¬ zz.size < 2 ∧ zz.size = 227 ∧ zz = zr := ⟨_, fun w => by kernel_rfl, by decide +kernel, by decide +kernel, by decide +kernel, rfl⟩
  have HZ := hide hz4
  clear hz4
  have hp0 : (rc S)[35 + o * 24 + t * 3]? = some (.int .i64 (plA S o t 0)) := rc_pla (o := o) (t := t) (j := 0) ho8 ht8 (by omega)
  have hp1 : (rc S)[35 + o * 24 + t * 3 + 1]? = some (.int .i64 (plA S o t 1)) := rc_pla (o := o) (t := t) (j := 1) ho8 ht8 (by omega)
  have hp2 : (rc S)[35 + o * 24 + t * 3 + 2]? = some (.int .i64 (plA S o t 2)) := rc_pla (o := o) (t := t) (j := 2) ho8 ht8 (by omega)
  have HP0 := hide (show (S.wt o t).getD 0 = plA S o t 0 from rfl)
  have HP1 := hide (show ((S.lf o t).getD (0, 0)).1 = plA S o t 1 from rfl)
  have P0 := hide hp0
  have P1 := hide hp1
  have P2 := hide hp2
  clear hp0 hp1 hp2
  generalize plA S o t 0 = p0 at *
  generalize plA S o t 1 = p1 at *
  generalize plA S o t 2 = p2 at *
  go_enter Try.func43, Try.ntmps43
  go_wp2_with fail
  have HB := hide (((Blk.new w (rc S) 47).ext (Ext.alloc _ (.cells #[Value.int .i64 6, .int .i64 (t : Int), .int .i64 (o : Int), .int .i64 a, .int .i64 0] 29))).ext (Ext.alloc _ (.cells zz 47)))
  have HE := Blk.new (w.alloc (.cells (rc S) 47)) #[Value.int .i64 6, .int .i64 (t : Int), .int .i64 (o : Int), .int .i64 a, .int .i64 0] 29
  rw [World.size_alloc] at HE
  have HE := hide (HE.ext (Ext.alloc _ (.cells zz 47)))
  have HR := Blk.new ((w.alloc (.cells (rc S) 47)).alloc (.cells #[Value.int .i64 6, .int .i64 (t : Int), .int .i64 (o : Int), .int .i64 a, .int .i64 0] 29)) zz 47
  rw [World.size_alloc, World.size_alloc] at HR
  have HR := hide HR
  have HX := hide (((Ext.alloc w (.cells (rc S) 47)).trans (Ext.alloc _ (.cells #[Value.int .i64 6, .int .i64 (t : Int), .int .i64 (o : Int), .int .i64 a, .int .i64 0] 29))).trans (Ext.alloc _ (.cells zz 47)))
  generalize (((w.alloc (.cells (rc S) 47)).alloc (.cells #[Value.int .i64 6, .int .i64 (t : Int), .int .i64 (o : Int), .int .i64 a, .int .i64 0] 29)).alloc (.cells zz 47)) = W0 at *
  clear hz1 hz2 hz3
  have re := (HE.out.ext (Ext.drew W0)).cell
  go_region
  clear re
  have HB := hide (HB.out.ext (Ext.drew W0))
  have HE := hide (HE.out.ext (Ext.drew W0))
  have HR := hide (HR.out.ext (Ext.drew W0))
  have HX := hide (HX.out.trans (Ext.drew W0))
  generalize W0.drew = W0 at *
  have re := HE.out.cell
  have r1 : W0.cell? ⟨w.heap.size, 3 + o, none⟩ = some (.int .i64 (S.own o + 1)) := by rw [HB.out.cell]; exact rc_own ho8
  have r2 : W0.cell? ⟨w.heap.size, 35 + o * 24 + t * 3, none⟩ = some (.int .i64 p0) := by rw [HB.out.cell]; exact P0.out
  have r3 : W0.cell? ⟨w.heap.size, 35 + o * 24 + t * 3 + 1, none⟩ = some (.int .i64 p1) := by rw [HB.out.cell]; exact P1.out
  have r4 : W0.cell? ⟨w.heap.size, 35 + o * 24 + t * 3 + 2, none⟩ = some (.int .i64 p2) := by rw [HB.out.cell]; exact P2.out
  have Y1 : Hid ((rc S)[3 + o]? = some (.int .i64 (S.own o + 1))) := hide (rc_own ho8)
  obtain ⟨y, hy⟩ : ∃ y, S.own o + 1 = y := ⟨_, rfl⟩
  rw [hy] at r1 Y1
  have HY := hide hy
  clear hy
  go_upto_region 4 with fail
  have lR := HR.out.lt
  have HP := hide (Blk.new W0 #[.int .i64 p0, .int .i64 p1, .int .i64 p2] 43)
  have hal := Ext.alloc W0 (.cells #[.int .i64 p0, .int .i64 p1, .int .i64 p2] 43)
  have HB := hide (HB.out.ext hal)
  have HE := hide (HE.out.ext hal)
  have HR := hide (HR.out.ext hal)
  have HX := hide (HX.out.trans hal)
  clear re r1 r2 r3 r4 hal
  generalize W0.alloc (.cells #[.int .i64 p0, .int .i64 p1, .int .i64 p2] 43) = W1 at *
  generalize W0.heap.size = bp at *
  have lbp : w.heap.size + 1 + 1 < bp := lR
  clear lR
  have re := HE.out.cell
  have rp := HP.out.cell
  have rf : W1.cell? ⟨w.heap.size, 27 + t, none⟩ = some (.bool (S.flg t)) := by rw [HB.out.cell]; exact rc_flg ht8
  rw [HY.out] at E
  have r1 : W1.cell? ⟨w.heap.size, 3 + o, none⟩ = some (.int .i64 y) := by rw [HB.out.cell]; exact Y1.out
  cases q0 : (y != 0)
  · cases q1 : (p1 == 0)
    · have q2 : (p2 != 0) = true := by have := E.out; rw [q0, q1] at this; simpa using this
      go_wp2_with first | (with_reducible refine wpList_get rfl _ rfl w.heap.size _ rfl HB.out ?_; go_frame) | (with_reducible refine wpList_put rfl _ _ rfl (w.heap.size + 1 + 1) _ rfl rfl zz HR.out HZ.out ?_; intro w' hb' hc' hs'; have HX' := hide (HX.out.turn hc' (by simp; omega)); clear hc' hs'; go_frame) | go_in
      refine bodyPost_ret (res_of Try.results43 _ _ rfl rfl hb') rfl ?_
      exact ⟨by rfl, HX'.out⟩
    · go_wp2_with first | (with_reducible refine wpList_get rfl _ rfl w.heap.size _ rfl HB.out ?_; go_frame) | (with_reducible refine wpList_put rfl _ _ rfl (w.heap.size + 1 + 1) _ rfl rfl zz HR.out HZ.out ?_; intro w' hb' hc' hs'; have HX' := hide (HX.out.turn hc' (by simp; omega)); clear hc' hs'; go_frame) | go_in
      refine bodyPost_ret (res_of Try.results43 _ _ rfl rfl hb') rfl ?_
      exact ⟨by rfl, HX'.out⟩
  · go_wp2_with first | (with_reducible refine wpList_get rfl _ rfl w.heap.size _ rfl HB.out ?_; go_frame) | (with_reducible refine wpList_put rfl _ _ rfl (w.heap.size + 1 + 1) _ rfl rfl zz HR.out HZ.out ?_; intro w' hb' hc' hs'; have HX' := hide (HX.out.turn hc' (by simp; omega)); clear hc' hs'; go_frame) | go_in
    refine bodyPost_ret (res_of Try.results43 _ _ rfl rfl hb') rfl ?_
    exact ⟨by rfl, HX'.out⟩
theorem rwait_613n {S : St} (ok : Ok S) {t o : Nat} (a : Int) (ht : t < S.N) (ho : o < S.M) (E : (S.own o + 1 != 0 || (plA S o t 1 == 0 || plA S o t 2 != 13)) = true) (w : World) :
    Calls Try.prog 43 #[.agg (rc S), (Value.agg #[Value.int .i64 6, .int .i64 (t : Int), .int .i64 (o : Int), .int .i64 a, .int .i64 13])] w fun e w' => e = .returned (.tuple #[.agg (rc S), .bool false]) ∧ Ext w w' := by
  have E := hide E
  have n1 := ok.n1
  have m1 := ok.m1
  have ho8 : o < 8 := by omega
  have ht8 : t < 8 := by omega
  have i8 : (o : Int) < 8 := by omega
  have j8 : (t : Int) < 8 := by omega
  obtain ⟨zz, hz1, hz2, hz3, hz4, -⟩ : ∃ zz : Array Value, (∀ w, (zeroValue 47).run Try.prog w = .ok (.agg zz) w) ∧ ¬ zz = #[] ∧ ¬ zz.size < 2 ∧ zz.size = 227 ∧ zz = zr := ⟨_, fun w => by kernel_rfl, by decide +kernel, by decide +kernel, by decide +kernel, rfl⟩
  have HZ := hide hz4
  clear hz4
  have hp0 : (rc S)[35 + o * 24 + t * 3]? = some (.int .i64 (plA S o t 0)) := rc_pla (o := o) (t := t) (j := 0) ho8 ht8 (by omega)
  have hp1 : (rc S)[35 + o * 24 + t * 3 + 1]? = some (.int .i64 (plA S o t 1)) := rc_pla (o := o) (t := t) (j := 1) ho8 ht8 (by omega)
  have hp2 : (rc S)[35 + o * 24 + t * 3 + 2]? = some (.int .i64 (plA S o t 2)) := rc_pla (o := o) (t := t) (j := 2) ho8 ht8 (by omega)
  have HP0 := hide (show (S.wt o t).getD 0 = plA S o t 0 from rfl)
  have HP1 := hide (show ((S.lf o t).getD (0, 0)).1 = plA S o t 1 from rfl)
  have P0 := hide hp0
  have P1 := hide hp1
  have P2 := hide hp2
  clear hp0 hp1 hp2
  generalize plA S o t 0 = p0 at *
  generalize plA S o t 1 = p1 at *
  generalize plA S o t 2 = p2 at *
  go_enter Try.func43, Try.ntmps43
  go_wp2_with fail
  have HB := hide (((Blk.new w (rc S) 47).ext (Ext.alloc _ (.cells #[Value.int .i64 6, .int .i64 (t : Int), .int .i64 (o : Int), .int .i64 a, .int .i64 13] 29))).ext (Ext.alloc _ (.cells zz 47)))
  have HE := Blk.new (w.alloc (.cells (rc S) 47)) #[Value.int .i64 6, .int .i64 (t : Int), .int .i64 (o : Int), .int .i64 a, .int .i64 13] 29
  rw [World.size_alloc] at HE
  have HE := hide (HE.ext (Ext.alloc _ (.cells zz 47)))
  have HR := Blk.new ((w.alloc (.cells (rc S) 47)).alloc (.cells #[Value.int .i64 6, .int .i64 (t : Int), .int .i64 (o : Int), .int .i64 a, .int .i64 13] 29)) zz 47
  rw [World.size_alloc, World.size_alloc] at HR
  have HR := hide HR
  have HX := hide (((Ext.alloc w (.cells (rc S) 47)).trans (Ext.alloc _ (.cells #[Value.int .i64 6, .int .i64 (t : Int), .int .i64 (o : Int), .int .i64 a, .int .i64 13] 29))).trans (Ext.alloc _ (.cells zz 47)))
  generalize (((w.alloc (.cells (rc S) 47)).alloc (.cells #[Value.int .i64 6, .int .i64 (t : Int), .int .i64 (o : Int), .int .i64 a, .int .i64 13] 29)).alloc (.cells zz 47)) = W0 at *
  clear hz1 hz2 hz3
  have re := (HE.out.ext (Ext.drew W0)).cell
  go_region
  clear re
  have HB := hide (HB.out.ext (Ext.drew W0))
  have HE := hide (HE.out.ext (Ext.drew W0))
  have HR := hide (HR.out.ext (Ext.drew W0))
  have HX := hide (HX.out.trans (Ext.drew W0))
  generalize W0.drew = W0 at *
  have re := HE.out.cell
  have r1 : W0.cell? ⟨w.heap.size, 3 + o, none⟩ = some (.int .i64 (S.own o + 1)) := by rw [HB.out.cell]; exact rc_own ho8
  have r2 : W0.cell? ⟨w.heap.size, 35 + o * 24 + t * 3, none⟩ = some (.int .i64 p0) := by rw [HB.out.cell]; exact P0.out
  have r3 : W0.cell? ⟨w.heap.size, 35 + o * 24 + t * 3 + 1, none⟩ = some (.int .i64 p1) := by rw [HB.out.cell]; exact P1.out
  have r4 : W0.cell? ⟨w.heap.size, 35 + o * 24 + t * 3 + 2, none⟩ = some (.int .i64 p2) := by rw [HB.out.cell]; exact P2.out
  have Y1 : Hid ((rc S)[3 + o]? = some (.int .i64 (S.own o + 1))) := hide (rc_own ho8)
  obtain ⟨y, hy⟩ : ∃ y, S.own o + 1 = y := ⟨_, rfl⟩
  rw [hy] at r1 Y1
  have HY := hide hy
  clear hy
  go_upto_region 4 with fail
  have lR := HR.out.lt
  have HP := hide (Blk.new W0 #[.int .i64 p0, .int .i64 p1, .int .i64 p2] 43)
  have hal := Ext.alloc W0 (.cells #[.int .i64 p0, .int .i64 p1, .int .i64 p2] 43)
  have HB := hide (HB.out.ext hal)
  have HE := hide (HE.out.ext hal)
  have HR := hide (HR.out.ext hal)
  have HX := hide (HX.out.trans hal)
  clear re r1 r2 r3 r4 hal
  generalize W0.alloc (.cells #[.int .i64 p0, .int .i64 p1, .int .i64 p2] 43) = W1 at *
  generalize W0.heap.size = bp at *
  have lbp : w.heap.size + 1 + 1 < bp := lR
  clear lR
  have re := HE.out.cell
  have rp := HP.out.cell
  have rf : W1.cell? ⟨w.heap.size, 27 + t, none⟩ = some (.bool (S.flg t)) := by rw [HB.out.cell]; exact rc_flg ht8
  rw [HY.out] at E
  have r1 : W1.cell? ⟨w.heap.size, 3 + o, none⟩ = some (.int .i64 y) := by rw [HB.out.cell]; exact Y1.out
  cases q0 : (y != 0)
  · cases q1 : (p1 == 0)
    · have q2 : (p2 != 13) = true := by have := E.out; rw [q0, q1] at this; simpa using this
      go_wp2_with first | (with_reducible refine wpList_get rfl _ rfl w.heap.size _ rfl HB.out ?_; go_frame) | (with_reducible refine wpList_put rfl _ _ rfl (w.heap.size + 1 + 1) _ rfl rfl zz HR.out HZ.out ?_; intro w' hb' hc' hs'; have HX' := hide (HX.out.turn hc' (by simp; omega)); clear hc' hs'; go_frame) | go_in
      refine bodyPost_ret (res_of Try.results43 _ _ rfl rfl hb') rfl ?_
      exact ⟨by rfl, HX'.out⟩
    · go_wp2_with first | (with_reducible refine wpList_get rfl _ rfl w.heap.size _ rfl HB.out ?_; go_frame) | (with_reducible refine wpList_put rfl _ _ rfl (w.heap.size + 1 + 1) _ rfl rfl zz HR.out HZ.out ?_; intro w' hb' hc' hs'; have HX' := hide (HX.out.turn hc' (by simp; omega)); clear hc' hs'; go_frame) | go_in
      refine bodyPost_ret (res_of Try.results43 _ _ rfl rfl hb') rfl ?_
      exact ⟨by rfl, HX'.out⟩
  · go_wp2_with first | (with_reducible refine wpList_get rfl _ rfl w.heap.size _ rfl HB.out ?_; go_frame) | (with_reducible refine wpList_put rfl _ _ rfl (w.heap.size + 1 + 1) _ rfl rfl zz HR.out HZ.out ?_; intro w' hb' hc' hs'; have HX' := hide (HX.out.turn hc' (by simp; omega)); clear hc' hs'; go_frame) | go_in
    refine bodyPost_ret (res_of Try.results43 _ _ rfl rfl hb') rfl ?_
    exact ⟨by rfl, HX'.out⟩
theorem rwait_612n {S : St} (ok : Ok S) {t o : Nat} (a : Int) (ht : t < S.N) (ho : o < S.M) (E : (S.own o + 1 != 0 || (plA S o t 1 == 0 || plA S o t 2 != 12)) = true) (w : World) :
    Calls Try.prog 43 #[.agg (rc S), (Value.agg #[Value.int .i64 6, .int .i64 (t : Int), .int .i64 (o : Int), .int .i64 a, .int .i64 12])] w fun e w' => e = .returned (.tuple #[.agg (rc S), .bool false]) ∧ Ext w w' := by
  have E := hide E
  have n1 := ok.n1
  have m1 := ok.m1
  have ho8 : o < 8 := by omega
  have ht8 : t < 8 := by omega
  have i8 : (o : Int) < 8 := by omega
  have j8 : (t : Int) < 8 := by omega
  obtain ⟨zz, hz1, hz2, hz3, hz4, -⟩ : ∃ zz : Array Value, (∀ w, (zeroValue 47).run Try.prog w = .ok (.agg zz) w) ∧ ¬ zz = #[] ∧ ¬ zz.size < 2 ∧ zz.size = 227 ∧ zz = zr := ⟨_, fun w => by kernel_rfl, by decide +kernel, by decide +kernel, by decide +kernel, rfl⟩
  have HZ := hide hz4
  clear hz4
  have hp0 : (rc S)[35 + o * 24 + t * 3]? = some (.int .i64 (plA S o t 0)) := rc_pla (o := o) (t := t) (j := 0) ho8 ht8 (by omega)
  have hp1 : (rc S)[35 + o * 24 + t * 3 + 1]? = some (.int .i64 (plA S o t 1)) := rc_pla (o := o) (t := t) (j := 1) ho8 ht8 (by omega)
  have hp2 : (rc S)[35 + o * 24 + t * 3 + 2]? = some (.int .i64 (plA S o t 2)) := rc_pla (o := o) (t := t) (j := 2) ho8 ht8 (by omega)
  have HP0 := hide (show (S.wt o t).getD 0 = plA S o t 0 from rfl)
  have HP1 := hide (show ((S.lf o t).getD (0, 0)).1 = plA S o t 1 from rfl)
  have P0 := hide hp0
  have P1 := hide hp1
  have P2 := hide hp2
  clear hp0 hp1 hp2
  generalize plA S o t 0 = p0 at *
  generalize plA S o t 1 = p1 at *
  generalize plA S o t 2 = p2 at *
  go_enter Try.func43, Try.ntmps43
  go_wp2_with fail
  have HB := hide (((Blk.new w (rc S) 47).ext (Ext.alloc _ (.cells #[Value.int .i64 6, .int .i64 (t : Int), .int .i64 (o : Int), .int .i64 a, .int .i64 12] 29))).ext (Ext.alloc _ (.cells zz 47)))
  have HE := Blk.new (w.alloc (.cells (rc S) 47)) #[Value.int .i64 6, .int .i64 (t : Int), .int .i64 (o : Int), .int .i64 a, .int .i64 12] 29
  rw [World.size_alloc] at HE
  have HE := hide (HE.ext (Ext.alloc _ (.cells zz 47)))
  have HR := Blk.new ((w.alloc (.cells (rc S) 47)).alloc (.cells #[Value.int .i64 6, .int .i64 (t : Int), .int .i64 (o : Int), .int .i64 a, .int .i64 12] 29)) zz 47
  rw [World.size_alloc, World.size_alloc] at HR
  have HR := hide HR
  have HX := hide (((Ext.alloc w (.cells (rc S) 47)).trans (Ext.alloc _ (.cells #[Value.int .i64 6, .int .i64 (t : Int), .int .i64 (o : Int), .int .i64 a, .int .i64 12] 29))).trans (Ext.alloc _ (.cells zz 47)))
  generalize (((w.alloc (.cells (rc S) 47)).alloc (.cells #[Value.int .i64 6, .int .i64 (t : Int), .int .i64 (o : Int), .int .i64 a, .int .i64 12] 29)).alloc (.cells zz 47)) = W0 at *
  clear hz1 hz2 hz3
  have re := (HE.out.ext (Ext.drew W0)).cell
  go_region
  clear re
  have HB := hide (HB.out.ext (Ext.drew W0))
  have HE := hide (HE.out.ext (Ext.drew W0))
  have HR := hide (HR.out.ext (Ext.drew W0))
  have HX := hide (HX.out.trans (Ext.drew W0))
  generalize W0.drew = W0 at *
  have re := HE.out.cell
  have r1 : W0.cell? ⟨w.heap.size, 3 + o, none⟩ = some (.int .i64 (S.own o + 1)) := by rw [HB.out.cell]; exact rc_own ho8
  have r2 : W0.cell? ⟨w.heap.size, 35 + o * 24 + t * 3, none⟩ = some (.int .i64 p0) := by rw [HB.out.cell]; exact P0.out
  have r3 : W0.cell? ⟨w.heap.size, 35 + o * 24 + t * 3 + 1, none⟩ = some (.int .i64 p1) := by rw [HB.out.cell]; exact P1.out
  have r4 : W0.cell? ⟨w.heap.size, 35 + o * 24 + t * 3 + 2, none⟩ = some (.int .i64 p2) := by rw [HB.out.cell]; exact P2.out
  have Y1 : Hid ((rc S)[3 + o]? = some (.int .i64 (S.own o + 1))) := hide (rc_own ho8)
  obtain ⟨y, hy⟩ : ∃ y, S.own o + 1 = y := ⟨_, rfl⟩
  rw [hy] at r1 Y1
  have HY := hide hy
  clear hy
  go_upto_region 4 with fail
  have lR := HR.out.lt
  have HP := hide (Blk.new W0 #[.int .i64 p0, .int .i64 p1, .int .i64 p2] 43)
  have hal := Ext.alloc W0 (.cells #[.int .i64 p0, .int .i64 p1, .int .i64 p2] 43)
  have HB := hide (HB.out.ext hal)
  have HE := hide (HE.out.ext hal)
  have HR := hide (HR.out.ext hal)
  have HX := hide (HX.out.trans hal)
  clear re r1 r2 r3 r4 hal
  generalize W0.alloc (.cells #[.int .i64 p0, .int .i64 p1, .int .i64 p2] 43) = W1 at *
  generalize W0.heap.size = bp at *
  have lbp : w.heap.size + 1 + 1 < bp := lR
  clear lR
  have re := HE.out.cell
  have rp := HP.out.cell
  have rf : W1.cell? ⟨w.heap.size, 27 + t, none⟩ = some (.bool (S.flg t)) := by rw [HB.out.cell]; exact rc_flg ht8
  rw [HY.out] at E
  have r1 : W1.cell? ⟨w.heap.size, 3 + o, none⟩ = some (.int .i64 y) := by rw [HB.out.cell]; exact Y1.out
  cases q0 : (y != 0)
  · cases q1 : (p1 == 0)
    · have q2 : (p2 != 12) = true := by have := E.out; rw [q0, q1] at this; simpa using this
      go_wp2_with first | (with_reducible refine wpList_get rfl _ rfl w.heap.size _ rfl HB.out ?_; go_frame) | (with_reducible refine wpList_put rfl _ _ rfl (w.heap.size + 1 + 1) _ rfl rfl zz HR.out HZ.out ?_; intro w' hb' hc' hs'; have HX' := hide (HX.out.turn hc' (by simp; omega)); clear hc' hs'; go_frame) | go_in
      refine bodyPost_ret (res_of Try.results43 _ _ rfl rfl hb') rfl ?_
      exact ⟨by rfl, HX'.out⟩
    · go_wp2_with first | (with_reducible refine wpList_get rfl _ rfl w.heap.size _ rfl HB.out ?_; go_frame) | (with_reducible refine wpList_put rfl _ _ rfl (w.heap.size + 1 + 1) _ rfl rfl zz HR.out HZ.out ?_; intro w' hb' hc' hs'; have HX' := hide (HX.out.turn hc' (by simp; omega)); clear hc' hs'; go_frame) | go_in
      refine bodyPost_ret (res_of Try.results43 _ _ rfl rfl hb') rfl ?_
      exact ⟨by rfl, HX'.out⟩
  · go_wp2_with first | (with_reducible refine wpList_get rfl _ rfl w.heap.size _ rfl HB.out ?_; go_frame) | (with_reducible refine wpList_put rfl _ _ rfl (w.heap.size + 1 + 1) _ rfl rfl zz HR.out HZ.out ?_; intro w' hb' hc' hs'; have HX' := hide (HX.out.turn hc' (by simp; omega)); clear hc' hs'; go_frame) | go_in
    refine bodyPost_ret (res_of Try.results43 _ _ rfl rfl hb') rfl ?_
    exact ⟨by rfl, HX'.out⟩
end Go.Proofs.Ytacneghgimfklaa

namespace Go.Proofs.Ytacneghgimfklaa
open Go.RowKit Go.Maps
set_option linter.unusedSimpArgs false
set_option linter.unusedVariables false
set_option maxRecDepth 100000
set_option maxHeartbeats 8000000



theorem rwait_60y {S : St} (ok : Ok S) {t o : Nat} (a : Int) (ht : t < S.N) (ho : o < S.M) (hwn : upd2 S.wt o t none = S.wt) (E : (S.own o + 1 != 0 || (plA S o t 1 == 0 || plA S o t 2 != 0)) = false) (w : World) :
    Calls Try.prog 43 #[.agg (rc S), (Value.agg #[Value.int .i64 6, .int .i64 (t : Int), .int .i64 (o : Int), .int .i64 a, .int .i64 0])] w fun e w' => e = .returned (.tuple #[.agg (rc (enS S t o 0)), .bool true]) ∧ Ext w w' := by
  have EB : Hid (enS S t o 0 = { S with own := upd S.own o (t : Int), cnt := upd S.cnt o (plA S o t 1), wt := upd2 S.wt o t none, lf := upd2 S.lf o t none }) := hide (by rw [hwn]; rfl)
  rw [EB.out]
  clear hwn
  have E2 := hide (show (S.own o + 1 != 0) = false ∧ (plA S o t 1 == 0) = false ∧ (plA S o t 2 != 0) = false by simpa [Bool.or_eq_false_iff] using E)
  have E := hide E
  have n1 := ok.n1
  have m1 := ok.m1
  have ho8 : o < 8 := by omega
  have ht8 : t < 8 := by omega
  have i8 : (o : Int) < 8 := by omega
  have j8 : (t : Int) < 8 := by omega
  obtain ⟨zz, hz1, hz2, hz3, hz4, -⟩ : ∃ zz : Array Value, (∀ w, (zeroValue 47).run Try.prog w = .ok (.agg zz) w) ∧ ¬ zz = #[] ∧ ¬ zz.size < 2 ∧ zz.size = 227 ∧ zz = zr := ⟨_, fun w => by kernel_rfl, by decide +kernel, by decide +kernel, by decide +kernel, rfl⟩
  have HZ := hide hz4
  clear hz4
  have hp0 : (rc S)[35 + o * 24 + t * 3]? = some (.int .i64 (plA S o t 0)) := rc_pla (o := o) (t := t) (j := 0) ho8 ht8 (by omega)
  have hp1 : (rc S)[35 + o * 24 + t * 3 + 1]? = some (.int .i64 (plA S o t 1)) := rc_pla (o := o) (t := t) (j := 1) ho8 ht8 (by omega)
  have hp2 : (rc S)[35 + o * 24 + t * 3 + 2]? = some (.int .i64 (plA S o t 2)) := rc_pla (o := o) (t := t) (j := 2) ho8 ht8 (by omega)
  have HP0 := hide (show (S.wt o t).getD 0 = plA S o t 0 from rfl)
  have HP1 := hide (show ((S.lf o t).getD (0, 0)).1 = plA S o t 1 from rfl)
  have P0 := hide hp0
  have P1 := hide hp1
  have P2 := hide hp2
  clear hp0 hp1 hp2
  generalize plA S o t 0 = p0 at *
  generalize plA S o t 1 = p1 at *
  generalize plA S o t 2 = p2 at *
  go_enter Try.func43, Try.ntmps43
  go_wp2_with fail
  have HB := hide (((Blk.new w (rc S) 47).ext (Ext.alloc _ (.cells #[Value.int .i64 6, .int .i64 (t : Int), .int .i64 (o : Int), .int .i64 a, .int .i64 0] 29))).ext (Ext.alloc _ (.cells zz 47)))
  have HE := Blk.new (w.alloc (.cells (rc S) 47)) #[Value.int .i64 6, .int .i64 (t : Int), .int .i64 (o : Int), .int .i64 a, .int .i64 0] 29
  rw [World.size_alloc] at HE
  have HE := hide (HE.ext (Ext.alloc _ (.cells zz 47)))
  have HR := Blk.new ((w.alloc (.cells (rc S) 47)).alloc (.cells #[Value.int .i64 6, .int .i64 (t : Int), .int .i64 (o : Int), .int .i64 a, .int .i64 0] 29)) zz 47
  rw [World.size_alloc, World.size_alloc] at HR
  have HR := hide HR
  have HX := hide (((Ext.alloc w (.cells (rc S) 47)).trans (Ext.alloc _ (.cells #[Value.int .i64 6, .int .i64 (t : Int), .int .i64 (o : Int), .int .i64 a, .int .i64 0] 29))).trans (Ext.alloc _ (.cells zz 47)))
  generalize (((w.alloc (.cells (rc S) 47)).alloc (.cells #[Value.int .i64 6, .int .i64 (t : Int), .int .i64 (o : Int), .int .i64 a, .int .i64 0] 29)).alloc (.cells zz 47)) = W0 at *
  clear hz1 hz2 hz3
  have re := (HE.out.ext (Ext.drew W0)).cell
  go_region
  clear re
  have HB := hide (HB.out.ext (Ext.drew W0))
  have HE := hide (HE.out.ext (Ext.drew W0))
  have HR := hide (HR.out.ext (Ext.drew W0))
  have HX := hide (HX.out.trans (Ext.drew W0))
  generalize W0.drew = W0 at *
  have re := HE.out.cell
  have r1 : W0.cell? ⟨w.heap.size, 3 + o, none⟩ = some (.int .i64 (S.own o + 1)) := by rw [HB.out.cell]; exact rc_own ho8
  have r2 : W0.cell? ⟨w.heap.size, 35 + o * 24 + t * 3, none⟩ = some (.int .i64 p0) := by rw [HB.out.cell]; exact P0.out
  have r3 : W0.cell? ⟨w.heap.size, 35 + o * 24 + t * 3 + 1, none⟩ = some (.int .i64 p1) := by rw [HB.out.cell]; exact P1.out
  have r4 : W0.cell? ⟨w.heap.size, 35 + o * 24 + t * 3 + 2, none⟩ = some (.int .i64 p2) := by rw [HB.out.cell]; exact P2.out
  have Y1 : Hid ((rc S)[3 + o]? = some (.int .i64 (S.own o + 1))) := hide (rc_own ho8)
  obtain ⟨y, hy⟩ : ∃ y, S.own o + 1 = y := ⟨_, rfl⟩
  rw [hy] at r1 Y1
  have HY := hide hy
  clear hy
  go_upto_region 4 with fail
  have lR := HR.out.lt
  have HP := hide (Blk.new W0 #[.int .i64 p0, .int .i64 p1, .int .i64 p2] 43)
  have hal := Ext.alloc W0 (.cells #[.int .i64 p0, .int .i64 p1, .int .i64 p2] 43)
  have HB := hide (HB.out.ext hal)
  have HE := hide (HE.out.ext hal)
  have HR := hide (HR.out.ext hal)
  have HX := hide (HX.out.trans hal)
  clear re r1 r2 r3 r4 hal
  generalize W0.alloc (.cells #[.int .i64 p0, .int .i64 p1, .int .i64 p2] 43) = W1 at *
  generalize W0.heap.size = bp at *
  have lbp : w.heap.size + 1 + 1 < bp := lR
  clear lR
  have re := HE.out.cell
  have rp := HP.out.cell
  have rf : W1.cell? ⟨w.heap.size, 27 + t, none⟩ = some (.bool (S.flg t)) := by rw [HB.out.cell]; exact rc_flg ht8
  rw [HY.out] at E2
  have r1 : W1.cell? ⟨w.heap.size, 3 + o, none⟩ = some (.int .i64 y) := by rw [HB.out.cell]; exact Y1.out
  obtain ⟨q0, q1, q2⟩ := E2.out
  clear E rf
  have r2 : W1.cell? ⟨w.heap.size, 35 + o * 24 + t * 3, none⟩ = some (.int .i64 p0) := by rw [HB.out.cell]; exact P0.out
  have r3 : W1.cell? ⟨w.heap.size, 35 + o * 24 + t * 3 + 1, none⟩ = some (.int .i64 p1) := by rw [HB.out.cell]; exact P1.out
  have r4 : W1.cell? ⟨w.heap.size, 35 + o * 24 + t * 3 + 2, none⟩ = some (.int .i64 p2) := by rw [HB.out.cell]; exact P2.out
  have f0 := HB.out.free (35 + o * 24 + t * 3)
  have f1 := HB.out.free (35 + o * 24 + t * 3 + 1)
  have f2 := HB.out.free (35 + o * 24 + t * 3 + 2)
  go_wp2_with fail
  clear re rp r1 r2 r3 r4 f0 f1 f2
  have b4 := ((HB.out.set (35 + o * 24 + t * 3) (.int .i64 0)).set (35 + o * 24 + t * 3 + 1) (.int .i64 0)).set (35 + o * 24 + t * 3 + 2) (.int .i64 0)
  rw [rset_pl ho8 ht8 none none (x := 0) (y := 0) (z := 0) rfl rfl rfl] at b4
  have c4 := ((((Chg.refl [w.heap.size] W1).set (p := ⟨w.heap.size, 35 + o * 24 + t * 3, none⟩) (.inl (by simp)) (.int .i64 0)).set (p := ⟨w.heap.size, 35 + o * 24 + t * 3 + 1, none⟩) (.inl (by simp)) (.int .i64 0)).set (p := ⟨w.heap.size, 35 + o * 24 + t * 3 + 2, none⟩) (.inl (by simp)) (.int .i64 0))
  have HB4 := hide b4
  have HR4 := hide (HR.out.chg c4 (by simp; omega))
  have HE4 := hide (HE.out.chg c4 (by simp))
  have HP4 := hide (HP.out.chg c4 (by simp; omega))
  have HX4 := hide (HX.out.turn c4 (by simp))
  clear b4 c4
  generalize (((W1.setCell ⟨w.heap.size, 35 + o * 24 + t * 3, none⟩ (.int .i64 0)).setCell ⟨w.heap.size, 35 + o * 24 + t * 3 + 1, none⟩ (.int .i64 0)).setCell ⟨w.heap.size, 35 + o * 24 + t * 3 + 2, none⟩ (.int .i64 0)) = W2 at *
  have hy := Ext.drew W2
  have rp := (HP4.out.ext hy).cell
  have rp' := HP4.out.cell
  have s1 : W2.drew.cell? ⟨w.heap.size, 3 + o, none⟩ = some (.int .i64 (S.own o + 1)) := by rw [(HB4.out.ext hy).cell]; exact rc_own ho8
  have s2 : W2.drew.cell? ⟨w.heap.size, 11 + o, none⟩ = some (.int .i64 (S.cnt o)) := by rw [(HB4.out.ext hy).cell]; exact rc_cnt ho8
  have f1 := (HB4.out.ext hy).free (3 + o)
  have f2 := (HB4.out.ext hy).free (11 + o)
  have s1' : W2.cell? ⟨w.heap.size, 3 + o, none⟩ = some (.int .i64 (S.own o + 1)) := by rw [HB4.out.cell]; exact rc_own ho8
  have s2' : W2.cell? ⟨w.heap.size, 11 + o, none⟩ = some (.int .i64 (S.cnt o)) := by rw [HB4.out.cell]; exact rc_cnt ho8
  have f1' := HB4.out.free (3 + o)
  have f2' := HB4.out.free (11 + o)
  go_region
  clear rp rp' s1 s2 f1 f2 s1' s2' f1' f2' hy
  have b5 := HB4.out.set (3 + o) (.int .i64 ((t : Int) + 1))
  rw [rset_own ho8] at b5
  have b5 := b5.set (11 + o) (.int .i64 p1)
  rw [rset_cnt ho8] at b5
  have b5 := b5.ext (Ext.drew _)
  have c5 := (((Chg.refl [w.heap.size] W2).set (p := ⟨w.heap.size, 3 + o, none⟩) (.inl (by simp)) (.int .i64 ((t : Int) + 1))).set (p := ⟨w.heap.size, 11 + o, none⟩) (.inl (by simp)) (.int .i64 p1)).trans (Chg.drew [w.heap.size] _)
  have HB5 := hide b5
  have HR5 := hide (HR4.out.chg c5 (by simp; omega))
  have HX5 := hide (HX4.out.turn c5 (by simp))
  have re := (HE4.out.chg c5 (by simp)).cell
  clear b5 c5
  generalize ((W2.setCell ⟨w.heap.size, 3 + o, none⟩ (.int .i64 ((t : Int) + 1))).setCell ⟨w.heap.size, 11 + o, none⟩ (.int .i64 p1)).drew = W3 at *
  go_wp2_with first | (with_reducible refine wpList_get rfl _ rfl w.heap.size _ rfl HB5.out ?_; go_frame) | (with_reducible refine wpList_put rfl _ _ rfl (w.heap.size + 1 + 1) _ rfl rfl zz HR5.out HZ.out ?_; intro w' hb' hc' hs'; have HX' := hide (HX5.out.turn hc' (by simp; omega)); clear hc' hs'; go_frame) | go_in
  refine bodyPost_ret (res_of Try.results43 _ _ rfl rfl hb') rfl ?_
  exact ⟨by rfl, HX'.out⟩
theorem rwait_613y {S : St} (ok : Ok S) {t o : Nat} (a : Int) (ht : t < S.N) (ho : o < S.M) (hwn : upd2 S.wt o t none = S.wt) (E : (S.own o + 1 != 0 || (plA S o t 1 == 0 || plA S o t 2 != 13)) = false) (w : World) :
    Calls Try.prog 43 #[.agg (rc S), (Value.agg #[Value.int .i64 6, .int .i64 (t : Int), .int .i64 (o : Int), .int .i64 a, .int .i64 13])] w fun e w' => e = .returned (.tuple #[.agg (rc (enS S t o 13)), .bool true]) ∧ Ext w w' := by
  have EB : Hid (enS S t o 13 = { S with own := upd S.own o (t : Int), cnt := upd S.cnt o (plA S o t 1), wt := upd2 S.wt o t none, lf := upd2 S.lf o t none }) := hide (by rw [hwn]; rfl)
  rw [EB.out]
  clear hwn
  have E2 := hide (show (S.own o + 1 != 0) = false ∧ (plA S o t 1 == 0) = false ∧ (plA S o t 2 != 13) = false by simpa [Bool.or_eq_false_iff] using E)
  have E := hide E
  have n1 := ok.n1
  have m1 := ok.m1
  have ho8 : o < 8 := by omega
  have ht8 : t < 8 := by omega
  have i8 : (o : Int) < 8 := by omega
  have j8 : (t : Int) < 8 := by omega
  obtain ⟨zz, hz1, hz2, hz3, hz4, -⟩ : ∃ zz : Array Value, (∀ w, (zeroValue 47).run Try.prog w = .ok (.agg zz) w) ∧ ¬ zz = #[] ∧ ¬ zz.size < 2 ∧ zz.size = 227 ∧ zz = zr := ⟨_, fun w => by kernel_rfl, by decide +kernel, by decide +kernel, by decide +kernel, rfl⟩
  have HZ := hide hz4
  clear hz4
  have hp0 : (rc S)[35 + o * 24 + t * 3]? = some (.int .i64 (plA S o t 0)) := rc_pla (o := o) (t := t) (j := 0) ho8 ht8 (by omega)
  have hp1 : (rc S)[35 + o * 24 + t * 3 + 1]? = some (.int .i64 (plA S o t 1)) := rc_pla (o := o) (t := t) (j := 1) ho8 ht8 (by omega)
  have hp2 : (rc S)[35 + o * 24 + t * 3 + 2]? = some (.int .i64 (plA S o t 2)) := rc_pla (o := o) (t := t) (j := 2) ho8 ht8 (by omega)
  have HP0 := hide (show (S.wt o t).getD 0 = plA S o t 0 from rfl)
  have HP1 := hide (show ((S.lf o t).getD (0, 0)).1 = plA S o t 1 from rfl)
  have P0 := hide hp0
  have P1 := hide hp1
  have P2 := hide hp2
  clear hp0 hp1 hp2
  generalize plA S o t 0 = p0 at *
  generalize plA S o t 1 = p1 at *
  generalize plA S o t 2 = p2 at *
  go_enter Try.func43, Try.ntmps43
  go_wp2_with fail
  have HB := hide (((Blk.new w (rc S) 47).ext (Ext.alloc _ (.cells #[Value.int .i64 6, .int .i64 (t : Int), .int .i64 (o : Int), .int .i64 a, .int .i64 13] 29))).ext (Ext.alloc _ (.cells zz 47)))
  have HE := Blk.new (w.alloc (.cells (rc S) 47)) #[Value.int .i64 6, .int .i64 (t : Int), .int .i64 (o : Int), .int .i64 a, .int .i64 13] 29
  rw [World.size_alloc] at HE
  have HE := hide (HE.ext (Ext.alloc _ (.cells zz 47)))
  have HR := Blk.new ((w.alloc (.cells (rc S) 47)).alloc (.cells #[Value.int .i64 6, .int .i64 (t : Int), .int .i64 (o : Int), .int .i64 a, .int .i64 13] 29)) zz 47
  rw [World.size_alloc, World.size_alloc] at HR
  have HR := hide HR
  have HX := hide (((Ext.alloc w (.cells (rc S) 47)).trans (Ext.alloc _ (.cells #[Value.int .i64 6, .int .i64 (t : Int), .int .i64 (o : Int), .int .i64 a, .int .i64 13] 29))).trans (Ext.alloc _ (.cells zz 47)))
  generalize (((w.alloc (.cells (rc S) 47)).alloc (.cells #[Value.int .i64 6, .int .i64 (t : Int), .int .i64 (o : Int), .int .i64 a, .int .i64 13] 29)).alloc (.cells zz 47)) = W0 at *
  clear hz1 hz2 hz3
  have re := (HE.out.ext (Ext.drew W0)).cell
  go_region
  clear re
  have HB := hide (HB.out.ext (Ext.drew W0))
  have HE := hide (HE.out.ext (Ext.drew W0))
  have HR := hide (HR.out.ext (Ext.drew W0))
  have HX := hide (HX.out.trans (Ext.drew W0))
  generalize W0.drew = W0 at *
  have re := HE.out.cell
  have r1 : W0.cell? ⟨w.heap.size, 3 + o, none⟩ = some (.int .i64 (S.own o + 1)) := by rw [HB.out.cell]; exact rc_own ho8
  have r2 : W0.cell? ⟨w.heap.size, 35 + o * 24 + t * 3, none⟩ = some (.int .i64 p0) := by rw [HB.out.cell]; exact P0.out
  have r3 : W0.cell? ⟨w.heap.size, 35 + o * 24 + t * 3 + 1, none⟩ = some (.int .i64 p1) := by rw [HB.out.cell]; exact P1.out
  have r4 : W0.cell? ⟨w.heap.size, 35 + o * 24 + t * 3 + 2, none⟩ = some (.int .i64 p2) := by rw [HB.out.cell]; exact P2.out
  have Y1 : Hid ((rc S)[3 + o]? = some (.int .i64 (S.own o + 1))) := hide (rc_own ho8)
  obtain ⟨y, hy⟩ : ∃ y, S.own o + 1 = y := ⟨_, rfl⟩
  rw [hy] at r1 Y1
  have HY := hide hy
  clear hy
  go_upto_region 4 with fail
  have lR := HR.out.lt
  have HP := hide (Blk.new W0 #[.int .i64 p0, .int .i64 p1, .int .i64 p2] 43)
  have hal := Ext.alloc W0 (.cells #[.int .i64 p0, .int .i64 p1, .int .i64 p2] 43)
  have HB := hide (HB.out.ext hal)
  have HE := hide (HE.out.ext hal)
  have HR := hide (HR.out.ext hal)
  have HX := hide (HX.out.trans hal)
  clear re r1 r2 r3 r4 hal
  generalize W0.alloc (.cells #[.int .i64 p0, .int .i64 p1, .int .i64 p2] 43) = W1 at *
  generalize W0.heap.size = bp at *
  have lbp : w.heap.size + 1 + 1 < bp := lR
  clear lR
  have re := HE.out.cell
  have rp := HP.out.cell
  have rf : W1.cell? ⟨w.heap.size, 27 + t, none⟩ = some (.bool (S.flg t)) := by rw [HB.out.cell]; exact rc_flg ht8
  rw [HY.out] at E2
  have r1 : W1.cell? ⟨w.heap.size, 3 + o, none⟩ = some (.int .i64 y) := by rw [HB.out.cell]; exact Y1.out
  obtain ⟨q0, q1, q2⟩ := E2.out
  clear E rf
  have r2 : W1.cell? ⟨w.heap.size, 35 + o * 24 + t * 3, none⟩ = some (.int .i64 p0) := by rw [HB.out.cell]; exact P0.out
  have r3 : W1.cell? ⟨w.heap.size, 35 + o * 24 + t * 3 + 1, none⟩ = some (.int .i64 p1) := by rw [HB.out.cell]; exact P1.out
  have r4 : W1.cell? ⟨w.heap.size, 35 + o * 24 + t * 3 + 2, none⟩ = some (.int .i64 p2) := by rw [HB.out.cell]; exact P2.out
  have f0 := HB.out.free (35 + o * 24 + t * 3)
  have f1 := HB.out.free (35 + o * 24 + t * 3 + 1)
  have f2 := HB.out.free (35 + o * 24 + t * 3 + 2)
  go_wp2_with fail
  clear re rp r1 r2 r3 r4 f0 f1 f2
  have b4 := ((HB.out.set (35 + o * 24 + t * 3) (.int .i64 0)).set (35 + o * 24 + t * 3 + 1) (.int .i64 0)).set (35 + o * 24 + t * 3 + 2) (.int .i64 0)
  rw [rset_pl ho8 ht8 none none (x := 0) (y := 0) (z := 0) rfl rfl rfl] at b4
  have c4 := ((((Chg.refl [w.heap.size] W1).set (p := ⟨w.heap.size, 35 + o * 24 + t * 3, none⟩) (.inl (by simp)) (.int .i64 0)).set (p := ⟨w.heap.size, 35 + o * 24 + t * 3 + 1, none⟩) (.inl (by simp)) (.int .i64 0)).set (p := ⟨w.heap.size, 35 + o * 24 + t * 3 + 2, none⟩) (.inl (by simp)) (.int .i64 0))
  have HB4 := hide b4
  have HR4 := hide (HR.out.chg c4 (by simp; omega))
  have HE4 := hide (HE.out.chg c4 (by simp))
  have HP4 := hide (HP.out.chg c4 (by simp; omega))
  have HX4 := hide (HX.out.turn c4 (by simp))
  clear b4 c4
  generalize (((W1.setCell ⟨w.heap.size, 35 + o * 24 + t * 3, none⟩ (.int .i64 0)).setCell ⟨w.heap.size, 35 + o * 24 + t * 3 + 1, none⟩ (.int .i64 0)).setCell ⟨w.heap.size, 35 + o * 24 + t * 3 + 2, none⟩ (.int .i64 0)) = W2 at *
  have hy := Ext.drew W2
  have rp := (HP4.out.ext hy).cell
  have rp' := HP4.out.cell
  have s1 : W2.drew.cell? ⟨w.heap.size, 3 + o, none⟩ = some (.int .i64 (S.own o + 1)) := by rw [(HB4.out.ext hy).cell]; exact rc_own ho8
  have s2 : W2.drew.cell? ⟨w.heap.size, 11 + o, none⟩ = some (.int .i64 (S.cnt o)) := by rw [(HB4.out.ext hy).cell]; exact rc_cnt ho8
  have f1 := (HB4.out.ext hy).free (3 + o)
  have f2 := (HB4.out.ext hy).free (11 + o)
  have s1' : W2.cell? ⟨w.heap.size, 3 + o, none⟩ = some (.int .i64 (S.own o + 1)) := by rw [HB4.out.cell]; exact rc_own ho8
  have s2' : W2.cell? ⟨w.heap.size, 11 + o, none⟩ = some (.int .i64 (S.cnt o)) := by rw [HB4.out.cell]; exact rc_cnt ho8
  have f1' := HB4.out.free (3 + o)
  have f2' := HB4.out.free (11 + o)
  go_region
  clear rp rp' s1 s2 f1 f2 s1' s2' f1' f2' hy
  have b5 := HB4.out.set (3 + o) (.int .i64 ((t : Int) + 1))
  rw [rset_own ho8] at b5
  have b5 := b5.set (11 + o) (.int .i64 p1)
  rw [rset_cnt ho8] at b5
  have b5 := b5.ext (Ext.drew _)
  have c5 := (((Chg.refl [w.heap.size] W2).set (p := ⟨w.heap.size, 3 + o, none⟩) (.inl (by simp)) (.int .i64 ((t : Int) + 1))).set (p := ⟨w.heap.size, 11 + o, none⟩) (.inl (by simp)) (.int .i64 p1)).trans (Chg.drew [w.heap.size] _)
  have HB5 := hide b5
  have HR5 := hide (HR4.out.chg c5 (by simp; omega))
  have HX5 := hide (HX4.out.turn c5 (by simp))
  have re := (HE4.out.chg c5 (by simp)).cell
  clear b5 c5
  generalize ((W2.setCell ⟨w.heap.size, 3 + o, none⟩ (.int .i64 ((t : Int) + 1))).setCell ⟨w.heap.size, 11 + o, none⟩ (.int .i64 p1)).drew = W3 at *
  go_wp2_with first | (with_reducible refine wpList_get rfl _ rfl w.heap.size _ rfl HB5.out ?_; go_frame) | (with_reducible refine wpList_put rfl _ _ rfl (w.heap.size + 1 + 1) _ rfl rfl zz HR5.out HZ.out ?_; intro w' hb' hc' hs'; have HX' := hide (HX5.out.turn hc' (by simp; omega)); clear hc' hs'; go_frame) | go_in
  refine bodyPost_ret (res_of Try.results43 _ _ rfl rfl hb') rfl ?_
  exact ⟨by rfl, HX'.out⟩
theorem rwait_612y {S : St} (ok : Ok S) {t o : Nat} (a : Int) (ht : t < S.N) (ho : o < S.M) (hwn : upd2 S.wt o t none = S.wt) (E : (S.own o + 1 != 0 || (plA S o t 1 == 0 || plA S o t 2 != 12)) = false) (w : World) :
    Calls Try.prog 43 #[.agg (rc S), (Value.agg #[Value.int .i64 6, .int .i64 (t : Int), .int .i64 (o : Int), .int .i64 a, .int .i64 12])] w fun e w' => e = .returned (.tuple #[.agg (rc (enS S t o 12)), .bool true]) ∧ Ext w w' := by
  have EB : Hid (enS S t o 12 = { S with own := upd S.own o (t : Int), cnt := upd S.cnt o (plA S o t 1), wt := upd2 S.wt o t none, lf := upd2 S.lf o t none, flg := upd S.flg t false }) := hide (by rw [hwn]; rfl)
  rw [EB.out]
  clear hwn
  have E2 := hide (show (S.own o + 1 != 0) = false ∧ (plA S o t 1 == 0) = false ∧ (plA S o t 2 != 12) = false by simpa [Bool.or_eq_false_iff] using E)
  have E := hide E
  have n1 := ok.n1
  have m1 := ok.m1
  have ho8 : o < 8 := by omega
  have ht8 : t < 8 := by omega
  have i8 : (o : Int) < 8 := by omega
  have j8 : (t : Int) < 8 := by omega
  obtain ⟨zz, hz1, hz2, hz3, hz4, -⟩ : ∃ zz : Array Value, (∀ w, (zeroValue 47).run Try.prog w = .ok (.agg zz) w) ∧ ¬ zz = #[] ∧ ¬ zz.size < 2 ∧ zz.size = 227 ∧ zz = zr := ⟨_, fun w => by kernel_rfl, by decide +kernel, by decide +kernel, by decide +kernel, rfl⟩
  have HZ := hide hz4
  clear hz4
  have hp0 : (rc S)[35 + o * 24 + t * 3]? = some (.int .i64 (plA S o t 0)) := rc_pla (o := o) (t := t) (j := 0) ho8 ht8 (by omega)
  have hp1 : (rc S)[35 + o * 24 + t * 3 + 1]? = some (.int .i64 (plA S o t 1)) := rc_pla (o := o) (t := t) (j := 1) ho8 ht8 (by omega)
  have hp2 : (rc S)[35 + o * 24 + t * 3 + 2]? = some (.int .i64 (plA S o t 2)) := rc_pla (o := o) (t := t) (j := 2) ho8 ht8 (by omega)
  have HP0 := hide (show (S.wt o t).getD 0 = plA S o t 0 from rfl)
  have HP1 := hide (show ((S.lf o t).getD (0, 0)).1 = plA S o t 1 from rfl)
  have P0 := hide hp0
  have P1 := hide hp1
  have P2 := hide hp2
  clear hp0 hp1 hp2
  generalize plA S o t 0 = p0 at *
  generalize plA S o t 1 = p1 at *
  generalize plA S o t 2 = p2 at *
  go_enter Try.func43, Try.ntmps43
  go_wp2_with fail
  have HB := hide (((Blk.new w (rc S) 47).ext (Ext.alloc _ (.cells #[Value.int .i64 6, .int .i64 (t : Int), .int .i64 (o : Int), .int .i64 a, .int .i64 12] 29))).ext (Ext.alloc _ (.cells zz 47)))
  have HE := Blk.new (w.alloc (.cells (rc S) 47)) #[Value.int .i64 6, .int .i64 (t : Int), .int .i64 (o : Int), .int .i64 a, .int .i64 12] 29
  rw [World.size_alloc] at HE
  have HE := hide (HE.ext (Ext.alloc _ (.cells zz 47)))
  have HR := Blk.new ((w.alloc (.cells (rc S) 47)).alloc (.cells #[Value.int .i64 6, .int .i64 (t : Int), .int .i64 (o : Int), .int .i64 a, .int .i64 12] 29)) zz 47
  rw [World.size_alloc, World.size_alloc] at HR
  have HR := hide HR
  have HX := hide (((Ext.alloc w (.cells (rc S) 47)).trans (Ext.alloc _ (.cells #[Value.int .i64 6, .int .i64 (t : Int), .int .i64 (o : Int), .int .i64 a, .int .i64 12] 29))).trans (Ext.alloc _ (.cells zz 47)))
  generalize (((w.alloc (.cells (rc S) 47)).alloc (.cells #[Value.int .i64 6, .int .i64 (t : Int), .int .i64 (o : Int), .int .i64 a, .int .i64 12] 29)).alloc (.cells zz 47)) = W0 at *
  clear hz1 hz2 hz3
  have re := (HE.out.ext (Ext.drew W0)).cell
  go_region
  clear re
  have HB := hide (HB.out.ext (Ext.drew W0))
  have HE := hide (HE.out.ext (Ext.drew W0))
  have HR := hide (HR.out.ext (Ext.drew W0))
  have HX := hide (HX.out.trans (Ext.drew W0))
  generalize W0.drew = W0 at *
  have re := HE.out.cell
  have r1 : W0.cell? ⟨w.heap.size, 3 + o, none⟩ = some (.int .i64 (S.own o + 1)) := by rw [HB.out.cell]; exact rc_own ho8
  have r2 : W0.cell? ⟨w.heap.size, 35 + o * 24 + t * 3, none⟩ = some (.int .i64 p0) := by rw [HB.out.cell]; exact P0.out
  have r3 : W0.cell? ⟨w.heap.size, 35 + o * 24 + t * 3 + 1, none⟩ = some (.int .i64 p1) := by rw [HB.out.cell]; exact P1.out
  have r4 : W0.cell? ⟨w.heap.size, 35 + o * 24 + t * 3 + 2, none⟩ = some (.int .i64 p2) := by rw [HB.out.cell]; exact P2.out
  have Y1 : Hid ((rc S)[3 + o]? = some (.int .i64 (S.own o + 1))) := hide (rc_own ho8)
  obtain ⟨y, hy⟩ : ∃ y, S.own o + 1 = y := ⟨_, rfl⟩
  rw [hy] at r1 Y1
  have HY := hide hy
  clear hy
  go_upto_region 4 with fail
  have lR := HR.out.lt
  have HP := hide (Blk.new W0 #[.int .i64 p0, .int .i64 p1, .int .i64 p2] 43)
  have hal := Ext.alloc W0 (.cells #[.int .i64 p0, .int .i64 p1, .int .i64 p2] 43)
  have HB := hide (HB.out.ext hal)
  have HE := hide (HE.out.ext hal)
  have HR := hide (HR.out.ext hal)
  have HX := hide (HX.out.trans hal)
  clear re r1 r2 r3 r4 hal
  generalize W0.alloc (.cells #[.int .i64 p0, .int .i64 p1, .int .i64 p2] 43) = W1 at *
  generalize W0.heap.size = bp at *
  have lbp : w.heap.size + 1 + 1 < bp := lR
  clear lR
  have re := HE.out.cell
  have rp := HP.out.cell
  have rf : W1.cell? ⟨w.heap.size, 27 + t, none⟩ = some (.bool (S.flg t)) := by rw [HB.out.cell]; exact rc_flg ht8
  rw [HY.out] at E2
  have r1 : W1.cell? ⟨w.heap.size, 3 + o, none⟩ = some (.int .i64 y) := by rw [HB.out.cell]; exact Y1.out
  obtain ⟨q0, q1, q2⟩ := E2.out
  clear E rf
  have r2 : W1.cell? ⟨w.heap.size, 35 + o * 24 + t * 3, none⟩ = some (.int .i64 p0) := by rw [HB.out.cell]; exact P0.out
  have r3 : W1.cell? ⟨w.heap.size, 35 + o * 24 + t * 3 + 1, none⟩ = some (.int .i64 p1) := by rw [HB.out.cell]; exact P1.out
  have r4 : W1.cell? ⟨w.heap.size, 35 + o * 24 + t * 3 + 2, none⟩ = some (.int .i64 p2) := by rw [HB.out.cell]; exact P2.out
  have f0 := HB.out.free (35 + o * 24 + t * 3)
  have f1 := HB.out.free (35 + o * 24 + t * 3 + 1)
  have f2 := HB.out.free (35 + o * 24 + t * 3 + 2)
  go_wp2_with fail
  clear re rp r1 r2 r3 r4 f0 f1 f2
  have b4 := ((HB.out.set (35 + o * 24 + t * 3) (.int .i64 0)).set (35 + o * 24 + t * 3 + 1) (.int .i64 0)).set (35 + o * 24 + t * 3 + 2) (.int .i64 0)
  rw [rset_pl ho8 ht8 none none (x := 0) (y := 0) (z := 0) rfl rfl rfl] at b4
  have c4 := ((((Chg.refl [w.heap.size] W1).set (p := ⟨w.heap.size, 35 + o * 24 + t * 3, none⟩) (.inl (by simp)) (.int .i64 0)).set (p := ⟨w.heap.size, 35 + o * 24 + t * 3 + 1, none⟩) (.inl (by simp)) (.int .i64 0)).set (p := ⟨w.heap.size, 35 + o * 24 + t * 3 + 2, none⟩) (.inl (by simp)) (.int .i64 0))
  have HB4 := hide b4
  have HR4 := hide (HR.out.chg c4 (by simp; omega))
  have HE4 := hide (HE.out.chg c4 (by simp))
  have HP4 := hide (HP.out.chg c4 (by simp; omega))
  have HX4 := hide (HX.out.turn c4 (by simp))
  clear b4 c4
  generalize (((W1.setCell ⟨w.heap.size, 35 + o * 24 + t * 3, none⟩ (.int .i64 0)).setCell ⟨w.heap.size, 35 + o * 24 + t * 3 + 1, none⟩ (.int .i64 0)).setCell ⟨w.heap.size, 35 + o * 24 + t * 3 + 2, none⟩ (.int .i64 0)) = W2 at *
  have hy := Ext.drew W2
  have rp := (HP4.out.ext hy).cell
  have rp' := HP4.out.cell
  have s1 : W2.drew.cell? ⟨w.heap.size, 3 + o, none⟩ = some (.int .i64 (S.own o + 1)) := by rw [(HB4.out.ext hy).cell]; exact rc_own ho8
  have s2 : W2.drew.cell? ⟨w.heap.size, 11 + o, none⟩ = some (.int .i64 (S.cnt o)) := by rw [(HB4.out.ext hy).cell]; exact rc_cnt ho8
  have f1 := (HB4.out.ext hy).free (3 + o)
  have f2 := (HB4.out.ext hy).free (11 + o)
  have s1' : W2.cell? ⟨w.heap.size, 3 + o, none⟩ = some (.int .i64 (S.own o + 1)) := by rw [HB4.out.cell]; exact rc_own ho8
  have s2' : W2.cell? ⟨w.heap.size, 11 + o, none⟩ = some (.int .i64 (S.cnt o)) := by rw [HB4.out.cell]; exact rc_cnt ho8
  have f1' := HB4.out.free (3 + o)
  have f2' := HB4.out.free (11 + o)
  go_region
  clear rp rp' s1 s2 f1 f2 s1' s2' f1' f2' hy
  have b5 := HB4.out.set (3 + o) (.int .i64 ((t : Int) + 1))
  rw [rset_own ho8] at b5
  have b5 := b5.set (11 + o) (.int .i64 p1)
  rw [rset_cnt ho8] at b5
  have b5 := b5.ext (Ext.drew _)
  have c5 := (((Chg.refl [w.heap.size] W2).set (p := ⟨w.heap.size, 3 + o, none⟩) (.inl (by simp)) (.int .i64 ((t : Int) + 1))).set (p := ⟨w.heap.size, 11 + o, none⟩) (.inl (by simp)) (.int .i64 p1)).trans (Chg.drew [w.heap.size] _)
  have HB5 := hide b5
  have HR5 := hide (HR4.out.chg c5 (by simp; omega))
  have HX5 := hide (HX4.out.turn c5 (by simp))
  have re := (HE4.out.chg c5 (by simp)).cell
  clear b5 c5
  generalize ((W2.setCell ⟨w.heap.size, 3 + o, none⟩ (.int .i64 ((t : Int) + 1))).setCell ⟨w.heap.size, 11 + o, none⟩ (.int .i64 p1)).drew = W3 at *
  have s1 : W3.cell? ⟨w.heap.size, 27 + t, none⟩ = some (.bool (S.flg t)) := by rw [HB5.out.cell]; exact rc_flg ht8
  have f1 := HB5.out.free (27 + t)
  have b6 := HB5.out.set (27 + t) (.bool false)
  rw [rset_flg ht8] at b6
  have c6 := (Chg.refl [w.heap.size] W3).set (p := ⟨w.heap.size, 27 + t, none⟩) (.inl (by simp)) (.bool false)
  have HB6 := hide b6
  have HR6 := hide (HR5.out.chg c6 (by simp; omega))
  have HX6 := hide (HX5.out.turn c6 (by simp))
  clear b6 c6
  go_wp2_with first | (with_reducible refine wpList_get rfl _ rfl w.heap.size _ rfl HB6.out ?_; go_frame) | (with_reducible refine wpList_put rfl _ _ rfl (w.heap.size + 1 + 1) _ rfl rfl zz HR6.out HZ.out ?_; intro w' hb' hc' hs'; have HX' := hide (HX6.out.turn hc' (by simp; omega)); clear hc' hs'; go_frame) | go_in
  refine bodyPost_ret (res_of Try.results43 _ _ rfl rfl hb') rfl ?_
  exact ⟨by rfl, HX'.out⟩
end Go.Proofs.Ytacneghgimfklaa
