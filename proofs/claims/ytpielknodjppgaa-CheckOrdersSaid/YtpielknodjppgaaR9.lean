/- The document's Wake; a Notify, an All that tell OK. -/
import Derived.Test.YtpielknodjppgaaR2
namespace Go.Proofs.Ytpielknodjppgaa
open Go.RowKit Go.Maps
set_option linter.unusedSimpArgs false
set_option linter.unusedVariables false
set_option maxRecDepth 100000
set_option maxHeartbeats 8000000



theorem rtell_90 {S : St} (ok : Ok S) {t o : Nat} (a : Int) (ht : t < S.N) (ho : o < S.M) {b : Bool} (E : Hid (b = (S.own o + 1 == (t : Int) + 1 && (a == 0 && noW S o)))) (w : World) :
    Calls Try.prog 38 #[.agg (rc S), (Value.agg #[Value.int .i64 9, .int .i64 (t : Int), .int .i64 (o : Int), .int .i64 a, .int .i64 0])] w fun e w' => e = .returned (.tuple #[.agg (rc S), .bool b]) ∧ Ext w w' := by
  have n1 := ok.n1
  have m1 := ok.m1
  have ho8 : o < 8 := by omega
  have ht8 : t < 8 := by omega
  have i8 : (o : Int) < 8 := by omega
  have j8 : (t : Int) < 8 := by omega
  obtain ⟨zz, hz1, hz2, hz3, hz4, -⟩ : ∃ zz : Array Value, (∀ w, (zeroValue 56).run Try.prog w = .ok (.agg zz) w) ∧ ¬ zz = #[] ∧ ¬ zz.size < 2 ∧ zz.size = 227 ∧ zz = zr := ⟨_, fun w => by kernel_rfl, by decide +kernel, by decide +kernel, by decide +kernel, rfl⟩
  have HZ := hide hz4
  clear hz4
  go_enter Try.func38, Try.ntmps38
  go_upto_region 1 with fail
  have HB := hide (((Blk.new w (rc S) 56).ext (Ext.alloc _ (.cells #[Value.int .i64 9, .int .i64 (t : Int), .int .i64 (o : Int), .int .i64 a, .int .i64 0] 42))).ext (Ext.alloc _ (.cells zz 56)))
  have HE := Blk.new (w.alloc (.cells (rc S) 56)) #[Value.int .i64 9, .int .i64 (t : Int), .int .i64 (o : Int), .int .i64 a, .int .i64 0] 42
  rw [World.size_alloc] at HE
  have HE := hide (HE.ext (Ext.alloc _ (.cells zz 56)))
  have HR := Blk.new ((w.alloc (.cells (rc S) 56)).alloc (.cells #[Value.int .i64 9, .int .i64 (t : Int), .int .i64 (o : Int), .int .i64 a, .int .i64 0] 42)) zz 56
  rw [World.size_alloc, World.size_alloc] at HR
  have HR := hide HR
  have HX := hide (((Ext.alloc w (.cells (rc S) 56)).trans (Ext.alloc _ (.cells #[Value.int .i64 9, .int .i64 (t : Int), .int .i64 (o : Int), .int .i64 a, .int .i64 0] 42))).trans (Ext.alloc _ (.cells zz 56)))
  generalize (((w.alloc (.cells (rc S) 56)).alloc (.cells #[Value.int .i64 9, .int .i64 (t : Int), .int .i64 (o : Int), .int .i64 a, .int .i64 0] 42)).alloc (.cells zz 56)) = W0 at *
  clear hz1 hz2 hz3
  have re := HE.out.cell
  go_upto_region 2 with fail
  have re := (HE.out.ext (Ext.drew W0)).cell
  have r1 : W0.drew.cell? ⟨w.heap.size, 3 + o, none⟩ = some (.int .i64 (S.own o + 1)) := by rw [(HB.out.ext (Ext.drew W0)).cell]; exact rc_own ho8
  generalize S.own o + 1 = y at *
  go_region
  clear re r1
  have HB := hide (HB.out.ext (Ext.drew W0))
  have HE := hide (HE.out.ext (Ext.drew W0))
  have HR := hide (HR.out.ext (Ext.drew W0))
  have HX := hide (HX.out.trans (Ext.drew W0))
  generalize W0.drew = W0 at *
  have re := HE.out.cell
  cases y1 : (y == (t : Int) + 1)
  · go_wp2_with fail
    clear re
    have HB := hide (HB.out.ext (Ext.drew W0))
    have HE := hide (HE.out.ext (Ext.drew W0))
    have HR := hide (HR.out.ext (Ext.drew W0))
    have HX := hide (HX.out.trans (Ext.drew W0))
    refine wp_region_held_drew (S := fun w' => w'.rangeAt w.heap.size 0 (rc S).toList ∧ (∀ i, w'.cell? ⟨w.heap.size + 1, i, none⟩ = #[Value.int .i64 9, .int .i64 (t : Int), .int .i64 (o : Int), .int .i64 a, .int .i64 0][i]?)) (by kernel_rfl) (by exact ⟨rc_rng HB.out, HE.out.cell⟩) (fun hHeld => ?_)
    generalize W0.drew = W0 at *
    refine wpAnyH_take (i := 0) (at_drop rfl) (by kernel_rfl) (by kernel_rfl) (by kernel_rfl) (fun _ _ _ h => h) (yieldsIf_load_mid (by rfl) 56 _ rfl w.heap.size 0 rfl (rc S).toList _ (fun w h => h.1) Try.underlying56 rfl (inf_rm S)) (by assumption) ?_
    rw [Array.toArray_toList]
    (try simp only [Act.put, List.setIfInBounds_toArray, List.set_cons_zero, List.set_cons_succ])
    (refine held_take (i := 1) (v := ?_) rfl (by kernel_rfl) (by kernel_rfl) (by kernel_rfl) (fun _ _ _ h => h) (by rfl) ?_ (by assumption) ?_; rotate_left; (intro w hSw; (try dsimp only at hSw); (first | (go_simp; done) | (go_simp; with_reducible rfl))); (try simp only [Act.put, List.setIfInBounds_toArray, List.set_cons_zero, List.set_cons_succ]))
    (refine held_take (i := 2) (v := ?_) rfl (by kernel_rfl) (by kernel_rfl) (by kernel_rfl) (fun _ _ _ h => h) (by rfl) ?_ (by assumption) ?_; rotate_left; (intro w hSw; (try dsimp only at hSw); (first | (go_simp; done) | (go_simp; with_reducible rfl))); (try simp only [Act.put, List.setIfInBounds_toArray, List.set_cons_zero, List.set_cons_succ]))
    (refine held_skip (i := 3) rfl (by kernel_rfl) (by kernel_rfl) (by kernel_rfl) (fun _ _ _ h => h) (by rfl) (by assumption) ?_; (try simp only [Act.put, List.setIfInBounds_toArray, List.set_cons_zero, List.set_cons_succ]))
    (refine held_skip (i := 4) rfl (by kernel_rfl) (by kernel_rfl) (by kernel_rfl) (fun _ _ _ h => h) (by rfl) (by assumption) ?_; (try simp only [Act.put, List.setIfInBounds_toArray, List.set_cons_zero, List.set_cons_succ]))
    (refine held_skip (i := 5) rfl (by kernel_rfl) (by kernel_rfl) (by kernel_rfl) (fun _ _ _ h => h) (by rfl) (by assumption) ?_; (try simp only [Act.put, List.setIfInBounds_toArray, List.set_cons_zero, List.set_cons_succ]))
    (refine held_take (i := 6) (v := ?_) rfl (by kernel_rfl) (by kernel_rfl) (by kernel_rfl) (fun _ _ _ h => h) (by rfl) ?_ (by assumption) ?_; rotate_left; (intro w hSw; (try dsimp only at hSw); (first | (go_simp; done) | (go_simp; with_reducible rfl))); (try simp only [Act.put, List.setIfInBounds_toArray, List.set_cons_zero, List.set_cons_succ]))
    (refine held_take (i := 7) (v := ?_) rfl (by kernel_rfl) (by kernel_rfl) (by kernel_rfl) (fun _ _ _ h => h) (by rfl) ?_ (by assumption) ?_; rotate_left; (intro w hSw; (try dsimp only at hSw); (first | (go_simp; done) | (go_simp; with_reducible rfl))); (try simp only [Act.put, List.setIfInBounds_toArray, List.set_cons_zero, List.set_cons_succ]))
    (refine held_skip (i := 8) rfl (by kernel_rfl) (by kernel_rfl) (by kernel_rfl) (fun _ _ _ h => h) (by rfl) (by assumption) ?_; (try simp only [Act.put, List.setIfInBounds_toArray, List.set_cons_zero, List.set_cons_succ]))
    (refine held_skip (i := 9) rfl (by kernel_rfl) (by kernel_rfl) (by kernel_rfl) (fun _ _ _ h => h) (by rfl) (by assumption) ?_; (try simp only [Act.put, List.setIfInBounds_toArray, List.set_cons_zero, List.set_cons_succ]))
    (refine held_skip (i := 10) rfl (by kernel_rfl) (by kernel_rfl) (by kernel_rfl) (fun _ _ _ h => h) (by rfl) (by assumption) ?_; (try simp only [Act.put, List.setIfInBounds_toArray, List.set_cons_zero, List.set_cons_succ]))
    (refine held_take (i := 11) (v := ?_) rfl (by kernel_rfl) (by kernel_rfl) (by kernel_rfl) (fun _ _ _ h => h) (by rfl) ?_ (by assumption) ?_; rotate_left; (intro w hSw; (try dsimp only at hSw); (first | (go_simp; done) | (go_simp; with_reducible rfl))); (try simp only [Act.put, List.setIfInBounds_toArray, List.set_cons_zero, List.set_cons_succ]))
    refine wpAnyH_ready (rs := [12]) (by kernel_rfl) (by simp) (held_cons rfl (fun K hK => ?_) AllReadyH.nil)
    rw [if_pos (by rfl)]
    refine wp_store_row 56 _ _ rfl (w.heap.size + 1 + 1) (rc S) rfl rfl 56 zz HR.out (by rw [rc_size]; exact inf_rz) (by rw [HZ.out, rc_size]) (all_rc S) ?_
    have hb' := setRow_heap W0 (w.heap.size + 1 + 1) zz (rc S) 56 _ HR.out
    have hc' := Chg.row (cs := rc S) HR.out
    have HX' := hide (HX.out.turn hc' (by simp; omega))
    have HB' := hide (HB.out.chg hc' (by simp; omega))
    have HE' := hide (HE.out.chg hc' (by simp))
    clear hc'
    generalize W0.setRow (w.heap.size + 1 + 1) (rc S) = w' at *
    (refine hK.out _ _ ?_ (fun hHeld => ?_))
    · exact ⟨rc_rng HB'.out, HE'.out.cell⟩
    (try simp only [Act.put, List.setIfInBounds_toArray, List.set_cons_zero, List.set_cons_succ])
    (refine held_take (i := 13) (v := ?_) rfl (by kernel_rfl) (by kernel_rfl) (by kernel_rfl) (fun _ _ _ h => h) (by rfl) ?_ (by assumption) ?_; rotate_left; (intro w hSw; (try dsimp only at hSw); (first | (go_simp; done) | (go_simp; with_reducible rfl))); (try simp only [Act.put, List.setIfInBounds_toArray, List.set_cons_zero, List.set_cons_succ]))
    refine wpAnyH_done (by kernel_rfl) ?_ _
    go_wp2_with fail
    refine bodyPost_ret (res_of Try.results38 _ _ rfl rfl hb') rfl ?_
    exact ⟨by rw [E.out, y1]; simp, HX'.out⟩
  · cases q : (a == 0)
    · go_wp2_with fail
      clear re
      have HB := hide (HB.out.ext (Ext.drew W0))
      have HE := hide (HE.out.ext (Ext.drew W0))
      have HR := hide (HR.out.ext (Ext.drew W0))
      have HX := hide (HX.out.trans (Ext.drew W0))
      refine wp_region_held_drew (S := fun w' => w'.rangeAt w.heap.size 0 (rc S).toList ∧ (∀ i, w'.cell? ⟨w.heap.size + 1, i, none⟩ = #[Value.int .i64 9, .int .i64 (t : Int), .int .i64 (o : Int), .int .i64 a, .int .i64 0][i]?)) (by kernel_rfl) (by exact ⟨rc_rng HB.out, HE.out.cell⟩) (fun hHeld => ?_)
      generalize W0.drew = W0 at *
      refine wpAnyH_take (i := 0) (at_drop rfl) (by kernel_rfl) (by kernel_rfl) (by kernel_rfl) (fun _ _ _ h => h) (yieldsIf_load_mid (by rfl) 56 _ rfl w.heap.size 0 rfl (rc S).toList _ (fun w h => h.1) Try.underlying56 rfl (inf_rm S)) (by assumption) ?_
      rw [Array.toArray_toList]
      (try simp only [Act.put, List.setIfInBounds_toArray, List.set_cons_zero, List.set_cons_succ])
      (refine held_take (i := 1) (v := ?_) rfl (by kernel_rfl) (by kernel_rfl) (by kernel_rfl) (fun _ _ _ h => h) (by rfl) ?_ (by assumption) ?_; rotate_left; (intro w hSw; (try dsimp only at hSw); (first | (go_simp; done) | (go_simp; with_reducible rfl))); (try simp only [Act.put, List.setIfInBounds_toArray, List.set_cons_zero, List.set_cons_succ]))
      (refine held_take (i := 2) (v := ?_) rfl (by kernel_rfl) (by kernel_rfl) (by kernel_rfl) (fun _ _ _ h => h) (by rfl) ?_ (by assumption) ?_; rotate_left; (intro w hSw; (try dsimp only at hSw); (first | (go_simp; done) | (go_simp; with_reducible rfl))); (try simp only [Act.put, List.setIfInBounds_toArray, List.set_cons_zero, List.set_cons_succ]))
      (refine held_take (i := 3) (v := ?_) rfl (by kernel_rfl) (by kernel_rfl) (by kernel_rfl) (fun _ _ _ h => h) (by rfl) ?_ (by assumption) ?_; rotate_left; (intro w hSw; (try dsimp only at hSw); (first | (go_simp; done) | (go_simp; with_reducible rfl))); (try simp only [Act.put, List.setIfInBounds_toArray, List.set_cons_zero, List.set_cons_succ]))
      (refine held_take (i := 4) (v := ?_) rfl (by kernel_rfl) (by kernel_rfl) (by kernel_rfl) (fun _ _ _ h => h) (by rfl) ?_ (by assumption) ?_; rotate_left; (intro w hSw; (try dsimp only at hSw); (first | (go_simp; done) | (go_simp; with_reducible rfl))); (try simp only [Act.put, List.setIfInBounds_toArray, List.set_cons_zero, List.set_cons_succ]))
      (refine held_take (i := 5) (v := ?_) rfl (by kernel_rfl) (by kernel_rfl) (by kernel_rfl) (fun _ _ _ h => h) (by rfl) ?_ (by assumption) ?_; rotate_left; (intro w hSw; (try dsimp only at hSw); (first | (go_simp; done) | (go_simp; with_reducible rfl))); (try simp only [Act.put, List.setIfInBounds_toArray, List.set_cons_zero, List.set_cons_succ]))
      (refine held_take (i := 6) (v := ?_) rfl (by kernel_rfl) (by kernel_rfl) (by kernel_rfl) (fun _ _ _ h => h) (by rfl) ?_ (by assumption) ?_; rotate_left; (intro w hSw; (try dsimp only at hSw); (first | (go_simp; done) | (go_simp; with_reducible rfl))); (try simp only [Act.put, List.setIfInBounds_toArray, List.set_cons_zero, List.set_cons_succ]))
      (refine held_take (i := 7) (v := ?_) rfl (by kernel_rfl) (by kernel_rfl) (by kernel_rfl) (fun _ _ _ h => h) (by rfl) ?_ (by assumption) ?_; rotate_left; (intro w hSw; (try dsimp only at hSw); (first | (go_simp; done) | (go_simp; with_reducible rfl))); (try simp only [Act.put, List.setIfInBounds_toArray, List.set_cons_zero, List.set_cons_succ]))
      (refine held_skip (i := 8) rfl (by kernel_rfl) (by kernel_rfl) (by kernel_rfl) (fun _ _ _ h => h) (by rfl) (by assumption) ?_; (try simp only [Act.put, List.setIfInBounds_toArray, List.set_cons_zero, List.set_cons_succ]))
      (refine held_skip (i := 9) rfl (by kernel_rfl) (by kernel_rfl) (by kernel_rfl) (fun _ _ _ h => h) (by rfl) (by assumption) ?_; (try simp only [Act.put, List.setIfInBounds_toArray, List.set_cons_zero, List.set_cons_succ]))
      (refine held_skip (i := 10) rfl (by kernel_rfl) (by kernel_rfl) (by kernel_rfl) (fun _ _ _ h => h) (by rfl) (by assumption) ?_; (try simp only [Act.put, List.setIfInBounds_toArray, List.set_cons_zero, List.set_cons_succ]))
      (refine held_take (i := 11) (v := ?_) rfl (by kernel_rfl) (by kernel_rfl) (by kernel_rfl) (fun _ _ _ h => h) (by rfl) ?_ (by assumption) ?_; rotate_left; (intro w hSw; (try dsimp only at hSw); (first | (go_simp; done) | (go_simp; with_reducible rfl))); (try simp only [Act.put, List.setIfInBounds_toArray, List.set_cons_zero, List.set_cons_succ]))
      refine wpAnyH_ready (rs := [12]) (by kernel_rfl) (by simp) (held_cons rfl (fun K hK => ?_) AllReadyH.nil)
      rw [if_pos (by rfl)]
      refine wp_store_row 56 _ _ rfl (w.heap.size + 1 + 1) (rc S) rfl rfl 56 zz HR.out (by rw [rc_size]; exact inf_rz) (by rw [HZ.out, rc_size]) (all_rc S) ?_
      have hb' := setRow_heap W0 (w.heap.size + 1 + 1) zz (rc S) 56 _ HR.out
      have hc' := Chg.row (cs := rc S) HR.out
      have HX' := hide (HX.out.turn hc' (by simp; omega))
      have HB' := hide (HB.out.chg hc' (by simp; omega))
      have HE' := hide (HE.out.chg hc' (by simp))
      clear hc'
      generalize W0.setRow (w.heap.size + 1 + 1) (rc S) = w' at *
      (refine hK.out _ _ ?_ (fun hHeld => ?_))
      · exact ⟨rc_rng HB'.out, HE'.out.cell⟩
      (try simp only [Act.put, List.setIfInBounds_toArray, List.set_cons_zero, List.set_cons_succ])
      (refine held_take (i := 13) (v := ?_) rfl (by kernel_rfl) (by kernel_rfl) (by kernel_rfl) (fun _ _ _ h => h) (by rfl) ?_ (by assumption) ?_; rotate_left; (intro w hSw; (try dsimp only at hSw); (first | (go_simp; done) | (go_simp; with_reducible rfl))); (try simp only [Act.put, List.setIfInBounds_toArray, List.set_cons_zero, List.set_cons_succ]))
      refine wpAnyH_done (by kernel_rfl) ?_ _
      go_wp2_with fail
      refine bodyPost_ret (res_of Try.results38 _ _ rfl rfl hb') rfl ?_
      exact ⟨by rw [E.out, y1, q]; simp, HX'.out⟩
    · go_wp2_with fail
      clear re
      have HB := hide (HB.out.ext (Ext.drew W0))
      have HE := hide (HE.out.ext (Ext.drew W0))
      have HR := hide (HR.out.ext (Ext.drew W0))
      have HX := hide (HX.out.trans (Ext.drew W0))
      refine wp_region_held_drew (S := fun w' => w'.rangeAt w.heap.size 0 (rc S).toList ∧ (∀ i, w'.cell? ⟨w.heap.size + 1, i, none⟩ = #[Value.int .i64 9, .int .i64 (t : Int), .int .i64 (o : Int), .int .i64 a, .int .i64 0][i]?)) (by kernel_rfl) (by exact ⟨rc_rng HB.out, HE.out.cell⟩) (fun hHeld => ?_)
      generalize W0.drew = W0 at *
      refine wpAnyH_take (i := 0) (at_drop rfl) (by kernel_rfl) (by kernel_rfl) (by kernel_rfl) (fun _ _ _ h => h) (yieldsIf_load_mid (by rfl) 56 _ rfl w.heap.size 0 rfl (rc S).toList _ (fun w h => h.1) Try.underlying56 rfl (inf_rm S)) (by assumption) ?_
      rw [Array.toArray_toList]
      (try simp only [Act.put, List.setIfInBounds_toArray, List.set_cons_zero, List.set_cons_succ])
      (refine held_take (i := 1) (v := ?_) rfl (by kernel_rfl) (by kernel_rfl) (by kernel_rfl) (fun _ _ _ h => h) (by rfl) ?_ (by assumption) ?_; rotate_left; (intro w hSw; (try dsimp only at hSw); (first | (go_simp; done) | (go_simp; with_reducible rfl))); (try simp only [Act.put, List.setIfInBounds_toArray, List.set_cons_zero, List.set_cons_succ]))
      (refine held_take (i := 2) (v := ?_) rfl (by kernel_rfl) (by kernel_rfl) (by kernel_rfl) (fun _ _ _ h => h) (by rfl) ?_ (by assumption) ?_; rotate_left; (intro w hSw; (try dsimp only at hSw); (first | (go_simp; done) | (go_simp; with_reducible rfl))); (try simp only [Act.put, List.setIfInBounds_toArray, List.set_cons_zero, List.set_cons_succ]))
      (refine held_take (i := 3) (v := ?_) rfl (by kernel_rfl) (by kernel_rfl) (by kernel_rfl) (fun _ _ _ h => h) (by rfl) ?_ (by assumption) ?_; rotate_left; (intro w hSw; (try dsimp only at hSw); (first | (go_simp; done) | (go_simp; with_reducible rfl))); (try simp only [Act.put, List.setIfInBounds_toArray, List.set_cons_zero, List.set_cons_succ]))
      (refine held_take (i := 4) (v := ?_) rfl (by kernel_rfl) (by kernel_rfl) (by kernel_rfl) (fun _ _ _ h => h) (by rfl) ?_ (by assumption) ?_; rotate_left; (intro w hSw; (try dsimp only at hSw); (first | (go_simp; done) | (go_simp; with_reducible rfl))); (try simp only [Act.put, List.setIfInBounds_toArray, List.set_cons_zero, List.set_cons_succ]))
      (refine held_take (i := 5) (v := ?_) rfl (by kernel_rfl) (by kernel_rfl) (by kernel_rfl) (fun _ _ _ h => h) (by rfl) ?_ (by assumption) ?_; rotate_left; (intro w hSw; (try dsimp only at hSw); (first | (go_simp; done) | (go_simp; with_reducible rfl))); (try simp only [Act.put, List.setIfInBounds_toArray, List.set_cons_zero, List.set_cons_succ]))
      (refine held_take (i := 6) (v := ?_) rfl (by kernel_rfl) (by kernel_rfl) (by kernel_rfl) (fun _ _ _ h => h) (by rfl) ?_ (by assumption) ?_; rotate_left; (intro w hSw; (try dsimp only at hSw); (first | (go_simp; done) | (go_simp; with_reducible rfl))); (try simp only [Act.put, List.setIfInBounds_toArray, List.set_cons_zero, List.set_cons_succ]))
      (refine held_take (i := 7) (v := ?_) rfl (by kernel_rfl) (by kernel_rfl) (by kernel_rfl) (fun _ _ _ h => h) (by rfl) ?_ (by assumption) ?_; rotate_left; (intro w hSw; (try dsimp only at hSw); (first | (go_simp; done) | (go_simp; with_reducible rfl))); (try simp only [Act.put, List.setIfInBounds_toArray, List.set_cons_zero, List.set_cons_succ]))
      refine wpAnyH_take (i := 8) (at_drop rfl) (by kernel_rfl) (by kernel_rfl) (by kernel_rfl) (fun _ _ _ h => h) (yieldsIf_load_mid (by rfl) 56 _ rfl w.heap.size 0 rfl (rc S).toList _ (fun w h => h.1) Try.underlying56 rfl (inf_rm S)) (by assumption) ?_
      rw [Array.toArray_toList]
      (try simp only [Act.put, List.setIfInBounds_toArray, List.set_cons_zero, List.set_cons_succ])
      (refine held_take (i := 9) (v := ?_) rfl (by kernel_rfl) (by kernel_rfl) (by kernel_rfl) (fun _ _ _ h => h) (by rfl) ?_ (by assumption) ?_; rotate_left; (intro w hSw; (try dsimp only at hSw); (first | (go_simp; done) | (go_simp; with_reducible rfl))); (try simp only [Act.put, List.setIfInBounds_toArray, List.set_cons_zero, List.set_cons_succ]))
      refine wpAnyH_ready (rs := [10]) (by kernel_rfl) (by simp) (held_cons rfl (fun K hK => ?_) AllReadyH.nil)
      go_simp
      refine (rnone_any ok ho W0).mono ?_
      rintro e w6 ⟨rfl, hx6⟩
      have HB := hide (HB.out.ext hx6)
      have HE := hide (HE.out.ext hx6)
      have HR := hide (HR.out.ext hx6)
      have HX := hide (HX.out.trans hx6)
      clear hx6
      generalize w6 = W0 at *
      (refine hK.out _ _ ?_ (fun hHeld => ?_))
      · exact ⟨rc_rng HB.out, HE.out.cell⟩
      (try simp only [Act.put, List.setIfInBounds_toArray, List.set_cons_zero, List.set_cons_succ])
      (refine held_take (i := 11) (v := ?_) rfl (by kernel_rfl) (by kernel_rfl) (by kernel_rfl) (fun _ _ _ h => h) (by rfl) ?_ (by assumption) ?_; rotate_left; (intro w hSw; (try dsimp only at hSw); (first | (go_simp; done) | (go_simp; with_reducible rfl))); (try simp only [Act.put, List.setIfInBounds_toArray, List.set_cons_zero, List.set_cons_succ]))
      refine wpAnyH_ready (rs := [12]) (by kernel_rfl) (by simp) (held_cons rfl (fun K hK => ?_) AllReadyH.nil)
      rw [if_pos (by rfl)]
      refine wp_store_row 56 _ _ rfl (w.heap.size + 1 + 1) (rc S) rfl rfl 56 zz HR.out (by rw [rc_size]; exact inf_rz) (by rw [HZ.out, rc_size]) (all_rc S) ?_
      have hb' := setRow_heap W0 (w.heap.size + 1 + 1) zz (rc S) 56 _ HR.out
      have hc' := Chg.row (cs := rc S) HR.out
      have HX' := hide (HX.out.turn hc' (by simp; omega))
      have HB' := hide (HB.out.chg hc' (by simp; omega))
      have HE' := hide (HE.out.chg hc' (by simp))
      clear hc'
      generalize W0.setRow (w.heap.size + 1 + 1) (rc S) = w' at *
      (refine hK.out _ _ ?_ (fun hHeld => ?_))
      · exact ⟨rc_rng HB'.out, HE'.out.cell⟩
      (try simp only [Act.put, List.setIfInBounds_toArray, List.set_cons_zero, List.set_cons_succ])
      (refine held_take (i := 13) (v := ?_) rfl (by kernel_rfl) (by kernel_rfl) (by kernel_rfl) (fun _ _ _ h => h) (by rfl) ?_ (by assumption) ?_; rotate_left; (intro w hSw; (try dsimp only at hSw); (first | (go_simp; done) | (go_simp; with_reducible rfl))); (try simp only [Act.put, List.setIfInBounds_toArray, List.set_cons_zero, List.set_cons_succ]))
      refine wpAnyH_done (by kernel_rfl) ?_ _
      go_wp2_with fail
      refine bodyPost_ret (res_of Try.results38 _ _ rfl rfl hb') rfl ?_
      exact ⟨by rw [E.out, y1, q]; simp, HX'.out⟩
theorem rtell_80 {S : St} (ok : Ok S) {t o : Nat} (a : Int) (ht : t < S.N) (ho : o < S.M) {b : Bool} (E : Hid (b = (S.own o + 1 == (t : Int) + 1 && (isT S a || (a == -1 && noW S o))))) (w : World) :
    Calls Try.prog 38 #[.agg (rc S), (Value.agg #[Value.int .i64 8, .int .i64 (t : Int), .int .i64 (o : Int), .int .i64 a, .int .i64 0])] w fun e w' => e = .returned (.tuple #[.agg (rc S), .bool b]) ∧ Ext w w' := by
  have n1 := ok.n1
  have m1 := ok.m1
  have ho8 : o < 8 := by omega
  have ht8 : t < 8 := by omega
  have i8 : (o : Int) < 8 := by omega
  have j8 : (t : Int) < 8 := by omega
  obtain ⟨zz, hz1, hz2, hz3, hz4, -⟩ : ∃ zz : Array Value, (∀ w, (zeroValue 56).run Try.prog w = .ok (.agg zz) w) ∧ ¬ zz = #[] ∧ ¬ zz.size < 2 ∧ zz.size = 227 ∧ zz = zr := ⟨_, fun w => by kernel_rfl, by decide +kernel, by decide +kernel, by decide +kernel, rfl⟩
  have HZ := hide hz4
  clear hz4
  go_enter Try.func38, Try.ntmps38
  go_upto_region 1 with fail
  have HB := hide (((Blk.new w (rc S) 56).ext (Ext.alloc _ (.cells #[Value.int .i64 8, .int .i64 (t : Int), .int .i64 (o : Int), .int .i64 a, .int .i64 0] 42))).ext (Ext.alloc _ (.cells zz 56)))
  have HE := Blk.new (w.alloc (.cells (rc S) 56)) #[Value.int .i64 8, .int .i64 (t : Int), .int .i64 (o : Int), .int .i64 a, .int .i64 0] 42
  rw [World.size_alloc] at HE
  have HE := hide (HE.ext (Ext.alloc _ (.cells zz 56)))
  have HR := Blk.new ((w.alloc (.cells (rc S) 56)).alloc (.cells #[Value.int .i64 8, .int .i64 (t : Int), .int .i64 (o : Int), .int .i64 a, .int .i64 0] 42)) zz 56
  rw [World.size_alloc, World.size_alloc] at HR
  have HR := hide HR
  have HX := hide (((Ext.alloc w (.cells (rc S) 56)).trans (Ext.alloc _ (.cells #[Value.int .i64 8, .int .i64 (t : Int), .int .i64 (o : Int), .int .i64 a, .int .i64 0] 42))).trans (Ext.alloc _ (.cells zz 56)))
  generalize (((w.alloc (.cells (rc S) 56)).alloc (.cells #[Value.int .i64 8, .int .i64 (t : Int), .int .i64 (o : Int), .int .i64 a, .int .i64 0] 42)).alloc (.cells zz 56)) = W0 at *
  clear hz1 hz2 hz3
  have re := HE.out.cell
  go_upto_region 2 with fail
  have re := (HE.out.ext (Ext.drew W0)).cell
  have r1 : W0.drew.cell? ⟨w.heap.size, 3 + o, none⟩ = some (.int .i64 (S.own o + 1)) := by rw [(HB.out.ext (Ext.drew W0)).cell]; exact rc_own ho8
  generalize S.own o + 1 = y at *
  go_region
  clear re r1
  have HB := hide (HB.out.ext (Ext.drew W0))
  have HE := hide (HE.out.ext (Ext.drew W0))
  have HR := hide (HR.out.ext (Ext.drew W0))
  have HX := hide (HX.out.trans (Ext.drew W0))
  generalize W0.drew = W0 at *
  have re := HE.out.cell
  have CI := fun w => ris_any S a w
  cases y1 : (y == (t : Int) + 1)
  · go_wp2_with fail
    clear re
    have HB := hide (HB.out.ext (Ext.drew W0))
    have HE := hide (HE.out.ext (Ext.drew W0))
    have HR := hide (HR.out.ext (Ext.drew W0))
    have HX := hide (HX.out.trans (Ext.drew W0))
    refine wp_region_held_drew (S := fun w' => w'.rangeAt w.heap.size 0 (rc S).toList ∧ (∀ i, w'.cell? ⟨w.heap.size + 1, i, none⟩ = #[Value.int .i64 8, .int .i64 (t : Int), .int .i64 (o : Int), .int .i64 a, .int .i64 0][i]?)) (by kernel_rfl) (by exact ⟨rc_rng HB.out, HE.out.cell⟩) (fun hHeld => ?_)
    generalize W0.drew = W0 at *
    refine wpAnyH_take (i := 0) (at_drop rfl) (by kernel_rfl) (by kernel_rfl) (by kernel_rfl) (fun _ _ _ h => h) (yieldsIf_load_mid (by rfl) 56 _ rfl w.heap.size 0 rfl (rc S).toList _ (fun w h => h.1) Try.underlying56 rfl (inf_rm S)) (by assumption) ?_
    rw [Array.toArray_toList]
    (try simp only [Act.put, List.setIfInBounds_toArray, List.set_cons_zero, List.set_cons_succ])
    (refine held_take (i := 1) (v := ?_) rfl (by kernel_rfl) (by kernel_rfl) (by kernel_rfl) (fun _ _ _ h => h) (by rfl) ?_ (by assumption) ?_; rotate_left; (intro w hSw; (try dsimp only at hSw); (first | (go_simp; done) | (go_simp; with_reducible rfl))); (try simp only [Act.put, List.setIfInBounds_toArray, List.set_cons_zero, List.set_cons_succ]))
    (refine held_take (i := 2) (v := ?_) rfl (by kernel_rfl) (by kernel_rfl) (by kernel_rfl) (fun _ _ _ h => h) (by rfl) ?_ (by assumption) ?_; rotate_left; (intro w hSw; (try dsimp only at hSw); (first | (go_simp; done) | (go_simp; with_reducible rfl))); (try simp only [Act.put, List.setIfInBounds_toArray, List.set_cons_zero, List.set_cons_succ]))
    (refine held_skip (i := 3) rfl (by kernel_rfl) (by kernel_rfl) (by kernel_rfl) (fun _ _ _ h => h) (by rfl) (by assumption) ?_; (try simp only [Act.put, List.setIfInBounds_toArray, List.set_cons_zero, List.set_cons_succ]))
    (refine held_skip (i := 4) rfl (by kernel_rfl) (by kernel_rfl) (by kernel_rfl) (fun _ _ _ h => h) (by rfl) (by assumption) ?_; (try simp only [Act.put, List.setIfInBounds_toArray, List.set_cons_zero, List.set_cons_succ]))
    (refine held_skip (i := 5) rfl (by kernel_rfl) (by kernel_rfl) (by kernel_rfl) (fun _ _ _ h => h) (by rfl) (by assumption) ?_; (try simp only [Act.put, List.setIfInBounds_toArray, List.set_cons_zero, List.set_cons_succ]))
    (refine held_skip (i := 6) rfl (by kernel_rfl) (by kernel_rfl) (by kernel_rfl) (fun _ _ _ h => h) (by rfl) (by assumption) ?_; (try simp only [Act.put, List.setIfInBounds_toArray, List.set_cons_zero, List.set_cons_succ]))
    (refine held_skip (i := 7) rfl (by kernel_rfl) (by kernel_rfl) (by kernel_rfl) (fun _ _ _ h => h) (by rfl) (by assumption) ?_; (try simp only [Act.put, List.setIfInBounds_toArray, List.set_cons_zero, List.set_cons_succ]))
    (refine held_skip (i := 8) rfl (by kernel_rfl) (by kernel_rfl) (by kernel_rfl) (fun _ _ _ h => h) (by rfl) (by assumption) ?_; (try simp only [Act.put, List.setIfInBounds_toArray, List.set_cons_zero, List.set_cons_succ]))
    (refine held_skip (i := 9) rfl (by kernel_rfl) (by kernel_rfl) (by kernel_rfl) (fun _ _ _ h => h) (by rfl) (by assumption) ?_; (try simp only [Act.put, List.setIfInBounds_toArray, List.set_cons_zero, List.set_cons_succ]))
    (refine held_skip (i := 10) rfl (by kernel_rfl) (by kernel_rfl) (by kernel_rfl) (fun _ _ _ h => h) (by rfl) (by assumption) ?_; (try simp only [Act.put, List.setIfInBounds_toArray, List.set_cons_zero, List.set_cons_succ]))
    (refine held_skip (i := 11) rfl (by kernel_rfl) (by kernel_rfl) (by kernel_rfl) (fun _ _ _ h => h) (by rfl) (by assumption) ?_; (try simp only [Act.put, List.setIfInBounds_toArray, List.set_cons_zero, List.set_cons_succ]))
    (refine held_skip (i := 12) rfl (by kernel_rfl) (by kernel_rfl) (by kernel_rfl) (fun _ _ _ h => h) (by rfl) (by assumption) ?_; (try simp only [Act.put, List.setIfInBounds_toArray, List.set_cons_zero, List.set_cons_succ]))
    (refine held_skip (i := 13) rfl (by kernel_rfl) (by kernel_rfl) (by kernel_rfl) (fun _ _ _ h => h) (by rfl) (by assumption) ?_; (try simp only [Act.put, List.setIfInBounds_toArray, List.set_cons_zero, List.set_cons_succ]))
    (refine held_skip (i := 14) rfl (by kernel_rfl) (by kernel_rfl) (by kernel_rfl) (fun _ _ _ h => h) (by rfl) (by assumption) ?_; (try simp only [Act.put, List.setIfInBounds_toArray, List.set_cons_zero, List.set_cons_succ]))
    (refine held_skip (i := 15) rfl (by kernel_rfl) (by kernel_rfl) (by kernel_rfl) (fun _ _ _ h => h) (by rfl) (by assumption) ?_; (try simp only [Act.put, List.setIfInBounds_toArray, List.set_cons_zero, List.set_cons_succ]))
    (refine held_skip (i := 16) rfl (by kernel_rfl) (by kernel_rfl) (by kernel_rfl) (fun _ _ _ h => h) (by rfl) (by assumption) ?_; (try simp only [Act.put, List.setIfInBounds_toArray, List.set_cons_zero, List.set_cons_succ]))
    (refine held_take (i := 17) (v := ?_) rfl (by kernel_rfl) (by kernel_rfl) (by kernel_rfl) (fun _ _ _ h => h) (by rfl) ?_ (by assumption) ?_; rotate_left; (intro w hSw; (try dsimp only at hSw); (first | (go_simp; done) | (go_simp; with_reducible rfl))); (try simp only [Act.put, List.setIfInBounds_toArray, List.set_cons_zero, List.set_cons_succ]))
    refine wpAnyH_ready (rs := [18]) (by kernel_rfl) (by simp) (held_cons rfl (fun K hK => ?_) AllReadyH.nil)
    rw [if_pos (by rfl)]
    refine wp_store_row 56 _ _ rfl (w.heap.size + 1 + 1) (rc S) rfl rfl 56 zz HR.out (by rw [rc_size]; exact inf_rz) (by rw [HZ.out, rc_size]) (all_rc S) ?_
    have hb' := setRow_heap W0 (w.heap.size + 1 + 1) zz (rc S) 56 _ HR.out
    have hc' := Chg.row (cs := rc S) HR.out
    have HX' := hide (HX.out.turn hc' (by simp; omega))
    have HB' := hide (HB.out.chg hc' (by simp; omega))
    have HE' := hide (HE.out.chg hc' (by simp))
    clear hc'
    generalize W0.setRow (w.heap.size + 1 + 1) (rc S) = w' at *
    (refine hK.out _ _ ?_ (fun hHeld => ?_))
    · exact ⟨rc_rng HB'.out, HE'.out.cell⟩
    (try simp only [Act.put, List.setIfInBounds_toArray, List.set_cons_zero, List.set_cons_succ])
    (refine held_take (i := 19) (v := ?_) rfl (by kernel_rfl) (by kernel_rfl) (by kernel_rfl) (fun _ _ _ h => h) (by rfl) ?_ (by assumption) ?_; rotate_left; (intro w hSw; (try dsimp only at hSw); (first | (go_simp; done) | (go_simp; with_reducible rfl))); (try simp only [Act.put, List.setIfInBounds_toArray, List.set_cons_zero, List.set_cons_succ]))
    refine wpAnyH_done (by kernel_rfl) ?_ _
    go_wp2_with fail
    refine bodyPost_ret (res_of Try.results38 _ _ rfl rfl hb') rfl ?_
    exact ⟨by rw [E.out, y1]; simp, HX'.out⟩
  · cases q : isT S a
    · rw [q] at CI E
      cases q2 : (a == -1)
      · go_wp2_with fail
        clear re
        have HB := hide (HB.out.ext (Ext.drew W0))
        have HE := hide (HE.out.ext (Ext.drew W0))
        have HR := hide (HR.out.ext (Ext.drew W0))
        have HX := hide (HX.out.trans (Ext.drew W0))
        refine wp_region_held_drew (S := fun w' => w'.rangeAt w.heap.size 0 (rc S).toList ∧ (∀ i, w'.cell? ⟨w.heap.size + 1, i, none⟩ = #[Value.int .i64 8, .int .i64 (t : Int), .int .i64 (o : Int), .int .i64 a, .int .i64 0][i]?)) (by kernel_rfl) (by exact ⟨rc_rng HB.out, HE.out.cell⟩) (fun hHeld => ?_)
        generalize W0.drew = W0 at *
        refine wpAnyH_take (i := 0) (at_drop rfl) (by kernel_rfl) (by kernel_rfl) (by kernel_rfl) (fun _ _ _ h => h) (yieldsIf_load_mid (by rfl) 56 _ rfl w.heap.size 0 rfl (rc S).toList _ (fun w h => h.1) Try.underlying56 rfl (inf_rm S)) (by assumption) ?_
        rw [Array.toArray_toList]
        (try simp only [Act.put, List.setIfInBounds_toArray, List.set_cons_zero, List.set_cons_succ])
        (refine held_take (i := 1) (v := ?_) rfl (by kernel_rfl) (by kernel_rfl) (by kernel_rfl) (fun _ _ _ h => h) (by rfl) ?_ (by assumption) ?_; rotate_left; (intro w hSw; (try dsimp only at hSw); (first | (go_simp; done) | (go_simp; with_reducible rfl))); (try simp only [Act.put, List.setIfInBounds_toArray, List.set_cons_zero, List.set_cons_succ]))
        (refine held_take (i := 2) (v := ?_) rfl (by kernel_rfl) (by kernel_rfl) (by kernel_rfl) (fun _ _ _ h => h) (by rfl) ?_ (by assumption) ?_; rotate_left; (intro w hSw; (try dsimp only at hSw); (first | (go_simp; done) | (go_simp; with_reducible rfl))); (try simp only [Act.put, List.setIfInBounds_toArray, List.set_cons_zero, List.set_cons_succ]))
        refine wpAnyH_take (i := 3) (at_drop rfl) (by kernel_rfl) (by kernel_rfl) (by kernel_rfl) (fun _ _ _ h => h) (yieldsIf_load_mid (by rfl) 56 _ rfl w.heap.size 0 rfl (rc S).toList _ (fun w h => h.1) Try.underlying56 rfl (inf_rm S)) (by assumption) ?_
        rw [Array.toArray_toList]
        (try simp only [Act.put, List.setIfInBounds_toArray, List.set_cons_zero, List.set_cons_succ])
        (refine held_take (i := 4) (v := ?_) rfl (by kernel_rfl) (by kernel_rfl) (by kernel_rfl) (fun _ _ _ h => h) (by rfl) ?_ (by assumption) ?_; rotate_left; (intro w hSw; (try dsimp only at hSw); (first | (go_simp; done) | (go_simp; with_reducible rfl))); (try simp only [Act.put, List.setIfInBounds_toArray, List.set_cons_zero, List.set_cons_succ]))
        (refine held_take (i := 5) (v := ?_) rfl (by kernel_rfl) (by kernel_rfl) (by kernel_rfl) (fun _ _ _ h => h) (by rfl) ?_ (by assumption) ?_; rotate_left; (intro w hSw; (try dsimp only at hSw); (first | (go_simp; done) | (go_simp; with_reducible rfl))); (try simp only [Act.put, List.setIfInBounds_toArray, List.set_cons_zero, List.set_cons_succ]))
        refine wpAnyH_ready (rs := [6]) (by kernel_rfl) (by simp) (held_cons rfl (fun K hK => ?_) AllReadyH.nil)
        go_simp
        refine (CI W0).mono ?_
        rintro e w5 ⟨rfl, hx5⟩
        have HB := hide (HB.out.ext hx5)
        have HE := hide (HE.out.ext hx5)
        have HR := hide (HR.out.ext hx5)
        have HX := hide (HX.out.trans hx5)
        clear hx5
        generalize w5 = W0 at *
        (refine hK.out _ _ ?_ (fun hHeld => ?_))
        · exact ⟨rc_rng HB.out, HE.out.cell⟩
        (try simp only [Act.put, List.setIfInBounds_toArray, List.set_cons_zero, List.set_cons_succ])
        (refine held_take (i := 7) (v := ?_) rfl (by kernel_rfl) (by kernel_rfl) (by kernel_rfl) (fun _ _ _ h => h) (by rfl) ?_ (by assumption) ?_; rotate_left; (intro w hSw; (try dsimp only at hSw); (first | (go_simp; done) | (go_simp; with_reducible rfl))); (try simp only [Act.put, List.setIfInBounds_toArray, List.set_cons_zero, List.set_cons_succ]))
        (refine held_take (i := 8) (v := ?_) rfl (by kernel_rfl) (by kernel_rfl) (by kernel_rfl) (fun _ _ _ h => h) (by rfl) ?_ (by assumption) ?_; rotate_left; (intro w hSw; (try dsimp only at hSw); (first | (go_simp; done) | (go_simp; with_reducible rfl))); (try simp only [Act.put, List.setIfInBounds_toArray, List.set_cons_zero, List.set_cons_succ]))
        (refine held_take (i := 9) (v := ?_) rfl (by kernel_rfl) (by kernel_rfl) (by kernel_rfl) (fun _ _ _ h => h) (by rfl) ?_ (by assumption) ?_; rotate_left; (intro w hSw; (try dsimp only at hSw); (first | (go_simp; done) | (go_simp; with_reducible rfl))); (try simp only [Act.put, List.setIfInBounds_toArray, List.set_cons_zero, List.set_cons_succ]))
        (refine held_take (i := 10) (v := ?_) rfl (by kernel_rfl) (by kernel_rfl) (by kernel_rfl) (fun _ _ _ h => h) (by rfl) ?_ (by assumption) ?_; rotate_left; (intro w hSw; (try dsimp only at hSw); (first | (go_simp; done) | (go_simp; with_reducible rfl))); (try simp only [Act.put, List.setIfInBounds_toArray, List.set_cons_zero, List.set_cons_succ]))
        (refine held_take (i := 11) (v := ?_) rfl (by kernel_rfl) (by kernel_rfl) (by kernel_rfl) (fun _ _ _ h => h) (by rfl) ?_ (by assumption) ?_; rotate_left; (intro w hSw; (try dsimp only at hSw); (first | (go_simp; done) | (go_simp; with_reducible rfl))); (try simp only [Act.put, List.setIfInBounds_toArray, List.set_cons_zero, List.set_cons_succ]))
        (refine held_skip (i := 12) rfl (by kernel_rfl) (by kernel_rfl) (by kernel_rfl) (fun _ _ _ h => h) (by rfl) (by assumption) ?_; (try simp only [Act.put, List.setIfInBounds_toArray, List.set_cons_zero, List.set_cons_succ]))
        (refine held_skip (i := 13) rfl (by kernel_rfl) (by kernel_rfl) (by kernel_rfl) (fun _ _ _ h => h) (by rfl) (by assumption) ?_; (try simp only [Act.put, List.setIfInBounds_toArray, List.set_cons_zero, List.set_cons_succ]))
        (refine held_skip (i := 14) rfl (by kernel_rfl) (by kernel_rfl) (by kernel_rfl) (fun _ _ _ h => h) (by rfl) (by assumption) ?_; (try simp only [Act.put, List.setIfInBounds_toArray, List.set_cons_zero, List.set_cons_succ]))
        (refine held_take (i := 15) (v := ?_) rfl (by kernel_rfl) (by kernel_rfl) (by kernel_rfl) (fun _ _ _ h => h) (by rfl) ?_ (by assumption) ?_; rotate_left; (intro w hSw; (try dsimp only at hSw); (first | (go_simp; done) | (go_simp; with_reducible rfl))); (try simp only [Act.put, List.setIfInBounds_toArray, List.set_cons_zero, List.set_cons_succ]))
        (refine held_take (i := 16) (v := ?_) rfl (by kernel_rfl) (by kernel_rfl) (by kernel_rfl) (fun _ _ _ h => h) (by rfl) ?_ (by assumption) ?_; rotate_left; (intro w hSw; (try dsimp only at hSw); (first | (go_simp; done) | (go_simp; with_reducible rfl))); (try simp only [Act.put, List.setIfInBounds_toArray, List.set_cons_zero, List.set_cons_succ]))
        (refine held_take (i := 17) (v := ?_) rfl (by kernel_rfl) (by kernel_rfl) (by kernel_rfl) (fun _ _ _ h => h) (by rfl) ?_ (by assumption) ?_; rotate_left; (intro w hSw; (try dsimp only at hSw); (first | (go_simp; done) | (go_simp; with_reducible rfl))); (try simp only [Act.put, List.setIfInBounds_toArray, List.set_cons_zero, List.set_cons_succ]))
        refine wpAnyH_ready (rs := [18]) (by kernel_rfl) (by simp) (held_cons rfl (fun K hK => ?_) AllReadyH.nil)
        rw [if_pos (by rfl)]
        refine wp_store_row 56 _ _ rfl (w.heap.size + 1 + 1) (rc S) rfl rfl 56 zz HR.out (by rw [rc_size]; exact inf_rz) (by rw [HZ.out, rc_size]) (all_rc S) ?_
        have hb' := setRow_heap W0 (w.heap.size + 1 + 1) zz (rc S) 56 _ HR.out
        have hc' := Chg.row (cs := rc S) HR.out
        have HX' := hide (HX.out.turn hc' (by simp; omega))
        have HB' := hide (HB.out.chg hc' (by simp; omega))
        have HE' := hide (HE.out.chg hc' (by simp))
        clear hc'
        generalize W0.setRow (w.heap.size + 1 + 1) (rc S) = w' at *
        (refine hK.out _ _ ?_ (fun hHeld => ?_))
        · exact ⟨rc_rng HB'.out, HE'.out.cell⟩
        (try simp only [Act.put, List.setIfInBounds_toArray, List.set_cons_zero, List.set_cons_succ])
        (refine held_take (i := 19) (v := ?_) rfl (by kernel_rfl) (by kernel_rfl) (by kernel_rfl) (fun _ _ _ h => h) (by rfl) ?_ (by assumption) ?_; rotate_left; (intro w hSw; (try dsimp only at hSw); (first | (go_simp; done) | (go_simp; with_reducible rfl))); (try simp only [Act.put, List.setIfInBounds_toArray, List.set_cons_zero, List.set_cons_succ]))
        refine wpAnyH_done (by kernel_rfl) ?_ _
        go_wp2_with fail
        refine bodyPost_ret (res_of Try.results38 _ _ rfl rfl hb') rfl ?_
        exact ⟨by rw [E.out, y1, q2]; simp, HX'.out⟩
      · go_wp2_with fail
        clear re
        have HB := hide (HB.out.ext (Ext.drew W0))
        have HE := hide (HE.out.ext (Ext.drew W0))
        have HR := hide (HR.out.ext (Ext.drew W0))
        have HX := hide (HX.out.trans (Ext.drew W0))
        refine wp_region_held_drew (S := fun w' => w'.rangeAt w.heap.size 0 (rc S).toList ∧ (∀ i, w'.cell? ⟨w.heap.size + 1, i, none⟩ = #[Value.int .i64 8, .int .i64 (t : Int), .int .i64 (o : Int), .int .i64 a, .int .i64 0][i]?)) (by kernel_rfl) (by exact ⟨rc_rng HB.out, HE.out.cell⟩) (fun hHeld => ?_)
        generalize W0.drew = W0 at *
        refine wpAnyH_take (i := 0) (at_drop rfl) (by kernel_rfl) (by kernel_rfl) (by kernel_rfl) (fun _ _ _ h => h) (yieldsIf_load_mid (by rfl) 56 _ rfl w.heap.size 0 rfl (rc S).toList _ (fun w h => h.1) Try.underlying56 rfl (inf_rm S)) (by assumption) ?_
        rw [Array.toArray_toList]
        (try simp only [Act.put, List.setIfInBounds_toArray, List.set_cons_zero, List.set_cons_succ])
        (refine held_take (i := 1) (v := ?_) rfl (by kernel_rfl) (by kernel_rfl) (by kernel_rfl) (fun _ _ _ h => h) (by rfl) ?_ (by assumption) ?_; rotate_left; (intro w hSw; (try dsimp only at hSw); (first | (go_simp; done) | (go_simp; with_reducible rfl))); (try simp only [Act.put, List.setIfInBounds_toArray, List.set_cons_zero, List.set_cons_succ]))
        (refine held_take (i := 2) (v := ?_) rfl (by kernel_rfl) (by kernel_rfl) (by kernel_rfl) (fun _ _ _ h => h) (by rfl) ?_ (by assumption) ?_; rotate_left; (intro w hSw; (try dsimp only at hSw); (first | (go_simp; done) | (go_simp; with_reducible rfl))); (try simp only [Act.put, List.setIfInBounds_toArray, List.set_cons_zero, List.set_cons_succ]))
        refine wpAnyH_take (i := 3) (at_drop rfl) (by kernel_rfl) (by kernel_rfl) (by kernel_rfl) (fun _ _ _ h => h) (yieldsIf_load_mid (by rfl) 56 _ rfl w.heap.size 0 rfl (rc S).toList _ (fun w h => h.1) Try.underlying56 rfl (inf_rm S)) (by assumption) ?_
        rw [Array.toArray_toList]
        (try simp only [Act.put, List.setIfInBounds_toArray, List.set_cons_zero, List.set_cons_succ])
        (refine held_take (i := 4) (v := ?_) rfl (by kernel_rfl) (by kernel_rfl) (by kernel_rfl) (fun _ _ _ h => h) (by rfl) ?_ (by assumption) ?_; rotate_left; (intro w hSw; (try dsimp only at hSw); (first | (go_simp; done) | (go_simp; with_reducible rfl))); (try simp only [Act.put, List.setIfInBounds_toArray, List.set_cons_zero, List.set_cons_succ]))
        (refine held_take (i := 5) (v := ?_) rfl (by kernel_rfl) (by kernel_rfl) (by kernel_rfl) (fun _ _ _ h => h) (by rfl) ?_ (by assumption) ?_; rotate_left; (intro w hSw; (try dsimp only at hSw); (first | (go_simp; done) | (go_simp; with_reducible rfl))); (try simp only [Act.put, List.setIfInBounds_toArray, List.set_cons_zero, List.set_cons_succ]))
        refine wpAnyH_ready (rs := [6]) (by kernel_rfl) (by simp) (held_cons rfl (fun K hK => ?_) AllReadyH.nil)
        go_simp
        refine (CI W0).mono ?_
        rintro e w5 ⟨rfl, hx5⟩
        have HB := hide (HB.out.ext hx5)
        have HE := hide (HE.out.ext hx5)
        have HR := hide (HR.out.ext hx5)
        have HX := hide (HX.out.trans hx5)
        clear hx5
        generalize w5 = W0 at *
        (refine hK.out _ _ ?_ (fun hHeld => ?_))
        · exact ⟨rc_rng HB.out, HE.out.cell⟩
        (try simp only [Act.put, List.setIfInBounds_toArray, List.set_cons_zero, List.set_cons_succ])
        (refine held_take (i := 7) (v := ?_) rfl (by kernel_rfl) (by kernel_rfl) (by kernel_rfl) (fun _ _ _ h => h) (by rfl) ?_ (by assumption) ?_; rotate_left; (intro w hSw; (try dsimp only at hSw); (first | (go_simp; done) | (go_simp; with_reducible rfl))); (try simp only [Act.put, List.setIfInBounds_toArray, List.set_cons_zero, List.set_cons_succ]))
        (refine held_take (i := 8) (v := ?_) rfl (by kernel_rfl) (by kernel_rfl) (by kernel_rfl) (fun _ _ _ h => h) (by rfl) ?_ (by assumption) ?_; rotate_left; (intro w hSw; (try dsimp only at hSw); (first | (go_simp; done) | (go_simp; with_reducible rfl))); (try simp only [Act.put, List.setIfInBounds_toArray, List.set_cons_zero, List.set_cons_succ]))
        (refine held_take (i := 9) (v := ?_) rfl (by kernel_rfl) (by kernel_rfl) (by kernel_rfl) (fun _ _ _ h => h) (by rfl) ?_ (by assumption) ?_; rotate_left; (intro w hSw; (try dsimp only at hSw); (first | (go_simp; done) | (go_simp; with_reducible rfl))); (try simp only [Act.put, List.setIfInBounds_toArray, List.set_cons_zero, List.set_cons_succ]))
        (refine held_take (i := 10) (v := ?_) rfl (by kernel_rfl) (by kernel_rfl) (by kernel_rfl) (fun _ _ _ h => h) (by rfl) ?_ (by assumption) ?_; rotate_left; (intro w hSw; (try dsimp only at hSw); (first | (go_simp; done) | (go_simp; with_reducible rfl))); (try simp only [Act.put, List.setIfInBounds_toArray, List.set_cons_zero, List.set_cons_succ]))
        (refine held_take (i := 11) (v := ?_) rfl (by kernel_rfl) (by kernel_rfl) (by kernel_rfl) (fun _ _ _ h => h) (by rfl) ?_ (by assumption) ?_; rotate_left; (intro w hSw; (try dsimp only at hSw); (first | (go_simp; done) | (go_simp; with_reducible rfl))); (try simp only [Act.put, List.setIfInBounds_toArray, List.set_cons_zero, List.set_cons_succ]))
        refine wpAnyH_take (i := 12) (at_drop rfl) (by kernel_rfl) (by kernel_rfl) (by kernel_rfl) (fun _ _ _ h => h) (yieldsIf_load_mid (by rfl) 56 _ rfl w.heap.size 0 rfl (rc S).toList _ (fun w h => h.1) Try.underlying56 rfl (inf_rm S)) (by assumption) ?_
        rw [Array.toArray_toList]
        (try simp only [Act.put, List.setIfInBounds_toArray, List.set_cons_zero, List.set_cons_succ])
        (refine held_take (i := 13) (v := ?_) rfl (by kernel_rfl) (by kernel_rfl) (by kernel_rfl) (fun _ _ _ h => h) (by rfl) ?_ (by assumption) ?_; rotate_left; (intro w hSw; (try dsimp only at hSw); (first | (go_simp; done) | (go_simp; with_reducible rfl))); (try simp only [Act.put, List.setIfInBounds_toArray, List.set_cons_zero, List.set_cons_succ]))
        refine wpAnyH_ready (rs := [14]) (by kernel_rfl) (by simp) (held_cons rfl (fun K hK => ?_) AllReadyH.nil)
        go_simp
        refine (rnone_any ok ho W0).mono ?_
        rintro e w6 ⟨rfl, hx6⟩
        have HB := hide (HB.out.ext hx6)
        have HE := hide (HE.out.ext hx6)
        have HR := hide (HR.out.ext hx6)
        have HX := hide (HX.out.trans hx6)
        clear hx6
        generalize w6 = W0 at *
        (refine hK.out _ _ ?_ (fun hHeld => ?_))
        · exact ⟨rc_rng HB.out, HE.out.cell⟩
        (try simp only [Act.put, List.setIfInBounds_toArray, List.set_cons_zero, List.set_cons_succ])
        (refine held_take (i := 15) (v := ?_) rfl (by kernel_rfl) (by kernel_rfl) (by kernel_rfl) (fun _ _ _ h => h) (by rfl) ?_ (by assumption) ?_; rotate_left; (intro w hSw; (try dsimp only at hSw); (first | (go_simp; done) | (go_simp; with_reducible rfl))); (try simp only [Act.put, List.setIfInBounds_toArray, List.set_cons_zero, List.set_cons_succ]))
        (refine held_take (i := 16) (v := ?_) rfl (by kernel_rfl) (by kernel_rfl) (by kernel_rfl) (fun _ _ _ h => h) (by rfl) ?_ (by assumption) ?_; rotate_left; (intro w hSw; (try dsimp only at hSw); (first | (go_simp; done) | (go_simp; with_reducible rfl))); (try simp only [Act.put, List.setIfInBounds_toArray, List.set_cons_zero, List.set_cons_succ]))
        (refine held_take (i := 17) (v := ?_) rfl (by kernel_rfl) (by kernel_rfl) (by kernel_rfl) (fun _ _ _ h => h) (by rfl) ?_ (by assumption) ?_; rotate_left; (intro w hSw; (try dsimp only at hSw); (first | (go_simp; done) | (go_simp; with_reducible rfl))); (try simp only [Act.put, List.setIfInBounds_toArray, List.set_cons_zero, List.set_cons_succ]))
        refine wpAnyH_ready (rs := [18]) (by kernel_rfl) (by simp) (held_cons rfl (fun K hK => ?_) AllReadyH.nil)
        rw [if_pos (by rfl)]
        refine wp_store_row 56 _ _ rfl (w.heap.size + 1 + 1) (rc S) rfl rfl 56 zz HR.out (by rw [rc_size]; exact inf_rz) (by rw [HZ.out, rc_size]) (all_rc S) ?_
        have hb' := setRow_heap W0 (w.heap.size + 1 + 1) zz (rc S) 56 _ HR.out
        have hc' := Chg.row (cs := rc S) HR.out
        have HX' := hide (HX.out.turn hc' (by simp; omega))
        have HB' := hide (HB.out.chg hc' (by simp; omega))
        have HE' := hide (HE.out.chg hc' (by simp))
        clear hc'
        generalize W0.setRow (w.heap.size + 1 + 1) (rc S) = w' at *
        (refine hK.out _ _ ?_ (fun hHeld => ?_))
        · exact ⟨rc_rng HB'.out, HE'.out.cell⟩
        (try simp only [Act.put, List.setIfInBounds_toArray, List.set_cons_zero, List.set_cons_succ])
        (refine held_take (i := 19) (v := ?_) rfl (by kernel_rfl) (by kernel_rfl) (by kernel_rfl) (fun _ _ _ h => h) (by rfl) ?_ (by assumption) ?_; rotate_left; (intro w hSw; (try dsimp only at hSw); (first | (go_simp; done) | (go_simp; with_reducible rfl))); (try simp only [Act.put, List.setIfInBounds_toArray, List.set_cons_zero, List.set_cons_succ]))
        refine wpAnyH_done (by kernel_rfl) ?_ _
        go_wp2_with fail
        refine bodyPost_ret (res_of Try.results38 _ _ rfl rfl hb') rfl ?_
        exact ⟨by rw [E.out, y1, q2]; simp, HX'.out⟩
    · rw [q] at CI E
      go_wp2_with fail
      clear re
      have HB := hide (HB.out.ext (Ext.drew W0))
      have HE := hide (HE.out.ext (Ext.drew W0))
      have HR := hide (HR.out.ext (Ext.drew W0))
      have HX := hide (HX.out.trans (Ext.drew W0))
      refine wp_region_held_drew (S := fun w' => w'.rangeAt w.heap.size 0 (rc S).toList ∧ (∀ i, w'.cell? ⟨w.heap.size + 1, i, none⟩ = #[Value.int .i64 8, .int .i64 (t : Int), .int .i64 (o : Int), .int .i64 a, .int .i64 0][i]?)) (by kernel_rfl) (by exact ⟨rc_rng HB.out, HE.out.cell⟩) (fun hHeld => ?_)
      generalize W0.drew = W0 at *
      refine wpAnyH_take (i := 0) (at_drop rfl) (by kernel_rfl) (by kernel_rfl) (by kernel_rfl) (fun _ _ _ h => h) (yieldsIf_load_mid (by rfl) 56 _ rfl w.heap.size 0 rfl (rc S).toList _ (fun w h => h.1) Try.underlying56 rfl (inf_rm S)) (by assumption) ?_
      rw [Array.toArray_toList]
      (try simp only [Act.put, List.setIfInBounds_toArray, List.set_cons_zero, List.set_cons_succ])
      (refine held_take (i := 1) (v := ?_) rfl (by kernel_rfl) (by kernel_rfl) (by kernel_rfl) (fun _ _ _ h => h) (by rfl) ?_ (by assumption) ?_; rotate_left; (intro w hSw; (try dsimp only at hSw); (first | (go_simp; done) | (go_simp; with_reducible rfl))); (try simp only [Act.put, List.setIfInBounds_toArray, List.set_cons_zero, List.set_cons_succ]))
      (refine held_take (i := 2) (v := ?_) rfl (by kernel_rfl) (by kernel_rfl) (by kernel_rfl) (fun _ _ _ h => h) (by rfl) ?_ (by assumption) ?_; rotate_left; (intro w hSw; (try dsimp only at hSw); (first | (go_simp; done) | (go_simp; with_reducible rfl))); (try simp only [Act.put, List.setIfInBounds_toArray, List.set_cons_zero, List.set_cons_succ]))
      refine wpAnyH_take (i := 3) (at_drop rfl) (by kernel_rfl) (by kernel_rfl) (by kernel_rfl) (fun _ _ _ h => h) (yieldsIf_load_mid (by rfl) 56 _ rfl w.heap.size 0 rfl (rc S).toList _ (fun w h => h.1) Try.underlying56 rfl (inf_rm S)) (by assumption) ?_
      rw [Array.toArray_toList]
      (try simp only [Act.put, List.setIfInBounds_toArray, List.set_cons_zero, List.set_cons_succ])
      (refine held_take (i := 4) (v := ?_) rfl (by kernel_rfl) (by kernel_rfl) (by kernel_rfl) (fun _ _ _ h => h) (by rfl) ?_ (by assumption) ?_; rotate_left; (intro w hSw; (try dsimp only at hSw); (first | (go_simp; done) | (go_simp; with_reducible rfl))); (try simp only [Act.put, List.setIfInBounds_toArray, List.set_cons_zero, List.set_cons_succ]))
      (refine held_take (i := 5) (v := ?_) rfl (by kernel_rfl) (by kernel_rfl) (by kernel_rfl) (fun _ _ _ h => h) (by rfl) ?_ (by assumption) ?_; rotate_left; (intro w hSw; (try dsimp only at hSw); (first | (go_simp; done) | (go_simp; with_reducible rfl))); (try simp only [Act.put, List.setIfInBounds_toArray, List.set_cons_zero, List.set_cons_succ]))
      refine wpAnyH_ready (rs := [6]) (by kernel_rfl) (by simp) (held_cons rfl (fun K hK => ?_) AllReadyH.nil)
      go_simp
      refine (CI W0).mono ?_
      rintro e w5 ⟨rfl, hx5⟩
      have HB := hide (HB.out.ext hx5)
      have HE := hide (HE.out.ext hx5)
      have HR := hide (HR.out.ext hx5)
      have HX := hide (HX.out.trans hx5)
      clear hx5
      generalize w5 = W0 at *
      (refine hK.out _ _ ?_ (fun hHeld => ?_))
      · exact ⟨rc_rng HB.out, HE.out.cell⟩
      (try simp only [Act.put, List.setIfInBounds_toArray, List.set_cons_zero, List.set_cons_succ])
      (refine held_take (i := 7) (v := ?_) rfl (by kernel_rfl) (by kernel_rfl) (by kernel_rfl) (fun _ _ _ h => h) (by rfl) ?_ (by assumption) ?_; rotate_left; (intro w hSw; (try dsimp only at hSw); (first | (go_simp; done) | (go_simp; with_reducible rfl))); (try simp only [Act.put, List.setIfInBounds_toArray, List.set_cons_zero, List.set_cons_succ]))
      (refine held_skip (i := 8) rfl (by kernel_rfl) (by kernel_rfl) (by kernel_rfl) (fun _ _ _ h => h) (by rfl) (by assumption) ?_; (try simp only [Act.put, List.setIfInBounds_toArray, List.set_cons_zero, List.set_cons_succ]))
      (refine held_skip (i := 9) rfl (by kernel_rfl) (by kernel_rfl) (by kernel_rfl) (fun _ _ _ h => h) (by rfl) (by assumption) ?_; (try simp only [Act.put, List.setIfInBounds_toArray, List.set_cons_zero, List.set_cons_succ]))
      (refine held_skip (i := 10) rfl (by kernel_rfl) (by kernel_rfl) (by kernel_rfl) (fun _ _ _ h => h) (by rfl) (by assumption) ?_; (try simp only [Act.put, List.setIfInBounds_toArray, List.set_cons_zero, List.set_cons_succ]))
      (refine held_skip (i := 11) rfl (by kernel_rfl) (by kernel_rfl) (by kernel_rfl) (fun _ _ _ h => h) (by rfl) (by assumption) ?_; (try simp only [Act.put, List.setIfInBounds_toArray, List.set_cons_zero, List.set_cons_succ]))
      (refine held_skip (i := 12) rfl (by kernel_rfl) (by kernel_rfl) (by kernel_rfl) (fun _ _ _ h => h) (by rfl) (by assumption) ?_; (try simp only [Act.put, List.setIfInBounds_toArray, List.set_cons_zero, List.set_cons_succ]))
      (refine held_skip (i := 13) rfl (by kernel_rfl) (by kernel_rfl) (by kernel_rfl) (fun _ _ _ h => h) (by rfl) (by assumption) ?_; (try simp only [Act.put, List.setIfInBounds_toArray, List.set_cons_zero, List.set_cons_succ]))
      (refine held_skip (i := 14) rfl (by kernel_rfl) (by kernel_rfl) (by kernel_rfl) (fun _ _ _ h => h) (by rfl) (by assumption) ?_; (try simp only [Act.put, List.setIfInBounds_toArray, List.set_cons_zero, List.set_cons_succ]))
      (refine held_skip (i := 15) rfl (by kernel_rfl) (by kernel_rfl) (by kernel_rfl) (fun _ _ _ h => h) (by rfl) (by assumption) ?_; (try simp only [Act.put, List.setIfInBounds_toArray, List.set_cons_zero, List.set_cons_succ]))
      (refine held_take (i := 16) (v := ?_) rfl (by kernel_rfl) (by kernel_rfl) (by kernel_rfl) (fun _ _ _ h => h) (by rfl) ?_ (by assumption) ?_; rotate_left; (intro w hSw; (try dsimp only at hSw); (first | (go_simp; done) | (go_simp; with_reducible rfl))); (try simp only [Act.put, List.setIfInBounds_toArray, List.set_cons_zero, List.set_cons_succ]))
      (refine held_take (i := 17) (v := ?_) rfl (by kernel_rfl) (by kernel_rfl) (by kernel_rfl) (fun _ _ _ h => h) (by rfl) ?_ (by assumption) ?_; rotate_left; (intro w hSw; (try dsimp only at hSw); (first | (go_simp; done) | (go_simp; with_reducible rfl))); (try simp only [Act.put, List.setIfInBounds_toArray, List.set_cons_zero, List.set_cons_succ]))
      refine wpAnyH_ready (rs := [18]) (by kernel_rfl) (by simp) (held_cons rfl (fun K hK => ?_) AllReadyH.nil)
      rw [if_pos (by rfl)]
      refine wp_store_row 56 _ _ rfl (w.heap.size + 1 + 1) (rc S) rfl rfl 56 zz HR.out (by rw [rc_size]; exact inf_rz) (by rw [HZ.out, rc_size]) (all_rc S) ?_
      have hb' := setRow_heap W0 (w.heap.size + 1 + 1) zz (rc S) 56 _ HR.out
      have hc' := Chg.row (cs := rc S) HR.out
      have HX' := hide (HX.out.turn hc' (by simp; omega))
      have HB' := hide (HB.out.chg hc' (by simp; omega))
      have HE' := hide (HE.out.chg hc' (by simp))
      clear hc'
      generalize W0.setRow (w.heap.size + 1 + 1) (rc S) = w' at *
      (refine hK.out _ _ ?_ (fun hHeld => ?_))
      · exact ⟨rc_rng HB'.out, HE'.out.cell⟩
      (try simp only [Act.put, List.setIfInBounds_toArray, List.set_cons_zero, List.set_cons_succ])
      (refine held_take (i := 19) (v := ?_) rfl (by kernel_rfl) (by kernel_rfl) (by kernel_rfl) (fun _ _ _ h => h) (by rfl) ?_ (by assumption) ?_; rotate_left; (intro w hSw; (try dsimp only at hSw); (first | (go_simp; done) | (go_simp; with_reducible rfl))); (try simp only [Act.put, List.setIfInBounds_toArray, List.set_cons_zero, List.set_cons_succ]))
      refine wpAnyH_done (by kernel_rfl) ?_ _
      go_wp2_with fail
      refine bodyPost_ret (res_of Try.results38 _ _ rfl rfl hb') rfl ?_
      exact ⟨by rw [E.out, y1]; simp, HX'.out⟩
end Go.Proofs.Ytpielknodjppgaa
