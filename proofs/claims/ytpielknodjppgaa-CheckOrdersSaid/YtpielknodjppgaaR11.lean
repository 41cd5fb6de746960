/- The document's Hash, Holds and Interrupt. -/
import Derived.Test.YtpielknodjppgaaR2
namespace Go.Proofs.Ytpielknodjppgaa
open Go.RowKit Go.Maps
set_option linter.unusedSimpArgs false
set_option linter.unusedVariables false
set_option maxRecDepth 100000
set_option maxHeartbeats 8000000



theorem rask_1011 {S : St} (ok : Ok S) {t o : Nat} (a : Int) (ht : t < S.N) (ho : o < S.M) {b : Bool} (E : Hid (b = (S.own o + 1 != 0 && a == 0))) (w : World) :
    Calls Try.prog 39 #[.agg (rc S), (Value.agg #[Value.int .i64 10, .int .i64 (t : Int), .int .i64 (o : Int), .int .i64 a, .int .i64 11])] w fun e w' => e = .returned (.tuple #[.agg (rc S), .bool b]) ∧ Ext w w' := by
  have CP := hide (show (rc S)[3 + o]? = some (.int .i64 (S.own o + 1)) from rc_own (by have := ok.m1; omega))
  generalize S.own o + 1 = y at *
  have n1 := ok.n1
  have m1 := ok.m1
  have ho8 : o < 8 := by omega
  have ht8 : t < 8 := by omega
  have i8 : (o : Int) < 8 := by omega
  have j8 : (t : Int) < 8 := by omega
  obtain ⟨zz, hz1, hz2, hz3, hz4, -⟩ : ∃ zz : Array Value, (∀ w, (zeroValue 56).run Try.prog w = .ok (.agg zz) w) ∧ ¬ zz = #[] ∧ ¬ zz.size < 2 ∧ zz.size = 227 ∧ zz = zr := ⟨_, fun w => by kernel_rfl, by decide +kernel, by decide +kernel, by decide +kernel, rfl⟩
  have HZ := hide hz4
  clear hz4
  go_enter Try.func39, Try.ntmps39
  go_upto_region 1 with fail
  have HB := hide (((Blk.new w (rc S) 56).ext (Ext.alloc _ (.cells #[Value.int .i64 10, .int .i64 (t : Int), .int .i64 (o : Int), .int .i64 a, .int .i64 11] 42))).ext (Ext.alloc _ (.cells zz 56)))
  have HE := Blk.new (w.alloc (.cells (rc S) 56)) #[Value.int .i64 10, .int .i64 (t : Int), .int .i64 (o : Int), .int .i64 a, .int .i64 11] 42
  rw [World.size_alloc] at HE
  have HE := hide (HE.ext (Ext.alloc _ (.cells zz 56)))
  have HR := Blk.new ((w.alloc (.cells (rc S) 56)).alloc (.cells #[Value.int .i64 10, .int .i64 (t : Int), .int .i64 (o : Int), .int .i64 a, .int .i64 11] 42)) zz 56
  rw [World.size_alloc, World.size_alloc] at HR
  have HR := hide HR
  have HX := hide (((Ext.alloc w (.cells (rc S) 56)).trans (Ext.alloc _ (.cells #[Value.int .i64 10, .int .i64 (t : Int), .int .i64 (o : Int), .int .i64 a, .int .i64 11] 42))).trans (Ext.alloc _ (.cells zz 56)))
  generalize (((w.alloc (.cells (rc S) 56)).alloc (.cells #[Value.int .i64 10, .int .i64 (t : Int), .int .i64 (o : Int), .int .i64 a, .int .i64 11] 42)).alloc (.cells zz 56)) = W0 at *
  clear hz1 hz2 hz3
  have re := HE.out.cell
  cases y0 : (y != 0)
  · go_wp2_with fail
    clear re
    have HB := hide (HB.out.ext (Ext.drew W0))
    have HE := hide (HE.out.ext (Ext.drew W0))
    have HR := hide (HR.out.ext (Ext.drew W0))
    have HX := hide (HX.out.trans (Ext.drew W0))
    have PP : Hid (∀ w', Blk w' w.heap.size (rc S) 56 → w'.cell? ⟨w.heap.size, 3 + o, none⟩ = some (.int .i64 y)) := hide fun w' h => by rw [h.cell]; exact CP.out
    refine wp_region_held_drew (S := fun w' => w'.rangeAt w.heap.size 0 (rc S).toList ∧ ((∀ i, w'.cell? ⟨w.heap.size + 1, i, none⟩ = #[Value.int .i64 10, .int .i64 (t : Int), .int .i64 (o : Int), .int .i64 a, .int .i64 11][i]?) ∧ w'.cell? ⟨w.heap.size, 3 + o, none⟩ = some (.int .i64 y))) (by kernel_rfl) (by exact ⟨rc_rng HB.out, HE.out.cell, PP.out _ HB.out⟩) (fun hHeld => ?_)
    generalize W0.drew = W0 at *
    refine wpAnyH_take (i := 0) (at_drop rfl) (by kernel_rfl) (by kernel_rfl) (by kernel_rfl) (fun _ _ _ h => h) (yieldsIf_load_mid (by rfl) 56 _ rfl w.heap.size 0 rfl (rc S).toList _ (fun w h => h.1) Try.underlying56 rfl (inf_rm S)) (by assumption) ?_
    rw [Array.toArray_toList]
    (try simp only [Act.put, List.setIfInBounds_toArray, List.set_cons_zero, List.set_cons_succ])
    (refine held_take (i := 1) (v := ?_) rfl (by kernel_rfl) (by kernel_rfl) (by kernel_rfl) (fun _ _ _ h => h) (by rfl) ?_ (by assumption) ?_; rotate_left; (intro w hSw; (try dsimp only at hSw); (first | (go_simp; done) | (go_simp; with_reducible rfl))); (try simp only [Act.put, List.setIfInBounds_toArray, List.set_cons_zero, List.set_cons_succ]))
    (refine held_take (i := 2) (v := ?_) rfl (by kernel_rfl) (by kernel_rfl) (by kernel_rfl) (fun _ _ _ h => h) (by rfl) ?_ (by assumption) ?_; rotate_left; (intro w hSw; (try dsimp only at hSw); (first | (go_simp; done) | (go_simp; with_reducible rfl))); (try simp only [Act.put, List.setIfInBounds_toArray, List.set_cons_zero, List.set_cons_succ]))
    (refine held_take (i := 3) (v := ?_) rfl (by kernel_rfl) (by kernel_rfl) (by kernel_rfl) (fun _ _ _ h => h) (by rfl) ?_ (by assumption) ?_; rotate_left; (intro w hSw; (try dsimp only at hSw); (first | (go_simp; done) | (go_simp; with_reducible rfl))); (try simp only [Act.put, List.setIfInBounds_toArray, List.set_cons_zero, List.set_cons_succ]))
    (refine held_take (i := 4) (v := ?_) rfl (by kernel_rfl) (by kernel_rfl) (by kernel_rfl) (fun _ _ _ h => h) (by rfl) ?_ (by assumption) ?_; rotate_left; (intro w hSw; (try dsimp only at hSw); (first | (go_simp; done) | (go_simp; with_reducible rfl))); (try simp only [Act.put, List.setIfInBounds_toArray, List.set_cons_zero, List.set_cons_succ]))
    (refine held_take (i := 5) (v := ?_) rfl (by kernel_rfl) (by kernel_rfl) (by kernel_rfl) (fun _ _ _ h => h) (by rfl) ?_ (by assumption) ?_; rotate_left; (intro w hSw; (try dsimp only at hSw); (first | (go_simp; done) | (go_simp; with_reducible rfl))); (try simp only [Act.put, List.setIfInBounds_toArray, List.set_cons_zero, List.set_cons_succ]))
    (refine held_take (i := 6) (v := ?_) rfl (by kernel_rfl) (by kernel_rfl) (by kernel_rfl) (fun _ _ _ h => h) (by rfl) ?_ (by assumption) ?_; rotate_left; (intro w hSw; (try dsimp only at hSw); (first | (go_simp; done) | (go_simp; with_reducible rfl))); (try simp only [Act.put, List.setIfInBounds_toArray, List.set_cons_zero, List.set_cons_succ]))
    (refine held_skip (i := 7) rfl (by kernel_rfl) (by kernel_rfl) (by kernel_rfl) (fun _ _ _ h => h) (by rfl) (by assumption) ?_; (try simp only [Act.put, List.setIfInBounds_toArray, List.set_cons_zero, List.set_cons_succ]))
    (refine held_skip (i := 8) rfl (by kernel_rfl) (by kernel_rfl) (by kernel_rfl) (fun _ _ _ h => h) (by rfl) (by assumption) ?_; (try simp only [Act.put, List.setIfInBounds_toArray, List.set_cons_zero, List.set_cons_succ]))
    (refine held_skip (i := 9) rfl (by kernel_rfl) (by kernel_rfl) (by kernel_rfl) (fun _ _ _ h => h) (by rfl) (by assumption) ?_; (try simp only [Act.put, List.setIfInBounds_toArray, List.set_cons_zero, List.set_cons_succ]))
    (refine held_take (i := 10) (v := ?_) rfl (by kernel_rfl) (by kernel_rfl) (by kernel_rfl) (fun _ _ _ h => h) (by rfl) ?_ (by assumption) ?_; rotate_left; (intro w hSw; (try dsimp only at hSw); (first | (go_simp; done) | (go_simp; with_reducible rfl))); (try simp only [Act.put, List.setIfInBounds_toArray, List.set_cons_zero, List.set_cons_succ]))
    refine wpAnyH_ready (rs := [11]) (by kernel_rfl) (by simp) (held_cons rfl (fun K hK => ?_) AllReadyH.nil)
    rw [if_pos (by rfl)]
    refine wp_store_row 56 _ _ rfl (w.heap.size + 1 + 1) (rc S) rfl rfl 56 zz HR.out (by rw [rc_size]; exact inf_rz) (by rw [HZ.out, rc_size]) (all_rc S) ?_
    have hb' := setRow_heap W0 (w.heap.size + 1 + 1) zz (rc S) 56 _ HR.out
    have hc' := Chg.row (cs := rc S) HR.out
    have HX' := hide (HX.out.turn hc' (by simp; omega))
    have HB' := hide (HB.out.chg hc' (by simp; omega))
    have HE' := hide (HE.out.chg hc' (by simp))
    clear hc'
    generalize W0.setRow (w.heap.size + 1 + 1) (rc S) = w' at *
    (refine hK.out _ _ ?_ (fun hHeld => ?_))
    · exact ⟨rc_rng HB'.out, HE'.out.cell, PP.out _ HB'.out⟩
    (try simp only [Act.put, List.setIfInBounds_toArray, List.set_cons_zero, List.set_cons_succ])
    (refine held_take (i := 12) (v := ?_) rfl (by kernel_rfl) (by kernel_rfl) (by kernel_rfl) (fun _ _ _ h => h) (by rfl) ?_ (by assumption) ?_; rotate_left; (intro w hSw; (try dsimp only at hSw); (first | (go_simp; done) | (go_simp; with_reducible rfl))); (try simp only [Act.put, List.setIfInBounds_toArray, List.set_cons_zero, List.set_cons_succ]))
    refine wpAnyH_done (by kernel_rfl) ?_ _
    go_wp2_with fail
    refine bodyPost_ret (res_of Try.results39 _ _ rfl rfl hb') rfl ?_
    exact ⟨by rw [E.out, y0]; simp, HX'.out⟩
  · go_wp2_with fail
    clear re
    have HB := hide (HB.out.ext (Ext.drew W0))
    have HE := hide (HE.out.ext (Ext.drew W0))
    have HR := hide (HR.out.ext (Ext.drew W0))
    have HX := hide (HX.out.trans (Ext.drew W0))
    have PP : Hid (∀ w', Blk w' w.heap.size (rc S) 56 → w'.cell? ⟨w.heap.size, 3 + o, none⟩ = some (.int .i64 y)) := hide fun w' h => by rw [h.cell]; exact CP.out
    refine wp_region_held_drew (S := fun w' => w'.rangeAt w.heap.size 0 (rc S).toList ∧ ((∀ i, w'.cell? ⟨w.heap.size + 1, i, none⟩ = #[Value.int .i64 10, .int .i64 (t : Int), .int .i64 (o : Int), .int .i64 a, .int .i64 11][i]?) ∧ w'.cell? ⟨w.heap.size, 3 + o, none⟩ = some (.int .i64 y))) (by kernel_rfl) (by exact ⟨rc_rng HB.out, HE.out.cell, PP.out _ HB.out⟩) (fun hHeld => ?_)
    generalize W0.drew = W0 at *
    refine wpAnyH_take (i := 0) (at_drop rfl) (by kernel_rfl) (by kernel_rfl) (by kernel_rfl) (fun _ _ _ h => h) (yieldsIf_load_mid (by rfl) 56 _ rfl w.heap.size 0 rfl (rc S).toList _ (fun w h => h.1) Try.underlying56 rfl (inf_rm S)) (by assumption) ?_
    rw [Array.toArray_toList]
    (try simp only [Act.put, List.setIfInBounds_toArray, List.set_cons_zero, List.set_cons_succ])
    (refine held_take (i := 1) (v := ?_) rfl (by kernel_rfl) (by kernel_rfl) (by kernel_rfl) (fun _ _ _ h => h) (by rfl) ?_ (by assumption) ?_; rotate_left; (intro w hSw; (try dsimp only at hSw); (first | (go_simp; done) | (go_simp; with_reducible rfl))); (try simp only [Act.put, List.setIfInBounds_toArray, List.set_cons_zero, List.set_cons_succ]))
    (refine held_take (i := 2) (v := ?_) rfl (by kernel_rfl) (by kernel_rfl) (by kernel_rfl) (fun _ _ _ h => h) (by rfl) ?_ (by assumption) ?_; rotate_left; (intro w hSw; (try dsimp only at hSw); (first | (go_simp; done) | (go_simp; with_reducible rfl))); (try simp only [Act.put, List.setIfInBounds_toArray, List.set_cons_zero, List.set_cons_succ]))
    (refine held_take (i := 3) (v := ?_) rfl (by kernel_rfl) (by kernel_rfl) (by kernel_rfl) (fun _ _ _ h => h) (by rfl) ?_ (by assumption) ?_; rotate_left; (intro w hSw; (try dsimp only at hSw); (first | (go_simp; done) | (go_simp; with_reducible rfl))); (try simp only [Act.put, List.setIfInBounds_toArray, List.set_cons_zero, List.set_cons_succ]))
    (refine held_take (i := 4) (v := ?_) rfl (by kernel_rfl) (by kernel_rfl) (by kernel_rfl) (fun _ _ _ h => h) (by rfl) ?_ (by assumption) ?_; rotate_left; (intro w hSw; (try dsimp only at hSw); (first | (go_simp; done) | (go_simp; with_reducible rfl))); (try simp only [Act.put, List.setIfInBounds_toArray, List.set_cons_zero, List.set_cons_succ]))
    (refine held_take (i := 5) (v := ?_) rfl (by kernel_rfl) (by kernel_rfl) (by kernel_rfl) (fun _ _ _ h => h) (by rfl) ?_ (by assumption) ?_; rotate_left; (intro w hSw; (try dsimp only at hSw); (first | (go_simp; done) | (go_simp; with_reducible rfl))); (try simp only [Act.put, List.setIfInBounds_toArray, List.set_cons_zero, List.set_cons_succ]))
    (refine held_take (i := 6) (v := ?_) rfl (by kernel_rfl) (by kernel_rfl) (by kernel_rfl) (fun _ _ _ h => h) (by rfl) ?_ (by assumption) ?_; rotate_left; (intro w hSw; (try dsimp only at hSw); (first | (go_simp; done) | (go_simp; with_reducible rfl))); (try simp only [Act.put, List.setIfInBounds_toArray, List.set_cons_zero, List.set_cons_succ]))
    (refine held_take (i := 7) (v := ?_) rfl (by kernel_rfl) (by kernel_rfl) (by kernel_rfl) (fun _ _ _ h => h) (by rfl) ?_ (by assumption) ?_; rotate_left; (intro w hSw; (try dsimp only at hSw); (first | (go_simp; done) | (go_simp; with_reducible rfl))); (try simp only [Act.put, List.setIfInBounds_toArray, List.set_cons_zero, List.set_cons_succ]))
    (refine held_take (i := 8) (v := ?_) rfl (by kernel_rfl) (by kernel_rfl) (by kernel_rfl) (fun _ _ _ h => h) (by rfl) ?_ (by assumption) ?_; rotate_left; (intro w hSw; (try dsimp only at hSw); (first | (go_simp; done) | (go_simp; with_reducible rfl))); (try simp only [Act.put, List.setIfInBounds_toArray, List.set_cons_zero, List.set_cons_succ]))
    (refine held_take (i := 9) (v := ?_) rfl (by kernel_rfl) (by kernel_rfl) (by kernel_rfl) (fun _ _ _ h => h) (by rfl) ?_ (by assumption) ?_; rotate_left; (intro w hSw; (try dsimp only at hSw); (first | (go_simp; done) | (go_simp; with_reducible rfl))); (try simp only [Act.put, List.setIfInBounds_toArray, List.set_cons_zero, List.set_cons_succ]))
    (refine held_take (i := 10) (v := ?_) rfl (by kernel_rfl) (by kernel_rfl) (by kernel_rfl) (fun _ _ _ h => h) (by rfl) ?_ (by assumption) ?_; rotate_left; (intro w hSw; (try dsimp only at hSw); (first | (go_simp; done) | (go_simp; with_reducible rfl))); (try simp only [Act.put, List.setIfInBounds_toArray, List.set_cons_zero, List.set_cons_succ]))
    refine wpAnyH_ready (rs := [11]) (by kernel_rfl) (by simp) (held_cons rfl (fun K hK => ?_) AllReadyH.nil)
    rw [if_pos (by rfl)]
    refine wp_store_row 56 _ _ rfl (w.heap.size + 1 + 1) (rc S) rfl rfl 56 zz HR.out (by rw [rc_size]; exact inf_rz) (by rw [HZ.out, rc_size]) (all_rc S) ?_
    have hb' := setRow_heap W0 (w.heap.size + 1 + 1) zz (rc S) 56 _ HR.out
    have hc' := Chg.row (cs := rc S) HR.out
    have HX' := hide (HX.out.turn hc' (by simp; omega))
    have HB' := hide (HB.out.chg hc' (by simp; omega))
    have HE' := hide (HE.out.chg hc' (by simp))
    clear hc'
    generalize W0.setRow (w.heap.size + 1 + 1) (rc S) = w' at *
    (refine hK.out _ _ ?_ (fun hHeld => ?_))
    · exact ⟨rc_rng HB'.out, HE'.out.cell, PP.out _ HB'.out⟩
    (try simp only [Act.put, List.setIfInBounds_toArray, List.set_cons_zero, List.set_cons_succ])
    (refine held_take (i := 12) (v := ?_) rfl (by kernel_rfl) (by kernel_rfl) (by kernel_rfl) (fun _ _ _ h => h) (by rfl) ?_ (by assumption) ?_; rotate_left; (intro w hSw; (try dsimp only at hSw); (first | (go_simp; done) | (go_simp; with_reducible rfl))); (try simp only [Act.put, List.setIfInBounds_toArray, List.set_cons_zero, List.set_cons_succ]))
    refine wpAnyH_done (by kernel_rfl) ?_ _
    go_wp2_with fail
    refine bodyPost_ret (res_of Try.results39 _ _ rfl rfl hb') rfl ?_
    exact ⟨by rw [E.out, y0]; simp, HX'.out⟩
theorem rask_10o {S : St} (ok : Ok S) {t o : Nat} (a r : Int) (ht : t < S.N) (ho : o < S.M) (h0 : (r != 0) = true) (h11 : (r == 11) = false) (w : World) :
    Calls Try.prog 39 #[.agg (rc S), (Value.agg #[Value.int .i64 10, .int .i64 (t : Int), .int .i64 (o : Int), .int .i64 a, .int .i64 r])] w fun e w' => e = .returned (.tuple #[.agg (rc S), .bool false]) ∧ Ext w w' := by
  have n1 := ok.n1
  have m1 := ok.m1
  have ho8 : o < 8 := by omega
  have ht8 : t < 8 := by omega
  have i8 : (o : Int) < 8 := by omega
  have j8 : (t : Int) < 8 := by omega
  obtain ⟨zz, hz1, hz2, hz3, hz4, -⟩ : ∃ zz : Array Value, (∀ w, (zeroValue 56).run Try.prog w = .ok (.agg zz) w) ∧ ¬ zz = #[] ∧ ¬ zz.size < 2 ∧ zz.size = 227 ∧ zz = zr := ⟨_, fun w => by kernel_rfl, by decide +kernel, by decide +kernel, by decide +kernel, rfl⟩
  have HZ := hide hz4
  clear hz4
  go_enter Try.func39, Try.ntmps39
  go_upto_region 1 with fail
  have HB := hide (((Blk.new w (rc S) 56).ext (Ext.alloc _ (.cells #[Value.int .i64 10, .int .i64 (t : Int), .int .i64 (o : Int), .int .i64 a, .int .i64 r] 42))).ext (Ext.alloc _ (.cells zz 56)))
  have HE := Blk.new (w.alloc (.cells (rc S) 56)) #[Value.int .i64 10, .int .i64 (t : Int), .int .i64 (o : Int), .int .i64 a, .int .i64 r] 42
  rw [World.size_alloc] at HE
  have HE := hide (HE.ext (Ext.alloc _ (.cells zz 56)))
  have HR := Blk.new ((w.alloc (.cells (rc S) 56)).alloc (.cells #[Value.int .i64 10, .int .i64 (t : Int), .int .i64 (o : Int), .int .i64 a, .int .i64 r] 42)) zz 56
  rw [World.size_alloc, World.size_alloc] at HR
  have HR := hide HR
  have HX := hide (((Ext.alloc w (.cells (rc S) 56)).trans (Ext.alloc _ (.cells #[Value.int .i64 10, .int .i64 (t : Int), .int .i64 (o : Int), .int .i64 a, .int .i64 r] 42))).trans (Ext.alloc _ (.cells zz 56)))
  generalize (((w.alloc (.cells (rc S) 56)).alloc (.cells #[Value.int .i64 10, .int .i64 (t : Int), .int .i64 (o : Int), .int .i64 a, .int .i64 r] 42)).alloc (.cells zz 56)) = W0 at *
  clear hz1 hz2 hz3
  have re := HE.out.cell
  go_wp2_with first | (with_reducible refine wpList_get rfl _ rfl w.heap.size _ rfl HB.out ?_; go_frame) | (with_reducible refine wpList_put rfl _ _ rfl (w.heap.size + 1 + 1) S rfl rfl zz HR.out HZ.out ?_; intro w' hb' hc' hs'; have HX' := hide (HX.out.turn hc' (by simp; omega)); clear hc' hs'; go_frame) | go_in
  refine bodyPost_ret (res_of Try.results39 _ _ rfl rfl hb') rfl ?_
  exact ⟨by rfl, HX'.out⟩
theorem rask_11o {S : St} (ok : Ok S) {t o : Nat} (a r : Int) (ht : t < S.N) (ho : o < S.M) (h0 : (r != 0) = true) (w : World) :
    Calls Try.prog 39 #[.agg (rc S), (Value.agg #[Value.int .i64 11, .int .i64 (t : Int), .int .i64 (o : Int), .int .i64 a, .int .i64 r])] w fun e w' => e = .returned (.tuple #[.agg (rc S), .bool false]) ∧ Ext w w' := by
  have n1 := ok.n1
  have m1 := ok.m1
  have ho8 : o < 8 := by omega
  have ht8 : t < 8 := by omega
  have i8 : (o : Int) < 8 := by omega
  have j8 : (t : Int) < 8 := by omega
  obtain ⟨zz, hz1, hz2, hz3, hz4, -⟩ : ∃ zz : Array Value, (∀ w, (zeroValue 56).run Try.prog w = .ok (.agg zz) w) ∧ ¬ zz = #[] ∧ ¬ zz.size < 2 ∧ zz.size = 227 ∧ zz = zr := ⟨_, fun w => by kernel_rfl, by decide +kernel, by decide +kernel, by decide +kernel, rfl⟩
  have HZ := hide hz4
  clear hz4
  go_enter Try.func39, Try.ntmps39
  go_upto_region 1 with fail
  have HB := hide (((Blk.new w (rc S) 56).ext (Ext.alloc _ (.cells #[Value.int .i64 11, .int .i64 (t : Int), .int .i64 (o : Int), .int .i64 a, .int .i64 r] 42))).ext (Ext.alloc _ (.cells zz 56)))
  have HE := Blk.new (w.alloc (.cells (rc S) 56)) #[Value.int .i64 11, .int .i64 (t : Int), .int .i64 (o : Int), .int .i64 a, .int .i64 r] 42
  rw [World.size_alloc] at HE
  have HE := hide (HE.ext (Ext.alloc _ (.cells zz 56)))
  have HR := Blk.new ((w.alloc (.cells (rc S) 56)).alloc (.cells #[Value.int .i64 11, .int .i64 (t : Int), .int .i64 (o : Int), .int .i64 a, .int .i64 r] 42)) zz 56
  rw [World.size_alloc, World.size_alloc] at HR
  have HR := hide HR
  have HX := hide (((Ext.alloc w (.cells (rc S) 56)).trans (Ext.alloc _ (.cells #[Value.int .i64 11, .int .i64 (t : Int), .int .i64 (o : Int), .int .i64 a, .int .i64 r] 42))).trans (Ext.alloc _ (.cells zz 56)))
  generalize (((w.alloc (.cells (rc S) 56)).alloc (.cells #[Value.int .i64 11, .int .i64 (t : Int), .int .i64 (o : Int), .int .i64 a, .int .i64 r] 42)).alloc (.cells zz 56)) = W0 at *
  clear hz1 hz2 hz3
  have re := HE.out.cell
  go_wp2_with first | (with_reducible refine wpList_get rfl _ rfl w.heap.size _ rfl HB.out ?_; go_frame) | (with_reducible refine wpList_put rfl _ _ rfl (w.heap.size + 1 + 1) S rfl rfl zz HR.out HZ.out ?_; intro w' hb' hc' hs'; have HX' := hide (HX.out.turn hc' (by simp; omega)); clear hc' hs'; go_frame) | go_in
  refine bodyPost_ret (res_of Try.results39 _ _ rfl rfl hb') rfl ?_
  exact ⟨by rfl, HX'.out⟩
theorem rask_12o {S : St} (ok : Ok S) {t o : Nat} (a r : Int) (ht : t < S.N) (ho : o < S.M) (h0 : (r != 0) = true) (w : World) :
    Calls Try.prog 39 #[.agg (rc S), (Value.agg #[Value.int .i64 12, .int .i64 (t : Int), .int .i64 (o : Int), .int .i64 a, .int .i64 r])] w fun e w' => e = .returned (.tuple #[.agg (rc S), .bool false]) ∧ Ext w w' := by
  have n1 := ok.n1
  have m1 := ok.m1
  have ho8 : o < 8 := by omega
  have ht8 : t < 8 := by omega
  have i8 : (o : Int) < 8 := by omega
  have j8 : (t : Int) < 8 := by omega
  obtain ⟨zz, hz1, hz2, hz3, hz4, -⟩ : ∃ zz : Array Value, (∀ w, (zeroValue 56).run Try.prog w = .ok (.agg zz) w) ∧ ¬ zz = #[] ∧ ¬ zz.size < 2 ∧ zz.size = 227 ∧ zz = zr := ⟨_, fun w => by kernel_rfl, by decide +kernel, by decide +kernel, by decide +kernel, rfl⟩
  have HZ := hide hz4
  clear hz4
  go_enter Try.func39, Try.ntmps39
  go_upto_region 1 with fail
  have HB := hide (((Blk.new w (rc S) 56).ext (Ext.alloc _ (.cells #[Value.int .i64 12, .int .i64 (t : Int), .int .i64 (o : Int), .int .i64 a, .int .i64 r] 42))).ext (Ext.alloc _ (.cells zz 56)))
  have HE := Blk.new (w.alloc (.cells (rc S) 56)) #[Value.int .i64 12, .int .i64 (t : Int), .int .i64 (o : Int), .int .i64 a, .int .i64 r] 42
  rw [World.size_alloc] at HE
  have HE := hide (HE.ext (Ext.alloc _ (.cells zz 56)))
  have HR := Blk.new ((w.alloc (.cells (rc S) 56)).alloc (.cells #[Value.int .i64 12, .int .i64 (t : Int), .int .i64 (o : Int), .int .i64 a, .int .i64 r] 42)) zz 56
  rw [World.size_alloc, World.size_alloc] at HR
  have HR := hide HR
  have HX := hide (((Ext.alloc w (.cells (rc S) 56)).trans (Ext.alloc _ (.cells #[Value.int .i64 12, .int .i64 (t : Int), .int .i64 (o : Int), .int .i64 a, .int .i64 r] 42))).trans (Ext.alloc _ (.cells zz 56)))
  generalize (((w.alloc (.cells (rc S) 56)).alloc (.cells #[Value.int .i64 12, .int .i64 (t : Int), .int .i64 (o : Int), .int .i64 a, .int .i64 r] 42)).alloc (.cells zz 56)) = W0 at *
  clear hz1 hz2 hz3
  have re := HE.out.cell
  go_wp2_with first | (with_reducible refine wpList_get rfl _ rfl w.heap.size _ rfl HB.out ?_; go_frame) | (with_reducible refine wpList_put rfl _ _ rfl (w.heap.size + 1 + 1) S rfl rfl zz HR.out HZ.out ?_; intro w' hb' hc' hs'; have HX' := hide (HX.out.turn hc' (by simp; omega)); clear hc' hs'; go_frame) | go_in
  refine bodyPost_ret (res_of Try.results39 _ _ rfl rfl hb') rfl ?_
  exact ⟨by rfl, HX'.out⟩
theorem rask_100n {S : St} (ok : Ok S) {t o : Nat} (a : Int) (ht : t < S.N) (ho : o < S.M) (Z : (S.hsh o == 0 && (decide (1 ≤ a) && decide (a ≤ 2147483647))) = false) {b : Bool} (E : Hid (b = (S.hsh o != 0 && S.hsh o == a))) (w : World) :
    Calls Try.prog 39 #[.agg (rc S), (Value.agg #[Value.int .i64 10, .int .i64 (t : Int), .int .i64 (o : Int), .int .i64 a, .int .i64 0])] w fun e w' => e = .returned (.tuple #[.agg (rc S), .bool b]) ∧ Ext w w' := by
  have Z := hide Z
  have CP := hide (show (rc S)[19 + o]? = some (.int .i64 (S.hsh o)) from rc_hsh (by have := ok.m1; omega))
  generalize S.hsh o = hh at *
  have n1 := ok.n1
  have m1 := ok.m1
  have ho8 : o < 8 := by omega
  have ht8 : t < 8 := by omega
  have i8 : (o : Int) < 8 := by omega
  have j8 : (t : Int) < 8 := by omega
  obtain ⟨zz, hz1, hz2, hz3, hz4, -⟩ : ∃ zz : Array Value, (∀ w, (zeroValue 56).run Try.prog w = .ok (.agg zz) w) ∧ ¬ zz = #[] ∧ ¬ zz.size < 2 ∧ zz.size = 227 ∧ zz = zr := ⟨_, fun w => by kernel_rfl, by decide +kernel, by decide +kernel, by decide +kernel, rfl⟩
  have HZ := hide hz4
  clear hz4
  go_enter Try.func39, Try.ntmps39
  go_upto_region 1 with fail
  have HB := hide (((Blk.new w (rc S) 56).ext (Ext.alloc _ (.cells #[Value.int .i64 10, .int .i64 (t : Int), .int .i64 (o : Int), .int .i64 a, .int .i64 0] 42))).ext (Ext.alloc _ (.cells zz 56)))
  have HE := Blk.new (w.alloc (.cells (rc S) 56)) #[Value.int .i64 10, .int .i64 (t : Int), .int .i64 (o : Int), .int .i64 a, .int .i64 0] 42
  rw [World.size_alloc] at HE
  have HE := hide (HE.ext (Ext.alloc _ (.cells zz 56)))
  have HR := Blk.new ((w.alloc (.cells (rc S) 56)).alloc (.cells #[Value.int .i64 10, .int .i64 (t : Int), .int .i64 (o : Int), .int .i64 a, .int .i64 0] 42)) zz 56
  rw [World.size_alloc, World.size_alloc] at HR
  have HR := hide HR
  have HX := hide (((Ext.alloc w (.cells (rc S) 56)).trans (Ext.alloc _ (.cells #[Value.int .i64 10, .int .i64 (t : Int), .int .i64 (o : Int), .int .i64 a, .int .i64 0] 42))).trans (Ext.alloc _ (.cells zz 56)))
  generalize (((w.alloc (.cells (rc S) 56)).alloc (.cells #[Value.int .i64 10, .int .i64 (t : Int), .int .i64 (o : Int), .int .i64 a, .int .i64 0] 42)).alloc (.cells zz 56)) = W0 at *
  clear hz1 hz2 hz3
  have re := HE.out.cell
  have r1 : W0.cell? ⟨w.heap.size, 19 + o, none⟩ = some (.int .i64 hh) := by rw [HB.out.cell]; exact CP.out
  cases y0 : (hh == 0)
  · have y1 : (hh != 0) = true := by rw [bne, y0]; rfl
    go_wp2_with fail
    clear re r1
    have HB := hide (HB.out.ext (Ext.drew W0))
    have HE := hide (HE.out.ext (Ext.drew W0))
    have HR := hide (HR.out.ext (Ext.drew W0))
    have HX := hide (HX.out.trans (Ext.drew W0))
    have PP : Hid (∀ w', Blk w' w.heap.size (rc S) 56 → w'.cell? ⟨w.heap.size, 19 + o, none⟩ = some (.int .i64 hh)) := hide fun w' h => by rw [h.cell]; exact CP.out
    refine wp_region_held_drew (S := fun w' => w'.rangeAt w.heap.size 0 (rc S).toList ∧ ((∀ i, w'.cell? ⟨w.heap.size + 1, i, none⟩ = #[Value.int .i64 10, .int .i64 (t : Int), .int .i64 (o : Int), .int .i64 a, .int .i64 0][i]?) ∧ w'.cell? ⟨w.heap.size, 19 + o, none⟩ = some (.int .i64 hh))) (by kernel_rfl) (by exact ⟨rc_rng HB.out, HE.out.cell, PP.out _ HB.out⟩) (fun hHeld => ?_)
    generalize W0.drew = W0 at *
    refine wpAnyH_take (i := 0) (at_drop rfl) (by kernel_rfl) (by kernel_rfl) (by kernel_rfl) (fun _ _ _ h => h) (yieldsIf_load_mid (by rfl) 56 _ rfl w.heap.size 0 rfl (rc S).toList _ (fun w h => h.1) Try.underlying56 rfl (inf_rm S)) (by assumption) ?_
    rw [Array.toArray_toList]
    (try simp only [Act.put, List.setIfInBounds_toArray, List.set_cons_zero, List.set_cons_succ])
    (refine held_take (i := 1) (v := ?_) rfl (by kernel_rfl) (by kernel_rfl) (by kernel_rfl) (fun _ _ _ h => h) (by rfl) ?_ (by assumption) ?_; rotate_left; (intro w hSw; (try dsimp only at hSw); (first | (go_simp; done) | (go_simp; with_reducible rfl))); (try simp only [Act.put, List.setIfInBounds_toArray, List.set_cons_zero, List.set_cons_succ]))
    (refine held_take (i := 2) (v := ?_) rfl (by kernel_rfl) (by kernel_rfl) (by kernel_rfl) (fun _ _ _ h => h) (by rfl) ?_ (by assumption) ?_; rotate_left; (intro w hSw; (try dsimp only at hSw); (first | (go_simp; done) | (go_simp; with_reducible rfl))); (try simp only [Act.put, List.setIfInBounds_toArray, List.set_cons_zero, List.set_cons_succ]))
    (refine held_take (i := 3) (v := ?_) rfl (by kernel_rfl) (by kernel_rfl) (by kernel_rfl) (fun _ _ _ h => h) (by rfl) ?_ (by assumption) ?_; rotate_left; (intro w hSw; (try dsimp only at hSw); (first | (go_simp; done) | (go_simp; with_reducible rfl))); (try simp only [Act.put, List.setIfInBounds_toArray, List.set_cons_zero, List.set_cons_succ]))
    (refine held_take (i := 4) (v := ?_) rfl (by kernel_rfl) (by kernel_rfl) (by kernel_rfl) (fun _ _ _ h => h) (by rfl) ?_ (by assumption) ?_; rotate_left; (intro w hSw; (try dsimp only at hSw); (first | (go_simp; done) | (go_simp; with_reducible rfl))); (try simp only [Act.put, List.setIfInBounds_toArray, List.set_cons_zero, List.set_cons_succ]))
    (refine held_take (i := 5) (v := ?_) rfl (by kernel_rfl) (by kernel_rfl) (by kernel_rfl) (fun _ _ _ h => h) (by rfl) ?_ (by assumption) ?_; rotate_left; (intro w hSw; (try dsimp only at hSw); (first | (go_simp; done) | (go_simp; with_reducible rfl))); (try simp only [Act.put, List.setIfInBounds_toArray, List.set_cons_zero, List.set_cons_succ]))
    (refine held_take (i := 6) (v := ?_) rfl (by kernel_rfl) (by kernel_rfl) (by kernel_rfl) (fun _ _ _ h => h) (by rfl) ?_ (by assumption) ?_; rotate_left; (intro w hSw; (try dsimp only at hSw); (first | (go_simp; done) | (go_simp; with_reducible rfl))); (try simp only [Act.put, List.setIfInBounds_toArray, List.set_cons_zero, List.set_cons_succ]))
    (refine held_take (i := 7) (v := ?_) rfl (by kernel_rfl) (by kernel_rfl) (by kernel_rfl) (fun _ _ _ h => h) (by rfl) ?_ (by assumption) ?_; rotate_left; (intro w hSw; (try dsimp only at hSw); (first | (go_simp; done) | (go_simp; with_reducible rfl))); (try simp only [Act.put, List.setIfInBounds_toArray, List.set_cons_zero, List.set_cons_succ]))
    (refine held_take (i := 8) (v := ?_) rfl (by kernel_rfl) (by kernel_rfl) (by kernel_rfl) (fun _ _ _ h => h) (by rfl) ?_ (by assumption) ?_; rotate_left; (intro w hSw; (try dsimp only at hSw); (first | (go_simp; done) | (go_simp; with_reducible rfl))); (try simp only [Act.put, List.setIfInBounds_toArray, List.set_cons_zero, List.set_cons_succ]))
    (refine held_take (i := 9) (v := ?_) rfl (by kernel_rfl) (by kernel_rfl) (by kernel_rfl) (fun _ _ _ h => h) (by rfl) ?_ (by assumption) ?_; rotate_left; (intro w hSw; (try dsimp only at hSw); (first | (go_simp; done) | (go_simp; with_reducible rfl))); (try simp only [Act.put, List.setIfInBounds_toArray, List.set_cons_zero, List.set_cons_succ]))
    (refine held_take (i := 10) (v := ?_) rfl (by kernel_rfl) (by kernel_rfl) (by kernel_rfl) (fun _ _ _ h => h) (by rfl) ?_ (by assumption) ?_; rotate_left; (intro w hSw; (try dsimp only at hSw); (first | (go_simp; done) | (go_simp; with_reducible rfl))); (try simp only [Act.put, List.setIfInBounds_toArray, List.set_cons_zero, List.set_cons_succ]))
    (refine held_take (i := 11) (v := ?_) rfl (by kernel_rfl) (by kernel_rfl) (by kernel_rfl) (fun _ _ _ h => h) (by rfl) ?_ (by assumption) ?_; rotate_left; (intro w hSw; (try dsimp only at hSw); (first | (go_simp; done) | (go_simp; with_reducible rfl))); (try simp only [Act.put, List.setIfInBounds_toArray, List.set_cons_zero, List.set_cons_succ]))
    (refine held_take (i := 12) (v := ?_) rfl (by kernel_rfl) (by kernel_rfl) (by kernel_rfl) (fun _ _ _ h => h) (by rfl) ?_ (by assumption) ?_; rotate_left; (intro w hSw; (try dsimp only at hSw); (first | (go_simp; done) | (go_simp; with_reducible rfl))); (try simp only [Act.put, List.setIfInBounds_toArray, List.set_cons_zero, List.set_cons_succ]))
    (refine held_take (i := 13) (v := ?_) rfl (by kernel_rfl) (by kernel_rfl) (by kernel_rfl) (fun _ _ _ h => h) (by rfl) ?_ (by assumption) ?_; rotate_left; (intro w hSw; (try dsimp only at hSw); (first | (go_simp; done) | (go_simp; with_reducible rfl))); (try simp only [Act.put, List.setIfInBounds_toArray, List.set_cons_zero, List.set_cons_succ]))
    (refine held_take (i := 14) (v := ?_) rfl (by kernel_rfl) (by kernel_rfl) (by kernel_rfl) (fun _ _ _ h => h) (by rfl) ?_ (by assumption) ?_; rotate_left; (intro w hSw; (try dsimp only at hSw); (first | (go_simp; done) | (go_simp; with_reducible rfl))); (try simp only [Act.put, List.setIfInBounds_toArray, List.set_cons_zero, List.set_cons_succ]))
    refine wpAnyH_ready (rs := [15]) (by kernel_rfl) (by simp) (held_cons rfl (fun K hK => ?_) AllReadyH.nil)
    rw [if_pos (by rfl)]
    refine wp_store_row 56 _ _ rfl (w.heap.size + 1 + 1) (rc S) rfl rfl 56 zz HR.out (by rw [rc_size]; exact inf_rz) (by rw [HZ.out, rc_size]) (all_rc S) ?_
    have hb' := setRow_heap W0 (w.heap.size + 1 + 1) zz (rc S) 56 _ HR.out
    have hc' := Chg.row (cs := rc S) HR.out
    have HX' := hide (HX.out.turn hc' (by simp; omega))
    have HB' := hide (HB.out.chg hc' (by simp; omega))
    have HE' := hide (HE.out.chg hc' (by simp))
    clear hc'
    generalize W0.setRow (w.heap.size + 1 + 1) (rc S) = w' at *
    (refine hK.out _ _ ?_ (fun hHeld => ?_))
    · exact ⟨rc_rng HB'.out, HE'.out.cell, PP.out _ HB'.out⟩
    (try simp only [Act.put, List.setIfInBounds_toArray, List.set_cons_zero, List.set_cons_succ])
    (refine held_take (i := 16) (v := ?_) rfl (by kernel_rfl) (by kernel_rfl) (by kernel_rfl) (fun _ _ _ h => h) (by rfl) ?_ (by assumption) ?_; rotate_left; (intro w hSw; (try dsimp only at hSw); (first | (go_simp; done) | (go_simp; with_reducible rfl))); (try simp only [Act.put, List.setIfInBounds_toArray, List.set_cons_zero, List.set_cons_succ]))
    refine wpAnyH_done (by kernel_rfl) ?_ _
    go_wp2_with fail
    refine bodyPost_ret (res_of Try.results39 _ _ rfl rfl hb') rfl ?_
    exact ⟨by rw [E.out, y1]; simp, HX'.out⟩
  · have y1 : (hh != 0) = false := by rw [bne, y0]; rfl
    cases z1 : decide (1 ≤ a)
    · go_wp2_with fail
      clear re r1
      have HB := hide (HB.out.ext (Ext.drew W0))
      have HE := hide (HE.out.ext (Ext.drew W0))
      have HR := hide (HR.out.ext (Ext.drew W0))
      have HX := hide (HX.out.trans (Ext.drew W0))
      have PP : Hid (∀ w', Blk w' w.heap.size (rc S) 56 → w'.cell? ⟨w.heap.size, 19 + o, none⟩ = some (.int .i64 hh)) := hide fun w' h => by rw [h.cell]; exact CP.out
      refine wp_region_held_drew (S := fun w' => w'.rangeAt w.heap.size 0 (rc S).toList ∧ ((∀ i, w'.cell? ⟨w.heap.size + 1, i, none⟩ = #[Value.int .i64 10, .int .i64 (t : Int), .int .i64 (o : Int), .int .i64 a, .int .i64 0][i]?) ∧ w'.cell? ⟨w.heap.size, 19 + o, none⟩ = some (.int .i64 hh))) (by kernel_rfl) (by exact ⟨rc_rng HB.out, HE.out.cell, PP.out _ HB.out⟩) (fun hHeld => ?_)
      generalize W0.drew = W0 at *
      refine wpAnyH_take (i := 0) (at_drop rfl) (by kernel_rfl) (by kernel_rfl) (by kernel_rfl) (fun _ _ _ h => h) (yieldsIf_load_mid (by rfl) 56 _ rfl w.heap.size 0 rfl (rc S).toList _ (fun w h => h.1) Try.underlying56 rfl (inf_rm S)) (by assumption) ?_
      rw [Array.toArray_toList]
      (try simp only [Act.put, List.setIfInBounds_toArray, List.set_cons_zero, List.set_cons_succ])
      (refine held_take (i := 1) (v := ?_) rfl (by kernel_rfl) (by kernel_rfl) (by kernel_rfl) (fun _ _ _ h => h) (by rfl) ?_ (by assumption) ?_; rotate_left; (intro w hSw; (try dsimp only at hSw); (first | (go_simp; done) | (go_simp; with_reducible rfl))); (try simp only [Act.put, List.setIfInBounds_toArray, List.set_cons_zero, List.set_cons_succ]))
      (refine held_take (i := 2) (v := ?_) rfl (by kernel_rfl) (by kernel_rfl) (by kernel_rfl) (fun _ _ _ h => h) (by rfl) ?_ (by assumption) ?_; rotate_left; (intro w hSw; (try dsimp only at hSw); (first | (go_simp; done) | (go_simp; with_reducible rfl))); (try simp only [Act.put, List.setIfInBounds_toArray, List.set_cons_zero, List.set_cons_succ]))
      (refine held_take (i := 3) (v := ?_) rfl (by kernel_rfl) (by kernel_rfl) (by kernel_rfl) (fun _ _ _ h => h) (by rfl) ?_ (by assumption) ?_; rotate_left; (intro w hSw; (try dsimp only at hSw); (first | (go_simp; done) | (go_simp; with_reducible rfl))); (try simp only [Act.put, List.setIfInBounds_toArray, List.set_cons_zero, List.set_cons_succ]))
      (refine held_take (i := 4) (v := ?_) rfl (by kernel_rfl) (by kernel_rfl) (by kernel_rfl) (fun _ _ _ h => h) (by rfl) ?_ (by assumption) ?_; rotate_left; (intro w hSw; (try dsimp only at hSw); (first | (go_simp; done) | (go_simp; with_reducible rfl))); (try simp only [Act.put, List.setIfInBounds_toArray, List.set_cons_zero, List.set_cons_succ]))
      (refine held_take (i := 5) (v := ?_) rfl (by kernel_rfl) (by kernel_rfl) (by kernel_rfl) (fun _ _ _ h => h) (by rfl) ?_ (by assumption) ?_; rotate_left; (intro w hSw; (try dsimp only at hSw); (first | (go_simp; done) | (go_simp; with_reducible rfl))); (try simp only [Act.put, List.setIfInBounds_toArray, List.set_cons_zero, List.set_cons_succ]))
      (refine held_take (i := 6) (v := ?_) rfl (by kernel_rfl) (by kernel_rfl) (by kernel_rfl) (fun _ _ _ h => h) (by rfl) ?_ (by assumption) ?_; rotate_left; (intro w hSw; (try dsimp only at hSw); (first | (go_simp; done) | (go_simp; with_reducible rfl))); (try simp only [Act.put, List.setIfInBounds_toArray, List.set_cons_zero, List.set_cons_succ]))
      (refine held_skip (i := 7) rfl (by kernel_rfl) (by kernel_rfl) (by kernel_rfl) (fun _ _ _ h => h) (by rfl) (by assumption) ?_; (try simp only [Act.put, List.setIfInBounds_toArray, List.set_cons_zero, List.set_cons_succ]))
      (refine held_skip (i := 8) rfl (by kernel_rfl) (by kernel_rfl) (by kernel_rfl) (fun _ _ _ h => h) (by rfl) (by assumption) ?_; (try simp only [Act.put, List.setIfInBounds_toArray, List.set_cons_zero, List.set_cons_succ]))
      (refine held_skip (i := 9) rfl (by kernel_rfl) (by kernel_rfl) (by kernel_rfl) (fun _ _ _ h => h) (by rfl) (by assumption) ?_; (try simp only [Act.put, List.setIfInBounds_toArray, List.set_cons_zero, List.set_cons_succ]))
      (refine held_skip (i := 10) rfl (by kernel_rfl) (by kernel_rfl) (by kernel_rfl) (fun _ _ _ h => h) (by rfl) (by assumption) ?_; (try simp only [Act.put, List.setIfInBounds_toArray, List.set_cons_zero, List.set_cons_succ]))
      (refine held_skip (i := 11) rfl (by kernel_rfl) (by kernel_rfl) (by kernel_rfl) (fun _ _ _ h => h) (by rfl) (by assumption) ?_; (try simp only [Act.put, List.setIfInBounds_toArray, List.set_cons_zero, List.set_cons_succ]))
      (refine held_skip (i := 12) rfl (by kernel_rfl) (by kernel_rfl) (by kernel_rfl) (fun _ _ _ h => h) (by rfl) (by assumption) ?_; (try simp only [Act.put, List.setIfInBounds_toArray, List.set_cons_zero, List.set_cons_succ]))
      (refine held_skip (i := 13) rfl (by kernel_rfl) (by kernel_rfl) (by kernel_rfl) (fun _ _ _ h => h) (by rfl) (by assumption) ?_; (try simp only [Act.put, List.setIfInBounds_toArray, List.set_cons_zero, List.set_cons_succ]))
      (refine held_take (i := 14) (v := ?_) rfl (by kernel_rfl) (by kernel_rfl) (by kernel_rfl) (fun _ _ _ h => h) (by rfl) ?_ (by assumption) ?_; rotate_left; (intro w hSw; (try dsimp only at hSw); (first | (go_simp; done) | (go_simp; with_reducible rfl))); (try simp only [Act.put, List.setIfInBounds_toArray, List.set_cons_zero, List.set_cons_succ]))
      refine wpAnyH_ready (rs := [15]) (by kernel_rfl) (by simp) (held_cons rfl (fun K hK => ?_) AllReadyH.nil)
      rw [if_pos (by rfl)]
      refine wp_store_row 56 _ _ rfl (w.heap.size + 1 + 1) (rc S) rfl rfl 56 zz HR.out (by rw [rc_size]; exact inf_rz) (by rw [HZ.out, rc_size]) (all_rc S) ?_
      have hb' := setRow_heap W0 (w.heap.size + 1 + 1) zz (rc S) 56 _ HR.out
      have hc' := Chg.row (cs := rc S) HR.out
      have HX' := hide (HX.out.turn hc' (by simp; omega))
      have HB' := hide (HB.out.chg hc' (by simp; omega))
      have HE' := hide (HE.out.chg hc' (by simp))
      clear hc'
      generalize W0.setRow (w.heap.size + 1 + 1) (rc S) = w' at *
      (refine hK.out _ _ ?_ (fun hHeld => ?_))
      · exact ⟨rc_rng HB'.out, HE'.out.cell, PP.out _ HB'.out⟩
      (try simp only [Act.put, List.setIfInBounds_toArray, List.set_cons_zero, List.set_cons_succ])
      (refine held_take (i := 16) (v := ?_) rfl (by kernel_rfl) (by kernel_rfl) (by kernel_rfl) (fun _ _ _ h => h) (by rfl) ?_ (by assumption) ?_; rotate_left; (intro w hSw; (try dsimp only at hSw); (first | (go_simp; done) | (go_simp; with_reducible rfl))); (try simp only [Act.put, List.setIfInBounds_toArray, List.set_cons_zero, List.set_cons_succ]))
      refine wpAnyH_done (by kernel_rfl) ?_ _
      go_wp2_with fail
      refine bodyPost_ret (res_of Try.results39 _ _ rfl rfl hb') rfl ?_
      exact ⟨by rw [E.out, y1]; simp, HX'.out⟩
    · have z2 : decide (a ≤ 2147483647) = false := by have := Z.out; rw [y0, z1] at this; simpa using this
      go_wp2_with fail
      clear re r1
      have HB := hide (HB.out.ext (Ext.drew W0))
      have HE := hide (HE.out.ext (Ext.drew W0))
      have HR := hide (HR.out.ext (Ext.drew W0))
      have HX := hide (HX.out.trans (Ext.drew W0))
      have PP : Hid (∀ w', Blk w' w.heap.size (rc S) 56 → w'.cell? ⟨w.heap.size, 19 + o, none⟩ = some (.int .i64 hh)) := hide fun w' h => by rw [h.cell]; exact CP.out
      refine wp_region_held_drew (S := fun w' => w'.rangeAt w.heap.size 0 (rc S).toList ∧ ((∀ i, w'.cell? ⟨w.heap.size + 1, i, none⟩ = #[Value.int .i64 10, .int .i64 (t : Int), .int .i64 (o : Int), .int .i64 a, .int .i64 0][i]?) ∧ w'.cell? ⟨w.heap.size, 19 + o, none⟩ = some (.int .i64 hh))) (by kernel_rfl) (by exact ⟨rc_rng HB.out, HE.out.cell, PP.out _ HB.out⟩) (fun hHeld => ?_)
      generalize W0.drew = W0 at *
      refine wpAnyH_take (i := 0) (at_drop rfl) (by kernel_rfl) (by kernel_rfl) (by kernel_rfl) (fun _ _ _ h => h) (yieldsIf_load_mid (by rfl) 56 _ rfl w.heap.size 0 rfl (rc S).toList _ (fun w h => h.1) Try.underlying56 rfl (inf_rm S)) (by assumption) ?_
      rw [Array.toArray_toList]
      (try simp only [Act.put, List.setIfInBounds_toArray, List.set_cons_zero, List.set_cons_succ])
      (refine held_take (i := 1) (v := ?_) rfl (by kernel_rfl) (by kernel_rfl) (by kernel_rfl) (fun _ _ _ h => h) (by rfl) ?_ (by assumption) ?_; rotate_left; (intro w hSw; (try dsimp only at hSw); (first | (go_simp; done) | (go_simp; with_reducible rfl))); (try simp only [Act.put, List.setIfInBounds_toArray, List.set_cons_zero, List.set_cons_succ]))
      (refine held_take (i := 2) (v := ?_) rfl (by kernel_rfl) (by kernel_rfl) (by kernel_rfl) (fun _ _ _ h => h) (by rfl) ?_ (by assumption) ?_; rotate_left; (intro w hSw; (try dsimp only at hSw); (first | (go_simp; done) | (go_simp; with_reducible rfl))); (try simp only [Act.put, List.setIfInBounds_toArray, List.set_cons_zero, List.set_cons_succ]))
      (refine held_take (i := 3) (v := ?_) rfl (by kernel_rfl) (by kernel_rfl) (by kernel_rfl) (fun _ _ _ h => h) (by rfl) ?_ (by assumption) ?_; rotate_left; (intro w hSw; (try dsimp only at hSw); (first | (go_simp; done) | (go_simp; with_reducible rfl))); (try simp only [Act.put, List.setIfInBounds_toArray, List.set_cons_zero, List.set_cons_succ]))
      (refine held_take (i := 4) (v := ?_) rfl (by kernel_rfl) (by kernel_rfl) (by kernel_rfl) (fun _ _ _ h => h) (by rfl) ?_ (by assumption) ?_; rotate_left; (intro w hSw; (try dsimp only at hSw); (first | (go_simp; done) | (go_simp; with_reducible rfl))); (try simp only [Act.put, List.setIfInBounds_toArray, List.set_cons_zero, List.set_cons_succ]))
      (refine held_take (i := 5) (v := ?_) rfl (by kernel_rfl) (by kernel_rfl) (by kernel_rfl) (fun _ _ _ h => h) (by rfl) ?_ (by assumption) ?_; rotate_left; (intro w hSw; (try dsimp only at hSw); (first | (go_simp; done) | (go_simp; with_reducible rfl))); (try simp only [Act.put, List.setIfInBounds_toArray, List.set_cons_zero, List.set_cons_succ]))
      (refine held_take (i := 6) (v := ?_) rfl (by kernel_rfl) (by kernel_rfl) (by kernel_rfl) (fun _ _ _ h => h) (by rfl) ?_ (by assumption) ?_; rotate_left; (intro w hSw; (try dsimp only at hSw); (first | (go_simp; done) | (go_simp; with_reducible rfl))); (try simp only [Act.put, List.setIfInBounds_toArray, List.set_cons_zero, List.set_cons_succ]))
      (refine held_skip (i := 7) rfl (by kernel_rfl) (by kernel_rfl) (by kernel_rfl) (fun _ _ _ h => h) (by rfl) (by assumption) ?_; (try simp only [Act.put, List.setIfInBounds_toArray, List.set_cons_zero, List.set_cons_succ]))
      (refine held_skip (i := 8) rfl (by kernel_rfl) (by kernel_rfl) (by kernel_rfl) (fun _ _ _ h => h) (by rfl) (by assumption) ?_; (try simp only [Act.put, List.setIfInBounds_toArray, List.set_cons_zero, List.set_cons_succ]))
      (refine held_skip (i := 9) rfl (by kernel_rfl) (by kernel_rfl) (by kernel_rfl) (fun _ _ _ h => h) (by rfl) (by assumption) ?_; (try simp only [Act.put, List.setIfInBounds_toArray, List.set_cons_zero, List.set_cons_succ]))
      (refine held_skip (i := 10) rfl (by kernel_rfl) (by kernel_rfl) (by kernel_rfl) (fun _ _ _ h => h) (by rfl) (by assumption) ?_; (try simp only [Act.put, List.setIfInBounds_toArray, List.set_cons_zero, List.set_cons_succ]))
      (refine held_skip (i := 11) rfl (by kernel_rfl) (by kernel_rfl) (by kernel_rfl) (fun _ _ _ h => h) (by rfl) (by assumption) ?_; (try simp only [Act.put, List.setIfInBounds_toArray, List.set_cons_zero, List.set_cons_succ]))
      (refine held_skip (i := 12) rfl (by kernel_rfl) (by kernel_rfl) (by kernel_rfl) (fun _ _ _ h => h) (by rfl) (by assumption) ?_; (try simp only [Act.put, List.setIfInBounds_toArray, List.set_cons_zero, List.set_cons_succ]))
      (refine held_skip (i := 13) rfl (by kernel_rfl) (by kernel_rfl) (by kernel_rfl) (fun _ _ _ h => h) (by rfl) (by assumption) ?_; (try simp only [Act.put, List.setIfInBounds_toArray, List.set_cons_zero, List.set_cons_succ]))
      (refine held_take (i := 14) (v := ?_) rfl (by kernel_rfl) (by kernel_rfl) (by kernel_rfl) (fun _ _ _ h => h) (by rfl) ?_ (by assumption) ?_; rotate_left; (intro w hSw; (try dsimp only at hSw); (first | (go_simp; done) | (go_simp; with_reducible rfl))); (try simp only [Act.put, List.setIfInBounds_toArray, List.set_cons_zero, List.set_cons_succ]))
      refine wpAnyH_ready (rs := [15]) (by kernel_rfl) (by simp) (held_cons rfl (fun K hK => ?_) AllReadyH.nil)
      rw [if_pos (by rfl)]
      refine wp_store_row 56 _ _ rfl (w.heap.size + 1 + 1) (rc S) rfl rfl 56 zz HR.out (by rw [rc_size]; exact inf_rz) (by rw [HZ.out, rc_size]) (all_rc S) ?_
      have hb' := setRow_heap W0 (w.heap.size + 1 + 1) zz (rc S) 56 _ HR.out
      have hc' := Chg.row (cs := rc S) HR.out
      have HX' := hide (HX.out.turn hc' (by simp; omega))
      have HB' := hide (HB.out.chg hc' (by simp; omega))
      have HE' := hide (HE.out.chg hc' (by simp))
      clear hc'
      generalize W0.setRow (w.heap.size + 1 + 1) (rc S) = w' at *
      (refine hK.out _ _ ?_ (fun hHeld => ?_))
      · exact ⟨rc_rng HB'.out, HE'.out.cell, PP.out _ HB'.out⟩
      (try simp only [Act.put, List.setIfInBounds_toArray, List.set_cons_zero, List.set_cons_succ])
      (refine held_take (i := 16) (v := ?_) rfl (by kernel_rfl) (by kernel_rfl) (by kernel_rfl) (fun _ _ _ h => h) (by rfl) ?_ (by assumption) ?_; rotate_left; (intro w hSw; (try dsimp only at hSw); (first | (go_simp; done) | (go_simp; with_reducible rfl))); (try simp only [Act.put, List.setIfInBounds_toArray, List.set_cons_zero, List.set_cons_succ]))
      refine wpAnyH_done (by kernel_rfl) ?_ _
      go_wp2_with fail
      refine bodyPost_ret (res_of Try.results39 _ _ rfl rfl hb') rfl ?_
      exact ⟨by rw [E.out, y1]; simp, HX'.out⟩
theorem rask_100y {S : St} (ok : Ok S) {t o : Nat} (a : Int) (ht : t < S.N) (ho : o < S.M) (y0 : (S.hsh o == 0) = true) (z1 : decide (1 ≤ a) = true) (z2 : decide (a ≤ 2147483647) = true) (w : World) :
    Calls Try.prog 39 #[.agg (rc S), (Value.agg #[Value.int .i64 10, .int .i64 (t : Int), .int .i64 (o : Int), .int .i64 a, .int .i64 0])] w fun e w' => e = .returned (.tuple #[.agg (rc (haS S o a)), .bool true]) ∧ Ext w w' := by
  have CS := hide (show (rc (haS S o a))[19 + o]? = some (.int .i64 a) by rw [rc_hsh (by have := ok.m1; omega)]; simp [haS, upd])
  have ZS := hide (show (rc S).setIfInBounds (19 + o) (.int .i64 a) = rc (haS S o a) from rset_hsh (by have := ok.m1; omega) a)
  generalize haS S o a = S' at *
  have y1 : (a != 0) = true := by simp at z1 ⊢; omega
  have CP := hide (show (rc S)[19 + o]? = some (.int .i64 (S.hsh o)) from rc_hsh (by have := ok.m1; omega))
  generalize S.hsh o = hh at *
  have n1 := ok.n1
  have m1 := ok.m1
  have ho8 : o < 8 := by omega
  have ht8 : t < 8 := by omega
  have i8 : (o : Int) < 8 := by omega
  have j8 : (t : Int) < 8 := by omega
  obtain ⟨zz, hz1, hz2, hz3, hz4, -⟩ : ∃ zz : Array Value, (∀ w, (zeroValue 56).run Try.prog w = .ok (.agg zz) w) ∧ ¬ zz = #[] ∧ ¬ zz.size < 2 ∧ zz.size = 227 ∧ zz = zr := ⟨_, fun w => by kernel_rfl, by decide +kernel, by decide +kernel, by decide +kernel, rfl⟩
  have HZ := hide hz4
  clear hz4
  go_enter Try.func39, Try.ntmps39
  go_upto_region 1 with fail
  have HB := hide (((Blk.new w (rc S) 56).ext (Ext.alloc _ (.cells #[Value.int .i64 10, .int .i64 (t : Int), .int .i64 (o : Int), .int .i64 a, .int .i64 0] 42))).ext (Ext.alloc _ (.cells zz 56)))
  have HE := Blk.new (w.alloc (.cells (rc S) 56)) #[Value.int .i64 10, .int .i64 (t : Int), .int .i64 (o : Int), .int .i64 a, .int .i64 0] 42
  rw [World.size_alloc] at HE
  have HE := hide (HE.ext (Ext.alloc _ (.cells zz 56)))
  have HR := Blk.new ((w.alloc (.cells (rc S) 56)).alloc (.cells #[Value.int .i64 10, .int .i64 (t : Int), .int .i64 (o : Int), .int .i64 a, .int .i64 0] 42)) zz 56
  rw [World.size_alloc, World.size_alloc] at HR
  have HR := hide HR
  have HX := hide (((Ext.alloc w (.cells (rc S) 56)).trans (Ext.alloc _ (.cells #[Value.int .i64 10, .int .i64 (t : Int), .int .i64 (o : Int), .int .i64 a, .int .i64 0] 42))).trans (Ext.alloc _ (.cells zz 56)))
  generalize (((w.alloc (.cells (rc S) 56)).alloc (.cells #[Value.int .i64 10, .int .i64 (t : Int), .int .i64 (o : Int), .int .i64 a, .int .i64 0] 42)).alloc (.cells zz 56)) = W0 at *
  clear hz1 hz2 hz3
  have re := HE.out.cell
  have r1 : W0.cell? ⟨w.heap.size, 19 + o, none⟩ = some (.int .i64 hh) := by rw [HB.out.cell]; exact CP.out
  have f1 := HB.out.free (19 + o)
  go_wp2_with fail
  clear re r1
  have b4 := HB.out.set (19 + o) (.int .i64 a)
  rw [ZS.out] at b4
  have c4 := (Chg.refl [w.heap.size] W0).set (p := ⟨w.heap.size, 19 + o, none⟩) (.inl (by simp)) (.int .i64 a)
  have HE := hide (HE.out.chg c4 (by simp))
  have HR := hide (HR.out.chg c4 (by simp; omega))
  have HX := hide (HX.out.turn c4 (by simp))
  have HB := hide b4
  have CP := CS
  clear b4 c4 f1
  generalize W0.setCell ⟨w.heap.size, 19 + o, none⟩ (.int .i64 a) = W0 at *
  have HB := hide (HB.out.ext (Ext.drew W0))
  have HE := hide (HE.out.ext (Ext.drew W0))
  have HR := hide (HR.out.ext (Ext.drew W0))
  have HX := hide (HX.out.trans (Ext.drew W0))
  have PP : Hid (∀ w', Blk w' w.heap.size (rc S') 56 → w'.cell? ⟨w.heap.size, 19 + o, none⟩ = some (.int .i64 a)) := hide fun w' h => by rw [h.cell]; exact CP.out
  refine wp_region_held_drew (S := fun w' => w'.rangeAt w.heap.size 0 (rc S').toList ∧ ((∀ i, w'.cell? ⟨w.heap.size + 1, i, none⟩ = #[Value.int .i64 10, .int .i64 (t : Int), .int .i64 (o : Int), .int .i64 a, .int .i64 0][i]?) ∧ w'.cell? ⟨w.heap.size, 19 + o, none⟩ = some (.int .i64 a))) (by kernel_rfl) (by exact ⟨rc_rng HB.out, HE.out.cell, PP.out _ HB.out⟩) (fun hHeld => ?_)
  generalize W0.drew = W0 at *
  refine wpAnyH_take (i := 0) (at_drop rfl) (by kernel_rfl) (by kernel_rfl) (by kernel_rfl) (fun _ _ _ h => h) (yieldsIf_load_mid (by rfl) 56 _ rfl w.heap.size 0 rfl (rc S').toList _ (fun w h => h.1) Try.underlying56 rfl (inf_rm S')) (by assumption) ?_
  rw [Array.toArray_toList]
  (try simp only [Act.put, List.setIfInBounds_toArray, List.set_cons_zero, List.set_cons_succ])
  (refine held_take (i := 1) (v := ?_) rfl (by kernel_rfl) (by kernel_rfl) (by kernel_rfl) (fun _ _ _ h => h) (by rfl) ?_ (by assumption) ?_; rotate_left; (intro w hSw; (try dsimp only at hSw); (first | (go_simp; done) | (go_simp; with_reducible rfl))); (try simp only [Act.put, List.setIfInBounds_toArray, List.set_cons_zero, List.set_cons_succ]))
  (refine held_take (i := 2) (v := ?_) rfl (by kernel_rfl) (by kernel_rfl) (by kernel_rfl) (fun _ _ _ h => h) (by rfl) ?_ (by assumption) ?_; rotate_left; (intro w hSw; (try dsimp only at hSw); (first | (go_simp; done) | (go_simp; with_reducible rfl))); (try simp only [Act.put, List.setIfInBounds_toArray, List.set_cons_zero, List.set_cons_succ]))
  (refine held_take (i := 3) (v := ?_) rfl (by kernel_rfl) (by kernel_rfl) (by kernel_rfl) (fun _ _ _ h => h) (by rfl) ?_ (by assumption) ?_; rotate_left; (intro w hSw; (try dsimp only at hSw); (first | (go_simp; done) | (go_simp; with_reducible rfl))); (try simp only [Act.put, List.setIfInBounds_toArray, List.set_cons_zero, List.set_cons_succ]))
  (refine held_take (i := 4) (v := ?_) rfl (by kernel_rfl) (by kernel_rfl) (by kernel_rfl) (fun _ _ _ h => h) (by rfl) ?_ (by assumption) ?_; rotate_left; (intro w hSw; (try dsimp only at hSw); (first | (go_simp; done) | (go_simp; with_reducible rfl))); (try simp only [Act.put, List.setIfInBounds_toArray, List.set_cons_zero, List.set_cons_succ]))
  (refine held_take (i := 5) (v := ?_) rfl (by kernel_rfl) (by kernel_rfl) (by kernel_rfl) (fun _ _ _ h => h) (by rfl) ?_ (by assumption) ?_; rotate_left; (intro w hSw; (try dsimp only at hSw); (first | (go_simp; done) | (go_simp; with_reducible rfl))); (try simp only [Act.put, List.setIfInBounds_toArray, List.set_cons_zero, List.set_cons_succ]))
  (refine held_take (i := 6) (v := ?_) rfl (by kernel_rfl) (by kernel_rfl) (by kernel_rfl) (fun _ _ _ h => h) (by rfl) ?_ (by assumption) ?_; rotate_left; (intro w hSw; (try dsimp only at hSw); (first | (go_simp; done) | (go_simp; with_reducible rfl))); (try simp only [Act.put, List.setIfInBounds_toArray, List.set_cons_zero, List.set_cons_succ]))
  (refine held_take (i := 7) (v := ?_) rfl (by kernel_rfl) (by kernel_rfl) (by kernel_rfl) (fun _ _ _ h => h) (by rfl) ?_ (by assumption) ?_; rotate_left; (intro w hSw; (try dsimp only at hSw); (first | (go_simp; done) | (go_simp; with_reducible rfl))); (try simp only [Act.put, List.setIfInBounds_toArray, List.set_cons_zero, List.set_cons_succ]))
  (refine held_take (i := 8) (v := ?_) rfl (by kernel_rfl) (by kernel_rfl) (by kernel_rfl) (fun _ _ _ h => h) (by rfl) ?_ (by assumption) ?_; rotate_left; (intro w hSw; (try dsimp only at hSw); (first | (go_simp; done) | (go_simp; with_reducible rfl))); (try simp only [Act.put, List.setIfInBounds_toArray, List.set_cons_zero, List.set_cons_succ]))
  (refine held_take (i := 9) (v := ?_) rfl (by kernel_rfl) (by kernel_rfl) (by kernel_rfl) (fun _ _ _ h => h) (by rfl) ?_ (by assumption) ?_; rotate_left; (intro w hSw; (try dsimp only at hSw); (first | (go_simp; done) | (go_simp; with_reducible rfl))); (try simp only [Act.put, List.setIfInBounds_toArray, List.set_cons_zero, List.set_cons_succ]))
  (refine held_take (i := 10) (v := ?_) rfl (by kernel_rfl) (by kernel_rfl) (by kernel_rfl) (fun _ _ _ h => h) (by rfl) ?_ (by assumption) ?_; rotate_left; (intro w hSw; (try dsimp only at hSw); (first | (go_simp; done) | (go_simp; with_reducible rfl))); (try simp only [Act.put, List.setIfInBounds_toArray, List.set_cons_zero, List.set_cons_succ]))
  (refine held_take (i := 11) (v := ?_) rfl (by kernel_rfl) (by kernel_rfl) (by kernel_rfl) (fun _ _ _ h => h) (by rfl) ?_ (by assumption) ?_; rotate_left; (intro w hSw; (try dsimp only at hSw); (first | (go_simp; done) | (go_simp; with_reducible rfl))); (try simp only [Act.put, List.setIfInBounds_toArray, List.set_cons_zero, List.set_cons_succ]))
  (refine held_take (i := 12) (v := ?_) rfl (by kernel_rfl) (by kernel_rfl) (by kernel_rfl) (fun _ _ _ h => h) (by rfl) ?_ (by assumption) ?_; rotate_left; (intro w hSw; (try dsimp only at hSw); (first | (go_simp; done) | (go_simp; with_reducible rfl))); (try simp only [Act.put, List.setIfInBounds_toArray, List.set_cons_zero, List.set_cons_succ]))
  (refine held_take (i := 13) (v := ?_) rfl (by kernel_rfl) (by kernel_rfl) (by kernel_rfl) (fun _ _ _ h => h) (by rfl) ?_ (by assumption) ?_; rotate_left; (intro w hSw; (try dsimp only at hSw); (first | (go_simp; done) | (go_simp; with_reducible rfl))); (try simp only [Act.put, List.setIfInBounds_toArray, List.set_cons_zero, List.set_cons_succ]))
  (refine held_take (i := 14) (v := ?_) rfl (by kernel_rfl) (by kernel_rfl) (by kernel_rfl) (fun _ _ _ h => h) (by rfl) ?_ (by assumption) ?_; rotate_left; (intro w hSw; (try dsimp only at hSw); (first | (go_simp; done) | (go_simp; with_reducible rfl))); (try simp only [Act.put, List.setIfInBounds_toArray, List.set_cons_zero, List.set_cons_succ]))
  refine wpAnyH_ready (rs := [15]) (by kernel_rfl) (by simp) (held_cons rfl (fun K hK => ?_) AllReadyH.nil)
  rw [if_pos (by rfl)]
  refine wp_store_row 56 _ _ rfl (w.heap.size + 1 + 1) (rc S') rfl rfl 56 zz HR.out (by rw [rc_size]; exact inf_rz) (by rw [HZ.out, rc_size]) (all_rc S') ?_
  have hb' := setRow_heap W0 (w.heap.size + 1 + 1) zz (rc S') 56 _ HR.out
  have hc' := Chg.row (cs := rc S') HR.out
  have HX' := hide (HX.out.turn hc' (by simp; omega))
  have HB' := hide (HB.out.chg hc' (by simp; omega))
  have HE' := hide (HE.out.chg hc' (by simp))
  clear hc'
  generalize W0.setRow (w.heap.size + 1 + 1) (rc S') = w' at *
  (refine hK.out _ _ ?_ (fun hHeld => ?_))
  · exact ⟨rc_rng HB'.out, HE'.out.cell, PP.out _ HB'.out⟩
  (try simp only [Act.put, List.setIfInBounds_toArray, List.set_cons_zero, List.set_cons_succ])
  (refine held_take (i := 16) (v := ?_) rfl (by kernel_rfl) (by kernel_rfl) (by kernel_rfl) (fun _ _ _ h => h) (by rfl) ?_ (by assumption) ?_; rotate_left; (intro w hSw; (try dsimp only at hSw); (first | (go_simp; done) | (go_simp; with_reducible rfl))); (try simp only [Act.put, List.setIfInBounds_toArray, List.set_cons_zero, List.set_cons_succ]))
  refine wpAnyH_done (by kernel_rfl) ?_ _
  go_wp2_with fail
  refine bodyPost_ret (res_of Try.results39 _ _ rfl rfl hb') rfl ?_
  exact ⟨by first | rfl | simp, HX'.out⟩
theorem rask_110 {S : St} (ok : Ok S) {t o : Nat} (a : Int) (ht : t < S.N) (ho : o < S.M) {b : Bool} (E : Hid (b = (a == (if (S.own o + 1 == (t : Int) + 1) = true then 1 else 0)))) (w : World) :
    Calls Try.prog 39 #[.agg (rc S), (Value.agg #[Value.int .i64 11, .int .i64 (t : Int), .int .i64 (o : Int), .int .i64 a, .int .i64 0])] w fun e w' => e = .returned (.tuple #[.agg (rc S), .bool b]) ∧ Ext w w' := by
  have CP := hide (show (rc S)[3 + o]? = some (.int .i64 (S.own o + 1)) from rc_own (by have := ok.m1; omega))
  generalize S.own o + 1 = y at *
  have n1 := ok.n1
  have m1 := ok.m1
  have ho8 : o < 8 := by omega
  have ht8 : t < 8 := by omega
  have i8 : (o : Int) < 8 := by omega
  have j8 : (t : Int) < 8 := by omega
  obtain ⟨zz, hz1, hz2, hz3, hz4, -⟩ : ∃ zz : Array Value, (∀ w, (zeroValue 56).run Try.prog w = .ok (.agg zz) w) ∧ ¬ zz = #[] ∧ ¬ zz.size < 2 ∧ zz.size = 227 ∧ zz = zr := ⟨_, fun w => by kernel_rfl, by decide +kernel, by decide +kernel, by decide +kernel, rfl⟩
  have HZ := hide hz4
  clear hz4
  go_enter Try.func39, Try.ntmps39
  go_upto_region 1 with fail
  have HB := hide (((Blk.new w (rc S) 56).ext (Ext.alloc _ (.cells #[Value.int .i64 11, .int .i64 (t : Int), .int .i64 (o : Int), .int .i64 a, .int .i64 0] 42))).ext (Ext.alloc _ (.cells zz 56)))
  have HE := Blk.new (w.alloc (.cells (rc S) 56)) #[Value.int .i64 11, .int .i64 (t : Int), .int .i64 (o : Int), .int .i64 a, .int .i64 0] 42
  rw [World.size_alloc] at HE
  have HE := hide (HE.ext (Ext.alloc _ (.cells zz 56)))
  have HR := Blk.new ((w.alloc (.cells (rc S) 56)).alloc (.cells #[Value.int .i64 11, .int .i64 (t : Int), .int .i64 (o : Int), .int .i64 a, .int .i64 0] 42)) zz 56
  rw [World.size_alloc, World.size_alloc] at HR
  have HR := hide HR
  have HX := hide (((Ext.alloc w (.cells (rc S) 56)).trans (Ext.alloc _ (.cells #[Value.int .i64 11, .int .i64 (t : Int), .int .i64 (o : Int), .int .i64 a, .int .i64 0] 42))).trans (Ext.alloc _ (.cells zz 56)))
  generalize (((w.alloc (.cells (rc S) 56)).alloc (.cells #[Value.int .i64 11, .int .i64 (t : Int), .int .i64 (o : Int), .int .i64 a, .int .i64 0] 42)).alloc (.cells zz 56)) = W0 at *
  clear hz1 hz2 hz3
  have re := HE.out.cell
  cases y1 : (y == (t : Int) + 1)
  all_goals
    rw [y1] at E
    go_wp2_with fail
    clear re
    have hy := Ext.drew W0
    have re := (HE.out.ext hy).cell
    have r1 : W0.drew.cell? ⟨w.heap.size, 3 + o, none⟩ = some (.int .i64 y) := by rw [(HB.out.ext hy).cell]; exact CP.out
    go_region
    clear re r1 hy
    have HB := hide (HB.out.ext (Ext.drew W0))
    have HE := hide (HE.out.ext (Ext.drew W0))
    have HR := hide (HR.out.ext (Ext.drew W0))
    have HX := hide (HX.out.trans (Ext.drew W0))
    generalize W0.drew = W0 at *
    go_wp2_with fail
    have hy := Ext.drew W0
    have HB := hide (HB.out.ext (Ext.drew W0))
    have HE := hide (HE.out.ext (Ext.drew W0))
    have HR := hide (HR.out.ext (Ext.drew W0))
    have HX := hide (HX.out.trans (Ext.drew W0))
    have PP : Hid (∀ w', Blk w' w.heap.size (rc S) 56 → w'.cell? ⟨w.heap.size, 3 + o, none⟩ = some (.int .i64 y)) := hide fun w' h => by rw [h.cell]; exact CP.out
    refine wp_region_held_drew (S := fun w' => w'.rangeAt w.heap.size 0 (rc S).toList ∧ ((∀ i, w'.cell? ⟨w.heap.size + 1, i, none⟩ = #[Value.int .i64 11, .int .i64 (t : Int), .int .i64 (o : Int), .int .i64 a, .int .i64 0][i]?) ∧ w'.cell? ⟨w.heap.size, 3 + o, none⟩ = some (.int .i64 y))) (by kernel_rfl) (by exact ⟨rc_rng HB.out, HE.out.cell, PP.out _ HB.out⟩) (fun hHeld => ?_)
    generalize W0.drew = W0 at *
    refine wpAnyH_take (i := 0) (at_drop rfl) (by kernel_rfl) (by kernel_rfl) (by kernel_rfl) (fun _ _ _ h => h) (yieldsIf_load_mid (by rfl) 56 _ rfl w.heap.size 0 rfl (rc S).toList _ (fun w h => h.1) Try.underlying56 rfl (inf_rm S)) (by assumption) ?_
    rw [Array.toArray_toList]
    (try simp only [Act.put, List.setIfInBounds_toArray, List.set_cons_zero, List.set_cons_succ])
    (refine held_take (i := 1) (v := ?_) rfl (by kernel_rfl) (by kernel_rfl) (by kernel_rfl) (fun _ _ _ h => h) (by rfl) ?_ (by assumption) ?_; rotate_left; (intro w hSw; (try dsimp only at hSw); (first | (go_simp; done) | (go_simp; with_reducible rfl))); (try simp only [Act.put, List.setIfInBounds_toArray, List.set_cons_zero, List.set_cons_succ]))
    (refine held_take (i := 2) (v := ?_) rfl (by kernel_rfl) (by kernel_rfl) (by kernel_rfl) (fun _ _ _ h => h) (by rfl) ?_ (by assumption) ?_; rotate_left; (intro w hSw; (try dsimp only at hSw); (first | (go_simp; done) | (go_simp; with_reducible rfl))); (try simp only [Act.put, List.setIfInBounds_toArray, List.set_cons_zero, List.set_cons_succ]))
    (refine held_take (i := 3) (v := ?_) rfl (by kernel_rfl) (by kernel_rfl) (by kernel_rfl) (fun _ _ _ h => h) (by rfl) ?_ (by assumption) ?_; rotate_left; (intro w hSw; (try dsimp only at hSw); (first | (go_simp; done) | (go_simp; with_reducible rfl))); (try simp only [Act.put, List.setIfInBounds_toArray, List.set_cons_zero, List.set_cons_succ]))
    (refine held_take (i := 4) (v := ?_) rfl (by kernel_rfl) (by kernel_rfl) (by kernel_rfl) (fun _ _ _ h => h) (by rfl) ?_ (by assumption) ?_; rotate_left; (intro w hSw; (try dsimp only at hSw); (first | (go_simp; done) | (go_simp; with_reducible rfl))); (try simp only [Act.put, List.setIfInBounds_toArray, List.set_cons_zero, List.set_cons_succ]))
    refine wpAnyH_ready (rs := [5]) (by kernel_rfl) (by simp) (held_cons rfl (fun K hK => ?_) AllReadyH.nil)
    rw [if_pos (by rfl)]
    refine wp_store_row 56 _ _ rfl (w.heap.size + 1 + 1) (rc S) rfl rfl 56 zz HR.out (by rw [rc_size]; exact inf_rz) (by rw [HZ.out, rc_size]) (all_rc S) ?_
    have hb' := setRow_heap W0 (w.heap.size + 1 + 1) zz (rc S) 56 _ HR.out
    have hc' := Chg.row (cs := rc S) HR.out
    have HX' := hide (HX.out.turn hc' (by simp; omega))
    have HB' := hide (HB.out.chg hc' (by simp; omega))
    have HE' := hide (HE.out.chg hc' (by simp))
    clear hc'
    generalize W0.setRow (w.heap.size + 1 + 1) (rc S) = w' at *
    (refine hK.out _ _ ?_ (fun hHeld => ?_))
    · exact ⟨rc_rng HB'.out, HE'.out.cell, PP.out _ HB'.out⟩
    (try simp only [Act.put, List.setIfInBounds_toArray, List.set_cons_zero, List.set_cons_succ])
    (refine held_take (i := 6) (v := ?_) rfl (by kernel_rfl) (by kernel_rfl) (by kernel_rfl) (fun _ _ _ h => h) (by rfl) ?_ (by assumption) ?_; rotate_left; (intro w hSw; (try dsimp only at hSw); (first | (go_simp; done) | (go_simp; with_reducible rfl))); (try simp only [Act.put, List.setIfInBounds_toArray, List.set_cons_zero, List.set_cons_succ]))
    refine wpAnyH_done (by kernel_rfl) ?_ _
    go_wp2_with fail
    refine bodyPost_ret (res_of Try.results39 _ _ rfl rfl hb') rfl ?_
    exact ⟨by rw [E.out]; rfl, HX'.out⟩
theorem rask_120n {S : St} (ok : Ok S) {t o : Nat} (a : Int) (ht : t < S.N) (ho : o < S.M) (q : isT S a = false) (w : World) :
    Calls Try.prog 39 #[.agg (rc S), (Value.agg #[Value.int .i64 12, .int .i64 (t : Int), .int .i64 (o : Int), .int .i64 a, .int .i64 0])] w fun e w' => e = .returned (.tuple #[.agg (rc S), .bool false]) ∧ Ext w w' := by
  have CI := fun w => ris_any S a w
  rw [q] at CI
  have n1 := ok.n1
  have m1 := ok.m1
  have ho8 : o < 8 := by omega
  have ht8 : t < 8 := by omega
  have i8 : (o : Int) < 8 := by omega
  have j8 : (t : Int) < 8 := by omega
  obtain ⟨zz, hz1, hz2, hz3, hz4, -⟩ : ∃ zz : Array Value, (∀ w, (zeroValue 56).run Try.prog w = .ok (.agg zz) w) ∧ ¬ zz = #[] ∧ ¬ zz.size < 2 ∧ zz.size = 227 ∧ zz = zr := ⟨_, fun w => by kernel_rfl, by decide +kernel, by decide +kernel, by decide +kernel, rfl⟩
  have HZ := hide hz4
  clear hz4
  go_enter Try.func39, Try.ntmps39
  go_upto_region 1 with fail
  have HB := hide (((Blk.new w (rc S) 56).ext (Ext.alloc _ (.cells #[Value.int .i64 12, .int .i64 (t : Int), .int .i64 (o : Int), .int .i64 a, .int .i64 0] 42))).ext (Ext.alloc _ (.cells zz 56)))
  have HE := Blk.new (w.alloc (.cells (rc S) 56)) #[Value.int .i64 12, .int .i64 (t : Int), .int .i64 (o : Int), .int .i64 a, .int .i64 0] 42
  rw [World.size_alloc] at HE
  have HE := hide (HE.ext (Ext.alloc _ (.cells zz 56)))
  have HR := Blk.new ((w.alloc (.cells (rc S) 56)).alloc (.cells #[Value.int .i64 12, .int .i64 (t : Int), .int .i64 (o : Int), .int .i64 a, .int .i64 0] 42)) zz 56
  rw [World.size_alloc, World.size_alloc] at HR
  have HR := hide HR
  have HX := hide (((Ext.alloc w (.cells (rc S) 56)).trans (Ext.alloc _ (.cells #[Value.int .i64 12, .int .i64 (t : Int), .int .i64 (o : Int), .int .i64 a, .int .i64 0] 42))).trans (Ext.alloc _ (.cells zz 56)))
  generalize (((w.alloc (.cells (rc S) 56)).alloc (.cells #[Value.int .i64 12, .int .i64 (t : Int), .int .i64 (o : Int), .int .i64 a, .int .i64 0] 42)).alloc (.cells zz 56)) = W0 at *
  clear hz1 hz2 hz3
  have re := HE.out.cell
  go_wp2_with (with_reducible refine wpList_get rfl _ rfl w.heap.size _ rfl HB.out ?_; go_frame)
  refine (CI W0).mono ?_
  rintro e w5 ⟨rfl, hx5⟩
  have HB := hide (HB.out.ext hx5)
  have HR := hide (HR.out.ext hx5)
  have HX := hide (HX.out.trans hx5)
  clear hx5
  generalize w5 = W0 at *
  go_wp2_with first | (with_reducible refine wpList_get rfl _ rfl w.heap.size _ rfl HB.out ?_; go_frame) | (with_reducible refine wpList_put rfl _ _ rfl (w.heap.size + 1 + 1) S rfl rfl zz HR.out HZ.out ?_; intro w' hb' hc' hs'; have HX' := hide (HX.out.turn hc' (by simp; omega)); clear hc' hs'; go_frame) | go_in
  refine bodyPost_ret (res_of Try.results39 _ _ rfl rfl hb') rfl ?_
  exact ⟨by rfl, HX'.out⟩
theorem rask_120y {S : St} (ok : Ok S) {t o : Nat} (s : Nat) (ht : t < S.N) (ho : o < S.M) (q : isT S (s : Int) = true) (w : World) :
    Calls Try.prog 39 #[.agg (rc S), (Value.agg #[Value.int .i64 12, .int .i64 (t : Int), .int .i64 (o : Int), .int .i64 (s : Int), .int .i64 0])] w fun e w' => e = .returned (.tuple #[.agg (rc (flS S s true)), .bool true]) ∧ Ext w w' := by
  have CI := fun w => ris_any S (s : Int) w
  rw [q] at CI
  have hs8 : s < 8 := by have := (isT_iff.1 q).2; have := ok.n1; omega
  have k8 : (s : Int) < 8 := by omega
  have ZS := hide (show (rc S).setIfInBounds (27 + s) (.bool true) = rc (flS S s true) from rset_flg hs8 true)
  generalize flS S s true = S' at *
  have CF := hide (show (rc S)[27 + s]? = some (.bool (S.flg s)) from rc_flg hs8)
  have n1 := ok.n1
  have m1 := ok.m1
  have ho8 : o < 8 := by omega
  have ht8 : t < 8 := by omega
  have i8 : (o : Int) < 8 := by omega
  have j8 : (t : Int) < 8 := by omega
  obtain ⟨zz, hz1, hz2, hz3, hz4, -⟩ : ∃ zz : Array Value, (∀ w, (zeroValue 56).run Try.prog w = .ok (.agg zz) w) ∧ ¬ zz = #[] ∧ ¬ zz.size < 2 ∧ zz.size = 227 ∧ zz = zr := ⟨_, fun w => by kernel_rfl, by decide +kernel, by decide +kernel, by decide +kernel, rfl⟩
  have HZ := hide hz4
  clear hz4
  go_enter Try.func39, Try.ntmps39
  go_upto_region 1 with fail
  have HB := hide (((Blk.new w (rc S) 56).ext (Ext.alloc _ (.cells #[Value.int .i64 12, .int .i64 (t : Int), .int .i64 (o : Int), .int .i64 (s : Int), .int .i64 0] 42))).ext (Ext.alloc _ (.cells zz 56)))
  have HE := Blk.new (w.alloc (.cells (rc S) 56)) #[Value.int .i64 12, .int .i64 (t : Int), .int .i64 (o : Int), .int .i64 (s : Int), .int .i64 0] 42
  rw [World.size_alloc] at HE
  have HE := hide (HE.ext (Ext.alloc _ (.cells zz 56)))
  have HR := Blk.new ((w.alloc (.cells (rc S) 56)).alloc (.cells #[Value.int .i64 12, .int .i64 (t : Int), .int .i64 (o : Int), .int .i64 (s : Int), .int .i64 0] 42)) zz 56
  rw [World.size_alloc, World.size_alloc] at HR
  have HR := hide HR
  have HX := hide (((Ext.alloc w (.cells (rc S) 56)).trans (Ext.alloc _ (.cells #[Value.int .i64 12, .int .i64 (t : Int), .int .i64 (o : Int), .int .i64 (s : Int), .int .i64 0] 42))).trans (Ext.alloc _ (.cells zz 56)))
  generalize (((w.alloc (.cells (rc S) 56)).alloc (.cells #[Value.int .i64 12, .int .i64 (t : Int), .int .i64 (o : Int), .int .i64 (s : Int), .int .i64 0] 42)).alloc (.cells zz 56)) = W0 at *
  clear hz1 hz2 hz3
  have re := HE.out.cell
  go_wp2_with (with_reducible refine wpList_get rfl _ rfl w.heap.size _ rfl HB.out ?_; go_frame)
  refine (CI W0).mono ?_
  rintro e w5 ⟨rfl, hx5⟩
  clear re
  have HB := hide (HB.out.ext hx5)
  have HE := hide (HE.out.ext hx5)
  have HR := hide (HR.out.ext hx5)
  have HX := hide (HX.out.trans hx5)
  clear hx5
  generalize w5 = W0 at *
  have re := HE.out.cell
  have r1 : W0.cell? ⟨w.heap.size, 27 + s, none⟩ = some (.bool (S.flg s)) := by rw [HB.out.cell]; exact CF.out
  have f1 := HB.out.free (27 + s)
  have b4 := HB.out.set (27 + s) (.bool true)
  rw [ZS.out] at b4
  have c4 := (Chg.refl [w.heap.size] W0).set (p := ⟨w.heap.size, 27 + s, none⟩) (.inl (by simp)) (.bool true)
  have HB4 := hide b4
  have HR4 := hide (HR.out.chg c4 (by simp; omega))
  have HX4 := hide (HX.out.turn c4 (by simp))
  clear b4 c4
  go_wp2_with first | (with_reducible refine wpList_get rfl _ rfl w.heap.size _ rfl HB4.out ?_; go_frame) | (with_reducible refine wpList_put rfl _ _ rfl (w.heap.size + 1 + 1) _ rfl rfl zz HR4.out HZ.out ?_; intro w' hb' hc' hs'; have HX' := hide (HX4.out.turn hc' (by simp; omega)); clear hc' hs'; go_frame) | go_in
  refine bodyPost_ret (res_of Try.results39 _ _ rfl rfl hb') rfl ?_
  exact ⟨by rfl, HX'.out⟩
end Go.Proofs.Ytpielknodjppgaa
