/- The document's Notify and All. -/
import Derived.Test.YtacneghgimfklaaR2
namespace Go.Proofs.Ytacneghgimfklaa
open Go.RowKit Go.Maps
set_option linter.unusedSimpArgs false
set_option linter.unusedVariables false
set_option maxRecDepth 100000
set_option maxHeartbeats 8000000



theorem rtell_89 {S : St} (ok : Ok S) {t o : Nat} (a : Int) (ht : t < S.N) (ho : o < S.M) {b : Bool} (E : Hid (b = (!(S.own o + 1 == (t : Int) + 1) && a == -1))) (w : World) :
    Calls Try.prog 44 #[.agg (rc S), (Value.agg #[Value.int .i64 8, .int .i64 (t : Int), .int .i64 (o : Int), .int .i64 a, .int .i64 9])] w fun e w' => e = .returned (.tuple #[.agg (rc S), .bool b]) ∧ Ext w w' := by
  have n1 := ok.n1
  have m1 := ok.m1
  have ho8 : o < 8 := by omega
  have ht8 : t < 8 := by omega
  have i8 : (o : Int) < 8 := by omega
  have j8 : (t : Int) < 8 := by omega
  obtain ⟨zz, hz1, hz2, hz3, hz4, -⟩ : ∃ zz : Array Value, (∀ w, (zeroValue 47).run Try.prog w = .ok (.agg zz) w) ∧ ¬ zz = #[] ∧ ¬ zz.size < 2 ∧ zz.size = 227 ∧ zz = zr := ⟨_, fun w => by kernel_rfl, by decide +kernel, by decide +kernel, by decide +kernel, rfl⟩
  have HZ := hide hz4
  clear hz4
  go_enter Try.func44, Try.ntmps44
  go_upto_region 1 with fail
  have HB := hide (((Blk.new w (rc S) 47).ext (Ext.alloc _ (.cells #[Value.int .i64 8, .int .i64 (t : Int), .int .i64 (o : Int), .int .i64 a, .int .i64 9] 29))).ext (Ext.alloc _ (.cells zz 47)))
  have HE := Blk.new (w.alloc (.cells (rc S) 47)) #[Value.int .i64 8, .int .i64 (t : Int), .int .i64 (o : Int), .int .i64 a, .int .i64 9] 29
  rw [World.size_alloc] at HE
  have HE := hide (HE.ext (Ext.alloc _ (.cells zz 47)))
  have HR := Blk.new ((w.alloc (.cells (rc S) 47)).alloc (.cells #[Value.int .i64 8, .int .i64 (t : Int), .int .i64 (o : Int), .int .i64 a, .int .i64 9] 29)) zz 47
  rw [World.size_alloc, World.size_alloc] at HR
  have HR := hide HR
  have HX := hide (((Ext.alloc w (.cells (rc S) 47)).trans (Ext.alloc _ (.cells #[Value.int .i64 8, .int .i64 (t : Int), .int .i64 (o : Int), .int .i64 a, .int .i64 9] 29))).trans (Ext.alloc _ (.cells zz 47)))
  generalize (((w.alloc (.cells (rc S) 47)).alloc (.cells #[Value.int .i64 8, .int .i64 (t : Int), .int .i64 (o : Int), .int .i64 a, .int .i64 9] 29)).alloc (.cells zz 47)) = W0 at *
  clear hz1 hz2 hz3
  have re := HE.out.cell
  go_upto_region 2 with fail
  have re := (HE.out.ext (Ext.drew W0)).cell
  have r1 : W0.drew.cell? ⟨w.heap.size, 3 + o, none⟩ = some (.int .i64 (S.own o + 1)) := by rw [(HB.out.ext (Ext.drew W0)).cell]; exact rc_own ho8
  generalize S.own o + 1 = y at *
  go_region
  clear re r1
  have HB := hide (HB.out.ext (Ext.drew W0))
  have HE := hide (HE.out.ext (Ext.drew W0))
  have HR := hide (HR.out.ext (Ext.drew W0))
  have HX := hide (HX.out.trans (Ext.drew W0))
  generalize W0.drew = W0 at *
  have re := HE.out.cell
  cases y1 : (y == (t : Int) + 1)
  · go_wp2_with fail
    clear re
    have HB := hide (HB.out.ext (Ext.drew W0))
    have HE := hide (HE.out.ext (Ext.drew W0))
    have HR := hide (HR.out.ext (Ext.drew W0))
    have HX := hide (HX.out.trans (Ext.drew W0))
    refine wp_region_held_drew (S := fun w' => w'.rangeAt w.heap.size 0 (rc S).toList ∧ (∀ i, w'.cell? ⟨w.heap.size + 1, i, none⟩ = #[Value.int .i64 8, .int .i64 (t : Int), .int .i64 (o : Int), .int .i64 a, .int .i64 9][i]?)) (by kernel_rfl) (by exact ⟨rc_rng HB.out, HE.out.cell⟩) (fun hHeld => ?_)
    generalize W0.drew = W0 at *
    refine wpAnyH_take (i := 0) (at_drop rfl) (by kernel_rfl) (by kernel_rfl) (by kernel_rfl) (fun _ _ _ h => h) (yieldsIf_load_mid (by rfl) 47 _ rfl w.heap.size 0 rfl (rc S).toList _ (fun w h => h.1) Try.underlying47 rfl (inf_rm S)) (by assumption) ?_
    rw [Array.toArray_toList]
    (try simp only [Act.put, List.setIfInBounds_toArray, List.set_cons_zero, List.set_cons_succ])
    (refine held_take (i := 1) (v := ?_) rfl (by kernel_rfl) (by kernel_rfl) (by kernel_rfl) (fun _ _ _ h => h) (by rfl) ?_ (by assumption) ?_; rotate_left; (intro w hSw; (try dsimp only at hSw); (first | (go_simp; done) | (go_simp; with_reducible rfl))); (try simp only [Act.put, List.setIfInBounds_toArray, List.set_cons_zero, List.set_cons_succ]))
    (refine held_take (i := 2) (v := ?_) rfl (by kernel_rfl) (by kernel_rfl) (by kernel_rfl) (fun _ _ _ h => h) (by rfl) ?_ (by assumption) ?_; rotate_left; (intro w hSw; (try dsimp only at hSw); (first | (go_simp; done) | (go_simp; with_reducible rfl))); (try simp only [Act.put, List.setIfInBounds_toArray, List.set_cons_zero, List.set_cons_succ]))
    (refine held_take (i := 3) (v := ?_) rfl (by kernel_rfl) (by kernel_rfl) (by kernel_rfl) (fun _ _ _ h => h) (by rfl) ?_ (by assumption) ?_; rotate_left; (intro w hSw; (try dsimp only at hSw); (first | (go_simp; done) | (go_simp; with_reducible rfl))); (try simp only [Act.put, List.setIfInBounds_toArray, List.set_cons_zero, List.set_cons_succ]))
    (refine held_take (i := 4) (v := ?_) rfl (by kernel_rfl) (by kernel_rfl) (by kernel_rfl) (fun _ _ _ h => h) (by rfl) ?_ (by assumption) ?_; rotate_left; (intro w hSw; (try dsimp only at hSw); (first | (go_simp; done) | (go_simp; with_reducible rfl))); (try simp only [Act.put, List.setIfInBounds_toArray, List.set_cons_zero, List.set_cons_succ]))
    (refine held_take (i := 5) (v := ?_) rfl (by kernel_rfl) (by kernel_rfl) (by kernel_rfl) (fun _ _ _ h => h) (by rfl) ?_ (by assumption) ?_; rotate_left; (intro w hSw; (try dsimp only at hSw); (first | (go_simp; done) | (go_simp; with_reducible rfl))); (try simp only [Act.put, List.setIfInBounds_toArray, List.set_cons_zero, List.set_cons_succ]))
    (refine held_take (i := 6) (v := ?_) rfl (by kernel_rfl) (by kernel_rfl) (by kernel_rfl) (fun _ _ _ h => h) (by rfl) ?_ (by assumption) ?_; rotate_left; (intro w hSw; (try dsimp only at hSw); (first | (go_simp; done) | (go_simp; with_reducible rfl))); (try simp only [Act.put, List.setIfInBounds_toArray, List.set_cons_zero, List.set_cons_succ]))
    (refine held_take (i := 7) (v := ?_) rfl (by kernel_rfl) (by kernel_rfl) (by kernel_rfl) (fun _ _ _ h => h) (by rfl) ?_ (by assumption) ?_; rotate_left; (intro w hSw; (try dsimp only at hSw); (first | (go_simp; done) | (go_simp; with_reducible rfl))); (try simp only [Act.put, List.setIfInBounds_toArray, List.set_cons_zero, List.set_cons_succ]))
    refine wpAnyH_ready (rs := [8]) (by kernel_rfl) (by simp) (held_cons rfl (fun K hK => ?_) AllReadyH.nil)
    rw [if_pos (by rfl)]
    refine wp_store_row 47 _ _ rfl (w.heap.size + 1 + 1) (rc S) rfl rfl 47 zz HR.out (by rw [rc_size]; exact inf_rz) (by rw [HZ.out, rc_size]) (all_rc S) ?_
    have hb' := setRow_heap W0 (w.heap.size + 1 + 1) zz (rc S) 47 _ HR.out
    have hc' := Chg.row (cs := rc S) HR.out
    have HX' := hide (HX.out.turn hc' (by simp; omega))
    have HB' := hide (HB.out.chg hc' (by simp; omega))
    have HE' := hide (HE.out.chg hc' (by simp))
    clear hc'
    generalize W0.setRow (w.heap.size + 1 + 1) (rc S) = w' at *
    (refine hK.out _ _ ?_ (fun hHeld => ?_))
    · exact ⟨rc_rng HB'.out, HE'.out.cell⟩
    (try simp only [Act.put, List.setIfInBounds_toArray, List.set_cons_zero, List.set_cons_succ])
    (refine held_take (i := 9) (v := ?_) rfl (by kernel_rfl) (by kernel_rfl) (by kernel_rfl) (fun _ _ _ h => h) (by rfl) ?_ (by assumption) ?_; rotate_left; (intro w hSw; (try dsimp only at hSw); (first | (go_simp; done) | (go_simp; with_reducible rfl))); (try simp only [Act.put, List.setIfInBounds_toArray, List.set_cons_zero, List.set_cons_succ]))
    refine wpAnyH_done (by kernel_rfl) ?_ _
    go_wp2_with fail
    refine bodyPost_ret (res_of Try.results44 _ _ rfl rfl hb') rfl ?_
    exact ⟨by rw [E.out, y1]; simp, HX'.out⟩
  · go_wp2_with fail
    clear re
    have HB := hide (HB.out.ext (Ext.drew W0))
    have HE := hide (HE.out.ext (Ext.drew W0))
    have HR := hide (HR.out.ext (Ext.drew W0))
    have HX := hide (HX.out.trans (Ext.drew W0))
    refine wp_region_held_drew (S := fun w' => w'.rangeAt w.heap.size 0 (rc S).toList ∧ (∀ i, w'.cell? ⟨w.heap.size + 1, i, none⟩ = #[Value.int .i64 8, .int .i64 (t : Int), .int .i64 (o : Int), .int .i64 a, .int .i64 9][i]?)) (by kernel_rfl) (by exact ⟨rc_rng HB.out, HE.out.cell⟩) (fun hHeld => ?_)
    generalize W0.drew = W0 at *
    refine wpAnyH_take (i := 0) (at_drop rfl) (by kernel_rfl) (by kernel_rfl) (by kernel_rfl) (fun _ _ _ h => h) (yieldsIf_load_mid (by rfl) 47 _ rfl w.heap.size 0 rfl (rc S).toList _ (fun w h => h.1) Try.underlying47 rfl (inf_rm S)) (by assumption) ?_
    rw [Array.toArray_toList]
    (try simp only [Act.put, List.setIfInBounds_toArray, List.set_cons_zero, List.set_cons_succ])
    (refine held_take (i := 1) (v := ?_) rfl (by kernel_rfl) (by kernel_rfl) (by kernel_rfl) (fun _ _ _ h => h) (by rfl) ?_ (by assumption) ?_; rotate_left; (intro w hSw; (try dsimp only at hSw); (first | (go_simp; done) | (go_simp; with_reducible rfl))); (try simp only [Act.put, List.setIfInBounds_toArray, List.set_cons_zero, List.set_cons_succ]))
    (refine held_take (i := 2) (v := ?_) rfl (by kernel_rfl) (by kernel_rfl) (by kernel_rfl) (fun _ _ _ h => h) (by rfl) ?_ (by assumption) ?_; rotate_left; (intro w hSw; (try dsimp only at hSw); (first | (go_simp; done) | (go_simp; with_reducible rfl))); (try simp only [Act.put, List.setIfInBounds_toArray, List.set_cons_zero, List.set_cons_succ]))
    (refine held_take (i := 3) (v := ?_) rfl (by kernel_rfl) (by kernel_rfl) (by kernel_rfl) (fun _ _ _ h => h) (by rfl) ?_ (by assumption) ?_; rotate_left; (intro w hSw; (try dsimp only at hSw); (first | (go_simp; done) | (go_simp; with_reducible rfl))); (try simp only [Act.put, List.setIfInBounds_toArray, List.set_cons_zero, List.set_cons_succ]))
    (refine held_skip (i := 4) rfl (by kernel_rfl) (by kernel_rfl) (by kernel_rfl) (fun _ _ _ h => h) (by rfl) (by assumption) ?_; (try simp only [Act.put, List.setIfInBounds_toArray, List.set_cons_zero, List.set_cons_succ]))
    (refine held_skip (i := 5) rfl (by kernel_rfl) (by kernel_rfl) (by kernel_rfl) (fun _ _ _ h => h) (by rfl) (by assumption) ?_; (try simp only [Act.put, List.setIfInBounds_toArray, List.set_cons_zero, List.set_cons_succ]))
    (refine held_skip (i := 6) rfl (by kernel_rfl) (by kernel_rfl) (by kernel_rfl) (fun _ _ _ h => h) (by rfl) (by assumption) ?_; (try simp only [Act.put, List.setIfInBounds_toArray, List.set_cons_zero, List.set_cons_succ]))
    (refine held_take (i := 7) (v := ?_) rfl (by kernel_rfl) (by kernel_rfl) (by kernel_rfl) (fun _ _ _ h => h) (by rfl) ?_ (by assumption) ?_; rotate_left; (intro w hSw; (try dsimp only at hSw); (first | (go_simp; done) | (go_simp; with_reducible rfl))); (try simp only [Act.put, List.setIfInBounds_toArray, List.set_cons_zero, List.set_cons_succ]))
    refine wpAnyH_ready (rs := [8]) (by kernel_rfl) (by simp) (held_cons rfl (fun K hK => ?_) AllReadyH.nil)
    rw [if_pos (by rfl)]
    refine wp_store_row 47 _ _ rfl (w.heap.size + 1 + 1) (rc S) rfl rfl 47 zz HR.out (by rw [rc_size]; exact inf_rz) (by rw [HZ.out, rc_size]) (all_rc S) ?_
    have hb' := setRow_heap W0 (w.heap.size + 1 + 1) zz (rc S) 47 _ HR.out
    have hc' := Chg.row (cs := rc S) HR.out
    have HX' := hide (HX.out.turn hc' (by simp; omega))
    have HB' := hide (HB.out.chg hc' (by simp; omega))
    have HE' := hide (HE.out.chg hc' (by simp))
    clear hc'
    generalize W0.setRow (w.heap.size + 1 + 1) (rc S) = w' at *
    (refine hK.out _ _ ?_ (fun hHeld => ?_))
    · exact ⟨rc_rng HB'.out, HE'.out.cell⟩
    (try simp only [Act.put, List.setIfInBounds_toArray, List.set_cons_zero, List.set_cons_succ])
    (refine held_take (i := 9) (v := ?_) rfl (by kernel_rfl) (by kernel_rfl) (by kernel_rfl) (fun _ _ _ h => h) (by rfl) ?_ (by assumption) ?_; rotate_left; (intro w hSw; (try dsimp only at hSw); (first | (go_simp; done) | (go_simp; with_reducible rfl))); (try simp only [Act.put, List.setIfInBounds_toArray, List.set_cons_zero, List.set_cons_succ]))
    refine wpAnyH_done (by kernel_rfl) ?_ _
    go_wp2_with fail
    refine bodyPost_ret (res_of Try.results44 _ _ rfl rfl hb') rfl ?_
    exact ⟨by rw [E.out, y1]; simp, HX'.out⟩
theorem rtell_99 {S : St} (ok : Ok S) {t o : Nat} (a : Int) (ht : t < S.N) (ho : o < S.M) {b : Bool} (E : Hid (b = (!(S.own o + 1 == (t : Int) + 1) && a == 0))) (w : World) :
    Calls Try.prog 44 #[.agg (rc S), (Value.agg #[Value.int .i64 9, .int .i64 (t : Int), .int .i64 (o : Int), .int .i64 a, .int .i64 9])] w fun e w' => e = .returned (.tuple #[.agg (rc S), .bool b]) ∧ Ext w w' := by
  have n1 := ok.n1
  have m1 := ok.m1
  have ho8 : o < 8 := by omega
  have ht8 : t < 8 := by omega
  have i8 : (o : Int) < 8 := by omega
  have j8 : (t : Int) < 8 := by omega
  obtain ⟨zz, hz1, hz2, hz3, hz4, -⟩ : ∃ zz : Array Value, (∀ w, (zeroValue 47).run Try.prog w = .ok (.agg zz) w) ∧ ¬ zz = #[] ∧ ¬ zz.size < 2 ∧ zz.size = 227 ∧ zz = zr := ⟨_, fun w => by kernel_rfl, by decide +kernel, by decide +kernel, by decide +kernel, rfl⟩
  have HZ := hide hz4
  clear hz4
  go_enter Try.func44, Try.ntmps44
  go_upto_region 1 with fail
  have HB := hide (((Blk.new w (rc S) 47).ext (Ext.alloc _ (.cells #[Value.int .i64 9, .int .i64 (t : Int), .int .i64 (o : Int), .int .i64 a, .int .i64 9] 29))).ext (Ext.alloc _ (.cells zz 47)))
  have HE := Blk.new (w.alloc (.cells (rc S) 47)) #[Value.int .i64 9, .int .i64 (t : Int), .int .i64 (o : Int), .int .i64 a, .int .i64 9] 29
  rw [World.size_alloc] at HE
  have HE := hide (HE.ext (Ext.alloc _ (.cells zz 47)))
  have HR := Blk.new ((w.alloc (.cells (rc S) 47)).alloc (.cells #[Value.int .i64 9, .int .i64 (t : Int), .int .i64 (o : Int), .int .i64 a, .int .i64 9] 29)) zz 47
  rw [World.size_alloc, World.size_alloc] at HR
  have HR := hide HR
  have HX := hide (((Ext.alloc w (.cells (rc S) 47)).trans (Ext.alloc _ (.cells #[Value.int .i64 9, .int .i64 (t : Int), .int .i64 (o : Int), .int .i64 a, .int .i64 9] 29))).trans (Ext.alloc _ (.cells zz 47)))
  generalize (((w.alloc (.cells (rc S) 47)).alloc (.cells #[Value.int .i64 9, .int .i64 (t : Int), .int .i64 (o : Int), .int .i64 a, .int .i64 9] 29)).alloc (.cells zz 47)) = W0 at *
  clear hz1 hz2 hz3
  have re := HE.out.cell
  go_upto_region 2 with fail
  have re := (HE.out.ext (Ext.drew W0)).cell
  have r1 : W0.drew.cell? ⟨w.heap.size, 3 + o, none⟩ = some (.int .i64 (S.own o + 1)) := by rw [(HB.out.ext (Ext.drew W0)).cell]; exact rc_own ho8
  generalize S.own o + 1 = y at *
  go_region
  clear re r1
  have HB := hide (HB.out.ext (Ext.drew W0))
  have HE := hide (HE.out.ext (Ext.drew W0))
  have HR := hide (HR.out.ext (Ext.drew W0))
  have HX := hide (HX.out.trans (Ext.drew W0))
  generalize W0.drew = W0 at *
  have re := HE.out.cell
  cases y1 : (y == (t : Int) + 1)
  · go_wp2_with fail
    clear re
    have HB := hide (HB.out.ext (Ext.drew W0))
    have HE := hide (HE.out.ext (Ext.drew W0))
    have HR := hide (HR.out.ext (Ext.drew W0))
    have HX := hide (HX.out.trans (Ext.drew W0))
    refine wp_region_held_drew (S := fun w' => w'.rangeAt w.heap.size 0 (rc S).toList ∧ (∀ i, w'.cell? ⟨w.heap.size + 1, i, none⟩ = #[Value.int .i64 9, .int .i64 (t : Int), .int .i64 (o : Int), .int .i64 a, .int .i64 9][i]?)) (by kernel_rfl) (by exact ⟨rc_rng HB.out, HE.out.cell⟩) (fun hHeld => ?_)
    generalize W0.drew = W0 at *
    refine wpAnyH_take (i := 0) (at_drop rfl) (by kernel_rfl) (by kernel_rfl) (by kernel_rfl) (fun _ _ _ h => h) (yieldsIf_load_mid (by rfl) 47 _ rfl w.heap.size 0 rfl (rc S).toList _ (fun w h => h.1) Try.underlying47 rfl (inf_rm S)) (by assumption) ?_
    rw [Array.toArray_toList]
    (try simp only [Act.put, List.setIfInBounds_toArray, List.set_cons_zero, List.set_cons_succ])
    (refine held_take (i := 1) (v := ?_) rfl (by kernel_rfl) (by kernel_rfl) (by kernel_rfl) (fun _ _ _ h => h) (by rfl) ?_ (by assumption) ?_; rotate_left; (intro w hSw; (try dsimp only at hSw); (first | (go_simp; done) | (go_simp; with_reducible rfl))); (try simp only [Act.put, List.setIfInBounds_toArray, List.set_cons_zero, List.set_cons_succ]))
    (refine held_take (i := 2) (v := ?_) rfl (by kernel_rfl) (by kernel_rfl) (by kernel_rfl) (fun _ _ _ h => h) (by rfl) ?_ (by assumption) ?_; rotate_left; (intro w hSw; (try dsimp only at hSw); (first | (go_simp; done) | (go_simp; with_reducible rfl))); (try simp only [Act.put, List.setIfInBounds_toArray, List.set_cons_zero, List.set_cons_succ]))
    (refine held_take (i := 3) (v := ?_) rfl (by kernel_rfl) (by kernel_rfl) (by kernel_rfl) (fun _ _ _ h => h) (by rfl) ?_ (by assumption) ?_; rotate_left; (intro w hSw; (try dsimp only at hSw); (first | (go_simp; done) | (go_simp; with_reducible rfl))); (try simp only [Act.put, List.setIfInBounds_toArray, List.set_cons_zero, List.set_cons_succ]))
    (refine held_take (i := 4) (v := ?_) rfl (by kernel_rfl) (by kernel_rfl) (by kernel_rfl) (fun _ _ _ h => h) (by rfl) ?_ (by assumption) ?_; rotate_left; (intro w hSw; (try dsimp only at hSw); (first | (go_simp; done) | (go_simp; with_reducible rfl))); (try simp only [Act.put, List.setIfInBounds_toArray, List.set_cons_zero, List.set_cons_succ]))
    (refine held_take (i := 5) (v := ?_) rfl (by kernel_rfl) (by kernel_rfl) (by kernel_rfl) (fun _ _ _ h => h) (by rfl) ?_ (by assumption) ?_; rotate_left; (intro w hSw; (try dsimp only at hSw); (first | (go_simp; done) | (go_simp; with_reducible rfl))); (try simp only [Act.put, List.setIfInBounds_toArray, List.set_cons_zero, List.set_cons_succ]))
    (refine held_take (i := 6) (v := ?_) rfl (by kernel_rfl) (by kernel_rfl) (by kernel_rfl) (fun _ _ _ h => h) (by rfl) ?_ (by assumption) ?_; rotate_left; (intro w hSw; (try dsimp only at hSw); (first | (go_simp; done) | (go_simp; with_reducible rfl))); (try simp only [Act.put, List.setIfInBounds_toArray, List.set_cons_zero, List.set_cons_succ]))
    (refine held_take (i := 7) (v := ?_) rfl (by kernel_rfl) (by kernel_rfl) (by kernel_rfl) (fun _ _ _ h => h) (by rfl) ?_ (by assumption) ?_; rotate_left; (intro w hSw; (try dsimp only at hSw); (first | (go_simp; done) | (go_simp; with_reducible rfl))); (try simp only [Act.put, List.setIfInBounds_toArray, List.set_cons_zero, List.set_cons_succ]))
    refine wpAnyH_ready (rs := [8]) (by kernel_rfl) (by simp) (held_cons rfl (fun K hK => ?_) AllReadyH.nil)
    rw [if_pos (by rfl)]
    refine wp_store_row 47 _ _ rfl (w.heap.size + 1 + 1) (rc S) rfl rfl 47 zz HR.out (by rw [rc_size]; exact inf_rz) (by rw [HZ.out, rc_size]) (all_rc S) ?_
    have hb' := setRow_heap W0 (w.heap.size + 1 + 1) zz (rc S) 47 _ HR.out
    have hc' := Chg.row (cs := rc S) HR.out
    have HX' := hide (HX.out.turn hc' (by simp; omega))
    have HB' := hide (HB.out.chg hc' (by simp; omega))
    have HE' := hide (HE.out.chg hc' (by simp))
    clear hc'
    generalize W0.setRow (w.heap.size + 1 + 1) (rc S) = w' at *
    (refine hK.out _ _ ?_ (fun hHeld => ?_))
    · exact ⟨rc_rng HB'.out, HE'.out.cell⟩
    (try simp only [Act.put, List.setIfInBounds_toArray, List.set_cons_zero, List.set_cons_succ])
    (refine held_take (i := 9) (v := ?_) rfl (by kernel_rfl) (by kernel_rfl) (by kernel_rfl) (fun _ _ _ h => h) (by rfl) ?_ (by assumption) ?_; rotate_left; (intro w hSw; (try dsimp only at hSw); (first | (go_simp; done) | (go_simp; with_reducible rfl))); (try simp only [Act.put, List.setIfInBounds_toArray, List.set_cons_zero, List.set_cons_succ]))
    refine wpAnyH_done (by kernel_rfl) ?_ _
    go_wp2_with fail
    refine bodyPost_ret (res_of Try.results44 _ _ rfl rfl hb') rfl ?_
    exact ⟨by rw [E.out, y1]; simp, HX'.out⟩
  · go_wp2_with fail
    clear re
    have HB := hide (HB.out.ext (Ext.drew W0))
    have HE := hide (HE.out.ext (Ext.drew W0))
    have HR := hide (HR.out.ext (Ext.drew W0))
    have HX := hide (HX.out.trans (Ext.drew W0))
    refine wp_region_held_drew (S := fun w' => w'.rangeAt w.heap.size 0 (rc S).toList ∧ (∀ i, w'.cell? ⟨w.heap.size + 1, i, none⟩ = #[Value.int .i64 9, .int .i64 (t : Int), .int .i64 (o : Int), .int .i64 a, .int .i64 9][i]?)) (by kernel_rfl) (by exact ⟨rc_rng HB.out, HE.out.cell⟩) (fun hHeld => ?_)
    generalize W0.drew = W0 at *
    refine wpAnyH_take (i := 0) (at_drop rfl) (by kernel_rfl) (by kernel_rfl) (by kernel_rfl) (fun _ _ _ h => h) (yieldsIf_load_mid (by rfl) 47 _ rfl w.heap.size 0 rfl (rc S).toList _ (fun w h => h.1) Try.underlying47 rfl (inf_rm S)) (by assumption) ?_
    rw [Array.toArray_toList]
    (try simp only [Act.put, List.setIfInBounds_toArray, List.set_cons_zero, List.set_cons_succ])
    (refine held_take (i := 1) (v := ?_) rfl (by kernel_rfl) (by kernel_rfl) (by kernel_rfl) (fun _ _ _ h => h) (by rfl) ?_ (by assumption) ?_; rotate_left; (intro w hSw; (try dsimp only at hSw); (first | (go_simp; done) | (go_simp; with_reducible rfl))); (try simp only [Act.put, List.setIfInBounds_toArray, List.set_cons_zero, List.set_cons_succ]))
    (refine held_take (i := 2) (v := ?_) rfl (by kernel_rfl) (by kernel_rfl) (by kernel_rfl) (fun _ _ _ h => h) (by rfl) ?_ (by assumption) ?_; rotate_left; (intro w hSw; (try dsimp only at hSw); (first | (go_simp; done) | (go_simp; with_reducible rfl))); (try simp only [Act.put, List.setIfInBounds_toArray, List.set_cons_zero, List.set_cons_succ]))
    (refine held_take (i := 3) (v := ?_) rfl (by kernel_rfl) (by kernel_rfl) (by kernel_rfl) (fun _ _ _ h => h) (by rfl) ?_ (by assumption) ?_; rotate_left; (intro w hSw; (try dsimp only at hSw); (first | (go_simp; done) | (go_simp; with_reducible rfl))); (try simp only [Act.put, List.setIfInBounds_toArray, List.set_cons_zero, List.set_cons_succ]))
    (refine held_skip (i := 4) rfl (by kernel_rfl) (by kernel_rfl) (by kernel_rfl) (fun _ _ _ h => h) (by rfl) (by assumption) ?_; (try simp only [Act.put, List.setIfInBounds_toArray, List.set_cons_zero, List.set_cons_succ]))
    (refine held_skip (i := 5) rfl (by kernel_rfl) (by kernel_rfl) (by kernel_rfl) (fun _ _ _ h => h) (by rfl) (by assumption) ?_; (try simp only [Act.put, List.setIfInBounds_toArray, List.set_cons_zero, List.set_cons_succ]))
    (refine held_skip (i := 6) rfl (by kernel_rfl) (by kernel_rfl) (by kernel_rfl) (fun _ _ _ h => h) (by rfl) (by assumption) ?_; (try simp only [Act.put, List.setIfInBounds_toArray, List.set_cons_zero, List.set_cons_succ]))
    (refine held_take (i := 7) (v := ?_) rfl (by kernel_rfl) (by kernel_rfl) (by kernel_rfl) (fun _ _ _ h => h) (by rfl) ?_ (by assumption) ?_; rotate_left; (intro w hSw; (try dsimp only at hSw); (first | (go_simp; done) | (go_simp; with_reducible rfl))); (try simp only [Act.put, List.setIfInBounds_toArray, List.set_cons_zero, List.set_cons_succ]))
    refine wpAnyH_ready (rs := [8]) (by kernel_rfl) (by simp) (held_cons rfl (fun K hK => ?_) AllReadyH.nil)
    rw [if_pos (by rfl)]
    refine wp_store_row 47 _ _ rfl (w.heap.size + 1 + 1) (rc S) rfl rfl 47 zz HR.out (by rw [rc_size]; exact inf_rz) (by rw [HZ.out, rc_size]) (all_rc S) ?_
    have hb' := setRow_heap W0 (w.heap.size + 1 + 1) zz (rc S) 47 _ HR.out
    have hc' := Chg.row (cs := rc S) HR.out
    have HX' := hide (HX.out.turn hc' (by simp; omega))
    have HB' := hide (HB.out.chg hc' (by simp; omega))
    have HE' := hide (HE.out.chg hc' (by simp))
    clear hc'
    generalize W0.setRow (w.heap.size + 1 + 1) (rc S) = w' at *
    (refine hK.out _ _ ?_ (fun hHeld => ?_))
    · exact ⟨rc_rng HB'.out, HE'.out.cell⟩
    (try simp only [Act.put, List.setIfInBounds_toArray, List.set_cons_zero, List.set_cons_succ])
    (refine held_take (i := 9) (v := ?_) rfl (by kernel_rfl) (by kernel_rfl) (by kernel_rfl) (fun _ _ _ h => h) (by rfl) ?_ (by assumption) ?_; rotate_left; (intro w hSw; (try dsimp only at hSw); (first | (go_simp; done) | (go_simp; with_reducible rfl))); (try simp only [Act.put, List.setIfInBounds_toArray, List.set_cons_zero, List.set_cons_succ]))
    refine wpAnyH_done (by kernel_rfl) ?_ _
    go_wp2_with fail
    refine bodyPost_ret (res_of Try.results44 _ _ rfl rfl hb') rfl ?_
    exact ⟨by rw [E.out, y1]; simp, HX'.out⟩
theorem rtell_8o {S : St} (ok : Ok S) {t o : Nat} (a r : Int) (ht : t < S.N) (ho : o < S.M) (h9 : (r == 9) = false) (h0 : (r == 0) = false) (w : World) :
    Calls Try.prog 44 #[.agg (rc S), (Value.agg #[Value.int .i64 8, .int .i64 (t : Int), .int .i64 (o : Int), .int .i64 a, .int .i64 r])] w fun e w' => e = .returned (.tuple #[.agg (rc S), .bool false]) ∧ Ext w w' := by
  have n1 := ok.n1
  have m1 := ok.m1
  have ho8 : o < 8 := by omega
  have ht8 : t < 8 := by omega
  have i8 : (o : Int) < 8 := by omega
  have j8 : (t : Int) < 8 := by omega
  obtain ⟨zz, hz1, hz2, hz3, hz4, -⟩ : ∃ zz : Array Value, (∀ w, (zeroValue 47).run Try.prog w = .ok (.agg zz) w) ∧ ¬ zz = #[] ∧ ¬ zz.size < 2 ∧ zz.size = 227 ∧ zz = zr := ⟨_, fun w => by kernel_rfl, by decide +kernel, by decide +kernel, by decide +kernel, rfl⟩
  have HZ := hide hz4
  clear hz4
  go_enter Try.func44, Try.ntmps44
  go_upto_region 1 with fail
  have HB := hide (((Blk.new w (rc S) 47).ext (Ext.alloc _ (.cells #[Value.int .i64 8, .int .i64 (t : Int), .int .i64 (o : Int), .int .i64 a, .int .i64 r] 29))).ext (Ext.alloc _ (.cells zz 47)))
  have HE := Blk.new (w.alloc (.cells (rc S) 47)) #[Value.int .i64 8, .int .i64 (t : Int), .int .i64 (o : Int), .int .i64 a, .int .i64 r] 29
  rw [World.size_alloc] at HE
  have HE := hide (HE.ext (Ext.alloc _ (.cells zz 47)))
  have HR := Blk.new ((w.alloc (.cells (rc S) 47)).alloc (.cells #[Value.int .i64 8, .int .i64 (t : Int), .int .i64 (o : Int), .int .i64 a, .int .i64 r] 29)) zz 47
  rw [World.size_alloc, World.size_alloc] at HR
  have HR := hide HR
  have HX := hide (((Ext.alloc w (.cells (rc S) 47)).trans (Ext.alloc _ (.cells #[Value.int .i64 8, .int .i64 (t : Int), .int .i64 (o : Int), .int .i64 a, .int .i64 r] 29))).trans (Ext.alloc _ (.cells zz 47)))
  generalize (((w.alloc (.cells (rc S) 47)).alloc (.cells #[Value.int .i64 8, .int .i64 (t : Int), .int .i64 (o : Int), .int .i64 a, .int .i64 r] 29)).alloc (.cells zz 47)) = W0 at *
  clear hz1 hz2 hz3
  have re := HE.out.cell
  go_upto_region 2 with fail
  have re := (HE.out.ext (Ext.drew W0)).cell
  have r1 : W0.drew.cell? ⟨w.heap.size, 3 + o, none⟩ = some (.int .i64 (S.own o + 1)) := by rw [(HB.out.ext (Ext.drew W0)).cell]; exact rc_own ho8
  generalize S.own o + 1 = y at *
  go_region
  clear re r1
  have HB := hide (HB.out.ext (Ext.drew W0))
  have HE := hide (HE.out.ext (Ext.drew W0))
  have HR := hide (HR.out.ext (Ext.drew W0))
  have HX := hide (HX.out.trans (Ext.drew W0))
  generalize W0.drew = W0 at *
  have re := HE.out.cell
  go_wp2_with first | (with_reducible refine wpList_get rfl _ rfl w.heap.size _ rfl HB.out ?_; go_frame) | (with_reducible refine wpList_put rfl _ _ rfl (w.heap.size + 1 + 1) S rfl rfl zz HR.out HZ.out ?_; intro w' hb' hc' hs'; have HX' := hide (HX.out.turn hc' (by simp; omega)); clear hc' hs'; go_frame) | go_in
  refine bodyPost_ret (res_of Try.results44 _ _ rfl rfl hb') rfl ?_
  exact ⟨by rfl, HX'.out⟩
theorem rtell_9o {S : St} (ok : Ok S) {t o : Nat} (a r : Int) (ht : t < S.N) (ho : o < S.M) (h9 : (r == 9) = false) (h0 : (r == 0) = false) (w : World) :
    Calls Try.prog 44 #[.agg (rc S), (Value.agg #[Value.int .i64 9, .int .i64 (t : Int), .int .i64 (o : Int), .int .i64 a, .int .i64 r])] w fun e w' => e = .returned (.tuple #[.agg (rc S), .bool false]) ∧ Ext w w' := by
  have n1 := ok.n1
  have m1 := ok.m1
  have ho8 : o < 8 := by omega
  have ht8 : t < 8 := by omega
  have i8 : (o : Int) < 8 := by omega
  have j8 : (t : Int) < 8 := by omega
  obtain ⟨zz, hz1, hz2, hz3, hz4, -⟩ : ∃ zz : Array Value, (∀ w, (zeroValue 47).run Try.prog w = .ok (.agg zz) w) ∧ ¬ zz = #[] ∧ ¬ zz.size < 2 ∧ zz.size = 227 ∧ zz = zr := ⟨_, fun w => by kernel_rfl, by decide +kernel, by decide +kernel, by decide +kernel, rfl⟩
  have HZ := hide hz4
  clear hz4
  go_enter Try.func44, Try.ntmps44
  go_upto_region 1 with fail
  have HB := hide (((Blk.new w (rc S) 47).ext (Ext.alloc _ (.cells #[Value.int .i64 9, .int .i64 (t : Int), .int .i64 (o : Int), .int .i64 a, .int .i64 r] 29))).ext (Ext.alloc _ (.cells zz 47)))
  have HE := Blk.new (w.alloc (.cells (rc S) 47)) #[Value.int .i64 9, .int .i64 (t : Int), .int .i64 (o : Int), .int .i64 a, .int .i64 r] 29
  rw [World.size_alloc] at HE
  have HE := hide (HE.ext (Ext.alloc _ (.cells zz 47)))
  have HR := Blk.new ((w.alloc (.cells (rc S) 47)).alloc (.cells #[Value.int .i64 9, .int .i64 (t : Int), .int .i64 (o : Int), .int .i64 a, .int .i64 r] 29)) zz 47
  rw [World.size_alloc, World.size_alloc] at HR
  have HR := hide HR
  have HX := hide (((Ext.alloc w (.cells (rc S) 47)).trans (Ext.alloc _ (.cells #[Value.int .i64 9, .int .i64 (t : Int), .int .i64 (o : Int), .int .i64 a, .int .i64 r] 29))).trans (Ext.alloc _ (.cells zz 47)))
  generalize (((w.alloc (.cells (rc S) 47)).alloc (.cells #[Value.int .i64 9, .int .i64 (t : Int), .int .i64 (o : Int), .int .i64 a, .int .i64 r] 29)).alloc (.cells zz 47)) = W0 at *
  clear hz1 hz2 hz3
  have re := HE.out.cell
  go_upto_region 2 with fail
  have re := (HE.out.ext (Ext.drew W0)).cell
  have r1 : W0.drew.cell? ⟨w.heap.size, 3 + o, none⟩ = some (.int .i64 (S.own o + 1)) := by rw [(HB.out.ext (Ext.drew W0)).cell]; exact rc_own ho8
  generalize S.own o + 1 = y at *
  go_region
  clear re r1
  have HB := hide (HB.out.ext (Ext.drew W0))
  have HE := hide (HE.out.ext (Ext.drew W0))
  have HR := hide (HR.out.ext (Ext.drew W0))
  have HX := hide (HX.out.trans (Ext.drew W0))
  generalize W0.drew = W0 at *
  have re := HE.out.cell
  go_wp2_with first | (with_reducible refine wpList_get rfl _ rfl w.heap.size _ rfl HB.out ?_; go_frame) | (with_reducible refine wpList_put rfl _ _ rfl (w.heap.size + 1 + 1) S rfl rfl zz HR.out HZ.out ?_; intro w' hb' hc' hs'; have HX' := hide (HX.out.turn hc' (by simp; omega)); clear hc' hs'; go_frame) | go_in
  refine bodyPost_ret (res_of Try.results44 _ _ rfl rfl hb') rfl ?_
  exact ⟨by rfl, HX'.out⟩
end Go.Proofs.Ytacneghgimfklaa

namespace Go.Proofs.Ytacneghgimfklaa
open Go.RowKit Go.Maps
set_option linter.unusedSimpArgs false
set_option linter.unusedVariables false
set_option maxRecDepth 100000
set_option maxHeartbeats 8000000



theorem rtell_90 {S : St} (ok : Ok S) {t o : Nat} (a : Int) (ht : t < S.N) (ho : o < S.M) {b : Bool} (E : Hid (b = (S.own o + 1 == (t : Int) + 1 && (a == 0 && noW S o)))) (w : World) :
    Calls Try.prog 44 #[.agg (rc S), (Value.agg #[Value.int .i64 9, .int .i64 (t : Int), .int .i64 (o : Int), .int .i64 a, .int .i64 0])] w fun e w' => e = .returned (.tuple #[.agg (rc S), .bool b]) ∧ Ext w w' := by
  have n1 := ok.n1
  have m1 := ok.m1
  have ho8 : o < 8 := by omega
  have ht8 : t < 8 := by omega
  have i8 : (o : Int) < 8 := by omega
  have j8 : (t : Int) < 8 := by omega
  obtain ⟨zz, hz1, hz2, hz3, hz4, -⟩ : ∃ zz : Array Value, (∀ w, (zeroValue 47).run Try.prog w = .ok (.agg zz) w) ∧ ¬ zz = #[] ∧ ¬ zz.size < 2 ∧ zz.size = 227 ∧ zz = zr := ⟨_, fun w => by kernel_rfl, by decide +kernel, by decide +kernel, by decide +kernel, rfl⟩
  have HZ := hide hz4
  clear hz4
  go_enter Try.func44, Try.ntmps44
  go_upto_region 1 with fail
  have HB := hide (((Blk.new w (rc S) 47).ext (Ext.alloc _ (.cells #[Value.int .i64 9, .int .i64 (t : Int), .int .i64 (o : Int), .int .i64 a, .int .i64 0] 29))).ext (Ext.alloc _ (.cells zz 47)))
  have HE := Blk.new (w.alloc (.cells (rc S) 47)) #[Value.int .i64 9, .int .i64 (t : Int), .int .i64 (o : Int), .int .i64 a, .int .i64 0] 29
  rw [World.size_alloc] at HE
  have HE := hide (HE.ext (Ext.alloc _ (.cells zz 47)))
  have HR := Blk.new ((w.alloc (.cells (rc S) 47)).alloc (.cells #[Value.int .i64 9, .int .i64 (t : Int), .int .i64 (o : Int), .int .i64 a, .int .i64 0] 29)) zz 47
  rw [World.size_alloc, World.size_alloc] at HR
  have HR := hide HR
  have HX := hide (((Ext.alloc w (.cells (rc S) 47)).trans (Ext.alloc _ (.cells #[Value.int .i64 9, .int .i64 (t : Int), .int .i64 (o : Int), .int .i64 a, .int .i64 0] 29))).trans (Ext.alloc _ (.cells zz 47)))
  generalize (((w.alloc (.cells (rc S) 47)).alloc (.cells #[Value.int .i64 9, .int .i64 (t : Int), .int .i64 (o : Int), .int .i64 a, .int .i64 0] 29)).alloc (.cells zz 47)) = W0 at *
  clear hz1 hz2 hz3
  have re := HE.out.cell
  go_upto_region 2 with fail
  have re := (HE.out.ext (Ext.drew W0)).cell
  have r1 : W0.drew.cell? ⟨w.heap.size, 3 + o, none⟩ = some (.int .i64 (S.own o + 1)) := by rw [(HB.out.ext (Ext.drew W0)).cell]; exact rc_own ho8
  generalize S.own o + 1 = y at *
  go_region
  clear re r1
  have HB := hide (HB.out.ext (Ext.drew W0))
  have HE := hide (HE.out.ext (Ext.drew W0))
  have HR := hide (HR.out.ext (Ext.drew W0))
  have HX := hide (HX.out.trans (Ext.drew W0))
  generalize W0.drew = W0 at *
  have re := HE.out.cell
  cases y1 : (y == (t : Int) + 1)
  · go_wp2_with fail
    clear re
    have HB := hide (HB.out.ext (Ext.drew W0))
    have HE := hide (HE.out.ext (Ext.drew W0))
    have HR := hide (HR.out.ext (Ext.drew W0))
    have HX := hide (HX.out.trans (Ext.drew W0))
    refine wp_region_held_drew (S := fun w' => w'.rangeAt w.heap.size 0 (rc S).toList ∧ (∀ i, w'.cell? ⟨w.heap.size + 1, i, none⟩ = #[Value.int .i64 9, .int .i64 (t : Int), .int .i64 (o : Int), .int .i64 a, .int .i64 0][i]?)) (by kernel_rfl) (by exact ⟨rc_rng HB.out, HE.out.cell⟩) (fun hHeld => ?_)
    generalize W0.drew = W0 at *
    refine wpAnyH_take (i := 0) (at_drop rfl) (by kernel_rfl) (by kernel_rfl) (by kernel_rfl) (fun _ _ _ h => h) (yieldsIf_load_mid (by rfl) 47 _ rfl w.heap.size 0 rfl (rc S).toList _ (fun w h => h.1) Try.underlying47 rfl (inf_rm S)) (by assumption) ?_
    rw [Array.toArray_toList]
    (try simp only [Act.put, List.setIfInBounds_toArray, List.set_cons_zero, List.set_cons_succ])
    (refine held_take (i := 1) (v := ?_) rfl (by kernel_rfl) (by kernel_rfl) (by kernel_rfl) (fun _ _ _ h => h) (by rfl) ?_ (by assumption) ?_; rotate_left; (intro w hSw; (try dsimp only at hSw); (first | (go_simp; done) | (go_simp; with_reducible rfl))); (try simp only [Act.put, List.setIfInBounds_toArray, List.set_cons_zero, List.set_cons_succ]))
    (refine held_take (i := 2) (v := ?_) rfl (by kernel_rfl) (by kernel_rfl) (by kernel_rfl) (fun _ _ _ h => h) (by rfl) ?_ (by assumption) ?_; rotate_left; (intro w hSw; (try dsimp only at hSw); (first | (go_simp; done) | (go_simp; with_reducible rfl))); (try simp only [Act.put, List.setIfInBounds_toArray, List.set_cons_zero, List.set_cons_succ]))
    (refine held_skip (i := 3) rfl (by kernel_rfl) (by kernel_rfl) (by kernel_rfl) (fun _ _ _ h => h) (by rfl) (by assumption) ?_; (try simp only [Act.put, List.setIfInBounds_toArray, List.set_cons_zero, List.set_cons_succ]))
    (refine held_skip (i := 4) rfl (by kernel_rfl) (by kernel_rfl) (by kernel_rfl) (fun _ _ _ h => h) (by rfl) (by assumption) ?_; (try simp only [Act.put, List.setIfInBounds_toArray, List.set_cons_zero, List.set_cons_succ]))
    (refine held_skip (i := 5) rfl (by kernel_rfl) (by kernel_rfl) (by kernel_rfl) (fun _ _ _ h => h) (by rfl) (by assumption) ?_; (try simp only [Act.put, List.setIfInBounds_toArray, List.set_cons_zero, List.set_cons_succ]))
    (refine held_take (i := 6) (v := ?_) rfl (by kernel_rfl) (by kernel_rfl) (by kernel_rfl) (fun _ _ _ h => h) (by rfl) ?_ (by assumption) ?_; rotate_left; (intro w hSw; (try dsimp only at hSw); (first | (go_simp; done) | (go_simp; with_reducible rfl))); (try simp only [Act.put, List.setIfInBounds_toArray, List.set_cons_zero, List.set_cons_succ]))
    (refine held_take (i := 7) (v := ?_) rfl (by kernel_rfl) (by kernel_rfl) (by kernel_rfl) (fun _ _ _ h => h) (by rfl) ?_ (by assumption) ?_; rotate_left; (intro w hSw; (try dsimp only at hSw); (first | (go_simp; done) | (go_simp; with_reducible rfl))); (try simp only [Act.put, List.setIfInBounds_toArray, List.set_cons_zero, List.set_cons_succ]))
    (refine held_skip (i := 8) rfl (by kernel_rfl) (by kernel_rfl) (by kernel_rfl) (fun _ _ _ h => h) (by rfl) (by assumption) ?_; (try simp only [Act.put, List.setIfInBounds_toArray, List.set_cons_zero, List.set_cons_succ]))
    (refine held_skip (i := 9) rfl (by kernel_rfl) (by kernel_rfl) (by kernel_rfl) (fun _ _ _ h => h) (by rfl) (by assumption) ?_; (try simp only [Act.put, List.setIfInBounds_toArray, List.set_cons_zero, List.set_cons_succ]))
    (refine held_skip (i := 10) rfl (by kernel_rfl) (by kernel_rfl) (by kernel_rfl) (fun _ _ _ h => h) (by rfl) (by assumption) ?_; (try simp only [Act.put, List.setIfInBounds_toArray, List.set_cons_zero, List.set_cons_succ]))
    (refine held_take (i := 11) (v := ?_) rfl (by kernel_rfl) (by kernel_rfl) (by kernel_rfl) (fun _ _ _ h => h) (by rfl) ?_ (by assumption) ?_; rotate_left; (intro w hSw; (try dsimp only at hSw); (first | (go_simp; done) | (go_simp; with_reducible rfl))); (try simp only [Act.put, List.setIfInBounds_toArray, List.set_cons_zero, List.set_cons_succ]))
    refine wpAnyH_ready (rs := [12]) (by kernel_rfl) (by simp) (held_cons rfl (fun K hK => ?_) AllReadyH.nil)
    rw [if_pos (by rfl)]
    refine wp_store_row 47 _ _ rfl (w.heap.size + 1 + 1) (rc S) rfl rfl 47 zz HR.out (by rw [rc_size]; exact inf_rz) (by rw [HZ.out, rc_size]) (all_rc S) ?_
    have hb' := setRow_heap W0 (w.heap.size + 1 + 1) zz (rc S) 47 _ HR.out
    have hc' := Chg.row (cs := rc S) HR.out
    have HX' := hide (HX.out.turn hc' (by simp; omega))
    have HB' := hide (HB.out.chg hc' (by simp; omega))
    have HE' := hide (HE.out.chg hc' (by simp))
    clear hc'
    generalize W0.setRow (w.heap.size + 1 + 1) (rc S) = w' at *
    (refine hK.out _ _ ?_ (fun hHeld => ?_))
    · exact ⟨rc_rng HB'.out, HE'.out.cell⟩
    (try simp only [Act.put, List.setIfInBounds_toArray, List.set_cons_zero, List.set_cons_succ])
    (refine held_take (i := 13) (v := ?_) rfl (by kernel_rfl) (by kernel_rfl) (by kernel_rfl) (fun _ _ _ h => h) (by rfl) ?_ (by assumption) ?_; rotate_left; (intro w hSw; (try dsimp only at hSw); (first | (go_simp; done) | (go_simp; with_reducible rfl))); (try simp only [Act.put, List.setIfInBounds_toArray, List.set_cons_zero, List.set_cons_succ]))
    refine wpAnyH_done (by kernel_rfl) ?_ _
    go_wp2_with fail
    refine bodyPost_ret (res_of Try.results44 _ _ rfl rfl hb') rfl ?_
    exact ⟨by rw [E.out, y1]; simp, HX'.out⟩
  · cases q : (a == 0)
    · go_wp2_with fail
      clear re
      have HB := hide (HB.out.ext (Ext.drew W0))
      have HE := hide (HE.out.ext (Ext.drew W0))
      have HR := hide (HR.out.ext (Ext.drew W0))
      have HX := hide (HX.out.trans (Ext.drew W0))
      refine wp_region_held_drew (S := fun w' => w'.rangeAt w.heap.size 0 (rc S).toList ∧ (∀ i, w'.cell? ⟨w.heap.size + 1, i, none⟩ = #[Value.int .i64 9, .int .i64 (t : Int), .int .i64 (o : Int), .int .i64 a, .int .i64 0][i]?)) (by kernel_rfl) (by exact ⟨rc_rng HB.out, HE.out.cell⟩) (fun hHeld => ?_)
      generalize W0.drew = W0 at *
      refine wpAnyH_take (i := 0) (at_drop rfl) (by kernel_rfl) (by kernel_rfl) (by kernel_rfl) (fun _ _ _ h => h) (yieldsIf_load_mid (by rfl) 47 _ rfl w.heap.size 0 rfl (rc S).toList _ (fun w h => h.1) Try.underlying47 rfl (inf_rm S)) (by assumption) ?_
      rw [Array.toArray_toList]
      (try simp only [Act.put, List.setIfInBounds_toArray, List.set_cons_zero, List.set_cons_succ])
      (refine held_take (i := 1) (v := ?_) rfl (by kernel_rfl) (by kernel_rfl) (by kernel_rfl) (fun _ _ _ h => h) (by rfl) ?_ (by assumption) ?_; rotate_left; (intro w hSw; (try dsimp only at hSw); (first | (go_simp; done) | (go_simp; with_reducible rfl))); (try simp only [Act.put, List.setIfInBounds_toArray, List.set_cons_zero, List.set_cons_succ]))
      (refine held_take (i := 2) (v := ?_) rfl (by kernel_rfl) (by kernel_rfl) (by kernel_rfl) (fun _ _ _ h => h) (by rfl) ?_ (by assumption) ?_; rotate_left; (intro w hSw; (try dsimp only at hSw); (first | (go_simp; done) | (go_simp; with_reducible rfl))); (try simp only [Act.put, List.setIfInBounds_toArray, List.set_cons_zero, List.set_cons_succ]))
      (refine held_take (i := 3) (v := ?_) rfl (by kernel_rfl) (by kernel_rfl) (by kernel_rfl) (fun _ _ _ h => h) (by rfl) ?_ (by assumption) ?_; rotate_left; (intro w hSw; (try dsimp only at hSw); (first | (go_simp; done) | (go_simp; with_reducible rfl))); (try simp only [Act.put, List.setIfInBounds_toArray, List.set_cons_zero, List.set_cons_succ]))
      (refine held_take (i := 4) (v := ?_) rfl (by kernel_rfl) (by kernel_rfl) (by kernel_rfl) (fun _ _ _ h => h) (by rfl) ?_ (by assumption) ?_; rotate_left; (intro w hSw; (try dsimp only at hSw); (first | (go_simp; done) | (go_simp; with_reducible rfl))); (try simp only [Act.put, List.setIfInBounds_toArray, List.set_cons_zero, List.set_cons_succ]))
      (refine held_take (i := 5) (v := ?_) rfl (by kernel_rfl) (by kernel_rfl) (by kernel_rfl) (fun _ _ _ h => h) (by rfl) ?_ (by assumption) ?_; rotate_left; (intro w hSw; (try dsimp only at hSw); (first | (go_simp; done) | (go_simp; with_reducible rfl))); (try simp only [Act.put, List.setIfInBounds_toArray, List.set_cons_zero, List.set_cons_succ]))
      (refine held_take (i := 6) (v := ?_) rfl (by kernel_rfl) (by kernel_rfl) (by kernel_rfl) (fun _ _ _ h => h) (by rfl) ?_ (by assumption) ?_; rotate_left; (intro w hSw; (try dsimp only at hSw); (first | (go_simp; done) | (go_simp; with_reducible rfl))); (try simp only [Act.put, List.setIfInBounds_toArray, List.set_cons_zero, List.set_cons_succ]))
      (refine held_take (i := 7) (v := ?_) rfl (by kernel_rfl) (by kernel_rfl) (by kernel_rfl) (fun _ _ _ h => h) (by rfl) ?_ (by assumption) ?_; rotate_left; (intro w hSw; (try dsimp only at hSw); (first | (go_simp; done) | (go_simp; with_reducible rfl))); (try simp only [Act.put, List.setIfInBounds_toArray, List.set_cons_zero, List.set_cons_succ]))
      (refine held_skip (i := 8) rfl (by kernel_rfl) (by kernel_rfl) (by kernel_rfl) (fun _ _ _ h => h) (by rfl) (by assumption) ?_; (try simp only [Act.put, List.setIfInBounds_toArray, List.set_cons_zero, List.set_cons_succ]))
      (refine held_skip (i := 9) rfl (by kernel_rfl) (by kernel_rfl) (by kernel_rfl) (fun _ _ _ h => h) (by rfl) (by assumption) ?_; (try simp only [Act.put, List.setIfInBounds_toArray, List.set_cons_zero, List.set_cons_succ]))
      (refine held_skip (i := 10) rfl (by kernel_rfl) (by kernel_rfl) (by kernel_rfl) (fun _ _ _ h => h) (by rfl) (by assumption) ?_; (try simp only [Act.put, List.setIfInBounds_toArray, List.set_cons_zero, List.set_cons_succ]))
      (refine held_take (i := 11) (v := ?_) rfl (by kernel_rfl) (by kernel_rfl) (by kernel_rfl) (fun _ _ _ h => h) (by rfl) ?_ (by assumption) ?_; rotate_left; (intro w hSw; (try dsimp only at hSw); (first | (go_simp; done) | (go_simp; with_reducible rfl))); (try simp only [Act.put, List.setIfInBounds_toArray, List.set_cons_zero, List.set_cons_succ]))
      refine wpAnyH_ready (rs := [12]) (by kernel_rfl) (by simp) (held_cons rfl (fun K hK => ?_) AllReadyH.nil)
      rw [if_pos (by rfl)]
      refine wp_store_row 47 _ _ rfl (w.heap.size + 1 + 1) (rc S) rfl rfl 47 zz HR.out (by rw [rc_size]; exact inf_rz) (by rw [HZ.out, rc_size]) (all_rc S) ?_
      have hb' := setRow_heap W0 (w.heap.size + 1 + 1) zz (rc S) 47 _ HR.out
      have hc' := Chg.row (cs := rc S) HR.out
      have HX' := hide (HX.out.turn hc' (by simp; omega))
      have HB' := hide (HB.out.chg hc' (by simp; omega))
      have HE' := hide (HE.out.chg hc' (by simp))
      clear hc'
      generalize W0.setRow (w.heap.size + 1 + 1) (rc S) = w' at *
      (refine hK.out _ _ ?_ (fun hHeld => ?_))
      · exact ⟨rc_rng HB'.out, HE'.out.cell⟩
      (try simp only [Act.put, List.setIfInBounds_toArray, List.set_cons_zero, List.set_cons_succ])
      (refine held_take (i := 13) (v := ?_) rfl (by kernel_rfl) (by kernel_rfl) (by kernel_rfl) (fun _ _ _ h => h) (by rfl) ?_ (by assumption) ?_; rotate_left; (intro w hSw; (try dsimp only at hSw); (first | (go_simp; done) | (go_simp; with_reducible rfl))); (try simp only [Act.put, List.setIfInBounds_toArray, List.set_cons_zero, List.set_cons_succ]))
      refine wpAnyH_done (by kernel_rfl) ?_ _
      go_wp2_with fail
      refine bodyPost_ret (res_of Try.results44 _ _ rfl rfl hb') rfl ?_
      exact ⟨by rw [E.out, y1, q]; simp, HX'.out⟩
    · go_wp2_with fail
      clear re
      have HB := hide (HB.out.ext (Ext.drew W0))
      have HE := hide (HE.out.ext (Ext.drew W0))
      have HR := hide (HR.out.ext (Ext.drew W0))
      have HX := hide (HX.out.trans (Ext.drew W0))
      refine wp_region_held_drew (S := fun w' => w'.rangeAt w.heap.size 0 (rc S).toList ∧ (∀ i, w'.cell? ⟨w.heap.size + 1, i, none⟩ = #[Value.int .i64 9, .int .i64 (t : Int), .int .i64 (o : Int), .int .i64 a, .int .i64 0][i]?)) (by kernel_rfl) (by exact ⟨rc_rng HB.out, HE.out.cell⟩) (fun hHeld => ?_)
      generalize W0.drew = W0 at *
      refine wpAnyH_take (i := 0) (at_drop rfl) (by kernel_rfl) (by kernel_rfl) (by kernel_rfl) (fun _ _ _ h => h) (yieldsIf_load_mid (by rfl) 47 _ rfl w.heap.size 0 rfl (rc S).toList _ (fun w h => h.1) Try.underlying47 rfl (inf_rm S)) (by assumption) ?_
      rw [Array.toArray_toList]
      (try simp only [Act.put, List.setIfInBounds_toArray, List.set_cons_zero, List.set_cons_succ])
      (refine held_take (i := 1) (v := ?_) rfl (by kernel_rfl) (by kernel_rfl) (by kernel_rfl) (fun _ _ _ h => h) (by rfl) ?_ (by assumption) ?_; rotate_left; (intro w hSw; (try dsimp only at hSw); (first | (go_simp; done) | (go_simp; with_reducible rfl))); (try simp only [Act.put, List.setIfInBounds_toArray, List.set_cons_zero, List.set_cons_succ]))
      (refine held_take (i := 2) (v := ?_) rfl (by kernel_rfl) (by kernel_rfl) (by kernel_rfl) (fun _ _ _ h => h) (by rfl) ?_ (by assumption) ?_; rotate_left; (intro w hSw; (try dsimp only at hSw); (first | (go_simp; done) | (go_simp; with_reducible rfl))); (try simp only [Act.put, List.setIfInBounds_toArray, List.set_cons_zero, List.set_cons_succ]))
      (refine held_take (i := 3) (v := ?_) rfl (by kernel_rfl) (by kernel_rfl) (by kernel_rfl) (fun _ _ _ h => h) (by rfl) ?_ (by assumption) ?_; rotate_left; (intro w hSw; (try dsimp only at hSw); (first | (go_simp; done) | (go_simp; with_reducible rfl))); (try simp only [Act.put, List.setIfInBounds_toArray, List.set_cons_zero, List.set_cons_succ]))
      (refine held_take (i := 4) (v := ?_) rfl (by kernel_rfl) (by kernel_rfl) (by kernel_rfl) (fun _ _ _ h => h) (by rfl) ?_ (by assumption) ?_; rotate_left; (intro w hSw; (try dsimp only at hSw); (first | (go_simp; done) | (go_simp; with_reducible rfl))); (try simp only [Act.put, List.setIfInBounds_toArray, List.set_cons_zero, List.set_cons_succ]))
      (refine held_take (i := 5) (v := ?_) rfl (by kernel_rfl) (by kernel_rfl) (by kernel_rfl) (fun _ _ _ h => h) (by rfl) ?_ (by assumption) ?_; rotate_left; (intro w hSw; (try dsimp only at hSw); (first | (go_simp; done) | (go_simp; with_reducible rfl))); (try simp only [Act.put, List.setIfInBounds_toArray, List.set_cons_zero, List.set_cons_succ]))
      (refine held_take (i := 6) (v := ?_) rfl (by kernel_rfl) (by kernel_rfl) (by kernel_rfl) (fun _ _ _ h => h) (by rfl) ?_ (by assumption) ?_; rotate_left; (intro w hSw; (try dsimp only at hSw); (first | (go_simp; done) | (go_simp; with_reducible rfl))); (try simp only [Act.put, List.setIfInBounds_toArray, List.set_cons_zero, List.set_cons_succ]))
      (refine held_take (i := 7) (v := ?_) rfl (by kernel_rfl) (by kernel_rfl) (by kernel_rfl) (fun _ _ _ h => h) (by rfl) ?_ (by assumption) ?_; rotate_left; (intro w hSw; (try dsimp only at hSw); (first | (go_simp; done) | (go_simp; with_reducible rfl))); (try simp only [Act.put, List.setIfInBounds_toArray, List.set_cons_zero, List.set_cons_succ]))
      refine wpAnyH_take (i := 8) (at_drop rfl) (by kernel_rfl) (by kernel_rfl) (by kernel_rfl) (fun _ _ _ h => h) (yieldsIf_load_mid (by rfl) 47 _ rfl w.heap.size 0 rfl (rc S).toList _ (fun w h => h.1) Try.underlying47 rfl (inf_rm S)) (by assumption) ?_
      rw [Array.toArray_toList]
      (try simp only [Act.put, List.setIfInBounds_toArray, List.set_cons_zero, List.set_cons_succ])
      (refine held_take (i := 9) (v := ?_) rfl (by kernel_rfl) (by kernel_rfl) (by kernel_rfl) (fun _ _ _ h => h) (by rfl) ?_ (by assumption) ?_; rotate_left; (intro w hSw; (try dsimp only at hSw); (first | (go_simp; done) | (go_simp; with_reducible rfl))); (try simp only [Act.put, List.setIfInBounds_toArray, List.set_cons_zero, List.set_cons_succ]))
      refine wpAnyH_ready (rs := [10]) (by kernel_rfl) (by simp) (held_cons rfl (fun K hK => ?_) AllReadyH.nil)
      go_simp
      refine (rnone_any ok ho W0).mono ?_
      rintro e w6 ⟨rfl, hx6⟩
      have HB := hide (HB.out.ext hx6)
      have HE := hide (HE.out.ext hx6)
      have HR := hide (HR.out.ext hx6)
      have HX := hide (HX.out.trans hx6)
      clear hx6
      generalize w6 = W0 at *
      (refine hK.out _ _ ?_ (fun hHeld => ?_))
      · exact ⟨rc_rng HB.out, HE.out.cell⟩
      (try simp only [Act.put, List.setIfInBounds_toArray, List.set_cons_zero, List.set_cons_succ])
      (refine held_take (i := 11) (v := ?_) rfl (by kernel_rfl) (by kernel_rfl) (by kernel_rfl) (fun _ _ _ h => h) (by rfl) ?_ (by assumption) ?_; rotate_left; (intro w hSw; (try dsimp only at hSw); (first | (go_simp; done) | (go_simp; with_reducible rfl))); (try simp only [Act.put, List.setIfInBounds_toArray, List.set_cons_zero, List.set_cons_succ]))
      refine wpAnyH_ready (rs := [12]) (by kernel_rfl) (by simp) (held_cons rfl (fun K hK => ?_) AllReadyH.nil)
      rw [if_pos (by rfl)]
      refine wp_store_row 47 _ _ rfl (w.heap.size + 1 + 1) (rc S) rfl rfl 47 zz HR.out (by rw [rc_size]; exact inf_rz) (by rw [HZ.out, rc_size]) (all_rc S) ?_
      have hb' := setRow_heap W0 (w.heap.size + 1 + 1) zz (rc S) 47 _ HR.out
      have hc' := Chg.row (cs := rc S) HR.out
      have HX' := hide (HX.out.turn hc' (by simp; omega))
      have HB' := hide (HB.out.chg hc' (by simp; omega))
      have HE' := hide (HE.out.chg hc' (by simp))
      clear hc'
      generalize W0.setRow (w.heap.size + 1 + 1) (rc S) = w' at *
      (refine hK.out _ _ ?_ (fun hHeld => ?_))
      · exact ⟨rc_rng HB'.out, HE'.out.cell⟩
      (try simp only [Act.put, List.setIfInBounds_toArray, List.set_cons_zero, List.set_cons_succ])
      (refine held_take (i := 13) (v := ?_) rfl (by kernel_rfl) (by kernel_rfl) (by kernel_rfl) (fun _ _ _ h => h) (by rfl) ?_ (by assumption) ?_; rotate_left; (intro w hSw; (try dsimp only at hSw); (first | (go_simp; done) | (go_simp; with_reducible rfl))); (try simp only [Act.put, List.setIfInBounds_toArray, List.set_cons_zero, List.set_cons_succ]))
      refine wpAnyH_done (by kernel_rfl) ?_ _
      go_wp2_with fail
      refine bodyPost_ret (res_of Try.results44 _ _ rfl rfl hb') rfl ?_
      exact ⟨by rw [E.out, y1, q]; simp, HX'.out⟩
theorem rtell_80 {S : St} (ok : Ok S) {t o : Nat} (a : Int) (ht : t < S.N) (ho : o < S.M) {b : Bool} (E : Hid (b = (S.own o + 1 == (t : Int) + 1 && (isT S a || (a == -1 && noW S o))))) (w : World) :
    Calls Try.prog 44 #[.agg (rc S), (Value.agg #[Value.int .i64 8, .int .i64 (t : Int), .int .i64 (o : Int), .int .i64 a, .int .i64 0])] w fun e w' => e = .returned (.tuple #[.agg (rc S), .bool b]) ∧ Ext w w' := by
  have n1 := ok.n1
  have m1 := ok.m1
  have ho8 : o < 8 := by omega
  have ht8 : t < 8 := by omega
  have i8 : (o : Int) < 8 := by omega
  have j8 : (t : Int) < 8 := by omega
  obtain ⟨zz, hz1, hz2, hz3, hz4, -⟩ : ∃ zz : Array Value, (∀ w, (zeroValue 47).run Try.prog w = .ok (.agg zz) w) ∧ ¬ zz = #[] ∧ ¬ zz.size < 2 ∧ zz.size = 227 ∧ zz = zr := ⟨_, fun w => by kernel_rfl, by decide +kernel, by decide +kernel, by decide +kernel, rfl⟩
  have HZ := hide hz4
  clear hz4
  go_enter Try.func44, Try.ntmps44
  go_upto_region 1 with fail
  have HB := hide (((Blk.new w (rc S) 47).ext (Ext.alloc _ (.cells #[Value.int .i64 8, .int .i64 (t : Int), .int .i64 (o : Int), .int .i64 a, .int .i64 0] 29))).ext (Ext.alloc _ (.cells zz 47)))
  have HE := Blk.new (w.alloc (.cells (rc S) 47)) #[Value.int .i64 8, .int .i64 (t : Int), .int .i64 (o : Int), .int .i64 a, .int .i64 0] 29
  rw [World.size_alloc] at HE
  have HE := hide (HE.ext (Ext.alloc _ (.cells zz 47)))
  have HR := Blk.new ((w.alloc (.cells (rc S) 47)).alloc (.cells #[Value.int .i64 8, .int .i64 (t : Int), .int .i64 (o : Int), .int .i64 a, .int .i64 0] 29)) zz 47
  rw [World.size_alloc, World.size_alloc] at HR
  have HR := hide HR
  have HX := hide (((Ext.alloc w (.cells (rc S) 47)).trans (Ext.alloc _ (.cells #[Value.int .i64 8, .int .i64 (t : Int), .int .i64 (o : Int), .int .i64 a, .int .i64 0] 29))).trans (Ext.alloc _ (.cells zz 47)))
  generalize (((w.alloc (.cells (rc S) 47)).alloc (.cells #[Value.int .i64 8, .int .i64 (t : Int), .int .i64 (o : Int), .int .i64 a, .int .i64 0] 29)).alloc (.cells zz 47)) = W0 at *
  clear hz1 hz2 hz3
  have re := HE.out.cell
  go_upto_region 2 with fail
  have re := (HE.out.ext (Ext.drew W0)).cell
  have r1 : W0.drew.cell? ⟨w.heap.size, 3 + o, none⟩ = some (.int .i64 (S.own o + 1)) := by rw [(HB.out.ext (Ext.drew W0)).cell]; exact rc_own ho8
  generalize S.own o + 1 = y at *
  go_region
  clear re r1
  have HB := hide (HB.out.ext (Ext.drew W0))
  have HE := hide (HE.out.ext (Ext.drew W0))
  have HR := hide (HR.out.ext (Ext.drew W0))
  have HX := hide (HX.out.trans (Ext.drew W0))
  generalize W0.drew = W0 at *
  have re := HE.out.cell
  have CI := fun w => ris_any S a w
  cases y1 : (y == (t : Int) + 1)
  · go_wp2_with fail
    clear re
    have HB := hide (HB.out.ext (Ext.drew W0))
    have HE := hide (HE.out.ext (Ext.drew W0))
    have HR := hide (HR.out.ext (Ext.drew W0))
    have HX := hide (HX.out.trans (Ext.drew W0))
    refine wp_region_held_drew (S := fun w' => w'.rangeAt w.heap.size 0 (rc S).toList ∧ (∀ i, w'.cell? ⟨w.heap.size + 1, i, none⟩ = #[Value.int .i64 8, .int .i64 (t : Int), .int .i64 (o : Int), .int .i64 a, .int .i64 0][i]?)) (by kernel_rfl) (by exact ⟨rc_rng HB.out, HE.out.cell⟩) (fun hHeld => ?_)
    generalize W0.drew = W0 at *
    refine wpAnyH_take (i := 0) (at_drop rfl) (by kernel_rfl) (by kernel_rfl) (by kernel_rfl) (fun _ _ _ h => h) (yieldsIf_load_mid (by rfl) 47 _ rfl w.heap.size 0 rfl (rc S).toList _ (fun w h => h.1) Try.underlying47 rfl (inf_rm S)) (by assumption) ?_
    rw [Array.toArray_toList]
    (try simp only [Act.put, List.setIfInBounds_toArray, List.set_cons_zero, List.set_cons_succ])
    (refine held_take (i := 1) (v := ?_) rfl (by kernel_rfl) (by kernel_rfl) (by kernel_rfl) (fun _ _ _ h => h) (by rfl) ?_ (by assumption) ?_; rotate_left; (intro w hSw; (try dsimp only at hSw); (first | (go_simp; done) | (go_simp; with_reducible rfl))); (try simp only [Act.put, List.setIfInBounds_toArray, List.set_cons_zero, List.set_cons_succ]))
    (refine held_take (i := 2) (v := ?_) rfl (by kernel_rfl) (by kernel_rfl) (by kernel_rfl) (fun _ _ _ h => h) (by rfl) ?_ (by assumption) ?_; rotate_left; (intro w hSw; (try dsimp only at hSw); (first | (go_simp; done) | (go_simp; with_reducible rfl))); (try simp only [Act.put, List.setIfInBounds_toArray, List.set_cons_zero, List.set_cons_succ]))
    (refine held_skip (i := 3) rfl (by kernel_rfl) (by kernel_rfl) (by kernel_rfl) (fun _ _ _ h => h) (by rfl) (by assumption) ?_; (try simp only [Act.put, List.setIfInBounds_toArray, List.set_cons_zero, List.set_cons_succ]))
    (refine held_skip (i := 4) rfl (by kernel_rfl) (by kernel_rfl) (by kernel_rfl) (fun _ _ _ h => h) (by rfl) (by assumption) ?_; (try simp only [Act.put, List.setIfInBounds_toArray, List.set_cons_zero, List.set_cons_succ]))
    (refine held_skip (i := 5) rfl (by kernel_rfl) (by kernel_rfl) (by kernel_rfl) (fun _ _ _ h => h) (by rfl) (by assumption) ?_; (try simp only [Act.put, List.setIfInBounds_toArray, List.set_cons_zero, List.set_cons_succ]))
    (refine held_skip (i := 6) rfl (by kernel_rfl) (by kernel_rfl) (by kernel_rfl) (fun _ _ _ h => h) (by rfl) (by assumption) ?_; (try simp only [Act.put, List.setIfInBounds_toArray, List.set_cons_zero, List.set_cons_succ]))
    (refine held_skip (i := 7) rfl (by kernel_rfl) (by kernel_rfl) (by kernel_rfl) (fun _ _ _ h => h) (by rfl) (by assumption) ?_; (try simp only [Act.put, List.setIfInBounds_toArray, List.set_cons_zero, List.set_cons_succ]))
    (refine held_skip (i := 8) rfl (by kernel_rfl) (by kernel_rfl) (by kernel_rfl) (fun _ _ _ h => h) (by rfl) (by assumption) ?_; (try simp only [Act.put, List.setIfInBounds_toArray, List.set_cons_zero, List.set_cons_succ]))
    (refine held_skip (i := 9) rfl (by kernel_rfl) (by kernel_rfl) (by kernel_rfl) (fun _ _ _ h => h) (by rfl) (by assumption) ?_; (try simp only [Act.put, List.setIfInBounds_toArray, List.set_cons_zero, List.set_cons_succ]))
    (refine held_skip (i := 10) rfl (by kernel_rfl) (by kernel_rfl) (by kernel_rfl) (fun _ _ _ h => h) (by rfl) (by assumption) ?_; (try simp only [Act.put, List.setIfInBounds_toArray, List.set_cons_zero, List.set_cons_succ]))
    (refine held_skip (i := 11) rfl (by kernel_rfl) (by kernel_rfl) (by kernel_rfl) (fun _ _ _ h => h) (by rfl) (by assumption) ?_; (try simp only [Act.put, List.setIfInBounds_toArray, List.set_cons_zero, List.set_cons_succ]))
    (refine held_skip (i := 12) rfl (by kernel_rfl) (by kernel_rfl) (by kernel_rfl) (fun _ _ _ h => h) (by rfl) (by assumption) ?_; (try simp only [Act.put, List.setIfInBounds_toArray, List.set_cons_zero, List.set_cons_succ]))
    (refine held_skip (i := 13) rfl (by kernel_rfl) (by kernel_rfl) (by kernel_rfl) (fun _ _ _ h => h) (by rfl) (by assumption) ?_; (try simp only [Act.put, List.setIfInBounds_toArray, List.set_cons_zero, List.set_cons_succ]))
    (refine held_skip (i := 14) rfl (by kernel_rfl) (by kernel_rfl) (by kernel_rfl) (fun _ _ _ h => h) (by rfl) (by assumption) ?_; (try simp only [Act.put, List.setIfInBounds_toArray, List.set_cons_zero, List.set_cons_succ]))
    (refine held_skip (i := 15) rfl (by kernel_rfl) (by kernel_rfl) (by kernel_rfl) (fun _ _ _ h => h) (by rfl) (by assumption) ?_; (try simp only [Act.put, List.setIfInBounds_toArray, List.set_cons_zero, List.set_cons_succ]))
    (refine held_skip (i := 16) rfl (by kernel_rfl) (by kernel_rfl) (by kernel_rfl) (fun _ _ _ h => h) (by rfl) (by assumption) ?_; (try simp only [Act.put, List.setIfInBounds_toArray, List.set_cons_zero, List.set_cons_succ]))
    (refine held_take (i := 17) (v := ?_) rfl (by kernel_rfl) (by kernel_rfl) (by kernel_rfl) (fun _ _ _ h => h) (by rfl) ?_ (by assumption) ?_; rotate_left; (intro w hSw; (try dsimp only at hSw); (first | (go_simp; done) | (go_simp; with_reducible rfl))); (try simp only [Act.put, List.setIfInBounds_toArray, List.set_cons_zero, List.set_cons_succ]))
    refine wpAnyH_ready (rs := [18]) (by kernel_rfl) (by simp) (held_cons rfl (fun K hK => ?_) AllReadyH.nil)
    rw [if_pos (by rfl)]
    refine wp_store_row 47 _ _ rfl (w.heap.size + 1 + 1) (rc S) rfl rfl 47 zz HR.out (by rw [rc_size]; exact inf_rz) (by rw [HZ.out, rc_size]) (all_rc S) ?_
    have hb' := setRow_heap W0 (w.heap.size + 1 + 1) zz (rc S) 47 _ HR.out
    have hc' := Chg.row (cs := rc S) HR.out
    have HX' := hide (HX.out.turn hc' (by simp; omega))
    have HB' := hide (HB.out.chg hc' (by simp; omega))
    have HE' := hide (HE.out.chg hc' (by simp))
    clear hc'
    generalize W0.setRow (w.heap.size + 1 + 1) (rc S) = w' at *
    (refine hK.out _ _ ?_ (fun hHeld => ?_))
    · exact ⟨rc_rng HB'.out, HE'.out.cell⟩
    (try simp only [Act.put, List.setIfInBounds_toArray, List.set_cons_zero, List.set_cons_succ])
    (refine held_take (i := 19) (v := ?_) rfl (by kernel_rfl) (by kernel_rfl) (by kernel_rfl) (fun _ _ _ h => h) (by rfl) ?_ (by assumption) ?_; rotate_left; (intro w hSw; (try dsimp only at hSw); (first | (go_simp; done) | (go_simp; with_reducible rfl))); (try simp only [Act.put, List.setIfInBounds_toArray, List.set_cons_zero, List.set_cons_succ]))
    refine wpAnyH_done (by kernel_rfl) ?_ _
    go_wp2_with fail
    refine bodyPost_ret (res_of Try.results44 _ _ rfl rfl hb') rfl ?_
    exact ⟨by rw [E.out, y1]; simp, HX'.out⟩
  · cases q : isT S a
    · rw [q] at CI E
      cases q2 : (a == -1)
      · go_wp2_with fail
        clear re
        have HB := hide (HB.out.ext (Ext.drew W0))
        have HE := hide (HE.out.ext (Ext.drew W0))
        have HR := hide (HR.out.ext (Ext.drew W0))
        have HX := hide (HX.out.trans (Ext.drew W0))
        refine wp_region_held_drew (S := fun w' => w'.rangeAt w.heap.size 0 (rc S).toList ∧ (∀ i, w'.cell? ⟨w.heap.size + 1, i, none⟩ = #[Value.int .i64 8, .int .i64 (t : Int), .int .i64 (o : Int), .int .i64 a, .int .i64 0][i]?)) (by kernel_rfl) (by exact ⟨rc_rng HB.out, HE.out.cell⟩) (fun hHeld => ?_)
        generalize W0.drew = W0 at *
        refine wpAnyH_take (i := 0) (at_drop rfl) (by kernel_rfl) (by kernel_rfl) (by kernel_rfl) (fun _ _ _ h => h) (yieldsIf_load_mid (by rfl) 47 _ rfl w.heap.size 0 rfl (rc S).toList _ (fun w h => h.1) Try.underlying47 rfl (inf_rm S)) (by assumption) ?_
        rw [Array.toArray_toList]
        (try simp only [Act.put, List.setIfInBounds_toArray, List.set_cons_zero, List.set_cons_succ])
        (refine held_take (i := 1) (v := ?_) rfl (by kernel_rfl) (by kernel_rfl) (by kernel_rfl) (fun _ _ _ h => h) (by rfl) ?_ (by assumption) ?_; rotate_left; (intro w hSw; (try dsimp only at hSw); (first | (go_simp; done) | (go_simp; with_reducible rfl))); (try simp only [Act.put, List.setIfInBounds_toArray, List.set_cons_zero, List.set_cons_succ]))
        (refine held_take (i := 2) (v := ?_) rfl (by kernel_rfl) (by kernel_rfl) (by kernel_rfl) (fun _ _ _ h => h) (by rfl) ?_ (by assumption) ?_; rotate_left; (intro w hSw; (try dsimp only at hSw); (first | (go_simp; done) | (go_simp; with_reducible rfl))); (try simp only [Act.put, List.setIfInBounds_toArray, List.set_cons_zero, List.set_cons_succ]))
        refine wpAnyH_take (i := 3) (at_drop rfl) (by kernel_rfl) (by kernel_rfl) (by kernel_rfl) (fun _ _ _ h => h) (yieldsIf_load_mid (by rfl) 47 _ rfl w.heap.size 0 rfl (rc S).toList _ (fun w h => h.1) Try.underlying47 rfl (inf_rm S)) (by assumption) ?_
        rw [Array.toArray_toList]
        (try simp only [Act.put, List.setIfInBounds_toArray, List.set_cons_zero, List.set_cons_succ])
        (refine held_take (i := 4) (v := ?_) rfl (by kernel_rfl) (by kernel_rfl) (by kernel_rfl) (fun _ _ _ h => h) (by rfl) ?_ (by assumption) ?_; rotate_left; (intro w hSw; (try dsimp only at hSw); (first | (go_simp; done) | (go_simp; with_reducible rfl))); (try simp only [Act.put, List.setIfInBounds_toArray, List.set_cons_zero, List.set_cons_succ]))
        (refine held_take (i := 5) (v := ?_) rfl (by kernel_rfl) (by kernel_rfl) (by kernel_rfl) (fun _ _ _ h => h) (by rfl) ?_ (by assumption) ?_; rotate_left; (intro w hSw; (try dsimp only at hSw); (first | (go_simp; done) | (go_simp; with_reducible rfl))); (try simp only [Act.put, List.setIfInBounds_toArray, List.set_cons_zero, List.set_cons_succ]))
        refine wpAnyH_ready (rs := [6]) (by kernel_rfl) (by simp) (held_cons rfl (fun K hK => ?_) AllReadyH.nil)
        go_simp
        refine (CI W0).mono ?_
        rintro e w5 ⟨rfl, hx5⟩
        have HB := hide (HB.out.ext hx5)
        have HE := hide (HE.out.ext hx5)
        have HR := hide (HR.out.ext hx5)
        have HX := hide (HX.out.trans hx5)
        clear hx5
        generalize w5 = W0 at *
        (refine hK.out _ _ ?_ (fun hHeld => ?_))
        · exact ⟨rc_rng HB.out, HE.out.cell⟩
        (try simp only [Act.put, List.setIfInBounds_toArray, List.set_cons_zero, List.set_cons_succ])
        (refine held_take (i := 7) (v := ?_) rfl (by kernel_rfl) (by kernel_rfl) (by kernel_rfl) (fun _ _ _ h => h) (by rfl) ?_ (by assumption) ?_; rotate_left; (intro w hSw; (try dsimp only at hSw); (first | (go_simp; done) | (go_simp; with_reducible rfl))); (try simp only [Act.put, List.setIfInBounds_toArray, List.set_cons_zero, List.set_cons_succ]))
        (refine held_take (i := 8) (v := ?_) rfl (by kernel_rfl) (by kernel_rfl) (by kernel_rfl) (fun _ _ _ h => h) (by rfl) ?_ (by assumption) ?_; rotate_left; (intro w hSw; (try dsimp only at hSw); (first | (go_simp; done) | (go_simp; with_reducible rfl))); (try simp only [Act.put, List.setIfInBounds_toArray, List.set_cons_zero, List.set_cons_succ]))
        (refine held_take (i := 9) (v := ?_) rfl (by kernel_rfl) (by kernel_rfl) (by kernel_rfl) (fun _ _ _ h => h) (by rfl) ?_ (by assumption) ?_; rotate_left; (intro w hSw; (try dsimp only at hSw); (first | (go_simp; done) | (go_simp; with_reducible rfl))); (try simp only [Act.put, List.setIfInBounds_toArray, List.set_cons_zero, List.set_cons_succ]))
        (refine held_take (i := 10) (v := ?_) rfl (by kernel_rfl) (by kernel_rfl) (by kernel_rfl) (fun _ _ _ h => h) (by rfl) ?_ (by assumption) ?_; rotate_left; (intro w hSw; (try dsimp only at hSw); (first | (go_simp; done) | (go_simp; with_reducible rfl))); (try simp only [Act.put, List.setIfInBounds_toArray, List.set_cons_zero, List.set_cons_succ]))
        (refine held_take (i := 11) (v := ?_) rfl (by kernel_rfl) (by kernel_rfl) (by kernel_rfl) (fun _ _ _ h => h) (by rfl) ?_ (by assumption) ?_; rotate_left; (intro w hSw; (try dsimp only at hSw); (first | (go_simp; done) | (go_simp; with_reducible rfl))); (try simp only [Act.put, List.setIfInBounds_toArray, List.set_cons_zero, List.set_cons_succ]))
        (refine held_skip (i := 12) rfl (by kernel_rfl) (by kernel_rfl) (by kernel_rfl) (fun _ _ _ h => h) (by rfl) (by assumption) ?_; (try simp only [Act.put, List.setIfInBounds_toArray, List.set_cons_zero, List.set_cons_succ]))
        (refine held_skip (i := 13) rfl (by kernel_rfl) (by kernel_rfl) (by kernel_rfl) (fun _ _ _ h => h) (by rfl) (by assumption) ?_; (try simp only [Act.put, List.setIfInBounds_toArray, List.set_cons_zero, List.set_cons_succ]))
        (refine held_skip (i := 14) rfl (by kernel_rfl) (by kernel_rfl) (by kernel_rfl) (fun _ _ _ h => h) (by rfl) (by assumption) ?_; (try simp only [Act.put, List.setIfInBounds_toArray, List.set_cons_zero, List.set_cons_succ]))
        (refine held_take (i := 15) (v := ?_) rfl (by kernel_rfl) (by kernel_rfl) (by kernel_rfl) (fun _ _ _ h => h) (by rfl) ?_ (by assumption) ?_; rotate_left; (intro w hSw; (try dsimp only at hSw); (first | (go_simp; done) | (go_simp; with_reducible rfl))); (try simp only [Act.put, List.setIfInBounds_toArray, List.set_cons_zero, List.set_cons_succ]))
        (refine held_take (i := 16) (v := ?_) rfl (by kernel_rfl) (by kernel_rfl) (by kernel_rfl) (fun _ _ _ h => h) (by rfl) ?_ (by assumption) ?_; rotate_left; (intro w hSw; (try dsimp only at hSw); (first | (go_simp; done) | (go_simp; with_reducible rfl))); (try simp only [Act.put, List.setIfInBounds_toArray, List.set_cons_zero, List.set_cons_succ]))
        (refine held_take (i := 17) (v := ?_) rfl (by kernel_rfl) (by kernel_rfl) (by kernel_rfl) (fun _ _ _ h => h) (by rfl) ?_ (by assumption) ?_; rotate_left; (intro w hSw; (try dsimp only at hSw); (first | (go_simp; done) | (go_simp; with_reducible rfl))); (try simp only [Act.put, List.setIfInBounds_toArray, List.set_cons_zero, List.set_cons_succ]))
        refine wpAnyH_ready (rs := [18]) (by kernel_rfl) (by simp) (held_cons rfl (fun K hK => ?_) AllReadyH.nil)
        rw [if_pos (by rfl)]
        refine wp_store_row 47 _ _ rfl (w.heap.size + 1 + 1) (rc S) rfl rfl 47 zz HR.out (by rw [rc_size]; exact inf_rz) (by rw [HZ.out, rc_size]) (all_rc S) ?_
        have hb' := setRow_heap W0 (w.heap.size + 1 + 1) zz (rc S) 47 _ HR.out
        have hc' := Chg.row (cs := rc S) HR.out
        have HX' := hide (HX.out.turn hc' (by simp; omega))
        have HB' := hide (HB.out.chg hc' (by simp; omega))
        have HE' := hide (HE.out.chg hc' (by simp))
        clear hc'
        generalize W0.setRow (w.heap.size + 1 + 1) (rc S) = w' at *
        (refine hK.out _ _ ?_ (fun hHeld => ?_))
        · exact ⟨rc_rng HB'.out, HE'.out.cell⟩
        (try simp only [Act.put, List.setIfInBounds_toArray, List.set_cons_zero, List.set_cons_succ])
        (refine held_take (i := 19) (v := ?_) rfl (by kernel_rfl) (by kernel_rfl) (by kernel_rfl) (fun _ _ _ h => h) (by rfl) ?_ (by assumption) ?_; rotate_left; (intro w hSw; (try dsimp only at hSw); (first | (go_simp; done) | (go_simp; with_reducible rfl))); (try simp only [Act.put, List.setIfInBounds_toArray, List.set_cons_zero, List.set_cons_succ]))
        refine wpAnyH_done (by kernel_rfl) ?_ _
        go_wp2_with fail
        refine bodyPost_ret (res_of Try.results44 _ _ rfl rfl hb') rfl ?_
        exact ⟨by rw [E.out, y1, q2]; simp, HX'.out⟩
      · go_wp2_with fail
        clear re
        have HB := hide (HB.out.ext (Ext.drew W0))
        have HE := hide (HE.out.ext (Ext.drew W0))
        have HR := hide (HR.out.ext (Ext.drew W0))
        have HX := hide (HX.out.trans (Ext.drew W0))
        refine wp_region_held_drew (S := fun w' => w'.rangeAt w.heap.size 0 (rc S).toList ∧ (∀ i, w'.cell? ⟨w.heap.size + 1, i, none⟩ = #[Value.int .i64 8, .int .i64 (t : Int), .int .i64 (o : Int), .int .i64 a, .int .i64 0][i]?)) (by kernel_rfl) (by exact ⟨rc_rng HB.out, HE.out.cell⟩) (fun hHeld => ?_)
        generalize W0.drew = W0 at *
        refine wpAnyH_take (i := 0) (at_drop rfl) (by kernel_rfl) (by kernel_rfl) (by kernel_rfl) (fun _ _ _ h => h) (yieldsIf_load_mid (by rfl) 47 _ rfl w.heap.size 0 rfl (rc S).toList _ (fun w h => h.1) Try.underlying47 rfl (inf_rm S)) (by assumption) ?_
        rw [Array.toArray_toList]
        (try simp only [Act.put, List.setIfInBounds_toArray, List.set_cons_zero, List.set_cons_succ])
        (refine held_take (i := 1) (v := ?_) rfl (by kernel_rfl) (by kernel_rfl) (by kernel_rfl) (fun _ _ _ h => h) (by rfl) ?_ (by assumption) ?_; rotate_left; (intro w hSw; (try dsimp only at hSw); (first | (go_simp; done) | (go_simp; with_reducible rfl))); (try simp only [Act.put, List.setIfInBounds_toArray, List.set_cons_zero, List.set_cons_succ]))
        (refine held_take (i := 2) (v := ?_) rfl (by kernel_rfl) (by kernel_rfl) (by kernel_rfl) (fun _ _ _ h => h) (by rfl) ?_ (by assumption) ?_; rotate_left; (intro w hSw; (try dsimp only at hSw); (first | (go_simp; done) | (go_simp; with_reducible rfl))); (try simp only [Act.put, List.setIfInBounds_toArray, List.set_cons_zero, List.set_cons_succ]))
        refine wpAnyH_take (i := 3) (at_drop rfl) (by kernel_rfl) (by kernel_rfl) (by kernel_rfl) (fun _ _ _ h => h) (yieldsIf_load_mid (by rfl) 47 _ rfl w.heap.size 0 rfl (rc S).toList _ (fun w h => h.1) Try.underlying47 rfl (inf_rm S)) (by assumption) ?_
        rw [Array.toArray_toList]
        (try simp only [Act.put, List.setIfInBounds_toArray, List.set_cons_zero, List.set_cons_succ])
        (refine held_take (i := 4) (v := ?_) rfl (by kernel_rfl) (by kernel_rfl) (by kernel_rfl) (fun _ _ _ h => h) (by rfl) ?_ (by assumption) ?_; rotate_left; (intro w hSw; (try dsimp only at hSw); (first | (go_simp; done) | (go_simp; with_reducible rfl))); (try simp only [Act.put, List.setIfInBounds_toArray, List.set_cons_zero, List.set_cons_succ]))
        (refine held_take (i := 5) (v := ?_) rfl (by kernel_rfl) (by kernel_rfl) (by kernel_rfl) (fun _ _ _ h => h) (by rfl) ?_ (by assumption) ?_; rotate_left; (intro w hSw; (try dsimp only at hSw); (first | (go_simp; done) | (go_simp; with_reducible rfl))); (try simp only [Act.put, List.setIfInBounds_toArray, List.set_cons_zero, List.set_cons_succ]))
        refine wpAnyH_ready (rs := [6]) (by kernel_rfl) (by simp) (held_cons rfl (fun K hK => ?_) AllReadyH.nil)
        go_simp
        refine (CI W0).mono ?_
        rintro e w5 ⟨rfl, hx5⟩
        have HB := hide (HB.out.ext hx5)
        have HE := hide (HE.out.ext hx5)
        have HR := hide (HR.out.ext hx5)
        have HX := hide (HX.out.trans hx5)
        clear hx5
        generalize w5 = W0 at *
        (refine hK.out _ _ ?_ (fun hHeld => ?_))
        · exact ⟨rc_rng HB.out, HE.out.cell⟩
        (try simp only [Act.put, List.setIfInBounds_toArray, List.set_cons_zero, List.set_cons_succ])
        (refine held_take (i := 7) (v := ?_) rfl (by kernel_rfl) (by kernel_rfl) (by kernel_rfl) (fun _ _ _ h => h) (by rfl) ?_ (by assumption) ?_; rotate_left; (intro w hSw; (try dsimp only at hSw); (first | (go_simp; done) | (go_simp; with_reducible rfl))); (try simp only [Act.put, List.setIfInBounds_toArray, List.set_cons_zero, List.set_cons_succ]))
        (refine held_take (i := 8) (v := ?_) rfl (by kernel_rfl) (by kernel_rfl) (by kernel_rfl) (fun _ _ _ h => h) (by rfl) ?_ (by assumption) ?_; rotate_left; (intro w hSw; (try dsimp only at hSw); (first | (go_simp; done) | (go_simp; with_reducible rfl))); (try simp only [Act.put, List.setIfInBounds_toArray, List.set_cons_zero, List.set_cons_succ]))
        (refine held_take (i := 9) (v := ?_) rfl (by kernel_rfl) (by kernel_rfl) (by kernel_rfl) (fun _ _ _ h => h) (by rfl) ?_ (by assumption) ?_; rotate_left; (intro w hSw; (try dsimp only at hSw); (first | (go_simp; done) | (go_simp; with_reducible rfl))); (try simp only [Act.put, List.setIfInBounds_toArray, List.set_cons_zero, List.set_cons_succ]))
        (refine held_take (i := 10) (v := ?_) rfl (by kernel_rfl) (by kernel_rfl) (by kernel_rfl) (fun _ _ _ h => h) (by rfl) ?_ (by assumption) ?_; rotate_left; (intro w hSw; (try dsimp only at hSw); (first | (go_simp; done) | (go_simp; with_reducible rfl))); (try simp only [Act.put, List.setIfInBounds_toArray, List.set_cons_zero, List.set_cons_succ]))
        (refine held_take (i := 11) (v := ?_) rfl (by kernel_rfl) (by kernel_rfl) (by kernel_rfl) (fun _ _ _ h => h) (by rfl) ?_ (by assumption) ?_; rotate_left; (intro w hSw; (try dsimp only at hSw); (first | (go_simp; done) | (go_simp; with_reducible rfl))); (try simp only [Act.put, List.setIfInBounds_toArray, List.set_cons_zero, List.set_cons_succ]))
        refine wpAnyH_take (i := 12) (at_drop rfl) (by kernel_rfl) (by kernel_rfl) (by kernel_rfl) (fun _ _ _ h => h) (yieldsIf_load_mid (by rfl) 47 _ rfl w.heap.size 0 rfl (rc S).toList _ (fun w h => h.1) Try.underlying47 rfl (inf_rm S)) (by assumption) ?_
        rw [Array.toArray_toList]
        (try simp only [Act.put, List.setIfInBounds_toArray, List.set_cons_zero, List.set_cons_succ])
        (refine held_take (i := 13) (v := ?_) rfl (by kernel_rfl) (by kernel_rfl) (by kernel_rfl) (fun _ _ _ h => h) (by rfl) ?_ (by assumption) ?_; rotate_left; (intro w hSw; (try dsimp only at hSw); (first | (go_simp; done) | (go_simp; with_reducible rfl))); (try simp only [Act.put, List.setIfInBounds_toArray, List.set_cons_zero, List.set_cons_succ]))
        refine wpAnyH_ready (rs := [14]) (by kernel_rfl) (by simp) (held_cons rfl (fun K hK => ?_) AllReadyH.nil)
        go_simp
        refine (rnone_any ok ho W0).mono ?_
        rintro e w6 ⟨rfl, hx6⟩
        have HB := hide (HB.out.ext hx6)
        have HE := hide (HE.out.ext hx6)
        have HR := hide (HR.out.ext hx6)
        have HX := hide (HX.out.trans hx6)
        clear hx6
        generalize w6 = W0 at *
        (refine hK.out _ _ ?_ (fun hHeld => ?_))
        · exact ⟨rc_rng HB.out, HE.out.cell⟩
        (try simp only [Act.put, List.setIfInBounds_toArray, List.set_cons_zero, List.set_cons_succ])
        (refine held_take (i := 15) (v := ?_) rfl (by kernel_rfl) (by kernel_rfl) (by kernel_rfl) (fun _ _ _ h => h) (by rfl) ?_ (by assumption) ?_; rotate_left; (intro w hSw; (try dsimp only at hSw); (first | (go_simp; done) | (go_simp; with_reducible rfl))); (try simp only [Act.put, List.setIfInBounds_toArray, List.set_cons_zero, List.set_cons_succ]))
        (refine held_take (i := 16) (v := ?_) rfl (by kernel_rfl) (by kernel_rfl) (by kernel_rfl) (fun _ _ _ h => h) (by rfl) ?_ (by assumption) ?_; rotate_left; (intro w hSw; (try dsimp only at hSw); (first | (go_simp; done) | (go_simp; with_reducible rfl))); (try simp only [Act.put, List.setIfInBounds_toArray, List.set_cons_zero, List.set_cons_succ]))
        (refine held_take (i := 17) (v := ?_) rfl (by kernel_rfl) (by kernel_rfl) (by kernel_rfl) (fun _ _ _ h => h) (by rfl) ?_ (by assumption) ?_; rotate_left; (intro w hSw; (try dsimp only at hSw); (first | (go_simp; done) | (go_simp; with_reducible rfl))); (try simp only [Act.put, List.setIfInBounds_toArray, List.set_cons_zero, List.set_cons_succ]))
        refine wpAnyH_ready (rs := [18]) (by kernel_rfl) (by simp) (held_cons rfl (fun K hK => ?_) AllReadyH.nil)
        rw [if_pos (by rfl)]
        refine wp_store_row 47 _ _ rfl (w.heap.size + 1 + 1) (rc S) rfl rfl 47 zz HR.out (by rw [rc_size]; exact inf_rz) (by rw [HZ.out, rc_size]) (all_rc S) ?_
        have hb' := setRow_heap W0 (w.heap.size + 1 + 1) zz (rc S) 47 _ HR.out
        have hc' := Chg.row (cs := rc S) HR.out
        have HX' := hide (HX.out.turn hc' (by simp; omega))
        have HB' := hide (HB.out.chg hc' (by simp; omega))
        have HE' := hide (HE.out.chg hc' (by simp))
        clear hc'
        generalize W0.setRow (w.heap.size + 1 + 1) (rc S) = w' at *
        (refine hK.out _ _ ?_ (fun hHeld => ?_))
        · exact ⟨rc_rng HB'.out, HE'.out.cell⟩
        (try simp only [Act.put, List.setIfInBounds_toArray, List.set_cons_zero, List.set_cons_succ])
        (refine held_take (i := 19) (v := ?_) rfl (by kernel_rfl) (by kernel_rfl) (by kernel_rfl) (fun _ _ _ h => h) (by rfl) ?_ (by assumption) ?_; rotate_left; (intro w hSw; (try dsimp only at hSw); (first | (go_simp; done) | (go_simp; with_reducible rfl))); (try simp only [Act.put, List.setIfInBounds_toArray, List.set_cons_zero, List.set_cons_succ]))
        refine wpAnyH_done (by kernel_rfl) ?_ _
        go_wp2_with fail
        refine bodyPost_ret (res_of Try.results44 _ _ rfl rfl hb') rfl ?_
        exact ⟨by rw [E.out, y1, q2]; simp, HX'.out⟩
    · rw [q] at CI E
      go_wp2_with fail
      clear re
      have HB := hide (HB.out.ext (Ext.drew W0))
      have HE := hide (HE.out.ext (Ext.drew W0))
      have HR := hide (HR.out.ext (Ext.drew W0))
      have HX := hide (HX.out.trans (Ext.drew W0))
      refine wp_region_held_drew (S := fun w' => w'.rangeAt w.heap.size 0 (rc S).toList ∧ (∀ i, w'.cell? ⟨w.heap.size + 1, i, none⟩ = #[Value.int .i64 8, .int .i64 (t : Int), .int .i64 (o : Int), .int .i64 a, .int .i64 0][i]?)) (by kernel_rfl) (by exact ⟨rc_rng HB.out, HE.out.cell⟩) (fun hHeld => ?_)
      generalize W0.drew = W0 at *
      refine wpAnyH_take (i := 0) (at_drop rfl) (by kernel_rfl) (by kernel_rfl) (by kernel_rfl) (fun _ _ _ h => h) (yieldsIf_load_mid (by rfl) 47 _ rfl w.heap.size 0 rfl (rc S).toList _ (fun w h => h.1) Try.underlying47 rfl (inf_rm S)) (by assumption) ?_
      rw [Array.toArray_toList]
      (try simp only [Act.put, List.setIfInBounds_toArray, List.set_cons_zero, List.set_cons_succ])
      (refine held_take (i := 1) (v := ?_) rfl (by kernel_rfl) (by kernel_rfl) (by kernel_rfl) (fun _ _ _ h => h) (by rfl) ?_ (by assumption) ?_; rotate_left; (intro w hSw; (try dsimp only at hSw); (first | (go_simp; done) | (go_simp; with_reducible rfl))); (try simp only [Act.put, List.setIfInBounds_toArray, List.set_cons_zero, List.set_cons_succ]))
      (refine held_take (i := 2) (v := ?_) rfl (by kernel_rfl) (by kernel_rfl) (by kernel_rfl) (fun _ _ _ h => h) (by rfl) ?_ (by assumption) ?_; rotate_left; (intro w hSw; (try dsimp only at hSw); (first | (go_simp; done) | (go_simp; with_reducible rfl))); (try simp only [Act.put, List.setIfInBounds_toArray, List.set_cons_zero, List.set_cons_succ]))
      refine wpAnyH_take (i := 3) (at_drop rfl) (by kernel_rfl) (by kernel_rfl) (by kernel_rfl) (fun _ _ _ h => h) (yieldsIf_load_mid (by rfl) 47 _ rfl w.heap.size 0 rfl (rc S).toList _ (fun w h => h.1) Try.underlying47 rfl (inf_rm S)) (by assumption) ?_
      rw [Array.toArray_toList]
      (try simp only [Act.put, List.setIfInBounds_toArray, List.set_cons_zero, List.set_cons_succ])
      (refine held_take (i := 4) (v := ?_) rfl (by kernel_rfl) (by kernel_rfl) (by kernel_rfl) (fun _ _ _ h => h) (by rfl) ?_ (by assumption) ?_; rotate_left; (intro w hSw; (try dsimp only at hSw); (first | (go_simp; done) | (go_simp; with_reducible rfl))); (try simp only [Act.put, List.setIfInBounds_toArray, List.set_cons_zero, List.set_cons_succ]))
      (refine held_take (i := 5) (v := ?_) rfl (by kernel_rfl) (by kernel_rfl) (by kernel_rfl) (fun _ _ _ h => h) (by rfl) ?_ (by assumption) ?_; rotate_left; (intro w hSw; (try dsimp only at hSw); (first | (go_simp; done) | (go_simp; with_reducible rfl))); (try simp only [Act.put, List.setIfInBounds_toArray, List.set_cons_zero, List.set_cons_succ]))
      refine wpAnyH_ready (rs := [6]) (by kernel_rfl) (by simp) (held_cons rfl (fun K hK => ?_) AllReadyH.nil)
      go_simp
      refine (CI W0).mono ?_
      rintro e w5 ⟨rfl, hx5⟩
      have HB := hide (HB.out.ext hx5)
      have HE := hide (HE.out.ext hx5)
      have HR := hide (HR.out.ext hx5)
      have HX := hide (HX.out.trans hx5)
      clear hx5
      generalize w5 = W0 at *
      (refine hK.out _ _ ?_ (fun hHeld => ?_))
      · exact ⟨rc_rng HB.out, HE.out.cell⟩
      (try simp only [Act.put, List.setIfInBounds_toArray, List.set_cons_zero, List.set_cons_succ])
      (refine held_take (i := 7) (v := ?_) rfl (by kernel_rfl) (by kernel_rfl) (by kernel_rfl) (fun _ _ _ h => h) (by rfl) ?_ (by assumption) ?_; rotate_left; (intro w hSw; (try dsimp only at hSw); (first | (go_simp; done) | (go_simp; with_reducible rfl))); (try simp only [Act.put, List.setIfInBounds_toArray, List.set_cons_zero, List.set_cons_succ]))
      (refine held_skip (i := 8) rfl (by kernel_rfl) (by kernel_rfl) (by kernel_rfl) (fun _ _ _ h => h) (by rfl) (by assumption) ?_; (try simp only [Act.put, List.setIfInBounds_toArray, List.set_cons_zero, List.set_cons_succ]))
      (refine held_skip (i := 9) rfl (by kernel_rfl) (by kernel_rfl) (by kernel_rfl) (fun _ _ _ h => h) (by rfl) (by assumption) ?_; (try simp only [Act.put, List.setIfInBounds_toArray, List.set_cons_zero, List.set_cons_succ]))
      (refine held_skip (i := 10) rfl (by kernel_rfl) (by kernel_rfl) (by kernel_rfl) (fun _ _ _ h => h) (by rfl) (by assumption) ?_; (try simp only [Act.put, List.setIfInBounds_toArray, List.set_cons_zero, List.set_cons_succ]))
      (refine held_skip (i := 11) rfl (by kernel_rfl) (by kernel_rfl) (by kernel_rfl) (fun _ _ _ h => h) (by rfl) (by assumption) ?_; (try simp only [Act.put, List.setIfInBounds_toArray, List.set_cons_zero, List.set_cons_succ]))
      (refine held_skip (i := 12) rfl (by kernel_rfl) (by kernel_rfl) (by kernel_rfl) (fun _ _ _ h => h) (by rfl) (by assumption) ?_; (try simp only [Act.put, List.setIfInBounds_toArray, List.set_cons_zero, List.set_cons_succ]))
      (refine held_skip (i := 13) rfl (by kernel_rfl) (by kernel_rfl) (by kernel_rfl) (fun _ _ _ h => h) (by rfl) (by assumption) ?_; (try simp only [Act.put, List.setIfInBounds_toArray, List.set_cons_zero, List.set_cons_succ]))
      (refine held_skip (i := 14) rfl (by kernel_rfl) (by kernel_rfl) (by kernel_rfl) (fun _ _ _ h => h) (by rfl) (by assumption) ?_; (try simp only [Act.put, List.setIfInBounds_toArray, List.set_cons_zero, List.set_cons_succ]))
      (refine held_skip (i := 15) rfl (by kernel_rfl) (by kernel_rfl) (by kernel_rfl) (fun _ _ _ h => h) (by rfl) (by assumption) ?_; (try simp only [Act.put, List.setIfInBounds_toArray, List.set_cons_zero, List.set_cons_succ]))
      (refine held_take (i := 16) (v := ?_) rfl (by kernel_rfl) (by kernel_rfl) (by kernel_rfl) (fun _ _ _ h => h) (by rfl) ?_ (by assumption) ?_; rotate_left; (intro w hSw; (try dsimp only at hSw); (first | (go_simp; done) | (go_simp; with_reducible rfl))); (try simp only [Act.put, List.setIfInBounds_toArray, List.set_cons_zero, List.set_cons_succ]))
      (refine held_take (i := 17) (v := ?_) rfl (by kernel_rfl) (by kernel_rfl) (by kernel_rfl) (fun _ _ _ h => h) (by rfl) ?_ (by assumption) ?_; rotate_left; (intro w hSw; (try dsimp only at hSw); (first | (go_simp; done) | (go_simp; with_reducible rfl))); (try simp only [Act.put, List.setIfInBounds_toArray, List.set_cons_zero, List.set_cons_succ]))
      refine wpAnyH_ready (rs := [18]) (by kernel_rfl) (by simp) (held_cons rfl (fun K hK => ?_) AllReadyH.nil)
      rw [if_pos (by rfl)]
      refine wp_store_row 47 _ _ rfl (w.heap.size + 1 + 1) (rc S) rfl rfl 47 zz HR.out (by rw [rc_size]; exact inf_rz) (by rw [HZ.out, rc_size]) (all_rc S) ?_
      have hb' := setRow_heap W0 (w.heap.size + 1 + 1) zz (rc S) 47 _ HR.out
      have hc' := Chg.row (cs := rc S) HR.out
      have HX' := hide (HX.out.turn hc' (by simp; omega))
      have HB' := hide (HB.out.chg hc' (by simp; omega))
      have HE' := hide (HE.out.chg hc' (by simp))
      clear hc'
      generalize W0.setRow (w.heap.size + 1 + 1) (rc S) = w' at *
      (refine hK.out _ _ ?_ (fun hHeld => ?_))
      · exact ⟨rc_rng HB'.out, HE'.out.cell⟩
      (try simp only [Act.put, List.setIfInBounds_toArray, List.set_cons_zero, List.set_cons_succ])
      (refine held_take (i := 19) (v := ?_) rfl (by kernel_rfl) (by kernel_rfl) (by kernel_rfl) (fun _ _ _ h => h) (by rfl) ?_ (by assumption) ?_; rotate_left; (intro w hSw; (try dsimp only at hSw); (first | (go_simp; done) | (go_simp; with_reducible rfl))); (try simp only [Act.put, List.setIfInBounds_toArray, List.set_cons_zero, List.set_cons_succ]))
      refine wpAnyH_done (by kernel_rfl) ?_ _
      go_wp2_with fail
      refine bodyPost_ret (res_of Try.results44 _ _ rfl rfl hb') rfl ?_
      exact ⟨by rw [E.out, y1]; simp, HX'.out⟩
end Go.Proofs.Ytacneghgimfklaa

namespace Go.Proofs.Ytacneghgimfklaa
open Go.RowKit Go.Maps
set_option linter.unusedSimpArgs false
set_option linter.unusedVariables false
set_option maxRecDepth 100000
set_option maxHeartbeats 8000000



theorem rtell_7a {S : St} (ok : Ok S) {t o : Nat} (a r : Int) (ht : t < S.N) (ho : o < S.M) (h0 : (r != 0) = true) (w : World) :
    Calls Try.prog 44 #[.agg (rc S), (Value.agg #[Value.int .i64 7, .int .i64 (t : Int), .int .i64 (o : Int), .int .i64 a, .int .i64 r])] w fun e w' => e = .returned (.tuple #[.agg (rc S), .bool false]) ∧ Ext w w' := by
  have n1 := ok.n1
  have m1 := ok.m1
  have ho8 : o < 8 := by omega
  have ht8 : t < 8 := by omega
  have i8 : (o : Int) < 8 := by omega
  have j8 : (t : Int) < 8 := by omega
  obtain ⟨zz, hz1, hz2, hz3, hz4, -⟩ : ∃ zz : Array Value, (∀ w, (zeroValue 47).run Try.prog w = .ok (.agg zz) w) ∧ ¬ zz = #[] ∧ ¬ zz.size < 2 ∧ zz.size = 227 ∧ zz = zr := ⟨_, fun w => by kernel_rfl, by decide +kernel, by decide +kernel, by decide +kernel, rfl⟩
  have HZ := hide hz4
  clear hz4
  go_enter Try.func44, Try.ntmps44
  go_upto_region 1 with fail
  have HB := hide (((Blk.new w (rc S) 47).ext (Ext.alloc _ (.cells #[Value.int .i64 7, .int .i64 (t : Int), .int .i64 (o : Int), .int .i64 a, .int .i64 r] 29))).ext (Ext.alloc _ (.cells zz 47)))
  have HE := Blk.new (w.alloc (.cells (rc S) 47)) #[Value.int .i64 7, .int .i64 (t : Int), .int .i64 (o : Int), .int .i64 a, .int .i64 r] 29
  rw [World.size_alloc] at HE
  have HE := hide (HE.ext (Ext.alloc _ (.cells zz 47)))
  have HR := Blk.new ((w.alloc (.cells (rc S) 47)).alloc (.cells #[Value.int .i64 7, .int .i64 (t : Int), .int .i64 (o : Int), .int .i64 a, .int .i64 r] 29)) zz 47
  rw [World.size_alloc, World.size_alloc] at HR
  have HR := hide HR
  have HX := hide (((Ext.alloc w (.cells (rc S) 47)).trans (Ext.alloc _ (.cells #[Value.int .i64 7, .int .i64 (t : Int), .int .i64 (o : Int), .int .i64 a, .int .i64 r] 29))).trans (Ext.alloc _ (.cells zz 47)))
  generalize (((w.alloc (.cells (rc S) 47)).alloc (.cells #[Value.int .i64 7, .int .i64 (t : Int), .int .i64 (o : Int), .int .i64 a, .int .i64 r] 29)).alloc (.cells zz 47)) = W0 at *
  clear hz1 hz2 hz3
  have re := HE.out.cell
  go_upto_region 2 with fail
  have re := (HE.out.ext (Ext.drew W0)).cell
  have r1 : W0.drew.cell? ⟨w.heap.size, 3 + o, none⟩ = some (.int .i64 (S.own o + 1)) := by rw [(HB.out.ext (Ext.drew W0)).cell]; exact rc_own ho8
  generalize S.own o + 1 = y at *
  go_region
  clear re r1
  have HB := hide (HB.out.ext (Ext.drew W0))
  have HE := hide (HE.out.ext (Ext.drew W0))
  have HR := hide (HR.out.ext (Ext.drew W0))
  have HX := hide (HX.out.trans (Ext.drew W0))
  generalize W0.drew = W0 at *
  have re := HE.out.cell
  go_wp2_with fail
  clear re
  have HB := hide (HB.out.ext (Ext.drew W0))
  have HE := hide (HE.out.ext (Ext.drew W0))
  have HR := hide (HR.out.ext (Ext.drew W0))
  have HX := hide (HX.out.trans (Ext.drew W0))
  refine wp_region_held_drew (S := fun w' => w'.rangeAt w.heap.size 0 (rc S).toList ∧ (∀ i, w'.cell? ⟨w.heap.size + 1, i, none⟩ = #[Value.int .i64 7, .int .i64 (t : Int), .int .i64 (o : Int), .int .i64 a, .int .i64 r][i]?)) (by kernel_rfl) (by exact ⟨rc_rng HB.out, HE.out.cell⟩) (fun hHeld => ?_)
  generalize W0.drew = W0 at *
  (refine held_take (i := 0) (v := ?_) rfl (by kernel_rfl) (by kernel_rfl) (by kernel_rfl) (fun _ _ _ h => h) (by rfl) ?_ (by assumption) ?_; rotate_left; (intro w hSw; (try dsimp only at hSw); (first | (go_simp; done) | (go_simp; with_reducible rfl))); (try simp only [Act.put, List.setIfInBounds_toArray, List.set_cons_zero, List.set_cons_succ]))
  (refine held_take (i := 1) (v := ?_) rfl (by kernel_rfl) (by kernel_rfl) (by kernel_rfl) (fun _ _ _ h => h) (by rfl) ?_ (by assumption) ?_; rotate_left; (intro w hSw; (try dsimp only at hSw); (first | (go_simp; done) | (go_simp; with_reducible rfl))); (try simp only [Act.put, List.setIfInBounds_toArray, List.set_cons_zero, List.set_cons_succ]))
  (refine held_take (i := 2) (v := ?_) rfl (by kernel_rfl) (by kernel_rfl) (by kernel_rfl) (fun _ _ _ h => h) (by rfl) ?_ (by assumption) ?_; rotate_left; (intro w hSw; (try dsimp only at hSw); (first | (go_simp; done) | (go_simp; with_reducible rfl))); (try simp only [Act.put, List.setIfInBounds_toArray, List.set_cons_zero, List.set_cons_succ]))
  (refine held_take (i := 3) (v := ?_) rfl (by kernel_rfl) (by kernel_rfl) (by kernel_rfl) (fun _ _ _ h => h) (by rfl) ?_ (by assumption) ?_; rotate_left; (intro w hSw; (try dsimp only at hSw); (first | (go_simp; done) | (go_simp; with_reducible rfl))); (try simp only [Act.put, List.setIfInBounds_toArray, List.set_cons_zero, List.set_cons_succ]))
  (refine held_skip (i := 4) rfl (by kernel_rfl) (by kernel_rfl) (by kernel_rfl) (fun _ _ _ h => h) (by rfl) (by assumption) ?_; (try simp only [Act.put, List.setIfInBounds_toArray, List.set_cons_zero, List.set_cons_succ]))
  (refine held_skip (i := 5) rfl (by kernel_rfl) (by kernel_rfl) (by kernel_rfl) (fun _ _ _ h => h) (by rfl) (by assumption) ?_; (try simp only [Act.put, List.setIfInBounds_toArray, List.set_cons_zero, List.set_cons_succ]))
  (refine held_take (i := 6) (v := ?_) rfl (by kernel_rfl) (by kernel_rfl) (by kernel_rfl) (fun _ _ _ h => h) (by rfl) ?_ (by assumption) ?_; rotate_left; (intro w hSw; (try dsimp only at hSw); (first | (go_simp; done) | (go_simp; with_reducible rfl))); (try simp only [Act.put, List.setIfInBounds_toArray, List.set_cons_zero, List.set_cons_succ]))
  (refine held_take (i := 7) (v := ?_) rfl (by kernel_rfl) (by kernel_rfl) (by kernel_rfl) (fun _ _ _ h => h) (by rfl) ?_ (by assumption) ?_; rotate_left; (intro w hSw; (try dsimp only at hSw); (first | (go_simp; done) | (go_simp; with_reducible rfl))); (try simp only [Act.put, List.setIfInBounds_toArray, List.set_cons_zero, List.set_cons_succ]))
  (refine held_skip (i := 8) rfl (by kernel_rfl) (by kernel_rfl) (by kernel_rfl) (fun _ _ _ h => h) (by rfl) (by assumption) ?_; (try simp only [Act.put, List.setIfInBounds_toArray, List.set_cons_zero, List.set_cons_succ]))
  (refine held_skip (i := 9) rfl (by kernel_rfl) (by kernel_rfl) (by kernel_rfl) (fun _ _ _ h => h) (by rfl) (by assumption) ?_; (try simp only [Act.put, List.setIfInBounds_toArray, List.set_cons_zero, List.set_cons_succ]))
  (refine held_skip (i := 10) rfl (by kernel_rfl) (by kernel_rfl) (by kernel_rfl) (fun _ _ _ h => h) (by rfl) (by assumption) ?_; (try simp only [Act.put, List.setIfInBounds_toArray, List.set_cons_zero, List.set_cons_succ]))
  (refine held_skip (i := 11) rfl (by kernel_rfl) (by kernel_rfl) (by kernel_rfl) (fun _ _ _ h => h) (by rfl) (by assumption) ?_; (try simp only [Act.put, List.setIfInBounds_toArray, List.set_cons_zero, List.set_cons_succ]))
  (refine held_skip (i := 12) rfl (by kernel_rfl) (by kernel_rfl) (by kernel_rfl) (fun _ _ _ h => h) (by rfl) (by assumption) ?_; (try simp only [Act.put, List.setIfInBounds_toArray, List.set_cons_zero, List.set_cons_succ]))
  (refine held_take (i := 13) (v := ?_) rfl (by kernel_rfl) (by kernel_rfl) (by kernel_rfl) (fun _ _ _ h => h) (by rfl) ?_ (by assumption) ?_; rotate_left; (intro w hSw; (try dsimp only at hSw); (first | (go_simp; done) | (go_simp; with_reducible rfl))); (try simp only [Act.put, List.setIfInBounds_toArray, List.set_cons_zero, List.set_cons_succ]))
  (refine held_take (i := 14) (v := ?_) rfl (by kernel_rfl) (by kernel_rfl) (by kernel_rfl) (fun _ _ _ h => h) (by rfl) ?_ (by assumption) ?_; rotate_left; (intro w hSw; (try dsimp only at hSw); (first | (go_simp; done) | (go_simp; with_reducible rfl))); (try simp only [Act.put, List.setIfInBounds_toArray, List.set_cons_zero, List.set_cons_succ]))
  (refine held_skip (i := 15) rfl (by kernel_rfl) (by kernel_rfl) (by kernel_rfl) (fun _ _ _ h => h) (by rfl) (by assumption) ?_; (try simp only [Act.put, List.setIfInBounds_toArray, List.set_cons_zero, List.set_cons_succ]))
  (refine held_skip (i := 16) rfl (by kernel_rfl) (by kernel_rfl) (by kernel_rfl) (fun _ _ _ h => h) (by rfl) (by assumption) ?_; (try simp only [Act.put, List.setIfInBounds_toArray, List.set_cons_zero, List.set_cons_succ]))
  (refine held_skip (i := 17) rfl (by kernel_rfl) (by kernel_rfl) (by kernel_rfl) (fun _ _ _ h => h) (by rfl) (by assumption) ?_; (try simp only [Act.put, List.setIfInBounds_toArray, List.set_cons_zero, List.set_cons_succ]))
  (refine held_skip (i := 18) rfl (by kernel_rfl) (by kernel_rfl) (by kernel_rfl) (fun _ _ _ h => h) (by rfl) (by assumption) ?_; (try simp only [Act.put, List.setIfInBounds_toArray, List.set_cons_zero, List.set_cons_succ]))
  (refine held_skip (i := 19) rfl (by kernel_rfl) (by kernel_rfl) (by kernel_rfl) (fun _ _ _ h => h) (by rfl) (by assumption) ?_; (try simp only [Act.put, List.setIfInBounds_toArray, List.set_cons_zero, List.set_cons_succ]))
  (refine held_skip (i := 20) rfl (by kernel_rfl) (by kernel_rfl) (by kernel_rfl) (fun _ _ _ h => h) (by rfl) (by assumption) ?_; (try simp only [Act.put, List.setIfInBounds_toArray, List.set_cons_zero, List.set_cons_succ]))
  (refine held_skip (i := 21) rfl (by kernel_rfl) (by kernel_rfl) (by kernel_rfl) (fun _ _ _ h => h) (by rfl) (by assumption) ?_; (try simp only [Act.put, List.setIfInBounds_toArray, List.set_cons_zero, List.set_cons_succ]))
  (refine held_skip (i := 22) rfl (by kernel_rfl) (by kernel_rfl) (by kernel_rfl) (fun _ _ _ h => h) (by rfl) (by assumption) ?_; (try simp only [Act.put, List.setIfInBounds_toArray, List.set_cons_zero, List.set_cons_succ]))
  (refine held_skip (i := 23) rfl (by kernel_rfl) (by kernel_rfl) (by kernel_rfl) (fun _ _ _ h => h) (by rfl) (by assumption) ?_; (try simp only [Act.put, List.setIfInBounds_toArray, List.set_cons_zero, List.set_cons_succ]))
  (refine held_take (i := 24) (v := ?_) rfl (by kernel_rfl) (by kernel_rfl) (by kernel_rfl) (fun _ _ _ h => h) (by rfl) ?_ (by assumption) ?_; rotate_left; (intro w hSw; (try dsimp only at hSw); (first | (go_simp; done) | (go_simp; with_reducible rfl))); (try simp only [Act.put, List.setIfInBounds_toArray, List.set_cons_zero, List.set_cons_succ]))
  refine wpAnyH_done (by kernel_rfl) ?_ _
  go_wp2_with first | (with_reducible refine wpList_get rfl _ rfl w.heap.size _ rfl HB.out ?_; go_frame) | (with_reducible refine wpList_put rfl _ _ rfl (w.heap.size + 1 + 1) S rfl rfl zz HR.out HZ.out ?_; intro w' hb' hc' hs'; have HX' := hide (HX.out.turn hc' (by simp; omega)); clear hc' hs'; go_frame) | go_in
  refine bodyPost_ret (res_of Try.results44 _ _ rfl rfl hb') rfl ?_
  exact ⟨by rfl, HX'.out⟩
theorem rtell_7b {S : St} (ok : Ok S) {t o : Nat} (a : Int) (ht : t < S.N) (ho : o < S.M) (E : (S.own o + 1 == (t : Int) + 1) = false) (w : World) :
    Calls Try.prog 44 #[.agg (rc S), (Value.agg #[Value.int .i64 7, .int .i64 (t : Int), .int .i64 (o : Int), .int .i64 a, .int .i64 0])] w fun e w' => e = .returned (.tuple #[.agg (rc S), .bool false]) ∧ Ext w w' := by
  have E := hide E
  have n1 := ok.n1
  have m1 := ok.m1
  have ho8 : o < 8 := by omega
  have ht8 : t < 8 := by omega
  have i8 : (o : Int) < 8 := by omega
  have j8 : (t : Int) < 8 := by omega
  obtain ⟨zz, hz1, hz2, hz3, hz4, -⟩ : ∃ zz : Array Value, (∀ w, (zeroValue 47).run Try.prog w = .ok (.agg zz) w) ∧ ¬ zz = #[] ∧ ¬ zz.size < 2 ∧ zz.size = 227 ∧ zz = zr := ⟨_, fun w => by kernel_rfl, by decide +kernel, by decide +kernel, by decide +kernel, rfl⟩
  have HZ := hide hz4
  clear hz4
  go_enter Try.func44, Try.ntmps44
  go_upto_region 1 with fail
  have HB := hide (((Blk.new w (rc S) 47).ext (Ext.alloc _ (.cells #[Value.int .i64 7, .int .i64 (t : Int), .int .i64 (o : Int), .int .i64 a, .int .i64 0] 29))).ext (Ext.alloc _ (.cells zz 47)))
  have HE := Blk.new (w.alloc (.cells (rc S) 47)) #[Value.int .i64 7, .int .i64 (t : Int), .int .i64 (o : Int), .int .i64 a, .int .i64 0] 29
  rw [World.size_alloc] at HE
  have HE := hide (HE.ext (Ext.alloc _ (.cells zz 47)))
  have HR := Blk.new ((w.alloc (.cells (rc S) 47)).alloc (.cells #[Value.int .i64 7, .int .i64 (t : Int), .int .i64 (o : Int), .int .i64 a, .int .i64 0] 29)) zz 47
  rw [World.size_alloc, World.size_alloc] at HR
  have HR := hide HR
  have HX := hide (((Ext.alloc w (.cells (rc S) 47)).trans (Ext.alloc _ (.cells #[Value.int .i64 7, .int .i64 (t : Int), .int .i64 (o : Int), .int .i64 a, .int .i64 0] 29))).trans (Ext.alloc _ (.cells zz 47)))
  generalize (((w.alloc (.cells (rc S) 47)).alloc (.cells #[Value.int .i64 7, .int .i64 (t : Int), .int .i64 (o : Int), .int .i64 a, .int .i64 0] 29)).alloc (.cells zz 47)) = W0 at *
  clear hz1 hz2 hz3
  have re := HE.out.cell
  go_upto_region 2 with fail
  have re := (HE.out.ext (Ext.drew W0)).cell
  have r1 : W0.drew.cell? ⟨w.heap.size, 3 + o, none⟩ = some (.int .i64 (S.own o + 1)) := by rw [(HB.out.ext (Ext.drew W0)).cell]; exact rc_own ho8
  generalize S.own o + 1 = y at *
  go_region
  clear re r1
  have HB := hide (HB.out.ext (Ext.drew W0))
  have HE := hide (HE.out.ext (Ext.drew W0))
  have HR := hide (HR.out.ext (Ext.drew W0))
  have HX := hide (HX.out.trans (Ext.drew W0))
  generalize W0.drew = W0 at *
  have re := HE.out.cell
  have y1 := E.out
  go_wp2_with fail
  clear re
  have HB := hide (HB.out.ext (Ext.drew W0))
  have HE := hide (HE.out.ext (Ext.drew W0))
  have HR := hide (HR.out.ext (Ext.drew W0))
  have HX := hide (HX.out.trans (Ext.drew W0))
  refine wp_region_held_drew (S := fun w' => w'.rangeAt w.heap.size 0 (rc S).toList ∧ (∀ i, w'.cell? ⟨w.heap.size + 1, i, none⟩ = #[Value.int .i64 7, .int .i64 (t : Int), .int .i64 (o : Int), .int .i64 a, .int .i64 0][i]?)) (by kernel_rfl) (by exact ⟨rc_rng HB.out, HE.out.cell⟩) (fun hHeld => ?_)
  generalize W0.drew = W0 at *
  (refine held_take (i := 0) (v := ?_) rfl (by kernel_rfl) (by kernel_rfl) (by kernel_rfl) (fun _ _ _ h => h) (by rfl) ?_ (by assumption) ?_; rotate_left; (intro w hSw; (try dsimp only at hSw); (first | (go_simp; done) | (go_simp; with_reducible rfl))); (try simp only [Act.put, List.setIfInBounds_toArray, List.set_cons_zero, List.set_cons_succ]))
  (refine held_take (i := 1) (v := ?_) rfl (by kernel_rfl) (by kernel_rfl) (by kernel_rfl) (fun _ _ _ h => h) (by rfl) ?_ (by assumption) ?_; rotate_left; (intro w hSw; (try dsimp only at hSw); (first | (go_simp; done) | (go_simp; with_reducible rfl))); (try simp only [Act.put, List.setIfInBounds_toArray, List.set_cons_zero, List.set_cons_succ]))
  (refine held_take (i := 2) (v := ?_) rfl (by kernel_rfl) (by kernel_rfl) (by kernel_rfl) (fun _ _ _ h => h) (by rfl) ?_ (by assumption) ?_; rotate_left; (intro w hSw; (try dsimp only at hSw); (first | (go_simp; done) | (go_simp; with_reducible rfl))); (try simp only [Act.put, List.setIfInBounds_toArray, List.set_cons_zero, List.set_cons_succ]))
  (refine held_take (i := 3) (v := ?_) rfl (by kernel_rfl) (by kernel_rfl) (by kernel_rfl) (fun _ _ _ h => h) (by rfl) ?_ (by assumption) ?_; rotate_left; (intro w hSw; (try dsimp only at hSw); (first | (go_simp; done) | (go_simp; with_reducible rfl))); (try simp only [Act.put, List.setIfInBounds_toArray, List.set_cons_zero, List.set_cons_succ]))
  (refine held_take (i := 4) (v := ?_) rfl (by kernel_rfl) (by kernel_rfl) (by kernel_rfl) (fun _ _ _ h => h) (by rfl) ?_ (by assumption) ?_; rotate_left; (intro w hSw; (try dsimp only at hSw); (first | (go_simp; done) | (go_simp; with_reducible rfl))); (try simp only [Act.put, List.setIfInBounds_toArray, List.set_cons_zero, List.set_cons_succ]))
  (refine held_take (i := 5) (v := ?_) rfl (by kernel_rfl) (by kernel_rfl) (by kernel_rfl) (fun _ _ _ h => h) (by rfl) ?_ (by assumption) ?_; rotate_left; (intro w hSw; (try dsimp only at hSw); (first | (go_simp; done) | (go_simp; with_reducible rfl))); (try simp only [Act.put, List.setIfInBounds_toArray, List.set_cons_zero, List.set_cons_succ]))
  (refine held_take (i := 6) (v := ?_) rfl (by kernel_rfl) (by kernel_rfl) (by kernel_rfl) (fun _ _ _ h => h) (by rfl) ?_ (by assumption) ?_; rotate_left; (intro w hSw; (try dsimp only at hSw); (first | (go_simp; done) | (go_simp; with_reducible rfl))); (try simp only [Act.put, List.setIfInBounds_toArray, List.set_cons_zero, List.set_cons_succ]))
  (refine held_take (i := 7) (v := ?_) rfl (by kernel_rfl) (by kernel_rfl) (by kernel_rfl) (fun _ _ _ h => h) (by rfl) ?_ (by assumption) ?_; rotate_left; (intro w hSw; (try dsimp only at hSw); (first | (go_simp; done) | (go_simp; with_reducible rfl))); (try simp only [Act.put, List.setIfInBounds_toArray, List.set_cons_zero, List.set_cons_succ]))
  (refine held_skip (i := 8) rfl (by kernel_rfl) (by kernel_rfl) (by kernel_rfl) (fun _ _ _ h => h) (by rfl) (by assumption) ?_; (try simp only [Act.put, List.setIfInBounds_toArray, List.set_cons_zero, List.set_cons_succ]))
  (refine held_skip (i := 9) rfl (by kernel_rfl) (by kernel_rfl) (by kernel_rfl) (fun _ _ _ h => h) (by rfl) (by assumption) ?_; (try simp only [Act.put, List.setIfInBounds_toArray, List.set_cons_zero, List.set_cons_succ]))
  (refine held_skip (i := 10) rfl (by kernel_rfl) (by kernel_rfl) (by kernel_rfl) (fun _ _ _ h => h) (by rfl) (by assumption) ?_; (try simp only [Act.put, List.setIfInBounds_toArray, List.set_cons_zero, List.set_cons_succ]))
  (refine held_skip (i := 11) rfl (by kernel_rfl) (by kernel_rfl) (by kernel_rfl) (fun _ _ _ h => h) (by rfl) (by assumption) ?_; (try simp only [Act.put, List.setIfInBounds_toArray, List.set_cons_zero, List.set_cons_succ]))
  (refine held_skip (i := 12) rfl (by kernel_rfl) (by kernel_rfl) (by kernel_rfl) (fun _ _ _ h => h) (by rfl) (by assumption) ?_; (try simp only [Act.put, List.setIfInBounds_toArray, List.set_cons_zero, List.set_cons_succ]))
  (refine held_take (i := 13) (v := ?_) rfl (by kernel_rfl) (by kernel_rfl) (by kernel_rfl) (fun _ _ _ h => h) (by rfl) ?_ (by assumption) ?_; rotate_left; (intro w hSw; (try dsimp only at hSw); (first | (go_simp; done) | (go_simp; with_reducible rfl))); (try simp only [Act.put, List.setIfInBounds_toArray, List.set_cons_zero, List.set_cons_succ]))
  (refine held_take (i := 14) (v := ?_) rfl (by kernel_rfl) (by kernel_rfl) (by kernel_rfl) (fun _ _ _ h => h) (by rfl) ?_ (by assumption) ?_; rotate_left; (intro w hSw; (try dsimp only at hSw); (first | (go_simp; done) | (go_simp; with_reducible rfl))); (try simp only [Act.put, List.setIfInBounds_toArray, List.set_cons_zero, List.set_cons_succ]))
  (refine held_skip (i := 15) rfl (by kernel_rfl) (by kernel_rfl) (by kernel_rfl) (fun _ _ _ h => h) (by rfl) (by assumption) ?_; (try simp only [Act.put, List.setIfInBounds_toArray, List.set_cons_zero, List.set_cons_succ]))
  (refine held_skip (i := 16) rfl (by kernel_rfl) (by kernel_rfl) (by kernel_rfl) (fun _ _ _ h => h) (by rfl) (by assumption) ?_; (try simp only [Act.put, List.setIfInBounds_toArray, List.set_cons_zero, List.set_cons_succ]))
  (refine held_skip (i := 17) rfl (by kernel_rfl) (by kernel_rfl) (by kernel_rfl) (fun _ _ _ h => h) (by rfl) (by assumption) ?_; (try simp only [Act.put, List.setIfInBounds_toArray, List.set_cons_zero, List.set_cons_succ]))
  (refine held_skip (i := 18) rfl (by kernel_rfl) (by kernel_rfl) (by kernel_rfl) (fun _ _ _ h => h) (by rfl) (by assumption) ?_; (try simp only [Act.put, List.setIfInBounds_toArray, List.set_cons_zero, List.set_cons_succ]))
  (refine held_skip (i := 19) rfl (by kernel_rfl) (by kernel_rfl) (by kernel_rfl) (fun _ _ _ h => h) (by rfl) (by assumption) ?_; (try simp only [Act.put, List.setIfInBounds_toArray, List.set_cons_zero, List.set_cons_succ]))
  (refine held_skip (i := 20) rfl (by kernel_rfl) (by kernel_rfl) (by kernel_rfl) (fun _ _ _ h => h) (by rfl) (by assumption) ?_; (try simp only [Act.put, List.setIfInBounds_toArray, List.set_cons_zero, List.set_cons_succ]))
  (refine held_skip (i := 21) rfl (by kernel_rfl) (by kernel_rfl) (by kernel_rfl) (fun _ _ _ h => h) (by rfl) (by assumption) ?_; (try simp only [Act.put, List.setIfInBounds_toArray, List.set_cons_zero, List.set_cons_succ]))
  (refine held_skip (i := 22) rfl (by kernel_rfl) (by kernel_rfl) (by kernel_rfl) (fun _ _ _ h => h) (by rfl) (by assumption) ?_; (try simp only [Act.put, List.setIfInBounds_toArray, List.set_cons_zero, List.set_cons_succ]))
  (refine held_skip (i := 23) rfl (by kernel_rfl) (by kernel_rfl) (by kernel_rfl) (fun _ _ _ h => h) (by rfl) (by assumption) ?_; (try simp only [Act.put, List.setIfInBounds_toArray, List.set_cons_zero, List.set_cons_succ]))
  (refine held_take (i := 24) (v := ?_) rfl (by kernel_rfl) (by kernel_rfl) (by kernel_rfl) (fun _ _ _ h => h) (by rfl) ?_ (by assumption) ?_; rotate_left; (intro w hSw; (try dsimp only at hSw); (first | (go_simp; done) | (go_simp; with_reducible rfl))); (try simp only [Act.put, List.setIfInBounds_toArray, List.set_cons_zero, List.set_cons_succ]))
  refine wpAnyH_done (by kernel_rfl) ?_ _
  go_wp2_with first | (with_reducible refine wpList_get rfl _ rfl w.heap.size _ rfl HB.out ?_; go_frame) | (with_reducible refine wpList_put rfl _ _ rfl (w.heap.size + 1 + 1) S rfl rfl zz HR.out HZ.out ?_; intro w' hb' hc' hs'; have HX' := hide (HX.out.turn hc' (by simp; omega)); clear hc' hs'; go_frame) | go_in
  refine bodyPost_ret (res_of Try.results44 _ _ rfl rfl hb') rfl ?_
  exact ⟨by rfl, HX'.out⟩
theorem rtell_7c {S : St} (ok : Ok S) {t o : Nat} (a : Int) (ht : t < S.N) (ho : o < S.M) (E : (S.own o + 1 == (t : Int) + 1) = true) (q : isT S a = false) (w : World) :
    Calls Try.prog 44 #[.agg (rc S), (Value.agg #[Value.int .i64 7, .int .i64 (t : Int), .int .i64 (o : Int), .int .i64 a, .int .i64 0])] w fun e w' => e = .returned (.tuple #[.agg (rc S), .bool false]) ∧ Ext w w' := by
  have E := hide E
  have CI := fun w => ris_any S a w
  rw [q] at CI
  have n1 := ok.n1
  have m1 := ok.m1
  have ho8 : o < 8 := by omega
  have ht8 : t < 8 := by omega
  have i8 : (o : Int) < 8 := by omega
  have j8 : (t : Int) < 8 := by omega
  obtain ⟨zz, hz1, hz2, hz3, hz4, -⟩ : ∃ zz : Array Value, (∀ w, (zeroValue 47).run Try.prog w = .ok (.agg zz) w) ∧ ¬ zz = #[] ∧ ¬ zz.size < 2 ∧ zz.size = 227 ∧ zz = zr := ⟨_, fun w => by kernel_rfl, by decide +kernel, by decide +kernel, by decide +kernel, rfl⟩
  have HZ := hide hz4
  clear hz4
  go_enter Try.func44, Try.ntmps44
  go_upto_region 1 with fail
  have HB := hide (((Blk.new w (rc S) 47).ext (Ext.alloc _ (.cells #[Value.int .i64 7, .int .i64 (t : Int), .int .i64 (o : Int), .int .i64 a, .int .i64 0] 29))).ext (Ext.alloc _ (.cells zz 47)))
  have HE := Blk.new (w.alloc (.cells (rc S) 47)) #[Value.int .i64 7, .int .i64 (t : Int), .int .i64 (o : Int), .int .i64 a, .int .i64 0] 29
  rw [World.size_alloc] at HE
  have HE := hide (HE.ext (Ext.alloc _ (.cells zz 47)))
  have HR := Blk.new ((w.alloc (.cells (rc S) 47)).alloc (.cells #[Value.int .i64 7, .int .i64 (t : Int), .int .i64 (o : Int), .int .i64 a, .int .i64 0] 29)) zz 47
  rw [World.size_alloc, World.size_alloc] at HR
  have HR := hide HR
  have HX := hide (((Ext.alloc w (.cells (rc S) 47)).trans (Ext.alloc _ (.cells #[Value.int .i64 7, .int .i64 (t : Int), .int .i64 (o : Int), .int .i64 a, .int .i64 0] 29))).trans (Ext.alloc _ (.cells zz 47)))
  generalize (((w.alloc (.cells (rc S) 47)).alloc (.cells #[Value.int .i64 7, .int .i64 (t : Int), .int .i64 (o : Int), .int .i64 a, .int .i64 0] 29)).alloc (.cells zz 47)) = W0 at *
  clear hz1 hz2 hz3
  have re := HE.out.cell
  go_upto_region 2 with fail
  have re := (HE.out.ext (Ext.drew W0)).cell
  have r1 : W0.drew.cell? ⟨w.heap.size, 3 + o, none⟩ = some (.int .i64 (S.own o + 1)) := by rw [(HB.out.ext (Ext.drew W0)).cell]; exact rc_own ho8
  generalize S.own o + 1 = y at *
  go_region
  clear re r1
  have HB := hide (HB.out.ext (Ext.drew W0))
  have HE := hide (HE.out.ext (Ext.drew W0))
  have HR := hide (HR.out.ext (Ext.drew W0))
  have HX := hide (HX.out.trans (Ext.drew W0))
  generalize W0.drew = W0 at *
  have re := HE.out.cell
  have y1 := E.out
  go_wp2_with fail
  clear re
  have HB := hide (HB.out.ext (Ext.drew W0))
  have HE := hide (HE.out.ext (Ext.drew W0))
  have HR := hide (HR.out.ext (Ext.drew W0))
  have HX := hide (HX.out.trans (Ext.drew W0))
  refine wp_region_held_drew (S := fun w' => w'.rangeAt w.heap.size 0 (rc S).toList ∧ (∀ i, w'.cell? ⟨w.heap.size + 1, i, none⟩ = #[Value.int .i64 7, .int .i64 (t : Int), .int .i64 (o : Int), .int .i64 a, .int .i64 0][i]?)) (by kernel_rfl) (by exact ⟨rc_rng HB.out, HE.out.cell⟩) (fun hHeld => ?_)
  generalize W0.drew = W0 at *
  (refine held_take (i := 0) (v := ?_) rfl (by kernel_rfl) (by kernel_rfl) (by kernel_rfl) (fun _ _ _ h => h) (by rfl) ?_ (by assumption) ?_; rotate_left; (intro w hSw; (try dsimp only at hSw); (first | (go_simp; done) | (go_simp; with_reducible rfl))); (try simp only [Act.put, List.setIfInBounds_toArray, List.set_cons_zero, List.set_cons_succ]))
  (refine held_take (i := 1) (v := ?_) rfl (by kernel_rfl) (by kernel_rfl) (by kernel_rfl) (fun _ _ _ h => h) (by rfl) ?_ (by assumption) ?_; rotate_left; (intro w hSw; (try dsimp only at hSw); (first | (go_simp; done) | (go_simp; with_reducible rfl))); (try simp only [Act.put, List.setIfInBounds_toArray, List.set_cons_zero, List.set_cons_succ]))
  (refine held_take (i := 2) (v := ?_) rfl (by kernel_rfl) (by kernel_rfl) (by kernel_rfl) (fun _ _ _ h => h) (by rfl) ?_ (by assumption) ?_; rotate_left; (intro w hSw; (try dsimp only at hSw); (first | (go_simp; done) | (go_simp; with_reducible rfl))); (try simp only [Act.put, List.setIfInBounds_toArray, List.set_cons_zero, List.set_cons_succ]))
  (refine held_take (i := 3) (v := ?_) rfl (by kernel_rfl) (by kernel_rfl) (by kernel_rfl) (fun _ _ _ h => h) (by rfl) ?_ (by assumption) ?_; rotate_left; (intro w hSw; (try dsimp only at hSw); (first | (go_simp; done) | (go_simp; with_reducible rfl))); (try simp only [Act.put, List.setIfInBounds_toArray, List.set_cons_zero, List.set_cons_succ]))
  (refine held_take (i := 4) (v := ?_) rfl (by kernel_rfl) (by kernel_rfl) (by kernel_rfl) (fun _ _ _ h => h) (by rfl) ?_ (by assumption) ?_; rotate_left; (intro w hSw; (try dsimp only at hSw); (first | (go_simp; done) | (go_simp; with_reducible rfl))); (try simp only [Act.put, List.setIfInBounds_toArray, List.set_cons_zero, List.set_cons_succ]))
  (refine held_take (i := 5) (v := ?_) rfl (by kernel_rfl) (by kernel_rfl) (by kernel_rfl) (fun _ _ _ h => h) (by rfl) ?_ (by assumption) ?_; rotate_left; (intro w hSw; (try dsimp only at hSw); (first | (go_simp; done) | (go_simp; with_reducible rfl))); (try simp only [Act.put, List.setIfInBounds_toArray, List.set_cons_zero, List.set_cons_succ]))
  (refine held_take (i := 6) (v := ?_) rfl (by kernel_rfl) (by kernel_rfl) (by kernel_rfl) (fun _ _ _ h => h) (by rfl) ?_ (by assumption) ?_; rotate_left; (intro w hSw; (try dsimp only at hSw); (first | (go_simp; done) | (go_simp; with_reducible rfl))); (try simp only [Act.put, List.setIfInBounds_toArray, List.set_cons_zero, List.set_cons_succ]))
  (refine held_take (i := 7) (v := ?_) rfl (by kernel_rfl) (by kernel_rfl) (by kernel_rfl) (fun _ _ _ h => h) (by rfl) ?_ (by assumption) ?_; rotate_left; (intro w hSw; (try dsimp only at hSw); (first | (go_simp; done) | (go_simp; with_reducible rfl))); (try simp only [Act.put, List.setIfInBounds_toArray, List.set_cons_zero, List.set_cons_succ]))
  refine wpAnyH_take (i := 8) (at_drop rfl) (by kernel_rfl) (by kernel_rfl) (by kernel_rfl) (fun _ _ _ h => h) (yieldsIf_load_mid (by rfl) 47 _ rfl w.heap.size 0 rfl (rc S).toList _ (fun w h => h.1) Try.underlying47 rfl (inf_rm S)) (by assumption) ?_
  rw [Array.toArray_toList]
  (try simp only [Act.put, List.setIfInBounds_toArray, List.set_cons_zero, List.set_cons_succ])
  (refine held_take (i := 9) (v := ?_) rfl (by kernel_rfl) (by kernel_rfl) (by kernel_rfl) (fun _ _ _ h => h) (by rfl) ?_ (by assumption) ?_; rotate_left; (intro w hSw; (try dsimp only at hSw); (first | (go_simp; done) | (go_simp; with_reducible rfl))); (try simp only [Act.put, List.setIfInBounds_toArray, List.set_cons_zero, List.set_cons_succ]))
  (refine held_take (i := 10) (v := ?_) rfl (by kernel_rfl) (by kernel_rfl) (by kernel_rfl) (fun _ _ _ h => h) (by rfl) ?_ (by assumption) ?_; rotate_left; (intro w hSw; (try dsimp only at hSw); (first | (go_simp; done) | (go_simp; with_reducible rfl))); (try simp only [Act.put, List.setIfInBounds_toArray, List.set_cons_zero, List.set_cons_succ]))
  refine wpAnyH_ready (rs := [11]) (by kernel_rfl) (by simp) (held_cons rfl (fun K hK => ?_) AllReadyH.nil)
  go_simp
  refine (CI W0).mono ?_
  rintro e w5 ⟨rfl, hx5⟩
  have HB := hide (HB.out.ext hx5)
  have HE := hide (HE.out.ext hx5)
  have HR := hide (HR.out.ext hx5)
  have HX := hide (HX.out.trans hx5)
  clear hx5
  generalize w5 = W0 at *
  (refine hK.out _ _ ?_ (fun hHeld => ?_))
  · exact ⟨rc_rng HB.out, HE.out.cell⟩
  (try simp only [Act.put, List.setIfInBounds_toArray, List.set_cons_zero, List.set_cons_succ])
  (refine held_take (i := 12) (v := ?_) rfl (by kernel_rfl) (by kernel_rfl) (by kernel_rfl) (fun _ _ _ h => h) (by rfl) ?_ (by assumption) ?_; rotate_left; (intro w hSw; (try dsimp only at hSw); (first | (go_simp; done) | (go_simp; with_reducible rfl))); (try simp only [Act.put, List.setIfInBounds_toArray, List.set_cons_zero, List.set_cons_succ]))
  (refine held_take (i := 13) (v := ?_) rfl (by kernel_rfl) (by kernel_rfl) (by kernel_rfl) (fun _ _ _ h => h) (by rfl) ?_ (by assumption) ?_; rotate_left; (intro w hSw; (try dsimp only at hSw); (first | (go_simp; done) | (go_simp; with_reducible rfl))); (try simp only [Act.put, List.setIfInBounds_toArray, List.set_cons_zero, List.set_cons_succ]))
  (refine held_take (i := 14) (v := ?_) rfl (by kernel_rfl) (by kernel_rfl) (by kernel_rfl) (fun _ _ _ h => h) (by rfl) ?_ (by assumption) ?_; rotate_left; (intro w hSw; (try dsimp only at hSw); (first | (go_simp; done) | (go_simp; with_reducible rfl))); (try simp only [Act.put, List.setIfInBounds_toArray, List.set_cons_zero, List.set_cons_succ]))
  (refine held_skip (i := 15) rfl (by kernel_rfl) (by kernel_rfl) (by kernel_rfl) (fun _ _ _ h => h) (by rfl) (by assumption) ?_; (try simp only [Act.put, List.setIfInBounds_toArray, List.set_cons_zero, List.set_cons_succ]))
  (refine held_skip (i := 16) rfl (by kernel_rfl) (by kernel_rfl) (by kernel_rfl) (fun _ _ _ h => h) (by rfl) (by assumption) ?_; (try simp only [Act.put, List.setIfInBounds_toArray, List.set_cons_zero, List.set_cons_succ]))
  (refine held_skip (i := 17) rfl (by kernel_rfl) (by kernel_rfl) (by kernel_rfl) (fun _ _ _ h => h) (by rfl) (by assumption) ?_; (try simp only [Act.put, List.setIfInBounds_toArray, List.set_cons_zero, List.set_cons_succ]))
  (refine held_skip (i := 18) rfl (by kernel_rfl) (by kernel_rfl) (by kernel_rfl) (fun _ _ _ h => h) (by rfl) (by assumption) ?_; (try simp only [Act.put, List.setIfInBounds_toArray, List.set_cons_zero, List.set_cons_succ]))
  (refine held_skip (i := 19) rfl (by kernel_rfl) (by kernel_rfl) (by kernel_rfl) (fun _ _ _ h => h) (by rfl) (by assumption) ?_; (try simp only [Act.put, List.setIfInBounds_toArray, List.set_cons_zero, List.set_cons_succ]))
  (refine held_skip (i := 20) rfl (by kernel_rfl) (by kernel_rfl) (by kernel_rfl) (fun _ _ _ h => h) (by rfl) (by assumption) ?_; (try simp only [Act.put, List.setIfInBounds_toArray, List.set_cons_zero, List.set_cons_succ]))
  (refine held_skip (i := 21) rfl (by kernel_rfl) (by kernel_rfl) (by kernel_rfl) (fun _ _ _ h => h) (by rfl) (by assumption) ?_; (try simp only [Act.put, List.setIfInBounds_toArray, List.set_cons_zero, List.set_cons_succ]))
  (refine held_skip (i := 22) rfl (by kernel_rfl) (by kernel_rfl) (by kernel_rfl) (fun _ _ _ h => h) (by rfl) (by assumption) ?_; (try simp only [Act.put, List.setIfInBounds_toArray, List.set_cons_zero, List.set_cons_succ]))
  (refine held_skip (i := 23) rfl (by kernel_rfl) (by kernel_rfl) (by kernel_rfl) (fun _ _ _ h => h) (by rfl) (by assumption) ?_; (try simp only [Act.put, List.setIfInBounds_toArray, List.set_cons_zero, List.set_cons_succ]))
  (refine held_take (i := 24) (v := ?_) rfl (by kernel_rfl) (by kernel_rfl) (by kernel_rfl) (fun _ _ _ h => h) (by rfl) ?_ (by assumption) ?_; rotate_left; (intro w hSw; (try dsimp only at hSw); (first | (go_simp; done) | (go_simp; with_reducible rfl))); (try simp only [Act.put, List.setIfInBounds_toArray, List.set_cons_zero, List.set_cons_succ]))
  refine wpAnyH_done (by kernel_rfl) ?_ _
  go_wp2_with first | (with_reducible refine wpList_get rfl _ rfl w.heap.size _ rfl HB.out ?_; go_frame) | (with_reducible refine wpList_put rfl _ _ rfl (w.heap.size + 1 + 1) S rfl rfl zz HR.out HZ.out ?_; intro w' hb' hc' hs'; have HX' := hide (HX.out.turn hc' (by simp; omega)); clear hc' hs'; go_frame) | go_in
  refine bodyPost_ret (res_of Try.results44 _ _ rfl rfl hb') rfl ?_
  exact ⟨by rfl, HX'.out⟩
theorem rtell_7d {S : St} (ok : Ok S) {t o : Nat} (s : Nat) (ht : t < S.N) (ho : o < S.M) (E : (S.own o + 1 == (t : Int) + 1) = true) (q : isT S (s : Int) = true) (Z : (plA S o s 0 == 0) = true) (w : World) :
    Calls Try.prog 44 #[.agg (rc S), (Value.agg #[Value.int .i64 7, .int .i64 (t : Int), .int .i64 (o : Int), .int .i64 (s : Int), .int .i64 0])] w fun e w' => e = .returned (.tuple #[.agg (rc S), .bool false]) ∧ Ext w w' := by
  have E := hide E
  have CI := fun w => ris_any S (s : Int) w
  rw [q] at CI
  have hs8 : s < 8 := by have := (isT_iff.1 q).2; have := ok.n1; omega
  have k8 : (s : Int) < 8 := by omega
  have P0 := hide (show (rc S)[35 + o * 24 + s * 3]? = some (.int .i64 (plA S o s 0)) from rc_pla (o := o) (t := s) (j := 0) (by have := ok.m1; omega) hs8 (by omega))
  have P1 := hide (show (rc S)[35 + o * 24 + s * 3 + 1]? = some (.int .i64 (plA S o s 1)) from rc_pla (o := o) (t := s) (j := 1) (by have := ok.m1; omega) hs8 (by omega))
  have P2 := hide (show (rc S)[35 + o * 24 + s * 3 + 2]? = some (.int .i64 (plA S o s 2)) from rc_pla (o := o) (t := s) (j := 2) (by have := ok.m1; omega) hs8 (by omega))
  have HP0 := hide (show (S.wt o s).getD 0 = plA S o s 0 from rfl)
  generalize plA S o s 0 = p0 at *
  generalize plA S o s 1 = p1 at *
  generalize plA S o s 2 = p2 at *
  have Z := hide Z
  have n1 := ok.n1
  have m1 := ok.m1
  have ho8 : o < 8 := by omega
  have ht8 : t < 8 := by omega
  have i8 : (o : Int) < 8 := by omega
  have j8 : (t : Int) < 8 := by omega
  obtain ⟨zz, hz1, hz2, hz3, hz4, -⟩ : ∃ zz : Array Value, (∀ w, (zeroValue 47).run Try.prog w = .ok (.agg zz) w) ∧ ¬ zz = #[] ∧ ¬ zz.size < 2 ∧ zz.size = 227 ∧ zz = zr := ⟨_, fun w => by kernel_rfl, by decide +kernel, by decide +kernel, by decide +kernel, rfl⟩
  have HZ := hide hz4
  clear hz4
  go_enter Try.func44, Try.ntmps44
  go_upto_region 1 with fail
  have HB := hide (((Blk.new w (rc S) 47).ext (Ext.alloc _ (.cells #[Value.int .i64 7, .int .i64 (t : Int), .int .i64 (o : Int), .int .i64 (s : Int), .int .i64 0] 29))).ext (Ext.alloc _ (.cells zz 47)))
  have HE := Blk.new (w.alloc (.cells (rc S) 47)) #[Value.int .i64 7, .int .i64 (t : Int), .int .i64 (o : Int), .int .i64 (s : Int), .int .i64 0] 29
  rw [World.size_alloc] at HE
  have HE := hide (HE.ext (Ext.alloc _ (.cells zz 47)))
  have HR := Blk.new ((w.alloc (.cells (rc S) 47)).alloc (.cells #[Value.int .i64 7, .int .i64 (t : Int), .int .i64 (o : Int), .int .i64 (s : Int), .int .i64 0] 29)) zz 47
  rw [World.size_alloc, World.size_alloc] at HR
  have HR := hide HR
  have HX := hide (((Ext.alloc w (.cells (rc S) 47)).trans (Ext.alloc _ (.cells #[Value.int .i64 7, .int .i64 (t : Int), .int .i64 (o : Int), .int .i64 (s : Int), .int .i64 0] 29))).trans (Ext.alloc _ (.cells zz 47)))
  generalize (((w.alloc (.cells (rc S) 47)).alloc (.cells #[Value.int .i64 7, .int .i64 (t : Int), .int .i64 (o : Int), .int .i64 (s : Int), .int .i64 0] 29)).alloc (.cells zz 47)) = W0 at *
  clear hz1 hz2 hz3
  have re := HE.out.cell
  go_upto_region 2 with fail
  have re := (HE.out.ext (Ext.drew W0)).cell
  have r1 : W0.drew.cell? ⟨w.heap.size, 3 + o, none⟩ = some (.int .i64 (S.own o + 1)) := by rw [(HB.out.ext (Ext.drew W0)).cell]; exact rc_own ho8
  generalize S.own o + 1 = y at *
  go_region
  clear re r1
  have HB := hide (HB.out.ext (Ext.drew W0))
  have HE := hide (HE.out.ext (Ext.drew W0))
  have HR := hide (HR.out.ext (Ext.drew W0))
  have HX := hide (HX.out.trans (Ext.drew W0))
  generalize W0.drew = W0 at *
  have re := HE.out.cell
  have y1 := E.out
  have z1 := Z.out
  go_wp2_with fail
  clear re
  have HB := hide (HB.out.ext (Ext.drew W0))
  have HE := hide (HE.out.ext (Ext.drew W0))
  have HR := hide (HR.out.ext (Ext.drew W0))
  have HX := hide (HX.out.trans (Ext.drew W0))
  have PP : Hid (∀ w', Blk w' w.heap.size (rc S) 47 → w'.cell? ⟨w.heap.size, 35 + o * 24 + s * 3, none⟩ = some (.int .i64 p0)) := hide fun w' h => by rw [h.cell]; exact P0.out
  refine wp_region_held_drew (S := fun w' => w'.rangeAt w.heap.size 0 (rc S).toList ∧ ((∀ i, w'.cell? ⟨w.heap.size + 1, i, none⟩ = #[Value.int .i64 7, .int .i64 (t : Int), .int .i64 (o : Int), .int .i64 (s : Int), .int .i64 0][i]?) ∧ w'.cell? ⟨w.heap.size, 35 + o * 24 + s * 3, none⟩ = some (.int .i64 p0))) (by kernel_rfl) (by exact ⟨rc_rng HB.out, HE.out.cell, PP.out _ HB.out⟩) (fun hHeld => ?_)
  generalize W0.drew = W0 at *
  (refine held_take (i := 0) (v := ?_) rfl (by kernel_rfl) (by kernel_rfl) (by kernel_rfl) (fun _ _ _ h => h) (by rfl) ?_ (by assumption) ?_; rotate_left; (intro w hSw; (try dsimp only at hSw); (first | (go_simp; done) | (go_simp; with_reducible rfl))); (try simp only [Act.put, List.setIfInBounds_toArray, List.set_cons_zero, List.set_cons_succ]))
  (refine held_take (i := 1) (v := ?_) rfl (by kernel_rfl) (by kernel_rfl) (by kernel_rfl) (fun _ _ _ h => h) (by rfl) ?_ (by assumption) ?_; rotate_left; (intro w hSw; (try dsimp only at hSw); (first | (go_simp; done) | (go_simp; with_reducible rfl))); (try simp only [Act.put, List.setIfInBounds_toArray, List.set_cons_zero, List.set_cons_succ]))
  (refine held_take (i := 2) (v := ?_) rfl (by kernel_rfl) (by kernel_rfl) (by kernel_rfl) (fun _ _ _ h => h) (by rfl) ?_ (by assumption) ?_; rotate_left; (intro w hSw; (try dsimp only at hSw); (first | (go_simp; done) | (go_simp; with_reducible rfl))); (try simp only [Act.put, List.setIfInBounds_toArray, List.set_cons_zero, List.set_cons_succ]))
  (refine held_take (i := 3) (v := ?_) rfl (by kernel_rfl) (by kernel_rfl) (by kernel_rfl) (fun _ _ _ h => h) (by rfl) ?_ (by assumption) ?_; rotate_left; (intro w hSw; (try dsimp only at hSw); (first | (go_simp; done) | (go_simp; with_reducible rfl))); (try simp only [Act.put, List.setIfInBounds_toArray, List.set_cons_zero, List.set_cons_succ]))
  (refine held_take (i := 4) (v := ?_) rfl (by kernel_rfl) (by kernel_rfl) (by kernel_rfl) (fun _ _ _ h => h) (by rfl) ?_ (by assumption) ?_; rotate_left; (intro w hSw; (try dsimp only at hSw); (first | (go_simp; done) | (go_simp; with_reducible rfl))); (try simp only [Act.put, List.setIfInBounds_toArray, List.set_cons_zero, List.set_cons_succ]))
  (refine held_take (i := 5) (v := ?_) rfl (by kernel_rfl) (by kernel_rfl) (by kernel_rfl) (fun _ _ _ h => h) (by rfl) ?_ (by assumption) ?_; rotate_left; (intro w hSw; (try dsimp only at hSw); (first | (go_simp; done) | (go_simp; with_reducible rfl))); (try simp only [Act.put, List.setIfInBounds_toArray, List.set_cons_zero, List.set_cons_succ]))
  (refine held_take (i := 6) (v := ?_) rfl (by kernel_rfl) (by kernel_rfl) (by kernel_rfl) (fun _ _ _ h => h) (by rfl) ?_ (by assumption) ?_; rotate_left; (intro w hSw; (try dsimp only at hSw); (first | (go_simp; done) | (go_simp; with_reducible rfl))); (try simp only [Act.put, List.setIfInBounds_toArray, List.set_cons_zero, List.set_cons_succ]))
  (refine held_take (i := 7) (v := ?_) rfl (by kernel_rfl) (by kernel_rfl) (by kernel_rfl) (fun _ _ _ h => h) (by rfl) ?_ (by assumption) ?_; rotate_left; (intro w hSw; (try dsimp only at hSw); (first | (go_simp; done) | (go_simp; with_reducible rfl))); (try simp only [Act.put, List.setIfInBounds_toArray, List.set_cons_zero, List.set_cons_succ]))
  refine wpAnyH_take (i := 8) (at_drop rfl) (by kernel_rfl) (by kernel_rfl) (by kernel_rfl) (fun _ _ _ h => h) (yieldsIf_load_mid (by rfl) 47 _ rfl w.heap.size 0 rfl (rc S).toList _ (fun w h => h.1) Try.underlying47 rfl (inf_rm S)) (by assumption) ?_
  rw [Array.toArray_toList]
  (try simp only [Act.put, List.setIfInBounds_toArray, List.set_cons_zero, List.set_cons_succ])
  (refine held_take (i := 9) (v := ?_) rfl (by kernel_rfl) (by kernel_rfl) (by kernel_rfl) (fun _ _ _ h => h) (by rfl) ?_ (by assumption) ?_; rotate_left; (intro w hSw; (try dsimp only at hSw); (first | (go_simp; done) | (go_simp; with_reducible rfl))); (try simp only [Act.put, List.setIfInBounds_toArray, List.set_cons_zero, List.set_cons_succ]))
  (refine held_take (i := 10) (v := ?_) rfl (by kernel_rfl) (by kernel_rfl) (by kernel_rfl) (fun _ _ _ h => h) (by rfl) ?_ (by assumption) ?_; rotate_left; (intro w hSw; (try dsimp only at hSw); (first | (go_simp; done) | (go_simp; with_reducible rfl))); (try simp only [Act.put, List.setIfInBounds_toArray, List.set_cons_zero, List.set_cons_succ]))
  refine wpAnyH_ready (rs := [11]) (by kernel_rfl) (by simp) (held_cons rfl (fun K hK => ?_) AllReadyH.nil)
  go_simp
  refine (CI W0).mono ?_
  rintro e w5 ⟨rfl, hx5⟩
  have HB := hide (HB.out.ext hx5)
  have HE := hide (HE.out.ext hx5)
  have HR := hide (HR.out.ext hx5)
  have HX := hide (HX.out.trans hx5)
  clear hx5
  generalize w5 = W0 at *
  (refine hK.out _ _ ?_ (fun hHeld => ?_))
  · exact ⟨rc_rng HB.out, HE.out.cell, PP.out _ HB.out⟩
  (try simp only [Act.put, List.setIfInBounds_toArray, List.set_cons_zero, List.set_cons_succ])
  (refine held_take (i := 12) (v := ?_) rfl (by kernel_rfl) (by kernel_rfl) (by kernel_rfl) (fun _ _ _ h => h) (by rfl) ?_ (by assumption) ?_; rotate_left; (intro w hSw; (try dsimp only at hSw); (first | (go_simp; done) | (go_simp; with_reducible rfl))); (try simp only [Act.put, List.setIfInBounds_toArray, List.set_cons_zero, List.set_cons_succ]))
  (refine held_take (i := 13) (v := ?_) rfl (by kernel_rfl) (by kernel_rfl) (by kernel_rfl) (fun _ _ _ h => h) (by rfl) ?_ (by assumption) ?_; rotate_left; (intro w hSw; (try dsimp only at hSw); (first | (go_simp; done) | (go_simp; with_reducible rfl))); (try simp only [Act.put, List.setIfInBounds_toArray, List.set_cons_zero, List.set_cons_succ]))
  (refine held_take (i := 14) (v := ?_) rfl (by kernel_rfl) (by kernel_rfl) (by kernel_rfl) (fun _ _ _ h => h) (by rfl) ?_ (by assumption) ?_; rotate_left; (intro w hSw; (try dsimp only at hSw); (first | (go_simp; done) | (go_simp; with_reducible rfl))); (try simp only [Act.put, List.setIfInBounds_toArray, List.set_cons_zero, List.set_cons_succ]))
  (refine held_take (i := 15) (v := ?_) rfl (by kernel_rfl) (by kernel_rfl) (by kernel_rfl) (fun _ _ _ h => h) (by rfl) ?_ (by assumption) ?_; rotate_left; (intro w hSw; (try dsimp only at hSw); (first | (go_simp; done) | (go_simp; with_reducible rfl))); (try simp only [Act.put, List.setIfInBounds_toArray, List.set_cons_zero, List.set_cons_succ]))
  (refine held_take (i := 16) (v := ?_) rfl (by kernel_rfl) (by kernel_rfl) (by kernel_rfl) (fun _ _ _ h => h) (by rfl) ?_ (by assumption) ?_; rotate_left; (intro w hSw; (try dsimp only at hSw); (first | (go_simp; done) | (go_simp; with_reducible rfl))); (try simp only [Act.put, List.setIfInBounds_toArray, List.set_cons_zero, List.set_cons_succ]))
  (refine held_take (i := 17) (v := ?_) rfl (by kernel_rfl) (by kernel_rfl) (by kernel_rfl) (fun _ _ _ h => h) (by rfl) ?_ (by assumption) ?_; rotate_left; (intro w hSw; (try dsimp only at hSw); (first | (go_simp; done) | (go_simp; with_reducible rfl))); (try simp only [Act.put, List.setIfInBounds_toArray, List.set_cons_zero, List.set_cons_succ]))
  (refine held_take (i := 18) (v := ?_) rfl (by kernel_rfl) (by kernel_rfl) (by kernel_rfl) (fun _ _ _ h => h) (by rfl) ?_ (by assumption) ?_; rotate_left; (intro w hSw; (try dsimp only at hSw); (first | (go_simp; done) | (go_simp; with_reducible rfl))); (try simp only [Act.put, List.setIfInBounds_toArray, List.set_cons_zero, List.set_cons_succ]))
  (refine held_take (i := 19) (v := ?_) rfl (by kernel_rfl) (by kernel_rfl) (by kernel_rfl) (fun _ _ _ h => h) (by rfl) ?_ (by assumption) ?_; rotate_left; (intro w hSw; (try dsimp only at hSw); (first | (go_simp; done) | (go_simp; with_reducible rfl))); (try simp only [Act.put, List.setIfInBounds_toArray, List.set_cons_zero, List.set_cons_succ]))
  (refine held_take (i := 20) (v := ?_) rfl (by kernel_rfl) (by kernel_rfl) (by kernel_rfl) (fun _ _ _ h => h) (by rfl) ?_ (by assumption) ?_; rotate_left; (intro w hSw; (try dsimp only at hSw); (first | (go_simp; done) | (go_simp; with_reducible rfl))); (try simp only [Act.put, List.setIfInBounds_toArray, List.set_cons_zero, List.set_cons_succ]))
  (refine held_take (i := 21) (v := ?_) rfl (by kernel_rfl) (by kernel_rfl) (by kernel_rfl) (fun _ _ _ h => h) (by rfl) ?_ (by assumption) ?_; rotate_left; (intro w hSw; (try dsimp only at hSw); (first | (go_simp; done) | (go_simp; with_reducible rfl))); (try simp only [Act.put, List.setIfInBounds_toArray, List.set_cons_zero, List.set_cons_succ]))
  (refine held_take (i := 22) (v := ?_) rfl (by kernel_rfl) (by kernel_rfl) (by kernel_rfl) (fun _ _ _ h => h) (by rfl) ?_ (by assumption) ?_; rotate_left; (intro w hSw; (try dsimp only at hSw); (first | (go_simp; done) | (go_simp; with_reducible rfl))); (try simp only [Act.put, List.setIfInBounds_toArray, List.set_cons_zero, List.set_cons_succ]))
  (refine held_take (i := 23) (v := ?_) rfl (by kernel_rfl) (by kernel_rfl) (by kernel_rfl) (fun _ _ _ h => h) (by rfl) ?_ (by assumption) ?_; rotate_left; (intro w hSw; (try dsimp only at hSw); (first | (go_simp; done) | (go_simp; with_reducible rfl))); (try simp only [Act.put, List.setIfInBounds_toArray, List.set_cons_zero, List.set_cons_succ]))
  (refine held_take (i := 24) (v := ?_) rfl (by kernel_rfl) (by kernel_rfl) (by kernel_rfl) (fun _ _ _ h => h) (by rfl) ?_ (by assumption) ?_; rotate_left; (intro w hSw; (try dsimp only at hSw); (first | (go_simp; done) | (go_simp; with_reducible rfl))); (try simp only [Act.put, List.setIfInBounds_toArray, List.set_cons_zero, List.set_cons_succ]))
  refine wpAnyH_done (by kernel_rfl) ?_ _
  go_wp2_with first | (with_reducible refine wpList_get rfl _ rfl w.heap.size _ rfl HB.out ?_; go_frame) | (with_reducible refine wpList_put rfl _ _ rfl (w.heap.size + 1 + 1) S rfl rfl zz HR.out HZ.out ?_; intro w' hb' hc' hs'; have HX' := hide (HX.out.turn hc' (by simp; omega)); clear hc' hs'; go_frame) | go_in
  refine bodyPost_ret (res_of Try.results44 _ _ rfl rfl hb') rfl ?_
  exact ⟨by rfl, HX'.out⟩
theorem rtell_7e {S : St} (ok : Ok S) {t o : Nat} (s : Nat) (ht : t < S.N) (ho : o < S.M) (E : (S.own o + 1 == (t : Int) + 1) = true) (q : isT S (s : Int) = true) (Z : (plA S o s 0 == 0) = false) (w : World) :
    Calls Try.prog 44 #[.agg (rc S), (Value.agg #[Value.int .i64 7, .int .i64 (t : Int), .int .i64 (o : Int), .int .i64 (s : Int), .int .i64 0])] w fun e w' => e = .returned (.tuple #[.agg (rc (lvS S o s 0)), .bool true]) ∧ Ext w w' := by
  have EB := hide (show lvS S o s 0 = { S with wt := upd2 S.wt o s none, lf := upd2 S.lf o s (some ((S.wt o s).getD 0, 0)) } from rfl)
  rw [EB.out]
  have E := hide E
  have CI := fun w => ris_any S (s : Int) w
  rw [q] at CI
  have hs8 : s < 8 := by have := (isT_iff.1 q).2; have := ok.n1; omega
  have k8 : (s : Int) < 8 := by omega
  have P0 := hide (show (rc S)[35 + o * 24 + s * 3]? = some (.int .i64 (plA S o s 0)) from rc_pla (o := o) (t := s) (j := 0) (by have := ok.m1; omega) hs8 (by omega))
  have P1 := hide (show (rc S)[35 + o * 24 + s * 3 + 1]? = some (.int .i64 (plA S o s 1)) from rc_pla (o := o) (t := s) (j := 1) (by have := ok.m1; omega) hs8 (by omega))
  have P2 := hide (show (rc S)[35 + o * 24 + s * 3 + 2]? = some (.int .i64 (plA S o s 2)) from rc_pla (o := o) (t := s) (j := 2) (by have := ok.m1; omega) hs8 (by omega))
  have HP0 := hide (show (S.wt o s).getD 0 = plA S o s 0 from rfl)
  generalize plA S o s 0 = p0 at *
  generalize plA S o s 1 = p1 at *
  generalize plA S o s 2 = p2 at *
  have Z := hide Z
  have n1 := ok.n1
  have m1 := ok.m1
  have ho8 : o < 8 := by omega
  have ht8 : t < 8 := by omega
  have i8 : (o : Int) < 8 := by omega
  have j8 : (t : Int) < 8 := by omega
  obtain ⟨zz, hz1, hz2, hz3, hz4, -⟩ : ∃ zz : Array Value, (∀ w, (zeroValue 47).run Try.prog w = .ok (.agg zz) w) ∧ ¬ zz = #[] ∧ ¬ zz.size < 2 ∧ zz.size = 227 ∧ zz = zr := ⟨_, fun w => by kernel_rfl, by decide +kernel, by decide +kernel, by decide +kernel, rfl⟩
  have HZ := hide hz4
  clear hz4
  go_enter Try.func44, Try.ntmps44
  go_upto_region 1 with fail
  have HB := hide (((Blk.new w (rc S) 47).ext (Ext.alloc _ (.cells #[Value.int .i64 7, .int .i64 (t : Int), .int .i64 (o : Int), .int .i64 (s : Int), .int .i64 0] 29))).ext (Ext.alloc _ (.cells zz 47)))
  have HE := Blk.new (w.alloc (.cells (rc S) 47)) #[Value.int .i64 7, .int .i64 (t : Int), .int .i64 (o : Int), .int .i64 (s : Int), .int .i64 0] 29
  rw [World.size_alloc] at HE
  have HE := hide (HE.ext (Ext.alloc _ (.cells zz 47)))
  have HR := Blk.new ((w.alloc (.cells (rc S) 47)).alloc (.cells #[Value.int .i64 7, .int .i64 (t : Int), .int .i64 (o : Int), .int .i64 (s : Int), .int .i64 0] 29)) zz 47
  rw [World.size_alloc, World.size_alloc] at HR
  have HR := hide HR
  have HX := hide (((Ext.alloc w (.cells (rc S) 47)).trans (Ext.alloc _ (.cells #[Value.int .i64 7, .int .i64 (t : Int), .int .i64 (o : Int), .int .i64 (s : Int), .int .i64 0] 29))).trans (Ext.alloc _ (.cells zz 47)))
  generalize (((w.alloc (.cells (rc S) 47)).alloc (.cells #[Value.int .i64 7, .int .i64 (t : Int), .int .i64 (o : Int), .int .i64 (s : Int), .int .i64 0] 29)).alloc (.cells zz 47)) = W0 at *
  clear hz1 hz2 hz3
  have re := HE.out.cell
  go_upto_region 2 with fail
  have re := (HE.out.ext (Ext.drew W0)).cell
  have r1 : W0.drew.cell? ⟨w.heap.size, 3 + o, none⟩ = some (.int .i64 (S.own o + 1)) := by rw [(HB.out.ext (Ext.drew W0)).cell]; exact rc_own ho8
  generalize S.own o + 1 = y at *
  go_region
  clear re r1
  have HB := hide (HB.out.ext (Ext.drew W0))
  have HE := hide (HE.out.ext (Ext.drew W0))
  have HR := hide (HR.out.ext (Ext.drew W0))
  have HX := hide (HX.out.trans (Ext.drew W0))
  generalize W0.drew = W0 at *
  have re := HE.out.cell
  have y1 := E.out
  have z1 := Z.out
  go_wp2_with fail
  clear re
  have HB := hide (HB.out.ext (Ext.drew W0))
  have HE := hide (HE.out.ext (Ext.drew W0))
  have HR := hide (HR.out.ext (Ext.drew W0))
  have HX := hide (HX.out.trans (Ext.drew W0))
  have PP : Hid (∀ w', Blk w' w.heap.size (rc S) 47 → w'.cell? ⟨w.heap.size, 35 + o * 24 + s * 3, none⟩ = some (.int .i64 p0)) := hide fun w' h => by rw [h.cell]; exact P0.out
  refine wp_region_held_drew (S := fun w' => w'.rangeAt w.heap.size 0 (rc S).toList ∧ ((∀ i, w'.cell? ⟨w.heap.size + 1, i, none⟩ = #[Value.int .i64 7, .int .i64 (t : Int), .int .i64 (o : Int), .int .i64 (s : Int), .int .i64 0][i]?) ∧ w'.cell? ⟨w.heap.size, 35 + o * 24 + s * 3, none⟩ = some (.int .i64 p0))) (by kernel_rfl) (by exact ⟨rc_rng HB.out, HE.out.cell, PP.out _ HB.out⟩) (fun hHeld => ?_)
  generalize W0.drew = W0 at *
  (refine held_take (i := 0) (v := ?_) rfl (by kernel_rfl) (by kernel_rfl) (by kernel_rfl) (fun _ _ _ h => h) (by rfl) ?_ (by assumption) ?_; rotate_left; (intro w hSw; (try dsimp only at hSw); (first | (go_simp; done) | (go_simp; with_reducible rfl))); (try simp only [Act.put, List.setIfInBounds_toArray, List.set_cons_zero, List.set_cons_succ]))
  (refine held_take (i := 1) (v := ?_) rfl (by kernel_rfl) (by kernel_rfl) (by kernel_rfl) (fun _ _ _ h => h) (by rfl) ?_ (by assumption) ?_; rotate_left; (intro w hSw; (try dsimp only at hSw); (first | (go_simp; done) | (go_simp; with_reducible rfl))); (try simp only [Act.put, List.setIfInBounds_toArray, List.set_cons_zero, List.set_cons_succ]))
  (refine held_take (i := 2) (v := ?_) rfl (by kernel_rfl) (by kernel_rfl) (by kernel_rfl) (fun _ _ _ h => h) (by rfl) ?_ (by assumption) ?_; rotate_left; (intro w hSw; (try dsimp only at hSw); (first | (go_simp; done) | (go_simp; with_reducible rfl))); (try simp only [Act.put, List.setIfInBounds_toArray, List.set_cons_zero, List.set_cons_succ]))
  (refine held_take (i := 3) (v := ?_) rfl (by kernel_rfl) (by kernel_rfl) (by kernel_rfl) (fun _ _ _ h => h) (by rfl) ?_ (by assumption) ?_; rotate_left; (intro w hSw; (try dsimp only at hSw); (first | (go_simp; done) | (go_simp; with_reducible rfl))); (try simp only [Act.put, List.setIfInBounds_toArray, List.set_cons_zero, List.set_cons_succ]))
  (refine held_take (i := 4) (v := ?_) rfl (by kernel_rfl) (by kernel_rfl) (by kernel_rfl) (fun _ _ _ h => h) (by rfl) ?_ (by assumption) ?_; rotate_left; (intro w hSw; (try dsimp only at hSw); (first | (go_simp; done) | (go_simp; with_reducible rfl))); (try simp only [Act.put, List.setIfInBounds_toArray, List.set_cons_zero, List.set_cons_succ]))
  (refine held_take (i := 5) (v := ?_) rfl (by kernel_rfl) (by kernel_rfl) (by kernel_rfl) (fun _ _ _ h => h) (by rfl) ?_ (by assumption) ?_; rotate_left; (intro w hSw; (try dsimp only at hSw); (first | (go_simp; done) | (go_simp; with_reducible rfl))); (try simp only [Act.put, List.setIfInBounds_toArray, List.set_cons_zero, List.set_cons_succ]))
  (refine held_take (i := 6) (v := ?_) rfl (by kernel_rfl) (by kernel_rfl) (by kernel_rfl) (fun _ _ _ h => h) (by rfl) ?_ (by assumption) ?_; rotate_left; (intro w hSw; (try dsimp only at hSw); (first | (go_simp; done) | (go_simp; with_reducible rfl))); (try simp only [Act.put, List.setIfInBounds_toArray, List.set_cons_zero, List.set_cons_succ]))
  (refine held_take (i := 7) (v := ?_) rfl (by kernel_rfl) (by kernel_rfl) (by kernel_rfl) (fun _ _ _ h => h) (by rfl) ?_ (by assumption) ?_; rotate_left; (intro w hSw; (try dsimp only at hSw); (first | (go_simp; done) | (go_simp; with_reducible rfl))); (try simp only [Act.put, List.setIfInBounds_toArray, List.set_cons_zero, List.set_cons_succ]))
  refine wpAnyH_take (i := 8) (at_drop rfl) (by kernel_rfl) (by kernel_rfl) (by kernel_rfl) (fun _ _ _ h => h) (yieldsIf_load_mid (by rfl) 47 _ rfl w.heap.size 0 rfl (rc S).toList _ (fun w h => h.1) Try.underlying47 rfl (inf_rm S)) (by assumption) ?_
  rw [Array.toArray_toList]
  (try simp only [Act.put, List.setIfInBounds_toArray, List.set_cons_zero, List.set_cons_succ])
  (refine held_take (i := 9) (v := ?_) rfl (by kernel_rfl) (by kernel_rfl) (by kernel_rfl) (fun _ _ _ h => h) (by rfl) ?_ (by assumption) ?_; rotate_left; (intro w hSw; (try dsimp only at hSw); (first | (go_simp; done) | (go_simp; with_reducible rfl))); (try simp only [Act.put, List.setIfInBounds_toArray, List.set_cons_zero, List.set_cons_succ]))
  (refine held_take (i := 10) (v := ?_) rfl (by kernel_rfl) (by kernel_rfl) (by kernel_rfl) (fun _ _ _ h => h) (by rfl) ?_ (by assumption) ?_; rotate_left; (intro w hSw; (try dsimp only at hSw); (first | (go_simp; done) | (go_simp; with_reducible rfl))); (try simp only [Act.put, List.setIfInBounds_toArray, List.set_cons_zero, List.set_cons_succ]))
  refine wpAnyH_ready (rs := [11]) (by kernel_rfl) (by simp) (held_cons rfl (fun K hK => ?_) AllReadyH.nil)
  go_simp
  refine (CI W0).mono ?_
  rintro e w5 ⟨rfl, hx5⟩
  have HB := hide (HB.out.ext hx5)
  have HE := hide (HE.out.ext hx5)
  have HR := hide (HR.out.ext hx5)
  have HX := hide (HX.out.trans hx5)
  clear hx5
  generalize w5 = W0 at *
  (refine hK.out _ _ ?_ (fun hHeld => ?_))
  · exact ⟨rc_rng HB.out, HE.out.cell, PP.out _ HB.out⟩
  (try simp only [Act.put, List.setIfInBounds_toArray, List.set_cons_zero, List.set_cons_succ])
  (refine held_take (i := 12) (v := ?_) rfl (by kernel_rfl) (by kernel_rfl) (by kernel_rfl) (fun _ _ _ h => h) (by rfl) ?_ (by assumption) ?_; rotate_left; (intro w hSw; (try dsimp only at hSw); (first | (go_simp; done) | (go_simp; with_reducible rfl))); (try simp only [Act.put, List.setIfInBounds_toArray, List.set_cons_zero, List.set_cons_succ]))
  (refine held_take (i := 13) (v := ?_) rfl (by kernel_rfl) (by kernel_rfl) (by kernel_rfl) (fun _ _ _ h => h) (by rfl) ?_ (by assumption) ?_; rotate_left; (intro w hSw; (try dsimp only at hSw); (first | (go_simp; done) | (go_simp; with_reducible rfl))); (try simp only [Act.put, List.setIfInBounds_toArray, List.set_cons_zero, List.set_cons_succ]))
  (refine held_take (i := 14) (v := ?_) rfl (by kernel_rfl) (by kernel_rfl) (by kernel_rfl) (fun _ _ _ h => h) (by rfl) ?_ (by assumption) ?_; rotate_left; (intro w hSw; (try dsimp only at hSw); (first | (go_simp; done) | (go_simp; with_reducible rfl))); (try simp only [Act.put, List.setIfInBounds_toArray, List.set_cons_zero, List.set_cons_succ]))
  (refine held_take (i := 15) (v := ?_) rfl (by kernel_rfl) (by kernel_rfl) (by kernel_rfl) (fun _ _ _ h => h) (by rfl) ?_ (by assumption) ?_; rotate_left; (intro w hSw; (try dsimp only at hSw); (first | (go_simp; done) | (go_simp; with_reducible rfl))); (try simp only [Act.put, List.setIfInBounds_toArray, List.set_cons_zero, List.set_cons_succ]))
  (refine held_take (i := 16) (v := ?_) rfl (by kernel_rfl) (by kernel_rfl) (by kernel_rfl) (fun _ _ _ h => h) (by rfl) ?_ (by assumption) ?_; rotate_left; (intro w hSw; (try dsimp only at hSw); (first | (go_simp; done) | (go_simp; with_reducible rfl))); (try simp only [Act.put, List.setIfInBounds_toArray, List.set_cons_zero, List.set_cons_succ]))
  (refine held_take (i := 17) (v := ?_) rfl (by kernel_rfl) (by kernel_rfl) (by kernel_rfl) (fun _ _ _ h => h) (by rfl) ?_ (by assumption) ?_; rotate_left; (intro w hSw; (try dsimp only at hSw); (first | (go_simp; done) | (go_simp; with_reducible rfl))); (try simp only [Act.put, List.setIfInBounds_toArray, List.set_cons_zero, List.set_cons_succ]))
  (refine held_take (i := 18) (v := ?_) rfl (by kernel_rfl) (by kernel_rfl) (by kernel_rfl) (fun _ _ _ h => h) (by rfl) ?_ (by assumption) ?_; rotate_left; (intro w hSw; (try dsimp only at hSw); (first | (go_simp; done) | (go_simp; with_reducible rfl))); (try simp only [Act.put, List.setIfInBounds_toArray, List.set_cons_zero, List.set_cons_succ]))
  (refine held_take (i := 19) (v := ?_) rfl (by kernel_rfl) (by kernel_rfl) (by kernel_rfl) (fun _ _ _ h => h) (by rfl) ?_ (by assumption) ?_; rotate_left; (intro w hSw; (try dsimp only at hSw); (first | (go_simp; done) | (go_simp; with_reducible rfl))); (try simp only [Act.put, List.setIfInBounds_toArray, List.set_cons_zero, List.set_cons_succ]))
  (refine held_take (i := 20) (v := ?_) rfl (by kernel_rfl) (by kernel_rfl) (by kernel_rfl) (fun _ _ _ h => h) (by rfl) ?_ (by assumption) ?_; rotate_left; (intro w hSw; (try dsimp only at hSw); (first | (go_simp; done) | (go_simp; with_reducible rfl))); (try simp only [Act.put, List.setIfInBounds_toArray, List.set_cons_zero, List.set_cons_succ]))
  (refine held_take (i := 21) (v := ?_) rfl (by kernel_rfl) (by kernel_rfl) (by kernel_rfl) (fun _ _ _ h => h) (by rfl) ?_ (by assumption) ?_; rotate_left; (intro w hSw; (try dsimp only at hSw); (first | (go_simp; done) | (go_simp; with_reducible rfl))); (try simp only [Act.put, List.setIfInBounds_toArray, List.set_cons_zero, List.set_cons_succ]))
  (refine held_take (i := 22) (v := ?_) rfl (by kernel_rfl) (by kernel_rfl) (by kernel_rfl) (fun _ _ _ h => h) (by rfl) ?_ (by assumption) ?_; rotate_left; (intro w hSw; (try dsimp only at hSw); (first | (go_simp; done) | (go_simp; with_reducible rfl))); (try simp only [Act.put, List.setIfInBounds_toArray, List.set_cons_zero, List.set_cons_succ]))
  (refine held_take (i := 23) (v := ?_) rfl (by kernel_rfl) (by kernel_rfl) (by kernel_rfl) (fun _ _ _ h => h) (by rfl) ?_ (by assumption) ?_; rotate_left; (intro w hSw; (try dsimp only at hSw); (first | (go_simp; done) | (go_simp; with_reducible rfl))); (try simp only [Act.put, List.setIfInBounds_toArray, List.set_cons_zero, List.set_cons_succ]))
  (refine held_take (i := 24) (v := ?_) rfl (by kernel_rfl) (by kernel_rfl) (by kernel_rfl) (fun _ _ _ h => h) (by rfl) ?_ (by assumption) ?_; rotate_left; (intro w hSw; (try dsimp only at hSw); (first | (go_simp; done) | (go_simp; with_reducible rfl))); (try simp only [Act.put, List.setIfInBounds_toArray, List.set_cons_zero, List.set_cons_succ]))
  refine wpAnyH_done (by kernel_rfl) ?_ _
  go_wp2_with fail
  have hy := Ext.drew W0
  have re := (HE.out.ext hy).cell
  have r2 : W0.drew.cell? ⟨w.heap.size, 35 + o * 24 + s * 3, none⟩ = some (.int .i64 p0) := by rw [(HB.out.ext hy).cell]; exact P0.out
  have r3 : W0.drew.cell? ⟨w.heap.size, 35 + o * 24 + s * 3 + 1, none⟩ = some (.int .i64 p1) := by rw [(HB.out.ext hy).cell]; exact P1.out
  have r4 : W0.drew.cell? ⟨w.heap.size, 35 + o * 24 + s * 3 + 2, none⟩ = some (.int .i64 p2) := by rw [(HB.out.ext hy).cell]; exact P2.out
  have f0 := (HB.out.ext hy).free (35 + o * 24 + s * 3)
  have f1 := (HB.out.ext hy).free (35 + o * 24 + s * 3 + 1)
  have f2 := (HB.out.ext hy).free (35 + o * 24 + s * 3 + 2)
  have r3' : W0.cell? ⟨w.heap.size, 35 + o * 24 + s * 3 + 1, none⟩ = some (.int .i64 p1) := by rw [HB.out.cell]; exact P1.out
  have r4' : W0.cell? ⟨w.heap.size, 35 + o * 24 + s * 3 + 2, none⟩ = some (.int .i64 p2) := by rw [HB.out.cell]; exact P2.out
  have f1' := HB.out.free (35 + o * 24 + s * 3 + 1)
  have f2' := HB.out.free (35 + o * 24 + s * 3 + 2)
  go_region
  clear re r2 r3 r4 f0 f1 f2 r3' r4' f1' f2' hy
  have b4 := ((HB.out.set (35 + o * 24 + s * 3) (.int .i64 0)).set (35 + o * 24 + s * 3 + 1) (.int .i64 p0)).set (35 + o * 24 + s * 3 + 2) (.int .i64 0)
  rw [rset_pl ho8 hs8 none (some (p0, 0)) (x := 0) (y := p0) (z := 0) rfl rfl rfl] at b4
  have b4 := b4.ext (Ext.drew _)
  have c4 := ((((Chg.refl [w.heap.size] W0).set (p := ⟨w.heap.size, 35 + o * 24 + s * 3, none⟩) (.inl (by simp)) (.int .i64 0)).set (p := ⟨w.heap.size, 35 + o * 24 + s * 3 + 1, none⟩) (.inl (by simp)) (.int .i64 p0)).set (p := ⟨w.heap.size, 35 + o * 24 + s * 3 + 2, none⟩) (.inl (by simp)) (.int .i64 0)).trans (Chg.drew [w.heap.size] _)
  have HB4 := hide b4
  have HR4 := hide (HR.out.chg c4 (by simp; omega))
  have HX4 := hide (HX.out.turn c4 (by simp))
  clear b4 c4
  go_wp2_with first | (with_reducible refine wpList_get rfl _ rfl w.heap.size _ rfl HB4.out ?_; go_frame) | (with_reducible refine wpList_put rfl _ _ rfl (w.heap.size + 1 + 1) _ rfl rfl zz HR4.out HZ.out ?_; intro w' hb' hc' hs'; have HX' := hide (HX4.out.turn hc' (by simp; omega)); clear hc' hs'; go_frame) | go_in
  refine bodyPost_ret (res_of Try.results44 _ _ rfl rfl hb') rfl ?_
  exact ⟨by rw [HP0.out]; rfl, HX'.out⟩
end Go.Proofs.Ytacneghgimfklaa

namespace Go.Proofs.Ytacneghgimfklaa
open Go.RowKit Go.Maps
set_option linter.unusedSimpArgs false
set_option linter.unusedVariables false
set_option maxRecDepth 100000
set_option maxHeartbeats 8000000



theorem rask_1011 {S : St} (ok : Ok S) {t o : Nat} (a : Int) (ht : t < S.N) (ho : o < S.M) {b : Bool} (E : Hid (b = (S.own o + 1 != 0 && a == 0))) (w : World) :
    Calls Try.prog 45 #[.agg (rc S), (Value.agg #[Value.int .i64 10, .int .i64 (t : Int), .int .i64 (o : Int), .int .i64 a, .int .i64 11])] w fun e w' => e = .returned (.tuple #[.agg (rc S), .bool b]) ∧ Ext w w' := by
  have CP := hide (show (rc S)[3 + o]? = some (.int .i64 (S.own o + 1)) from rc_own (by have := ok.m1; omega))
  generalize S.own o + 1 = y at *
  have n1 := ok.n1
  have m1 := ok.m1
  have ho8 : o < 8 := by omega
  have ht8 : t < 8 := by omega
  have i8 : (o : Int) < 8 := by omega
  have j8 : (t : Int) < 8 := by omega
  obtain ⟨zz, hz1, hz2, hz3, hz4, -⟩ : ∃ zz : Array Value, (∀ w, (zeroValue 47).run Try.prog w = .ok (.agg zz) w) ∧ ¬ zz = #[] ∧ ¬ zz.size < 2 ∧ zz.size = 227 ∧ zz = zr := ⟨_, fun w => by kernel_rfl, by decide +kernel, by decide +kernel, by decide +kernel, rfl⟩
  have HZ := hide hz4
  clear hz4
  go_enter Try.func45, Try.ntmps45
  go_upto_region 1 with fail
  have HB := hide (((Blk.new w (rc S) 47).ext (Ext.alloc _ (.cells #[Value.int .i64 10, .int .i64 (t : Int), .int .i64 (o : Int), .int .i64 a, .int .i64 11] 29))).ext (Ext.alloc _ (.cells zz 47)))
  have HE := Blk.new (w.alloc (.cells (rc S) 47)) #[Value.int .i64 10, .int .i64 (t : Int), .int .i64 (o : Int), .int .i64 a, .int .i64 11] 29
  rw [World.size_alloc] at HE
  have HE := hide (HE.ext (Ext.alloc _ (.cells zz 47)))
  have HR := Blk.new ((w.alloc (.cells (rc S) 47)).alloc (.cells #[Value.int .i64 10, .int .i64 (t : Int), .int .i64 (o : Int), .int .i64 a, .int .i64 11] 29)) zz 47
  rw [World.size_alloc, World.size_alloc] at HR
  have HR := hide HR
  have HX := hide (((Ext.alloc w (.cells (rc S) 47)).trans (Ext.alloc _ (.cells #[Value.int .i64 10, .int .i64 (t : Int), .int .i64 (o : Int), .int .i64 a, .int .i64 11] 29))).trans (Ext.alloc _ (.cells zz 47)))
  generalize (((w.alloc (.cells (rc S) 47)).alloc (.cells #[Value.int .i64 10, .int .i64 (t : Int), .int .i64 (o : Int), .int .i64 a, .int .i64 11] 29)).alloc (.cells zz 47)) = W0 at *
  clear hz1 hz2 hz3
  have re := HE.out.cell
  cases y0 : (y != 0)
  · go_wp2_with fail
    clear re
    have HB := hide (HB.out.ext (Ext.drew W0))
    have HE := hide (HE.out.ext (Ext.drew W0))
    have HR := hide (HR.out.ext (Ext.drew W0))
    have HX := hide (HX.out.trans (Ext.drew W0))
    have PP : Hid (∀ w', Blk w' w.heap.size (rc S) 47 → w'.cell? ⟨w.heap.size, 3 + o, none⟩ = some (.int .i64 y)) := hide fun w' h => by rw [h.cell]; exact CP.out
    refine wp_region_held_drew (S := fun w' => w'.rangeAt w.heap.size 0 (rc S).toList ∧ ((∀ i, w'.cell? ⟨w.heap.size + 1, i, none⟩ = #[Value.int .i64 10, .int .i64 (t : Int), .int .i64 (o : Int), .int .i64 a, .int .i64 11][i]?) ∧ w'.cell? ⟨w.heap.size, 3 + o, none⟩ = some (.int .i64 y))) (by kernel_rfl) (by exact ⟨rc_rng HB.out, HE.out.cell, PP.out _ HB.out⟩) (fun hHeld => ?_)
    generalize W0.drew = W0 at *
    refine wpAnyH_take (i := 0) (at_drop rfl) (by kernel_rfl) (by kernel_rfl) (by kernel_rfl) (fun _ _ _ h => h) (yieldsIf_load_mid (by rfl) 47 _ rfl w.heap.size 0 rfl (rc S).toList _ (fun w h => h.1) Try.underlying47 rfl (inf_rm S)) (by assumption) ?_
    rw [Array.toArray_toList]
    (try simp only [Act.put, List.setIfInBounds_toArray, List.set_cons_zero, List.set_cons_succ])
    (refine held_take (i := 1) (v := ?_) rfl (by kernel_rfl) (by kernel_rfl) (by kernel_rfl) (fun _ _ _ h => h) (by rfl) ?_ (by assumption) ?_; rotate_left; (intro w hSw; (try dsimp only at hSw); (first | (go_simp; done) | (go_simp; with_reducible rfl))); (try simp only [Act.put, List.setIfInBounds_toArray, List.set_cons_zero, List.set_cons_succ]))
    (refine held_take (i := 2) (v := ?_) rfl (by kernel_rfl) (by kernel_rfl) (by kernel_rfl) (fun _ _ _ h => h) (by rfl) ?_ (by assumption) ?_; rotate_left; (intro w hSw; (try dsimp only at hSw); (first | (go_simp; done) | (go_simp; with_reducible rfl))); (try simp only [Act.put, List.setIfInBounds_toArray, List.set_cons_zero, List.set_cons_succ]))
    (refine held_take (i := 3) (v := ?_) rfl (by kernel_rfl) (by kernel_rfl) (by kernel_rfl) (fun _ _ _ h => h) (by rfl) ?_ (by assumption) ?_; rotate_left; (intro w hSw; (try dsimp only at hSw); (first | (go_simp; done) | (go_simp; with_reducible rfl))); (try simp only [Act.put, List.setIfInBounds_toArray, List.set_cons_zero, List.set_cons_succ]))
    (refine held_take (i := 4) (v := ?_) rfl (by kernel_rfl) (by kernel_rfl) (by kernel_rfl) (fun _ _ _ h => h) (by rfl) ?_ (by assumption) ?_; rotate_left; (intro w hSw; (try dsimp only at hSw); (first | (go_simp; done) | (go_simp; with_reducible rfl))); (try simp only [Act.put, List.setIfInBounds_toArray, List.set_cons_zero, List.set_cons_succ]))
    (refine held_take (i := 5) (v := ?_) rfl (by kernel_rfl) (by kernel_rfl) (by kernel_rfl) (fun _ _ _ h => h) (by rfl) ?_ (by assumption) ?_; rotate_left; (intro w hSw; (try dsimp only at hSw); (first | (go_simp; done) | (go_simp; with_reducible rfl))); (try simp only [Act.put, List.setIfInBounds_toArray, List.set_cons_zero, List.set_cons_succ]))
    (refine held_take (i := 6) (v := ?_) rfl (by kernel_rfl) (by kernel_rfl) (by kernel_rfl) (fun _ _ _ h => h) (by rfl) ?_ (by assumption) ?_; rotate_left; (intro w hSw; (try dsimp only at hSw); (first | (go_simp; done) | (go_simp; with_reducible rfl))); (try simp only [Act.put, List.setIfInBounds_toArray, List.set_cons_zero, List.set_cons_succ]))
    (refine held_skip (i := 7) rfl (by kernel_rfl) (by kernel_rfl) (by kernel_rfl) (fun _ _ _ h => h) (by rfl) (by assumption) ?_; (try simp only [Act.put, List.setIfInBounds_toArray, List.set_cons_zero, List.set_cons_succ]))
    (refine held_skip (i := 8) rfl (by kernel_rfl) (by kernel_rfl) (by kernel_rfl) (fun _ _ _ h => h) (by rfl) (by assumption) ?_; (try simp only [Act.put, List.setIfInBounds_toArray, List.set_cons_zero, List.set_cons_succ]))
    (refine held_skip (i := 9) rfl (by kernel_rfl) (by kernel_rfl) (by kernel_rfl) (fun _ _ _ h => h) (by rfl) (by assumption) ?_; (try simp only [Act.put, List.setIfInBounds_toArray, List.set_cons_zero, List.set_cons_succ]))
    (refine held_take (i := 10) (v := ?_) rfl (by kernel_rfl) (by kernel_rfl) (by kernel_rfl) (fun _ _ _ h => h) (by rfl) ?_ (by assumption) ?_; rotate_left; (intro w hSw; (try dsimp only at hSw); (first | (go_simp; done) | (go_simp; with_reducible rfl))); (try simp only [Act.put, List.setIfInBounds_toArray, List.set_cons_zero, List.set_cons_succ]))
    refine wpAnyH_ready (rs := [11]) (by kernel_rfl) (by simp) (held_cons rfl (fun K hK => ?_) AllReadyH.nil)
    rw [if_pos (by rfl)]
    refine wp_store_row 47 _ _ rfl (w.heap.size + 1 + 1) (rc S) rfl rfl 47 zz HR.out (by rw [rc_size]; exact inf_rz) (by rw [HZ.out, rc_size]) (all_rc S) ?_
    have hb' := setRow_heap W0 (w.heap.size + 1 + 1) zz (rc S) 47 _ HR.out
    have hc' := Chg.row (cs := rc S) HR.out
    have HX' := hide (HX.out.turn hc' (by simp; omega))
    have HB' := hide (HB.out.chg hc' (by simp; omega))
    have HE' := hide (HE.out.chg hc' (by simp))
    clear hc'
    generalize W0.setRow (w.heap.size + 1 + 1) (rc S) = w' at *
    (refine hK.out _ _ ?_ (fun hHeld => ?_))
    · exact ⟨rc_rng HB'.out, HE'.out.cell, PP.out _ HB'.out⟩
    (try simp only [Act.put, List.setIfInBounds_toArray, List.set_cons_zero, List.set_cons_succ])
    (refine held_take (i := 12) (v := ?_) rfl (by kernel_rfl) (by kernel_rfl) (by kernel_rfl) (fun _ _ _ h => h) (by rfl) ?_ (by assumption) ?_; rotate_left; (intro w hSw; (try dsimp only at hSw); (first | (go_simp; done) | (go_simp; with_reducible rfl))); (try simp only [Act.put, List.setIfInBounds_toArray, List.set_cons_zero, List.set_cons_succ]))
    refine wpAnyH_done (by kernel_rfl) ?_ _
    go_wp2_with fail
    refine bodyPost_ret (res_of Try.results45 _ _ rfl rfl hb') rfl ?_
    exact ⟨by rw [E.out, y0]; simp, HX'.out⟩
  · go_wp2_with fail
    clear re
    have HB := hide (HB.out.ext (Ext.drew W0))
    have HE := hide (HE.out.ext (Ext.drew W0))
    have HR := hide (HR.out.ext (Ext.drew W0))
    have HX := hide (HX.out.trans (Ext.drew W0))
    have PP : Hid (∀ w', Blk w' w.heap.size (rc S) 47 → w'.cell? ⟨w.heap.size, 3 + o, none⟩ = some (.int .i64 y)) := hide fun w' h => by rw [h.cell]; exact CP.out
    refine wp_region_held_drew (S := fun w' => w'.rangeAt w.heap.size 0 (rc S).toList ∧ ((∀ i, w'.cell? ⟨w.heap.size + 1, i, none⟩ = #[Value.int .i64 10, .int .i64 (t : Int), .int .i64 (o : Int), .int .i64 a, .int .i64 11][i]?) ∧ w'.cell? ⟨w.heap.size, 3 + o, none⟩ = some (.int .i64 y))) (by kernel_rfl) (by exact ⟨rc_rng HB.out, HE.out.cell, PP.out _ HB.out⟩) (fun hHeld => ?_)
    generalize W0.drew = W0 at *
    refine wpAnyH_take (i := 0) (at_drop rfl) (by kernel_rfl) (by kernel_rfl) (by kernel_rfl) (fun _ _ _ h => h) (yieldsIf_load_mid (by rfl) 47 _ rfl w.heap.size 0 rfl (rc S).toList _ (fun w h => h.1) Try.underlying47 rfl (inf_rm S)) (by assumption) ?_
    rw [Array.toArray_toList]
    (try simp only [Act.put, List.setIfInBounds_toArray, List.set_cons_zero, List.set_cons_succ])
    (refine held_take (i := 1) (v := ?_) rfl (by kernel_rfl) (by kernel_rfl) (by kernel_rfl) (fun _ _ _ h => h) (by rfl) ?_ (by assumption) ?_; rotate_left; (intro w hSw; (try dsimp only at hSw); (first | (go_simp; done) | (go_simp; with_reducible rfl))); (try simp only [Act.put, List.setIfInBounds_toArray, List.set_cons_zero, List.set_cons_succ]))
    (refine held_take (i := 2) (v := ?_) rfl (by kernel_rfl) (by kernel_rfl) (by kernel_rfl) (fun _ _ _ h => h) (by rfl) ?_ (by assumption) ?_; rotate_left; (intro w hSw; (try dsimp only at hSw); (first | (go_simp; done) | (go_simp; with_reducible rfl))); (try simp only [Act.put, List.setIfInBounds_toArray, List.set_cons_zero, List.set_cons_succ]))
    (refine held_take (i := 3) (v := ?_) rfl (by kernel_rfl) (by kernel_rfl) (by kernel_rfl) (fun _ _ _ h => h) (by rfl) ?_ (by assumption) ?_; rotate_left; (intro w hSw; (try dsimp only at hSw); (first | (go_simp; done) | (go_simp; with_reducible rfl))); (try simp only [Act.put, List.setIfInBounds_toArray, List.set_cons_zero, List.set_cons_succ]))
    (refine held_take (i := 4) (v := ?_) rfl (by kernel_rfl) (by kernel_rfl) (by kernel_rfl) (fun _ _ _ h => h) (by rfl) ?_ (by assumption) ?_; rotate_left; (intro w hSw; (try dsimp only at hSw); (first | (go_simp; done) | (go_simp; with_reducible rfl))); (try simp only [Act.put, List.setIfInBounds_toArray, List.set_cons_zero, List.set_cons_succ]))
    (refine held_take (i := 5) (v := ?_) rfl (by kernel_rfl) (by kernel_rfl) (by kernel_rfl) (fun _ _ _ h => h) (by rfl) ?_ (by assumption) ?_; rotate_left; (intro w hSw; (try dsimp only at hSw); (first | (go_simp; done) | (go_simp; with_reducible rfl))); (try simp only [Act.put, List.setIfInBounds_toArray, List.set_cons_zero, List.set_cons_succ]))
    (refine held_take (i := 6) (v := ?_) rfl (by kernel_rfl) (by kernel_rfl) (by kernel_rfl) (fun _ _ _ h => h) (by rfl) ?_ (by assumption) ?_; rotate_left; (intro w hSw; (try dsimp only at hSw); (first | (go_simp; done) | (go_simp; with_reducible rfl))); (try simp only [Act.put, List.setIfInBounds_toArray, List.set_cons_zero, List.set_cons_succ]))
    (refine held_take (i := 7) (v := ?_) rfl (by kernel_rfl) (by kernel_rfl) (by kernel_rfl) (fun _ _ _ h => h) (by rfl) ?_ (by assumption) ?_; rotate_left; (intro w hSw; (try dsimp only at hSw); (first | (go_simp; done) | (go_simp; with_reducible rfl))); (try simp only [Act.put, List.setIfInBounds_toArray, List.set_cons_zero, List.set_cons_succ]))
    (refine held_take (i := 8) (v := ?_) rfl (by kernel_rfl) (by kernel_rfl) (by kernel_rfl) (fun _ _ _ h => h) (by rfl) ?_ (by assumption) ?_; rotate_left; (intro w hSw; (try dsimp only at hSw); (first | (go_simp; done) | (go_simp; with_reducible rfl))); (try simp only [Act.put, List.setIfInBounds_toArray, List.set_cons_zero, List.set_cons_succ]))
    (refine held_take (i := 9) (v := ?_) rfl (by kernel_rfl) (by kernel_rfl) (by kernel_rfl) (fun _ _ _ h => h) (by rfl) ?_ (by assumption) ?_; rotate_left; (intro w hSw; (try dsimp only at hSw); (first | (go_simp; done) | (go_simp; with_reducible rfl))); (try simp only [Act.put, List.setIfInBounds_toArray, List.set_cons_zero, List.set_cons_succ]))
    (refine held_take (i := 10) (v := ?_) rfl (by kernel_rfl) (by kernel_rfl) (by kernel_rfl) (fun _ _ _ h => h) (by rfl) ?_ (by assumption) ?_; rotate_left; (intro w hSw; (try dsimp only at hSw); (first | (go_simp; done) | (go_simp; with_reducible rfl))); (try simp only [Act.put, List.setIfInBounds_toArray, List.set_cons_zero, List.set_cons_succ]))
    refine wpAnyH_ready (rs := [11]) (by kernel_rfl) (by simp) (held_cons rfl (fun K hK => ?_) AllReadyH.nil)
    rw [if_pos (by rfl)]
    refine wp_store_row 47 _ _ rfl (w.heap.size + 1 + 1) (rc S) rfl rfl 47 zz HR.out (by rw [rc_size]; exact inf_rz) (by rw [HZ.out, rc_size]) (all_rc S) ?_
    have hb' := setRow_heap W0 (w.heap.size + 1 + 1) zz (rc S) 47 _ HR.out
    have hc' := Chg.row (cs := rc S) HR.out
    have HX' := hide (HX.out.turn hc' (by simp; omega))
    have HB' := hide (HB.out.chg hc' (by simp; omega))
    have HE' := hide (HE.out.chg hc' (by simp))
    clear hc'
    generalize W0.setRow (w.heap.size + 1 + 1) (rc S) = w' at *
    (refine hK.out _ _ ?_ (fun hHeld => ?_))
    · exact ⟨rc_rng HB'.out, HE'.out.cell, PP.out _ HB'.out⟩
    (try simp only [Act.put, List.setIfInBounds_toArray, List.set_cons_zero, List.set_cons_succ])
    (refine held_take (i := 12) (v := ?_) rfl (by kernel_rfl) (by kernel_rfl) (by kernel_rfl) (fun _ _ _ h => h) (by rfl) ?_ (by assumption) ?_; rotate_left; (intro w hSw; (try dsimp only at hSw); (first | (go_simp; done) | (go_simp; with_reducible rfl))); (try simp only [Act.put, List.setIfInBounds_toArray, List.set_cons_zero, List.set_cons_succ]))
    refine wpAnyH_done (by kernel_rfl) ?_ _
    go_wp2_with fail
    refine bodyPost_ret (res_of Try.results45 _ _ rfl rfl hb') rfl ?_
    exact ⟨by rw [E.out, y0]; simp, HX'.out⟩
theorem rask_10o {S : St} (ok : Ok S) {t o : Nat} (a r : Int) (ht : t < S.N) (ho : o < S.M) (h0 : (r != 0) = true) (h11 : (r == 11) = false) (w : World) :
    Calls Try.prog 45 #[.agg (rc S), (Value.agg #[Value.int .i64 10, .int .i64 (t : Int), .int .i64 (o : Int), .int .i64 a, .int .i64 r])] w fun e w' => e = .returned (.tuple #[.agg (rc S), .bool false]) ∧ Ext w w' := by
  have n1 := ok.n1
  have m1 := ok.m1
  have ho8 : o < 8 := by omega
  have ht8 : t < 8 := by omega
  have i8 : (o : Int) < 8 := by omega
  have j8 : (t : Int) < 8 := by omega
  obtain ⟨zz, hz1, hz2, hz3, hz4, -⟩ : ∃ zz : Array Value, (∀ w, (zeroValue 47).run Try.prog w = .ok (.agg zz) w) ∧ ¬ zz = #[] ∧ ¬ zz.size < 2 ∧ zz.size = 227 ∧ zz = zr := ⟨_, fun w => by kernel_rfl, by decide +kernel, by decide +kernel, by decide +kernel, rfl⟩
  have HZ := hide hz4
  clear hz4
  go_enter Try.func45, Try.ntmps45
  go_upto_region 1 with fail
  have HB := hide (((Blk.new w (rc S) 47).ext (Ext.alloc _ (.cells #[Value.int .i64 10, .int .i64 (t : Int), .int .i64 (o : Int), .int .i64 a, .int .i64 r] 29))).ext (Ext.alloc _ (.cells zz 47)))
  have HE := Blk.new (w.alloc (.cells (rc S) 47)) #[Value.int .i64 10, .int .i64 (t : Int), .int .i64 (o : Int), .int .i64 a, .int .i64 r] 29
  rw [World.size_alloc] at HE
  have HE := hide (HE.ext (Ext.alloc _ (.cells zz 47)))
  have HR := Blk.new ((w.alloc (.cells (rc S) 47)).alloc (.cells #[Value.int .i64 10, .int .i64 (t : Int), .int .i64 (o : Int), .int .i64 a, .int .i64 r] 29)) zz 47
  rw [World.size_alloc, World.size_alloc] at HR
  have HR := hide HR
  have HX := hide (((Ext.alloc w (.cells (rc S) 47)).trans (Ext.alloc _ (.cells #[Value.int .i64 10, .int .i64 (t : Int), .int .i64 (o : Int), .int .i64 a, .int .i64 r] 29))).trans (Ext.alloc _ (.cells zz 47)))
  generalize (((w.alloc (.cells (rc S) 47)).alloc (.cells #[Value.int .i64 10, .int .i64 (t : Int), .int .i64 (o : Int), .int .i64 a, .int .i64 r] 29)).alloc (.cells zz 47)) = W0 at *
  clear hz1 hz2 hz3
  have re := HE.out.cell
  go_wp2_with first | (with_reducible refine wpList_get rfl _ rfl w.heap.size _ rfl HB.out ?_; go_frame) | (with_reducible refine wpList_put rfl _ _ rfl (w.heap.size + 1 + 1) S rfl rfl zz HR.out HZ.out ?_; intro w' hb' hc' hs'; have HX' := hide (HX.out.turn hc' (by simp; omega)); clear hc' hs'; go_frame) | go_in
  refine bodyPost_ret (res_of Try.results45 _ _ rfl rfl hb') rfl ?_
  exact ⟨by rfl, HX'.out⟩
theorem rask_11o {S : St} (ok : Ok S) {t o : Nat} (a r : Int) (ht : t < S.N) (ho : o < S.M) (h0 : (r != 0) = true) (w : World) :
    Calls Try.prog 45 #[.agg (rc S), (Value.agg #[Value.int .i64 11, .int .i64 (t : Int), .int .i64 (o : Int), .int .i64 a, .int .i64 r])] w fun e w' => e = .returned (.tuple #[.agg (rc S), .bool false]) ∧ Ext w w' := by
  have n1 := ok.n1
  have m1 := ok.m1
  have ho8 : o < 8 := by omega
  have ht8 : t < 8 := by omega
  have i8 : (o : Int) < 8 := by omega
  have j8 : (t : Int) < 8 := by omega
  obtain ⟨zz, hz1, hz2, hz3, hz4, -⟩ : ∃ zz : Array Value, (∀ w, (zeroValue 47).run Try.prog w = .ok (.agg zz) w) ∧ ¬ zz = #[] ∧ ¬ zz.size < 2 ∧ zz.size = 227 ∧ zz = zr := ⟨_, fun w => by kernel_rfl, by decide +kernel, by decide +kernel, by decide +kernel, rfl⟩
  have HZ := hide hz4
  clear hz4
  go_enter Try.func45, Try.ntmps45
  go_upto_region 1 with fail
  have HB := hide (((Blk.new w (rc S) 47).ext (Ext.alloc _ (.cells #[Value.int .i64 11, .int .i64 (t : Int), .int .i64 (o : Int), .int .i64 a, .int .i64 r] 29))).ext (Ext.alloc _ (.cells zz 47)))
  have HE := Blk.new (w.alloc (.cells (rc S) 47)) #[Value.int .i64 11, .int .i64 (t : Int), .int .i64 (o : Int), .int .i64 a, .int .i64 r] 29
  rw [World.size_alloc] at HE
  have HE := hide (HE.ext (Ext.alloc _ (.cells zz 47)))
  have HR := Blk.new ((w.alloc (.cells (rc S) 47)).alloc (.cells #[Value.int .i64 11, .int .i64 (t : Int), .int .i64 (o : Int), .int .i64 a, .int .i64 r] 29)) zz 47
  rw [World.size_alloc, World.size_alloc] at HR
  have HR := hide HR
  have HX := hide (((Ext.alloc w (.cells (rc S) 47)).trans (Ext.alloc _ (.cells #[Value.int .i64 11, .int .i64 (t : Int), .int .i64 (o : Int), .int .i64 a, .int .i64 r] 29))).trans (Ext.alloc _ (.cells zz 47)))
  generalize (((w.alloc (.cells (rc S) 47)).alloc (.cells #[Value.int .i64 11, .int .i64 (t : Int), .int .i64 (o : Int), .int .i64 a, .int .i64 r] 29)).alloc (.cells zz 47)) = W0 at *
  clear hz1 hz2 hz3
  have re := HE.out.cell
  go_wp2_with first | (with_reducible refine wpList_get rfl _ rfl w.heap.size _ rfl HB.out ?_; go_frame) | (with_reducible refine wpList_put rfl _ _ rfl (w.heap.size + 1 + 1) S rfl rfl zz HR.out HZ.out ?_; intro w' hb' hc' hs'; have HX' := hide (HX.out.turn hc' (by simp; omega)); clear hc' hs'; go_frame) | go_in
  refine bodyPost_ret (res_of Try.results45 _ _ rfl rfl hb') rfl ?_
  exact ⟨by rfl, HX'.out⟩
theorem rask_12o {S : St} (ok : Ok S) {t o : Nat} (a r : Int) (ht : t < S.N) (ho : o < S.M) (h0 : (r != 0) = true) (w : World) :
    Calls Try.prog 45 #[.agg (rc S), (Value.agg #[Value.int .i64 12, .int .i64 (t : Int), .int .i64 (o : Int), .int .i64 a, .int .i64 r])] w fun e w' => e = .returned (.tuple #[.agg (rc S), .bool false]) ∧ Ext w w' := by
  have n1 := ok.n1
  have m1 := ok.m1
  have ho8 : o < 8 := by omega
  have ht8 : t < 8 := by omega
  have i8 : (o : Int) < 8 := by omega
  have j8 : (t : Int) < 8 := by omega
  obtain ⟨zz, hz1, hz2, hz3, hz4, -⟩ : ∃ zz : Array Value, (∀ w, (zeroValue 47).run Try.prog w = .ok (.agg zz) w) ∧ ¬ zz = #[] ∧ ¬ zz.size < 2 ∧ zz.size = 227 ∧ zz = zr := ⟨_, fun w => by kernel_rfl, by decide +kernel, by decide +kernel, by decide +kernel, rfl⟩
  have HZ := hide hz4
  clear hz4
  go_enter Try.func45, Try.ntmps45
  go_upto_region 1 with fail
  have HB := hide (((Blk.new w (rc S) 47).ext (Ext.alloc _ (.cells #[Value.int .i64 12, .int .i64 (t : Int), .int .i64 (o : Int), .int .i64 a, .int .i64 r] 29))).ext (Ext.alloc _ (.cells zz 47)))
  have HE := Blk.new (w.alloc (.cells (rc S) 47)) #[Value.int .i64 12, .int .i64 (t : Int), .int .i64 (o : Int), .int .i64 a, .int .i64 r] 29
  rw [World.size_alloc] at HE
  have HE := hide (HE.ext (Ext.alloc _ (.cells zz 47)))
  have HR := Blk.new ((w.alloc (.cells (rc S) 47)).alloc (.cells #[Value.int .i64 12, .int .i64 (t : Int), .int .i64 (o : Int), .int .i64 a, .int .i64 r] 29)) zz 47
  rw [World.size_alloc, World.size_alloc] at HR
  have HR := hide HR
  have HX := hide (((Ext.alloc w (.cells (rc S) 47)).trans (Ext.alloc _ (.cells #[Value.int .i64 12, .int .i64 (t : Int), .int .i64 (o : Int), .int .i64 a, .int .i64 r] 29))).trans (Ext.alloc _ (.cells zz 47)))
  generalize (((w.alloc (.cells (rc S) 47)).alloc (.cells #[Value.int .i64 12, .int .i64 (t : Int), .int .i64 (o : Int), .int .i64 a, .int .i64 r] 29)).alloc (.cells zz 47)) = W0 at *
  clear hz1 hz2 hz3
  have re := HE.out.cell
  go_wp2_with first | (with_reducible refine wpList_get rfl _ rfl w.heap.size _ rfl HB.out ?_; go_frame) | (with_reducible refine wpList_put rfl _ _ rfl (w.heap.size + 1 + 1) S rfl rfl zz HR.out HZ.out ?_; intro w' hb' hc' hs'; have HX' := hide (HX.out.turn hc' (by simp; omega)); clear hc' hs'; go_frame) | go_in
  refine bodyPost_ret (res_of Try.results45 _ _ rfl rfl hb') rfl ?_
  exact ⟨by rfl, HX'.out⟩
theorem rask_100n {S : St} (ok : Ok S) {t o : Nat} (a : Int) (ht : t < S.N) (ho : o < S.M) (Z : (S.hsh o == 0 && (decide (1 ≤ a) && decide (a ≤ 2147483647))) = false) {b : Bool} (E : Hid (b = (S.hsh o != 0 && S.hsh o == a))) (w : World) :
    Calls Try.prog 45 #[.agg (rc S), (Value.agg #[Value.int .i64 10, .int .i64 (t : Int), .int .i64 (o : Int), .int .i64 a, .int .i64 0])] w fun e w' => e = .returned (.tuple #[.agg (rc S), .bool b]) ∧ Ext w w' := by
  have Z := hide Z
  have CP := hide (show (rc S)[19 + o]? = some (.int .i64 (S.hsh o)) from rc_hsh (by have := ok.m1; omega))
  generalize S.hsh o = hh at *
  have n1 := ok.n1
  have m1 := ok.m1
  have ho8 : o < 8 := by omega
  have ht8 : t < 8 := by omega
  have i8 : (o : Int) < 8 := by omega
  have j8 : (t : Int) < 8 := by omega
  obtain ⟨zz, hz1, hz2, hz3, hz4, -⟩ : ∃ zz : Array Value, (∀ w, (zeroValue 47).run Try.prog w = .ok (.agg zz) w) ∧ ¬ zz = #[] ∧ ¬ zz.size < 2 ∧ zz.size = 227 ∧ zz = zr := ⟨_, fun w => by kernel_rfl, by decide +kernel, by decide +kernel, by decide +kernel, rfl⟩
  have HZ := hide hz4
  clear hz4
  go_enter Try.func45, Try.ntmps45
  go_upto_region 1 with fail
  have HB := hide (((Blk.new w (rc S) 47).ext (Ext.alloc _ (.cells #[Value.int .i64 10, .int .i64 (t : Int), .int .i64 (o : Int), .int .i64 a, .int .i64 0] 29))).ext (Ext.alloc _ (.cells zz 47)))
  have HE := Blk.new (w.alloc (.cells (rc S) 47)) #[Value.int .i64 10, .int .i64 (t : Int), .int .i64 (o : Int), .int .i64 a, .int .i64 0] 29
  rw [World.size_alloc] at HE
  have HE := hide (HE.ext (Ext.alloc _ (.cells zz 47)))
  have HR := Blk.new ((w.alloc (.cells (rc S) 47)).alloc (.cells #[Value.int .i64 10, .int .i64 (t : Int), .int .i64 (o : Int), .int .i64 a, .int .i64 0] 29)) zz 47
  rw [World.size_alloc, World.size_alloc] at HR
  have HR := hide HR
  have HX := hide (((Ext.alloc w (.cells (rc S) 47)).trans (Ext.alloc _ (.cells #[Value.int .i64 10, .int .i64 (t : Int), .int .i64 (o : Int), .int .i64 a, .int .i64 0] 29))).trans (Ext.alloc _ (.cells zz 47)))
  generalize (((w.alloc (.cells (rc S) 47)).alloc (.cells #[Value.int .i64 10, .int .i64 (t : Int), .int .i64 (o : Int), .int .i64 a, .int .i64 0] 29)).alloc (.cells zz 47)) = W0 at *
  clear hz1 hz2 hz3
  have re := HE.out.cell
  have r1 : W0.cell? ⟨w.heap.size, 19 + o, none⟩ = some (.int .i64 hh) := by rw [HB.out.cell]; exact CP.out
  cases y0 : (hh == 0)
  · have y1 : (hh != 0) = true := by rw [bne, y0]; rfl
    go_wp2_with fail
    clear re r1
    have HB := hide (HB.out.ext (Ext.drew W0))
    have HE := hide (HE.out.ext (Ext.drew W0))
    have HR := hide (HR.out.ext (Ext.drew W0))
    have HX := hide (HX.out.trans (Ext.drew W0))
    have PP : Hid (∀ w', Blk w' w.heap.size (rc S) 47 → w'.cell? ⟨w.heap.size, 19 + o, none⟩ = some (.int .i64 hh)) := hide fun w' h => by rw [h.cell]; exact CP.out
    refine wp_region_held_drew (S := fun w' => w'.rangeAt w.heap.size 0 (rc S).toList ∧ ((∀ i, w'.cell? ⟨w.heap.size + 1, i, none⟩ = #[Value.int .i64 10, .int .i64 (t : Int), .int .i64 (o : Int), .int .i64 a, .int .i64 0][i]?) ∧ w'.cell? ⟨w.heap.size, 19 + o, none⟩ = some (.int .i64 hh))) (by kernel_rfl) (by exact ⟨rc_rng HB.out, HE.out.cell, PP.out _ HB.out⟩) (fun hHeld => ?_)
    generalize W0.drew = W0 at *
    refine wpAnyH_take (i := 0) (at_drop rfl) (by kernel_rfl) (by kernel_rfl) (by kernel_rfl) (fun _ _ _ h => h) (yieldsIf_load_mid (by rfl) 47 _ rfl w.heap.size 0 rfl (rc S).toList _ (fun w h => h.1) Try.underlying47 rfl (inf_rm S)) (by assumption) ?_
    rw [Array.toArray_toList]
    (try simp only [Act.put, List.setIfInBounds_toArray, List.set_cons_zero, List.set_cons_succ])
    (refine held_take (i := 1) (v := ?_) rfl (by kernel_rfl) (by kernel_rfl) (by kernel_rfl) (fun _ _ _ h => h) (by rfl) ?_ (by assumption) ?_; rotate_left; (intro w hSw; (try dsimp only at hSw); (first | (go_simp; done) | (go_simp; with_reducible rfl))); (try simp only [Act.put, List.setIfInBounds_toArray, List.set_cons_zero, List.set_cons_succ]))
    (refine held_take (i := 2) (v := ?_) rfl (by kernel_rfl) (by kernel_rfl) (by kernel_rfl) (fun _ _ _ h => h) (by rfl) ?_ (by assumption) ?_; rotate_left; (intro w hSw; (try dsimp only at hSw); (first | (go_simp; done) | (go_simp; with_reducible rfl))); (try simp only [Act.put, List.setIfInBounds_toArray, List.set_cons_zero, List.set_cons_succ]))
    (refine held_take (i := 3) (v := ?_) rfl (by kernel_rfl) (by kernel_rfl) (by kernel_rfl) (fun _ _ _ h => h) (by rfl) ?_ (by assumption) ?_; rotate_left; (intro w hSw; (try dsimp only at hSw); (first | (go_simp; done) | (go_simp; with_reducible rfl))); (try simp only [Act.put, List.setIfInBounds_toArray, List.set_cons_zero, List.set_cons_succ]))
    (refine held_take (i := 4) (v := ?_) rfl (by kernel_rfl) (by kernel_rfl) (by kernel_rfl) (fun _ _ _ h => h) (by rfl) ?_ (by assumption) ?_; rotate_left; (intro w hSw; (try dsimp only at hSw); (first | (go_simp; done) | (go_simp; with_reducible rfl))); (try simp only [Act.put, List.setIfInBounds_toArray, List.set_cons_zero, List.set_cons_succ]))
    (refine held_take (i := 5) (v := ?_) rfl (by kernel_rfl) (by kernel_rfl) (by kernel_rfl) (fun _ _ _ h => h) (by rfl) ?_ (by assumption) ?_; rotate_left; (intro w hSw; (try dsimp only at hSw); (first | (go_simp; done) | (go_simp; with_reducible rfl))); (try simp only [Act.put, List.setIfInBounds_toArray, List.set_cons_zero, List.set_cons_succ]))
    (refine held_take (i := 6) (v := ?_) rfl (by kernel_rfl) (by kernel_rfl) (by kernel_rfl) (fun _ _ _ h => h) (by rfl) ?_ (by assumption) ?_; rotate_left; (intro w hSw; (try dsimp only at hSw); (first | (go_simp; done) | (go_simp; with_reducible rfl))); (try simp only [Act.put, List.setIfInBounds_toArray, List.set_cons_zero, List.set_cons_succ]))
    (refine held_take (i := 7) (v := ?_) rfl (by kernel_rfl) (by kernel_rfl) (by kernel_rfl) (fun _ _ _ h => h) (by rfl) ?_ (by assumption) ?_; rotate_left; (intro w hSw; (try dsimp only at hSw); (first | (go_simp; done) | (go_simp; with_reducible rfl))); (try simp only [Act.put, List.setIfInBounds_toArray, List.set_cons_zero, List.set_cons_succ]))
    (refine held_take (i := 8) (v := ?_) rfl (by kernel_rfl) (by kernel_rfl) (by kernel_rfl) (fun _ _ _ h => h) (by rfl) ?_ (by assumption) ?_; rotate_left; (intro w hSw; (try dsimp only at hSw); (first | (go_simp; done) | (go_simp; with_reducible rfl))); (try simp only [Act.put, List.setIfInBounds_toArray, List.set_cons_zero, List.set_cons_succ]))
    (refine held_take (i := 9) (v := ?_) rfl (by kernel_rfl) (by kernel_rfl) (by kernel_rfl) (fun _ _ _ h => h) (by rfl) ?_ (by assumption) ?_; rotate_left; (intro w hSw; (try dsimp only at hSw); (first | (go_simp; done) | (go_simp; with_reducible rfl))); (try simp only [Act.put, List.setIfInBounds_toArray, List.set_cons_zero, List.set_cons_succ]))
    (refine held_take (i := 10) (v := ?_) rfl (by kernel_rfl) (by kernel_rfl) (by kernel_rfl) (fun _ _ _ h => h) (by rfl) ?_ (by assumption) ?_; rotate_left; (intro w hSw; (try dsimp only at hSw); (first | (go_simp; done) | (go_simp; with_reducible rfl))); (try simp only [Act.put, List.setIfInBounds_toArray, List.set_cons_zero, List.set_cons_succ]))
    (refine held_take (i := 11) (v := ?_) rfl (by kernel_rfl) (by kernel_rfl) (by kernel_rfl) (fun _ _ _ h => h) (by rfl) ?_ (by assumption) ?_; rotate_left; (intro w hSw; (try dsimp only at hSw); (first | (go_simp; done) | (go_simp; with_reducible rfl))); (try simp only [Act.put, List.setIfInBounds_toArray, List.set_cons_zero, List.set_cons_succ]))
    (refine held_take (i := 12) (v := ?_) rfl (by kernel_rfl) (by kernel_rfl) (by kernel_rfl) (fun _ _ _ h => h) (by rfl) ?_ (by assumption) ?_; rotate_left; (intro w hSw; (try dsimp only at hSw); (first | (go_simp; done) | (go_simp; with_reducible rfl))); (try simp only [Act.put, List.setIfInBounds_toArray, List.set_cons_zero, List.set_cons_succ]))
    (refine held_take (i := 13) (v := ?_) rfl (by kernel_rfl) (by kernel_rfl) (by kernel_rfl) (fun _ _ _ h => h) (by rfl) ?_ (by assumption) ?_; rotate_left; (intro w hSw; (try dsimp only at hSw); (first | (go_simp; done) | (go_simp; with_reducible rfl))); (try simp only [Act.put, List.setIfInBounds_toArray, List.set_cons_zero, List.set_cons_succ]))
    (refine held_take (i := 14) (v := ?_) rfl (by kernel_rfl) (by kernel_rfl) (by kernel_rfl) (fun _ _ _ h => h) (by rfl) ?_ (by assumption) ?_; rotate_left; (intro w hSw; (try dsimp only at hSw); (first | (go_simp; done) | (go_simp; with_reducible rfl))); (try simp only [Act.put, List.setIfInBounds_toArray, List.set_cons_zero, List.set_cons_succ]))
    refine wpAnyH_ready (rs := [15]) (by kernel_rfl) (by simp) (held_cons rfl (fun K hK => ?_) AllReadyH.nil)
    rw [if_pos (by rfl)]
    refine wp_store_row 47 _ _ rfl (w.heap.size + 1 + 1) (rc S) rfl rfl 47 zz HR.out (by rw [rc_size]; exact inf_rz) (by rw [HZ.out, rc_size]) (all_rc S) ?_
    have hb' := setRow_heap W0 (w.heap.size + 1 + 1) zz (rc S) 47 _ HR.out
    have hc' := Chg.row (cs := rc S) HR.out
    have HX' := hide (HX.out.turn hc' (by simp; omega))
    have HB' := hide (HB.out.chg hc' (by simp; omega))
    have HE' := hide (HE.out.chg hc' (by simp))
    clear hc'
    generalize W0.setRow (w.heap.size + 1 + 1) (rc S) = w' at *
    (refine hK.out _ _ ?_ (fun hHeld => ?_))
    · exact ⟨rc_rng HB'.out, HE'.out.cell, PP.out _ HB'.out⟩
    (try simp only [Act.put, List.setIfInBounds_toArray, List.set_cons_zero, List.set_cons_succ])
    (refine held_take (i := 16) (v := ?_) rfl (by kernel_rfl) (by kernel_rfl) (by kernel_rfl) (fun _ _ _ h => h) (by rfl) ?_ (by assumption) ?_; rotate_left; (intro w hSw; (try dsimp only at hSw); (first | (go_simp; done) | (go_simp; with_reducible rfl))); (try simp only [Act.put, List.setIfInBounds_toArray, List.set_cons_zero, List.set_cons_succ]))
    refine wpAnyH_done (by kernel_rfl) ?_ _
    go_wp2_with fail
    refine bodyPost_ret (res_of Try.results45 _ _ rfl rfl hb') rfl ?_
    exact ⟨by rw [E.out, y1]; simp, HX'.out⟩
  · have y1 : (hh != 0) = false := by rw [bne, y0]; rfl
    cases z1 : decide (1 ≤ a)
    · go_wp2_with fail
      clear re r1
      have HB := hide (HB.out.ext (Ext.drew W0))
      have HE := hide (HE.out.ext (Ext.drew W0))
      have HR := hide (HR.out.ext (Ext.drew W0))
      have HX := hide (HX.out.trans (Ext.drew W0))
      have PP : Hid (∀ w', Blk w' w.heap.size (rc S) 47 → w'.cell? ⟨w.heap.size, 19 + o, none⟩ = some (.int .i64 hh)) := hide fun w' h => by rw [h.cell]; exact CP.out
      refine wp_region_held_drew (S := fun w' => w'.rangeAt w.heap.size 0 (rc S).toList ∧ ((∀ i, w'.cell? ⟨w.heap.size + 1, i, none⟩ = #[Value.int .i64 10, .int .i64 (t : Int), .int .i64 (o : Int), .int .i64 a, .int .i64 0][i]?) ∧ w'.cell? ⟨w.heap.size, 19 + o, none⟩ = some (.int .i64 hh))) (by kernel_rfl) (by exact ⟨rc_rng HB.out, HE.out.cell, PP.out _ HB.out⟩) (fun hHeld => ?_)
      generalize W0.drew = W0 at *
      refine wpAnyH_take (i := 0) (at_drop rfl) (by kernel_rfl) (by kernel_rfl) (by kernel_rfl) (fun _ _ _ h => h) (yieldsIf_load_mid (by rfl) 47 _ rfl w.heap.size 0 rfl (rc S).toList _ (fun w h => h.1) Try.underlying47 rfl (inf_rm S)) (by assumption) ?_
      rw [Array.toArray_toList]
      (try simp only [Act.put, List.setIfInBounds_toArray, List.set_cons_zero, List.set_cons_succ])
      (refine held_take (i := 1) (v := ?_) rfl (by kernel_rfl) (by kernel_rfl) (by kernel_rfl) (fun _ _ _ h => h) (by rfl) ?_ (by assumption) ?_; rotate_left; (intro w hSw; (try dsimp only at hSw); (first | (go_simp; done) | (go_simp; with_reducible rfl))); (try simp only [Act.put, List.setIfInBounds_toArray, List.set_cons_zero, List.set_cons_succ]))
      (refine held_take (i := 2) (v := ?_) rfl (by kernel_rfl) (by kernel_rfl) (by kernel_rfl) (fun _ _ _ h => h) (by rfl) ?_ (by assumption) ?_; rotate_left; (intro w hSw; (try dsimp only at hSw); (first | (go_simp; done) | (go_simp; with_reducible rfl))); (try simp only [Act.put, List.setIfInBounds_toArray, List.set_cons_zero, List.set_cons_succ]))
      (refine held_take (i := 3) (v := ?_) rfl (by kernel_rfl) (by kernel_rfl) (by kernel_rfl) (fun _ _ _ h => h) (by rfl) ?_ (by assumption) ?_; rotate_left; (intro w hSw; (try dsimp only at hSw); (first | (go_simp; done) | (go_simp; with_reducible rfl))); (try simp only [Act.put, List.setIfInBounds_toArray, List.set_cons_zero, List.set_cons_succ]))
      (refine held_take (i := 4) (v := ?_) rfl (by kernel_rfl) (by kernel_rfl) (by kernel_rfl) (fun _ _ _ h => h) (by rfl) ?_ (by assumption) ?_; rotate_left; (intro w hSw; (try dsimp only at hSw); (first | (go_simp; done) | (go_simp; with_reducible rfl))); (try simp only [Act.put, List.setIfInBounds_toArray, List.set_cons_zero, List.set_cons_succ]))
      (refine held_take (i := 5) (v := ?_) rfl (by kernel_rfl) (by kernel_rfl) (by kernel_rfl) (fun _ _ _ h => h) (by rfl) ?_ (by assumption) ?_; rotate_left; (intro w hSw; (try dsimp only at hSw); (first | (go_simp; done) | (go_simp; with_reducible rfl))); (try simp only [Act.put, List.setIfInBounds_toArray, List.set_cons_zero, List.set_cons_succ]))
      (refine held_take (i := 6) (v := ?_) rfl (by kernel_rfl) (by kernel_rfl) (by kernel_rfl) (fun _ _ _ h => h) (by rfl) ?_ (by assumption) ?_; rotate_left; (intro w hSw; (try dsimp only at hSw); (first | (go_simp; done) | (go_simp; with_reducible rfl))); (try simp only [Act.put, List.setIfInBounds_toArray, List.set_cons_zero, List.set_cons_succ]))
      (refine held_skip (i := 7) rfl (by kernel_rfl) (by kernel_rfl) (by kernel_rfl) (fun _ _ _ h => h) (by rfl) (by assumption) ?_; (try simp only [Act.put, List.setIfInBounds_toArray, List.set_cons_zero, List.set_cons_succ]))
      (refine held_skip (i := 8) rfl (by kernel_rfl) (by kernel_rfl) (by kernel_rfl) (fun _ _ _ h => h) (by rfl) (by assumption) ?_; (try simp only [Act.put, List.setIfInBounds_toArray, List.set_cons_zero, List.set_cons_succ]))
      (refine held_skip (i := 9) rfl (by kernel_rfl) (by kernel_rfl) (by kernel_rfl) (fun _ _ _ h => h) (by rfl) (by assumption) ?_; (try simp only [Act.put, List.setIfInBounds_toArray, List.set_cons_zero, List.set_cons_succ]))
      (refine held_skip (i := 10) rfl (by kernel_rfl) (by kernel_rfl) (by kernel_rfl) (fun _ _ _ h => h) (by rfl) (by assumption) ?_; (try simp only [Act.put, List.setIfInBounds_toArray, List.set_cons_zero, List.set_cons_succ]))
      (refine held_skip (i := 11) rfl (by kernel_rfl) (by kernel_rfl) (by kernel_rfl) (fun _ _ _ h => h) (by rfl) (by assumption) ?_; (try simp only [Act.put, List.setIfInBounds_toArray, List.set_cons_zero, List.set_cons_succ]))
      (refine held_skip (i := 12) rfl (by kernel_rfl) (by kernel_rfl) (by kernel_rfl) (fun _ _ _ h => h) (by rfl) (by assumption) ?_; (try simp only [Act.put, List.setIfInBounds_toArray, List.set_cons_zero, List.set_cons_succ]))
      (refine held_skip (i := 13) rfl (by kernel_rfl) (by kernel_rfl) (by kernel_rfl) (fun _ _ _ h => h) (by rfl) (by assumption) ?_; (try simp only [Act.put, List.setIfInBounds_toArray, List.set_cons_zero, List.set_cons_succ]))
      (refine held_take (i := 14) (v := ?_) rfl (by kernel_rfl) (by kernel_rfl) (by kernel_rfl) (fun _ _ _ h => h) (by rfl) ?_ (by assumption) ?_; rotate_left; (intro w hSw; (try dsimp only at hSw); (first | (go_simp; done) | (go_simp; with_reducible rfl))); (try simp only [Act.put, List.setIfInBounds_toArray, List.set_cons_zero, List.set_cons_succ]))
      refine wpAnyH_ready (rs := [15]) (by kernel_rfl) (by simp) (held_cons rfl (fun K hK => ?_) AllReadyH.nil)
      rw [if_pos (by rfl)]
      refine wp_store_row 47 _ _ rfl (w.heap.size + 1 + 1) (rc S) rfl rfl 47 zz HR.out (by rw [rc_size]; exact inf_rz) (by rw [HZ.out, rc_size]) (all_rc S) ?_
      have hb' := setRow_heap W0 (w.heap.size + 1 + 1) zz (rc S) 47 _ HR.out
      have hc' := Chg.row (cs := rc S) HR.out
      have HX' := hide (HX.out.turn hc' (by simp; omega))
      have HB' := hide (HB.out.chg hc' (by simp; omega))
      have HE' := hide (HE.out.chg hc' (by simp))
      clear hc'
      generalize W0.setRow (w.heap.size + 1 + 1) (rc S) = w' at *
      (refine hK.out _ _ ?_ (fun hHeld => ?_))
      · exact ⟨rc_rng HB'.out, HE'.out.cell, PP.out _ HB'.out⟩
      (try simp only [Act.put, List.setIfInBounds_toArray, List.set_cons_zero, List.set_cons_succ])
      (refine held_take (i := 16) (v := ?_) rfl (by kernel_rfl) (by kernel_rfl) (by kernel_rfl) (fun _ _ _ h => h) (by rfl) ?_ (by assumption) ?_; rotate_left; (intro w hSw; (try dsimp only at hSw); (first | (go_simp; done) | (go_simp; with_reducible rfl))); (try simp only [Act.put, List.setIfInBounds_toArray, List.set_cons_zero, List.set_cons_succ]))
      refine wpAnyH_done (by kernel_rfl) ?_ _
      go_wp2_with fail
      refine bodyPost_ret (res_of Try.results45 _ _ rfl rfl hb') rfl ?_
      exact ⟨by rw [E.out, y1]; simp, HX'.out⟩
    · have z2 : decide (a ≤ 2147483647) = false := by have := Z.out; rw [y0, z1] at this; simpa using this
      go_wp2_with fail
      clear re r1
      have HB := hide (HB.out.ext (Ext.drew W0))
      have HE := hide (HE.out.ext (Ext.drew W0))
      have HR := hide (HR.out.ext (Ext.drew W0))
      have HX := hide (HX.out.trans (Ext.drew W0))
      have PP : Hid (∀ w', Blk w' w.heap.size (rc S) 47 → w'.cell? ⟨w.heap.size, 19 + o, none⟩ = some (.int .i64 hh)) := hide fun w' h => by rw [h.cell]; exact CP.out
      refine wp_region_held_drew (S := fun w' => w'.rangeAt w.heap.size 0 (rc S).toList ∧ ((∀ i, w'.cell? ⟨w.heap.size + 1, i, none⟩ = #[Value.int .i64 10, .int .i64 (t : Int), .int .i64 (o : Int), .int .i64 a, .int .i64 0][i]?) ∧ w'.cell? ⟨w.heap.size, 19 + o, none⟩ = some (.int .i64 hh))) (by kernel_rfl) (by exact ⟨rc_rng HB.out, HE.out.cell, PP.out _ HB.out⟩) (fun hHeld => ?_)
      generalize W0.drew = W0 at *
      refine wpAnyH_take (i := 0) (at_drop rfl) (by kernel_rfl) (by kernel_rfl) (by kernel_rfl) (fun _ _ _ h => h) (yieldsIf_load_mid (by rfl) 47 _ rfl w.heap.size 0 rfl (rc S).toList _ (fun w h => h.1) Try.underlying47 rfl (inf_rm S)) (by assumption) ?_
      rw [Array.toArray_toList]
      (try simp only [Act.put, List.setIfInBounds_toArray, List.set_cons_zero, List.set_cons_succ])
      (refine held_take (i := 1) (v := ?_) rfl (by kernel_rfl) (by kernel_rfl) (by kernel_rfl) (fun _ _ _ h => h) (by rfl) ?_ (by assumption) ?_; rotate_left; (intro w hSw; (try dsimp only at hSw); (first | (go_simp; done) | (go_simp; with_reducible rfl))); (try simp only [Act.put, List.setIfInBounds_toArray, List.set_cons_zero, List.set_cons_succ]))
      (refine held_take (i := 2) (v := ?_) rfl (by kernel_rfl) (by kernel_rfl) (by kernel_rfl) (fun _ _ _ h => h) (by rfl) ?_ (by assumption) ?_; rotate_left; (intro w hSw; (try dsimp only at hSw); (first | (go_simp; done) | (go_simp; with_reducible rfl))); (try simp only [Act.put, List.setIfInBounds_toArray, List.set_cons_zero, List.set_cons_succ]))
      (refine held_take (i := 3) (v := ?_) rfl (by kernel_rfl) (by kernel_rfl) (by kernel_rfl) (fun _ _ _ h => h) (by rfl) ?_ (by assumption) ?_; rotate_left; (intro w hSw; (try dsimp only at hSw); (first | (go_simp; done) | (go_simp; with_reducible rfl))); (try simp only [Act.put, List.setIfInBounds_toArray, List.set_cons_zero, List.set_cons_succ]))
      (refine held_take (i := 4) (v := ?_) rfl (by kernel_rfl) (by kernel_rfl) (by kernel_rfl) (fun _ _ _ h => h) (by rfl) ?_ (by assumption) ?_; rotate_left; (intro w hSw; (try dsimp only at hSw); (first | (go_simp; done) | (go_simp; with_reducible rfl))); (try simp only [Act.put, List.setIfInBounds_toArray, List.set_cons_zero, List.set_cons_succ]))
      (refine held_take (i := 5) (v := ?_) rfl (by kernel_rfl) (by kernel_rfl) (by kernel_rfl) (fun _ _ _ h => h) (by rfl) ?_ (by assumption) ?_; rotate_left; (intro w hSw; (try dsimp only at hSw); (first | (go_simp; done) | (go_simp; with_reducible rfl))); (try simp only [Act.put, List.setIfInBounds_toArray, List.set_cons_zero, List.set_cons_succ]))
      (refine held_take (i := 6) (v := ?_) rfl (by kernel_rfl) (by kernel_rfl) (by kernel_rfl) (fun _ _ _ h => h) (by rfl) ?_ (by assumption) ?_; rotate_left; (intro w hSw; (try dsimp only at hSw); (first | (go_simp; done) | (go_simp; with_reducible rfl))); (try simp only [Act.put, List.setIfInBounds_toArray, List.set_cons_zero, List.set_cons_succ]))
      (refine held_skip (i := 7) rfl (by kernel_rfl) (by kernel_rfl) (by kernel_rfl) (fun _ _ _ h => h) (by rfl) (by assumption) ?_; (try simp only [Act.put, List.setIfInBounds_toArray, List.set_cons_zero, List.set_cons_succ]))
      (refine held_skip (i := 8) rfl (by kernel_rfl) (by kernel_rfl) (by kernel_rfl) (fun _ _ _ h => h) (by rfl) (by assumption) ?_; (try simp only [Act.put, List.setIfInBounds_toArray, List.set_cons_zero, List.set_cons_succ]))
      (refine held_skip (i := 9) rfl (by kernel_rfl) (by kernel_rfl) (by kernel_rfl) (fun _ _ _ h => h) (by rfl) (by assumption) ?_; (try simp only [Act.put, List.setIfInBounds_toArray, List.set_cons_zero, List.set_cons_succ]))
      (refine held_skip (i := 10) rfl (by kernel_rfl) (by kernel_rfl) (by kernel_rfl) (fun _ _ _ h => h) (by rfl) (by assumption) ?_; (try simp only [Act.put, List.setIfInBounds_toArray, List.set_cons_zero, List.set_cons_succ]))
      (refine held_skip (i := 11) rfl (by kernel_rfl) (by kernel_rfl) (by kernel_rfl) (fun _ _ _ h => h) (by rfl) (by assumption) ?_; (try simp only [Act.put, List.setIfInBounds_toArray, List.set_cons_zero, List.set_cons_succ]))
      (refine held_skip (i := 12) rfl (by kernel_rfl) (by kernel_rfl) (by kernel_rfl) (fun _ _ _ h => h) (by rfl) (by assumption) ?_; (try simp only [Act.put, List.setIfInBounds_toArray, List.set_cons_zero, List.set_cons_succ]))
      (refine held_skip (i := 13) rfl (by kernel_rfl) (by kernel_rfl) (by kernel_rfl) (fun _ _ _ h => h) (by rfl) (by assumption) ?_; (try simp only [Act.put, List.setIfInBounds_toArray, List.set_cons_zero, List.set_cons_succ]))
      (refine held_take (i := 14) (v := ?_) rfl (by kernel_rfl) (by kernel_rfl) (by kernel_rfl) (fun _ _ _ h => h) (by rfl) ?_ (by assumption) ?_; rotate_left; (intro w hSw; (try dsimp only at hSw); (first | (go_simp; done) | (go_simp; with_reducible rfl))); (try simp only [Act.put, List.setIfInBounds_toArray, List.set_cons_zero, List.set_cons_succ]))
      refine wpAnyH_ready (rs := [15]) (by kernel_rfl) (by simp) (held_cons rfl (fun K hK => ?_) AllReadyH.nil)
      rw [if_pos (by rfl)]
      refine wp_store_row 47 _ _ rfl (w.heap.size + 1 + 1) (rc S) rfl rfl 47 zz HR.out (by rw [rc_size]; exact inf_rz) (by rw [HZ.out, rc_size]) (all_rc S) ?_
      have hb' := setRow_heap W0 (w.heap.size + 1 + 1) zz (rc S) 47 _ HR.out
      have hc' := Chg.row (cs := rc S) HR.out
      have HX' := hide (HX.out.turn hc' (by simp; omega))
      have HB' := hide (HB.out.chg hc' (by simp; omega))
      have HE' := hide (HE.out.chg hc' (by simp))
      clear hc'
      generalize W0.setRow (w.heap.size + 1 + 1) (rc S) = w' at *
      (refine hK.out _ _ ?_ (fun hHeld => ?_))
      · exact ⟨rc_rng HB'.out, HE'.out.cell, PP.out _ HB'.out⟩
      (try simp only [Act.put, List.setIfInBounds_toArray, List.set_cons_zero, List.set_cons_succ])
      (refine held_take (i := 16) (v := ?_) rfl (by kernel_rfl) (by kernel_rfl) (by kernel_rfl) (fun _ _ _ h => h) (by rfl) ?_ (by assumption) ?_; rotate_left; (intro w hSw; (try dsimp only at hSw); (first | (go_simp; done) | (go_simp; with_reducible rfl))); (try simp only [Act.put, List.setIfInBounds_toArray, List.set_cons_zero, List.set_cons_succ]))
      refine wpAnyH_done (by kernel_rfl) ?_ _
      go_wp2_with fail
      refine bodyPost_ret (res_of Try.results45 _ _ rfl rfl hb') rfl ?_
      exact ⟨by rw [E.out, y1]; simp, HX'.out⟩
theorem rask_100y {S : St} (ok : Ok S) {t o : Nat} (a : Int) (ht : t < S.N) (ho : o < S.M) (y0 : (S.hsh o == 0) = true) (z1 : decide (1 ≤ a) = true) (z2 : decide (a ≤ 2147483647) = true) (w : World) :
    Calls Try.prog 45 #[.agg (rc S), (Value.agg #[Value.int .i64 10, .int .i64 (t : Int), .int .i64 (o : Int), .int .i64 a, .int .i64 0])] w fun e w' => e = .returned (.tuple #[.agg (rc (haS S o a)), .bool true]) ∧ Ext w w' := by
  have CS := hide (show (rc (haS S o a))[19 + o]? = some (.int .i64 a) by rw [rc_hsh (by have := ok.m1; omega)]; simp [haS, upd])
  have ZS := hide (show (rc S).setIfInBounds (19 + o) (.int .i64 a) = rc (haS S o a) from rset_hsh (by have := ok.m1; omega) a)
  generalize haS S o a = S' at *
  have y1 : (a != 0) = true := by simp at z1 ⊢; omega
  have CP := hide (show (rc S)[19 + o]? = some (.int .i64 (S.hsh o)) from rc_hsh (by have := ok.m1; omega))
  generalize S.hsh o = hh at *
  have n1 := ok.n1
  have m1 := ok.m1
  have ho8 : o < 8 := by omega
  have ht8 : t < 8 := by omega
  have i8 : (o : Int) < 8 := by omega
  have j8 : (t : Int) < 8 := by omega
  obtain ⟨zz, hz1, hz2, hz3, hz4, -⟩ : ∃ zz : Array Value, (∀ w, (zeroValue 47).run Try.prog w = .ok (.agg zz) w) ∧ ¬ zz = #[] ∧ ¬ zz.size < 2 ∧ zz.size = 227 ∧ zz = zr := ⟨_, fun w => by kernel_rfl, by decide +kernel, by decide +kernel, by decide +kernel, rfl⟩
  have HZ := hide hz4
  clear hz4
  go_enter Try.func45, Try.ntmps45
  go_upto_region 1 with fail
  have HB := hide (((Blk.new w (rc S) 47).ext (Ext.alloc _ (.cells #[Value.int .i64 10, .int .i64 (t : Int), .int .i64 (o : Int), .int .i64 a, .int .i64 0] 29))).ext (Ext.alloc _ (.cells zz 47)))
  have HE := Blk.new (w.alloc (.cells (rc S) 47)) #[Value.int .i64 10, .int .i64 (t : Int), .int .i64 (o : Int), .int .i64 a, .int .i64 0] 29
  rw [World.size_alloc] at HE
  have HE := hide (HE.ext (Ext.alloc _ (.cells zz 47)))
  have HR := Blk.new ((w.alloc (.cells (rc S) 47)).alloc (.cells #[Value.int .i64 10, .int .i64 (t : Int), .int .i64 (o : Int), .int .i64 a, .int .i64 0] 29)) zz 47
  rw [World.size_alloc, World.size_alloc] at HR
  have HR := hide HR
  have HX := hide (((Ext.alloc w (.cells (rc S) 47)).trans (Ext.alloc _ (.cells #[Value.int .i64 10, .int .i64 (t : Int), .int .i64 (o : Int), .int .i64 a, .int .i64 0] 29))).trans (Ext.alloc _ (.cells zz 47)))
  generalize (((w.alloc (.cells (rc S) 47)).alloc (.cells #[Value.int .i64 10, .int .i64 (t : Int), .int .i64 (o : Int), .int .i64 a, .int .i64 0] 29)).alloc (.cells zz 47)) = W0 at *
  clear hz1 hz2 hz3
  have re := HE.out.cell
  have r1 : W0.cell? ⟨w.heap.size, 19 + o, none⟩ = some (.int .i64 hh) := by rw [HB.out.cell]; exact CP.out
  have f1 := HB.out.free (19 + o)
  go_wp2_with fail
  clear re r1
  have b4 := HB.out.set (19 + o) (.int .i64 a)
  rw [ZS.out] at b4
  have c4 := (Chg.refl [w.heap.size] W0).set (p := ⟨w.heap.size, 19 + o, none⟩) (.inl (by simp)) (.int .i64 a)
  have HE := hide (HE.out.chg c4 (by simp))
  have HR := hide (HR.out.chg c4 (by simp; omega))
  have HX := hide (HX.out.turn c4 (by simp))
  have HB := hide b4
  have CP := CS
  clear b4 c4 f1
  generalize W0.setCell ⟨w.heap.size, 19 + o, none⟩ (.int .i64 a) = W0 at *
  have HB := hide (HB.out.ext (Ext.drew W0))
  have HE := hide (HE.out.ext (Ext.drew W0))
  have HR := hide (HR.out.ext (Ext.drew W0))
  have HX := hide (HX.out.trans (Ext.drew W0))
  have PP : Hid (∀ w', Blk w' w.heap.size (rc S') 47 → w'.cell? ⟨w.heap.size, 19 + o, none⟩ = some (.int .i64 a)) := hide fun w' h => by rw [h.cell]; exact CP.out
  refine wp_region_held_drew (S := fun w' => w'.rangeAt w.heap.size 0 (rc S').toList ∧ ((∀ i, w'.cell? ⟨w.heap.size + 1, i, none⟩ = #[Value.int .i64 10, .int .i64 (t : Int), .int .i64 (o : Int), .int .i64 a, .int .i64 0][i]?) ∧ w'.cell? ⟨w.heap.size, 19 + o, none⟩ = some (.int .i64 a))) (by kernel_rfl) (by exact ⟨rc_rng HB.out, HE.out.cell, PP.out _ HB.out⟩) (fun hHeld => ?_)
  generalize W0.drew = W0 at *
  refine wpAnyH_take (i := 0) (at_drop rfl) (by kernel_rfl) (by kernel_rfl) (by kernel_rfl) (fun _ _ _ h => h) (yieldsIf_load_mid (by rfl) 47 _ rfl w.heap.size 0 rfl (rc S').toList _ (fun w h => h.1) Try.underlying47 rfl (inf_rm S')) (by assumption) ?_
  rw [Array.toArray_toList]
  (try simp only [Act.put, List.setIfInBounds_toArray, List.set_cons_zero, List.set_cons_succ])
  (refine held_take (i := 1) (v := ?_) rfl (by kernel_rfl) (by kernel_rfl) (by kernel_rfl) (fun _ _ _ h => h) (by rfl) ?_ (by assumption) ?_; rotate_left; (intro w hSw; (try dsimp only at hSw); (first | (go_simp; done) | (go_simp; with_reducible rfl))); (try simp only [Act.put, List.setIfInBounds_toArray, List.set_cons_zero, List.set_cons_succ]))
  (refine held_take (i := 2) (v := ?_) rfl (by kernel_rfl) (by kernel_rfl) (by kernel_rfl) (fun _ _ _ h => h) (by rfl) ?_ (by assumption) ?_; rotate_left; (intro w hSw; (try dsimp only at hSw); (first | (go_simp; done) | (go_simp; with_reducible rfl))); (try simp only [Act.put, List.setIfInBounds_toArray, List.set_cons_zero, List.set_cons_succ]))
  (refine held_take (i := 3) (v := ?_) rfl (by kernel_rfl) (by kernel_rfl) (by kernel_rfl) (fun _ _ _ h => h) (by rfl) ?_ (by assumption) ?_; rotate_left; (intro w hSw; (try dsimp only at hSw); (first | (go_simp; done) | (go_simp; with_reducible rfl))); (try simp only [Act.put, List.setIfInBounds_toArray, List.set_cons_zero, List.set_cons_succ]))
  (refine held_take (i := 4) (v := ?_) rfl (by kernel_rfl) (by kernel_rfl) (by kernel_rfl) (fun _ _ _ h => h) (by rfl) ?_ (by assumption) ?_; rotate_left; (intro w hSw; (try dsimp only at hSw); (first | (go_simp; done) | (go_simp; with_reducible rfl))); (try simp only [Act.put, List.setIfInBounds_toArray, List.set_cons_zero, List.set_cons_succ]))
  (refine held_take (i := 5) (v := ?_) rfl (by kernel_rfl) (by kernel_rfl) (by kernel_rfl) (fun _ _ _ h => h) (by rfl) ?_ (by assumption) ?_; rotate_left; (intro w hSw; (try dsimp only at hSw); (first | (go_simp; done) | (go_simp; with_reducible rfl))); (try simp only [Act.put, List.setIfInBounds_toArray, List.set_cons_zero, List.set_cons_succ]))
  (refine held_take (i := 6) (v := ?_) rfl (by kernel_rfl) (by kernel_rfl) (by kernel_rfl) (fun _ _ _ h => h) (by rfl) ?_ (by assumption) ?_; rotate_left; (intro w hSw; (try dsimp only at hSw); (first | (go_simp; done) | (go_simp; with_reducible rfl))); (try simp only [Act.put, List.setIfInBounds_toArray, List.set_cons_zero, List.set_cons_succ]))
  (refine held_take (i := 7) (v := ?_) rfl (by kernel_rfl) (by kernel_rfl) (by kernel_rfl) (fun _ _ _ h => h) (by rfl) ?_ (by assumption) ?_; rotate_left; (intro w hSw; (try dsimp only at hSw); (first | (go_simp; done) | (go_simp; with_reducible rfl))); (try simp only [Act.put, List.setIfInBounds_toArray, List.set_cons_zero, List.set_cons_succ]))
  (refine held_take (i := 8) (v := ?_) rfl (by kernel_rfl) (by kernel_rfl) (by kernel_rfl) (fun _ _ _ h => h) (by rfl) ?_ (by assumption) ?_; rotate_left; (intro w hSw; (try dsimp only at hSw); (first | (go_simp; done) | (go_simp; with_reducible rfl))); (try simp only [Act.put, List.setIfInBounds_toArray, List.set_cons_zero, List.set_cons_succ]))
  (refine held_take (i := 9) (v := ?_) rfl (by kernel_rfl) (by kernel_rfl) (by kernel_rfl) (fun _ _ _ h => h) (by rfl) ?_ (by assumption) ?_; rotate_left; (intro w hSw; (try dsimp only at hSw); (first | (go_simp; done) | (go_simp; with_reducible rfl))); (try simp only [Act.put, List.setIfInBounds_toArray, List.set_cons_zero, List.set_cons_succ]))
  (refine held_take (i := 10) (v := ?_) rfl (by kernel_rfl) (by kernel_rfl) (by kernel_rfl) (fun _ _ _ h => h) (by rfl) ?_ (by assumption) ?_; rotate_left; (intro w hSw; (try dsimp only at hSw); (first | (go_simp; done) | (go_simp; with_reducible rfl))); (try simp only [Act.put, List.setIfInBounds_toArray, List.set_cons_zero, List.set_cons_succ]))
  (refine held_take (i := 11) (v := ?_) rfl (by kernel_rfl) (by kernel_rfl) (by kernel_rfl) (fun _ _ _ h => h) (by rfl) ?_ (by assumption) ?_; rotate_left; (intro w hSw; (try dsimp only at hSw); (first | (go_simp; done) | (go_simp; with_reducible rfl))); (try simp only [Act.put, List.setIfInBounds_toArray, List.set_cons_zero, List.set_cons_succ]))
  (refine held_take (i := 12) (v := ?_) rfl (by kernel_rfl) (by kernel_rfl) (by kernel_rfl) (fun _ _ _ h => h) (by rfl) ?_ (by assumption) ?_; rotate_left; (intro w hSw; (try dsimp only at hSw); (first | (go_simp; done) | (go_simp; with_reducible rfl))); (try simp only [Act.put, List.setIfInBounds_toArray, List.set_cons_zero, List.set_cons_succ]))
  (refine held_take (i := 13) (v := ?_) rfl (by kernel_rfl) (by kernel_rfl) (by kernel_rfl) (fun _ _ _ h => h) (by rfl) ?_ (by assumption) ?_; rotate_left; (intro w hSw; (try dsimp only at hSw); (first | (go_simp; done) | (go_simp; with_reducible rfl))); (try simp only [Act.put, List.setIfInBounds_toArray, List.set_cons_zero, List.set_cons_succ]))
  (refine held_take (i := 14) (v := ?_) rfl (by kernel_rfl) (by kernel_rfl) (by kernel_rfl) (fun _ _ _ h => h) (by rfl) ?_ (by assumption) ?_; rotate_left; (intro w hSw; (try dsimp only at hSw); (first | (go_simp; done) | (go_simp; with_reducible rfl))); (try simp only [Act.put, List.setIfInBounds_toArray, List.set_cons_zero, List.set_cons_succ]))
  refine wpAnyH_ready (rs := [15]) (by kernel_rfl) (by simp) (held_cons rfl (fun K hK => ?_) AllReadyH.nil)
  rw [if_pos (by rfl)]
  refine wp_store_row 47 _ _ rfl (w.heap.size + 1 + 1) (rc S') rfl rfl 47 zz HR.out (by rw [rc_size]; exact inf_rz) (by rw [HZ.out, rc_size]) (all_rc S') ?_
  have hb' := setRow_heap W0 (w.heap.size + 1 + 1) zz (rc S') 47 _ HR.out
  have hc' := Chg.row (cs := rc S') HR.out
  have HX' := hide (HX.out.turn hc' (by simp; omega))
  have HB' := hide (HB.out.chg hc' (by simp; omega))
  have HE' := hide (HE.out.chg hc' (by simp))
  clear hc'
  generalize W0.setRow (w.heap.size + 1 + 1) (rc S') = w' at *
  (refine hK.out _ _ ?_ (fun hHeld => ?_))
  · exact ⟨rc_rng HB'.out, HE'.out.cell, PP.out _ HB'.out⟩
  (try simp only [Act.put, List.setIfInBounds_toArray, List.set_cons_zero, List.set_cons_succ])
  (refine held_take (i := 16) (v := ?_) rfl (by kernel_rfl) (by kernel_rfl) (by kernel_rfl) (fun _ _ _ h => h) (by rfl) ?_ (by assumption) ?_; rotate_left; (intro w hSw; (try dsimp only at hSw); (first | (go_simp; done) | (go_simp; with_reducible rfl))); (try simp only [Act.put, List.setIfInBounds_toArray, List.set_cons_zero, List.set_cons_succ]))
  refine wpAnyH_done (by kernel_rfl) ?_ _
  go_wp2_with fail
  refine bodyPost_ret (res_of Try.results45 _ _ rfl rfl hb') rfl ?_
  exact ⟨by first | rfl | simp, HX'.out⟩
theorem rask_110 {S : St} (ok : Ok S) {t o : Nat} (a : Int) (ht : t < S.N) (ho : o < S.M) {b : Bool} (E : Hid (b = (a == (if (S.own o + 1 == (t : Int) + 1) = true then 1 else 0)))) (w : World) :
    Calls Try.prog 45 #[.agg (rc S), (Value.agg #[Value.int .i64 11, .int .i64 (t : Int), .int .i64 (o : Int), .int .i64 a, .int .i64 0])] w fun e w' => e = .returned (.tuple #[.agg (rc S), .bool b]) ∧ Ext w w' := by
  have CP := hide (show (rc S)[3 + o]? = some (.int .i64 (S.own o + 1)) from rc_own (by have := ok.m1; omega))
  generalize S.own o + 1 = y at *
  have n1 := ok.n1
  have m1 := ok.m1
  have ho8 : o < 8 := by omega
  have ht8 : t < 8 := by omega
  have i8 : (o : Int) < 8 := by omega
  have j8 : (t : Int) < 8 := by omega
  obtain ⟨zz, hz1, hz2, hz3, hz4, -⟩ : ∃ zz : Array Value, (∀ w, (zeroValue 47).run Try.prog w = .ok (.agg zz) w) ∧ ¬ zz = #[] ∧ ¬ zz.size < 2 ∧ zz.size = 227 ∧ zz = zr := ⟨_, fun w => by kernel_rfl, by decide +kernel, by decide +kernel, by decide +kernel, rfl⟩
  have HZ := hide hz4
  clear hz4
  go_enter Try.func45, Try.ntmps45
  go_upto_region 1 with fail
  have HB := hide (((Blk.new w (rc S) 47).ext (Ext.alloc _ (.cells #[Value.int .i64 11, .int .i64 (t : Int), .int .i64 (o : Int), .int .i64 a, .int .i64 0] 29))).ext (Ext.alloc _ (.cells zz 47)))
  have HE := Blk.new (w.alloc (.cells (rc S) 47)) #[Value.int .i64 11, .int .i64 (t : Int), .int .i64 (o : Int), .int .i64 a, .int .i64 0] 29
  rw [World.size_alloc] at HE
  have HE := hide (HE.ext (Ext.alloc _ (.cells zz 47)))
  have HR := Blk.new ((w.alloc (.cells (rc S) 47)).alloc (.cells #[Value.int .i64 11, .int .i64 (t : Int), .int .i64 (o : Int), .int .i64 a, .int .i64 0] 29)) zz 47
  rw [World.size_alloc, World.size_alloc] at HR
  have HR := hide HR
  have HX := hide (((Ext.alloc w (.cells (rc S) 47)).trans (Ext.alloc _ (.cells #[Value.int .i64 11, .int .i64 (t : Int), .int .i64 (o : Int), .int .i64 a, .int .i64 0] 29))).trans (Ext.alloc _ (.cells zz 47)))
  generalize (((w.alloc (.cells (rc S) 47)).alloc (.cells #[Value.int .i64 11, .int .i64 (t : Int), .int .i64 (o : Int), .int .i64 a, .int .i64 0] 29)).alloc (.cells zz 47)) = W0 at *
  clear hz1 hz2 hz3
  have re := HE.out.cell
  cases y1 : (y == (t : Int) + 1)
  all_goals
    rw [y1] at E
    go_wp2_with fail
    clear re
    have hy := Ext.drew W0
    have re := (HE.out.ext hy).cell
    have r1 : W0.drew.cell? ⟨w.heap.size, 3 + o, none⟩ = some (.int .i64 y) := by rw [(HB.out.ext hy).cell]; exact CP.out
    go_region
    clear re r1 hy
    have HB := hide (HB.out.ext (Ext.drew W0))
    have HE := hide (HE.out.ext (Ext.drew W0))
    have HR := hide (HR.out.ext (Ext.drew W0))
    have HX := hide (HX.out.trans (Ext.drew W0))
    generalize W0.drew = W0 at *
    go_wp2_with fail
    have hy := Ext.drew W0
    have HB := hide (HB.out.ext (Ext.drew W0))
    have HE := hide (HE.out.ext (Ext.drew W0))
    have HR := hide (HR.out.ext (Ext.drew W0))
    have HX := hide (HX.out.trans (Ext.drew W0))
    have PP : Hid (∀ w', Blk w' w.heap.size (rc S) 47 → w'.cell? ⟨w.heap.size, 3 + o, none⟩ = some (.int .i64 y)) := hide fun w' h => by rw [h.cell]; exact CP.out
    refine wp_region_held_drew (S := fun w' => w'.rangeAt w.heap.size 0 (rc S).toList ∧ ((∀ i, w'.cell? ⟨w.heap.size + 1, i, none⟩ = #[Value.int .i64 11, .int .i64 (t : Int), .int .i64 (o : Int), .int .i64 a, .int .i64 0][i]?) ∧ w'.cell? ⟨w.heap.size, 3 + o, none⟩ = some (.int .i64 y))) (by kernel_rfl) (by exact ⟨rc_rng HB.out, HE.out.cell, PP.out _ HB.out⟩) (fun hHeld => ?_)
    generalize W0.drew = W0 at *
    refine wpAnyH_take (i := 0) (at_drop rfl) (by kernel_rfl) (by kernel_rfl) (by kernel_rfl) (fun _ _ _ h => h) (yieldsIf_load_mid (by rfl) 47 _ rfl w.heap.size 0 rfl (rc S).toList _ (fun w h => h.1) Try.underlying47 rfl (inf_rm S)) (by assumption) ?_
    rw [Array.toArray_toList]
    (try simp only [Act.put, List.setIfInBounds_toArray, List.set_cons_zero, List.set_cons_succ])
    (refine held_take (i := 1) (v := ?_) rfl (by kernel_rfl) (by kernel_rfl) (by kernel_rfl) (fun _ _ _ h => h) (by rfl) ?_ (by assumption) ?_; rotate_left; (intro w hSw; (try dsimp only at hSw); (first | (go_simp; done) | (go_simp; with_reducible rfl))); (try simp only [Act.put, List.setIfInBounds_toArray, List.set_cons_zero, List.set_cons_succ]))
    (refine held_take (i := 2) (v := ?_) rfl (by kernel_rfl) (by kernel_rfl) (by kernel_rfl) (fun _ _ _ h => h) (by rfl) ?_ (by assumption) ?_; rotate_left; (intro w hSw; (try dsimp only at hSw); (first | (go_simp; done) | (go_simp; with_reducible rfl))); (try simp only [Act.put, List.setIfInBounds_toArray, List.set_cons_zero, List.set_cons_succ]))
    (refine held_take (i := 3) (v := ?_) rfl (by kernel_rfl) (by kernel_rfl) (by kernel_rfl) (fun _ _ _ h => h) (by rfl) ?_ (by assumption) ?_; rotate_left; (intro w hSw; (try dsimp only at hSw); (first | (go_simp; done) | (go_simp; with_reducible rfl))); (try simp only [Act.put, List.setIfInBounds_toArray, List.set_cons_zero, List.set_cons_succ]))
    (refine held_take (i := 4) (v := ?_) rfl (by kernel_rfl) (by kernel_rfl) (by kernel_rfl) (fun _ _ _ h => h) (by rfl) ?_ (by assumption) ?_; rotate_left; (intro w hSw; (try dsimp only at hSw); (first | (go_simp; done) | (go_simp; with_reducible rfl))); (try simp only [Act.put, List.setIfInBounds_toArray, List.set_cons_zero, List.set_cons_succ]))
    refine wpAnyH_ready (rs := [5]) (by kernel_rfl) (by simp) (held_cons rfl (fun K hK => ?_) AllReadyH.nil)
    rw [if_pos (by rfl)]
    refine wp_store_row 47 _ _ rfl (w.heap.size + 1 + 1) (rc S) rfl rfl 47 zz HR.out (by rw [rc_size]; exact inf_rz) (by rw [HZ.out, rc_size]) (all_rc S) ?_
    have hb' := setRow_heap W0 (w.heap.size + 1 + 1) zz (rc S) 47 _ HR.out
    have hc' := Chg.row (cs := rc S) HR.out
    have HX' := hide (HX.out.turn hc' (by simp; omega))
    have HB' := hide (HB.out.chg hc' (by simp; omega))
    have HE' := hide (HE.out.chg hc' (by simp))
    clear hc'
    generalize W0.setRow (w.heap.size + 1 + 1) (rc S) = w' at *
    (refine hK.out _ _ ?_ (fun hHeld => ?_))
    · exact ⟨rc_rng HB'.out, HE'.out.cell, PP.out _ HB'.out⟩
    (try simp only [Act.put, List.setIfInBounds_toArray, List.set_cons_zero, List.set_cons_succ])
    (refine held_take (i := 6) (v := ?_) rfl (by kernel_rfl) (by kernel_rfl) (by kernel_rfl) (fun _ _ _ h => h) (by rfl) ?_ (by assumption) ?_; rotate_left; (intro w hSw; (try dsimp only at hSw); (first | (go_simp; done) | (go_simp; with_reducible rfl))); (try simp only [Act.put, List.setIfInBounds_toArray, List.set_cons_zero, List.set_cons_succ]))
    refine wpAnyH_done (by kernel_rfl) ?_ _
    go_wp2_with fail
    refine bodyPost_ret (res_of Try.results45 _ _ rfl rfl hb') rfl ?_
    exact ⟨by rw [E.out]; rfl, HX'.out⟩
theorem rask_120n {S : St} (ok : Ok S) {t o : Nat} (a : Int) (ht : t < S.N) (ho : o < S.M) (q : isT S a = false) (w : World) :
    Calls Try.prog 45 #[.agg (rc S), (Value.agg #[Value.int .i64 12, .int .i64 (t : Int), .int .i64 (o : Int), .int .i64 a, .int .i64 0])] w fun e w' => e = .returned (.tuple #[.agg (rc S), .bool false]) ∧ Ext w w' := by
  have CI := fun w => ris_any S a w
  rw [q] at CI
  have n1 := ok.n1
  have m1 := ok.m1
  have ho8 : o < 8 := by omega
  have ht8 : t < 8 := by omega
  have i8 : (o : Int) < 8 := by omega
  have j8 : (t : Int) < 8 := by omega
  obtain ⟨zz, hz1, hz2, hz3, hz4, -⟩ : ∃ zz : Array Value, (∀ w, (zeroValue 47).run Try.prog w = .ok (.agg zz) w) ∧ ¬ zz = #[] ∧ ¬ zz.size < 2 ∧ zz.size = 227 ∧ zz = zr := ⟨_, fun w => by kernel_rfl, by decide +kernel, by decide +kernel, by decide +kernel, rfl⟩
  have HZ := hide hz4
  clear hz4
  go_enter Try.func45, Try.ntmps45
  go_upto_region 1 with fail
  have HB := hide (((Blk.new w (rc S) 47).ext (Ext.alloc _ (.cells #[Value.int .i64 12, .int .i64 (t : Int), .int .i64 (o : Int), .int .i64 a, .int .i64 0] 29))).ext (Ext.alloc _ (.cells zz 47)))
  have HE := Blk.new (w.alloc (.cells (rc S) 47)) #[Value.int .i64 12, .int .i64 (t : Int), .int .i64 (o : Int), .int .i64 a, .int .i64 0] 29
  rw [World.size_alloc] at HE
  have HE := hide (HE.ext (Ext.alloc _ (.cells zz 47)))
  have HR := Blk.new ((w.alloc (.cells (rc S) 47)).alloc (.cells #[Value.int .i64 12, .int .i64 (t : Int), .int .i64 (o : Int), .int .i64 a, .int .i64 0] 29)) zz 47
  rw [World.size_alloc, World.size_alloc] at HR
  have HR := hide HR
  have HX := hide (((Ext.alloc w (.cells (rc S) 47)).trans (Ext.alloc _ (.cells #[Value.int .i64 12, .int .i64 (t : Int), .int .i64 (o : Int), .int .i64 a, .int .i64 0] 29))).trans (Ext.alloc _ (.cells zz 47)))
  generalize (((w.alloc (.cells (rc S) 47)).alloc (.cells #[Value.int .i64 12, .int .i64 (t : Int), .int .i64 (o : Int), .int .i64 a, .int .i64 0] 29)).alloc (.cells zz 47)) = W0 at *
  clear hz1 hz2 hz3
  have re := HE.out.cell
  go_wp2_with (with_reducible refine wpList_get rfl _ rfl w.heap.size _ rfl HB.out ?_; go_frame)
  refine (CI W0).mono ?_
  rintro e w5 ⟨rfl, hx5⟩
  have HB := hide (HB.out.ext hx5)
  have HR := hide (HR.out.ext hx5)
  have HX := hide (HX.out.trans hx5)
  clear hx5
  generalize w5 = W0 at *
  go_wp2_with first | (with_reducible refine wpList_get rfl _ rfl w.heap.size _ rfl HB.out ?_; go_frame) | (with_reducible refine wpList_put rfl _ _ rfl (w.heap.size + 1 + 1) S rfl rfl zz HR.out HZ.out ?_; intro w' hb' hc' hs'; have HX' := hide (HX.out.turn hc' (by simp; omega)); clear hc' hs'; go_frame) | go_in
  refine bodyPost_ret (res_of Try.results45 _ _ rfl rfl hb') rfl ?_
  exact ⟨by rfl, HX'.out⟩
theorem rask_120y {S : St} (ok : Ok S) {t o : Nat} (s : Nat) (ht : t < S.N) (ho : o < S.M) (q : isT S (s : Int) = true) (w : World) :
    Calls Try.prog 45 #[.agg (rc S), (Value.agg #[Value.int .i64 12, .int .i64 (t : Int), .int .i64 (o : Int), .int .i64 (s : Int), .int .i64 0])] w fun e w' => e = .returned (.tuple #[.agg (rc (flS S s true)), .bool true]) ∧ Ext w w' := by
  have CI := fun w => ris_any S (s : Int) w
  rw [q] at CI
  have hs8 : s < 8 := by have := (isT_iff.1 q).2; have := ok.n1; omega
  have k8 : (s : Int) < 8 := by omega
  have ZS := hide (show (rc S).setIfInBounds (27 + s) (.bool true) = rc (flS S s true) from rset_flg hs8 true)
  generalize flS S s true = S' at *
  have CF := hide (show (rc S)[27 + s]? = some (.bool (S.flg s)) from rc_flg hs8)
  have n1 := ok.n1
  have m1 := ok.m1
  have ho8 : o < 8 := by omega
  have ht8 : t < 8 := by omega
  have i8 : (o : Int) < 8 := by omega
  have j8 : (t : Int) < 8 := by omega
  obtain ⟨zz, hz1, hz2, hz3, hz4, -⟩ : ∃ zz : Array Value, (∀ w, (zeroValue 47).run Try.prog w = .ok (.agg zz) w) ∧ ¬ zz = #[] ∧ ¬ zz.size < 2 ∧ zz.size = 227 ∧ zz = zr := ⟨_, fun w => by kernel_rfl, by decide +kernel, by decide +kernel, by decide +kernel, rfl⟩
  have HZ := hide hz4
  clear hz4
  go_enter Try.func45, Try.ntmps45
  go_upto_region 1 with fail
  have HB := hide (((Blk.new w (rc S) 47).ext (Ext.alloc _ (.cells #[Value.int .i64 12, .int .i64 (t : Int), .int .i64 (o : Int), .int .i64 (s : Int), .int .i64 0] 29))).ext (Ext.alloc _ (.cells zz 47)))
  have HE := Blk.new (w.alloc (.cells (rc S) 47)) #[Value.int .i64 12, .int .i64 (t : Int), .int .i64 (o : Int), .int .i64 (s : Int), .int .i64 0] 29
  rw [World.size_alloc] at HE
  have HE := hide (HE.ext (Ext.alloc _ (.cells zz 47)))
  have HR := Blk.new ((w.alloc (.cells (rc S) 47)).alloc (.cells #[Value.int .i64 12, .int .i64 (t : Int), .int .i64 (o : Int), .int .i64 (s : Int), .int .i64 0] 29)) zz 47
  rw [World.size_alloc, World.size_alloc] at HR
  have HR := hide HR
  have HX := hide (((Ext.alloc w (.cells (rc S) 47)).trans (Ext.alloc _ (.cells #[Value.int .i64 12, .int .i64 (t : Int), .int .i64 (o : Int), .int .i64 (s : Int), .int .i64 0] 29))).trans (Ext.alloc _ (.cells zz 47)))
  generalize (((w.alloc (.cells (rc S) 47)).alloc (.cells #[Value.int .i64 12, .int .i64 (t : Int), .int .i64 (o : Int), .int .i64 (s : Int), .int .i64 0] 29)).alloc (.cells zz 47)) = W0 at *
  clear hz1 hz2 hz3
  have re := HE.out.cell
  go_wp2_with (with_reducible refine wpList_get rfl _ rfl w.heap.size _ rfl HB.out ?_; go_frame)
  refine (CI W0).mono ?_
  rintro e w5 ⟨rfl, hx5⟩
  clear re
  have HB := hide (HB.out.ext hx5)
  have HE := hide (HE.out.ext hx5)
  have HR := hide (HR.out.ext hx5)
  have HX := hide (HX.out.trans hx5)
  clear hx5
  generalize w5 = W0 at *
  have re := HE.out.cell
  have r1 : W0.cell? ⟨w.heap.size, 27 + s, none⟩ = some (.bool (S.flg s)) := by rw [HB.out.cell]; exact CF.out
  have f1 := HB.out.free (27 + s)
  have b4 := HB.out.set (27 + s) (.bool true)
  rw [ZS.out] at b4
  have c4 := (Chg.refl [w.heap.size] W0).set (p := ⟨w.heap.size, 27 + s, none⟩) (.inl (by simp)) (.bool true)
  have HB4 := hide b4
  have HR4 := hide (HR.out.chg c4 (by simp; omega))
  have HX4 := hide (HX.out.turn c4 (by simp))
  clear b4 c4
  go_wp2_with first | (with_reducible refine wpList_get rfl _ rfl w.heap.size _ rfl HB4.out ?_; go_frame) | (with_reducible refine wpList_put rfl _ _ rfl (w.heap.size + 1 + 1) _ rfl rfl zz HR4.out HZ.out ?_; intro w' hb' hc' hs'; have HX' := hide (HX4.out.turn hc' (by simp; omega)); clear hc' hs'; go_frame) | go_in
  refine bodyPost_ret (res_of Try.results45 _ _ rfl rfl hb') rfl ?_
  exact ⟨by rfl, HX'.out⟩
end Go.Proofs.Ytacneghgimfklaa
