/- The document's Right of numbers that may not be. -/
import Derived.Test.YtacneghgimfklaaKA
namespace Go.Proofs.Ytacneghgimfklaa
open Go.RowKit Go.Maps
set_option linter.unusedSimpArgs false
set_option linter.unusedVariables false
set_option maxRecDepth 100000
set_option maxHeartbeats 8000000




theorem rright_no {n m k : Int} (h : okN n m k = false) (v : Value) (w : World) : Calls Try.prog 9 #[.int .i64 n, .int .i64 m, .int .i64 k, v] w fun e w' => (∃ S' D' sl', (∀ t, (sl' t).oneCell' = true) ∧ e = .returned (.tuple #[.int .i64 0, .agg (rc S'), .agg (atc D' sl')])) ∧ Ext w w' := by
  have cr := fun w' => rnew_no h w'
  generalize st0 0 0 0 = S0 at *
  clear h
  obtain ⟨zz, hz1, hz2, hz3, hz4, -⟩ : ∃ zz : Array Value, (∀ w, (zeroValue 47).run Try.prog w = .ok (.agg zz) w) ∧ ¬ zz = #[] ∧ ¬ zz.size < 2 ∧ zz.size = 227 ∧ zz = zr := ⟨_, fun w => by kernel_rfl, by decide +kernel, by decide +kernel, by decide +kernel, rfl⟩
  have HZ := hide hz4
  clear hz4
  obtain ⟨za, ha1, ha2, ha3, ha4, ha5⟩ : ∃ za : Array Value, (∀ w, (zeroValue 51).run Try.prog w = .ok (.agg za) w) ∧ ¬ za = #[] ∧ ¬ za.size < 2 ∧ za.size = 48 ∧ za = atc D0 (fun _ => .slice none 0 0) := ⟨_, zero_a, by decide +kernel, by decide +kernel, by decide +kernel, rfl⟩
  have HA := hide ha4
  have HA5 := hide ha5
  clear ha4 ha5
  go_enter Try.func9, Try.ntmps9
  go_upto_region 1 with fail
  have B9 := hide ((Blk.new w zz 47).ext (Ext.alloc _ (.cells za 51)))
  have hb10 := Blk.new (w.alloc (.cells zz 47)) za 51
  rw [World.size_alloc] at hb10
  have B10 := hide hb10
  have HX := hide ((Ext.alloc w (.cells zz 47)).trans (Ext.alloc _ (.cells za 51)))
  have HS := hide (show ((w.alloc (.cells zz 47)).alloc (.cells za 51)).heap.size = w.heap.size + 1 + 1 by simp)
  clear hb10
  generalize ((w.alloc (.cells zz 47)).alloc (.cells za 51)) = W0 at *
  go_wp2_with fail
  refine (cr _).mono ?_
  rintro e w2 ⟨rfl, hx2⟩
  have B9 := hide (B9.out.ext hx2)
  have B10 := hide (B10.out.ext hx2)
  have HX := hide (HX.out.trans hx2)
  have HS := hide (show w.heap.size + 1 + 1 ≤ w2.heap.size by have := hx2.size; have := HS.out; omega)
  clear hx2
  go_upto_region 4 with (refine wpList_put rfl _ _ rfl w2.heap.size S0 rfl rfl zz (Blk.new w2 zz 47) HZ.out ?_; intro W3 hb3 hc3 hs3; have hc4 := ((Ext.alloc w2 (.cells zz 47)).chg [w2.heap.size]).trans hc3; have B9 := hide (B9.out.chg hc4 (by have := HS.out; simp; omega)); have B10 := hide (B10.out.chg hc4 (by have := HS.out; simp; omega)); have HX := hide (HX.out.turn hc4 (by have := HS.out; simp; omega)); have HM3 := hide hb3; have HS3 := hide (show W3.heap.size = w2.heap.size + 1 by rw [hs3]; simp); clear hb3 hc3 hs3 hc4; go_frame)
  have BA := hide (Blk.new W3 za 51)
  have HM := hide (HM3.out.ext (Ext.alloc W3 (.cells za 51)))
  have B9 := hide (B9.out.ext (Ext.alloc W3 (.cells za 51)))
  have B10 := hide (B10.out.ext (Ext.alloc W3 (.cells za 51)))
  have HX := hide (HX.out.trans (Ext.alloc W3 (.cells za 51)))
  have HNE := hide (show w.heap.size + 1 < w2.heap.size ∧ w2.heap.size < W3.heap.size by have := HS.out; have := HS3.out; omega)
  generalize W3.alloc (.cells za 51) = W4 at *
  rw [HA5.out] at BA
  clear HM3
  generalize hbm : w2.heap.size = bm at *
  generalize hba : W3.heap.size = ba at *
  have HM := hide (HM.out.ext (Ext.drew _))
  have BA := hide (BA.out.ext (Ext.drew _))
  have B9 := hide (B9.out.ext (Ext.drew _))
  have B10 := hide (B10.out.ext (Ext.drew _))
  have HX := hide (HX.out.trans (Ext.drew _))
  refine wp_region_held_drew (S := fun w' => w'.rangeAt bm 0 (rc S0).toList ∧ w'.rangeAt ba 0 (atc D0 fun _ => .slice none 0 0).toList) (by kernel_rfl) (by exact ⟨rc_rng HM.out, atc_rng BA.out⟩) (fun hHeld => ?_)
  generalize W4.drew = W4 at *
  refine wpAnyH_take (i := 0) (at_drop rfl) (by kernel_rfl) (by kernel_rfl) (by kernel_rfl) (fun _ _ _ h => h) (yieldsIf_load_mid (by rfl) 47 _ rfl bm 0 rfl (rc S0).toList _ (fun w h => h.1) Try.underlying47 rfl (inf_rm S0)) (by assumption) ?_; rw [Array.toArray_toList]
  (try simp only [Act.put, List.setIfInBounds_toArray, List.set_cons_zero, List.set_cons_succ])
  refine wpAnyH_take (i := 1) (at_drop rfl) (by kernel_rfl) (by kernel_rfl) (by kernel_rfl) (fun _ _ _ h => h) (yieldsIf_load_mid (by rfl) 51 _ rfl ba 0 rfl (atc D0 fun _ => .slice none 0 0).toList _ (fun w h => h.2) Try.underlying51 rfl inf_al) (by assumption) ?_; rw [Array.toArray_toList]
  (try simp only [Act.put, List.setIfInBounds_toArray, List.set_cons_zero, List.set_cons_succ])
  (refine held_take (i := 2) (v := ?_) rfl (by kernel_rfl) (by kernel_rfl) (by kernel_rfl) (fun _ _ _ h => h) (by rfl) ?_ (by assumption) ?_; rotate_left; (intro w hSw; (try dsimp only at hSw); (first | (go_simp; done) | (go_simp; with_reducible rfl))); (try simp only [Act.put, List.setIfInBounds_toArray, List.set_cons_zero, List.set_cons_succ]))
  refine wpAnyH_ready (rs := [3]) (by kernel_rfl) (by simp) (held_cons rfl (fun K hK => ?_) AllReadyH.nil)
  rw [if_pos (by rfl)]
  refine wp_store_row 47 _ _ rfl w.heap.size (rc S0) rfl rfl 47 zz B9.out (by rw [rc_size]; exact inf_rz) (by rw [HZ.out, rc_size]) (all_rc _) ?_
  have c9 := Chg.row (cs := rc S0) B9.out
  have B9 := hide (show Blk (W4.setRow w.heap.size (rc S0)) w.heap.size (rc S0) 47 from setRow_heap W4 w.heap.size zz (rc S0) 47 _ B9.out)
  have HM := hide (HM.out.chg c9 (by have := HNE.out; simp; omega))
  have BA := hide (BA.out.chg c9 (by have := HNE.out; simp; omega))
  have B10 := hide (B10.out.chg c9 (by simp))
  have HX := hide (HX.out.turn c9 (by simp))
  clear c9
  generalize W4.setRow w.heap.size (rc S0) = W4 at *
  refine hK.out _ _ (by exact ⟨rc_rng HM.out, atc_rng BA.out⟩) (fun hHeld => ?_)
  (try simp only [Act.put, List.setIfInBounds_toArray, List.set_cons_zero, List.set_cons_succ])
  refine wpAnyH_ready (rs := [4]) (by kernel_rfl) (by simp) (held_cons rfl (fun K hK => ?_) AllReadyH.nil)
  rw [if_pos (by rfl)]
  refine wp_store_row 51 _ _ rfl (w.heap.size + 1) (atc (D0) (fun _ => .slice none 0 0)) rfl rfl 51 za B10.out (by rw [atc_size]; exact inf_a) (by rw [HA.out, atc_size]) (all_atc (fun _ => rfl)) ?_
  have c10 := Chg.row (cs := atc (D0) (fun _ => .slice none 0 0)) B10.out
  have B10 := hide (show Blk (W4.setRow (w.heap.size + 1) (atc (D0) (fun _ => .slice none 0 0))) (w.heap.size + 1) (atc (D0) (fun _ => .slice none 0 0)) 51 from setRow_heap W4 (w.heap.size + 1) za (atc (D0) (fun _ => .slice none 0 0)) 51 _ B10.out)
  have HM := hide (HM.out.chg c10 (by have := HNE.out; simp; omega))
  have BA := hide (BA.out.chg c10 (by have := HNE.out; simp; omega))
  have B9 := hide (B9.out.chg c10 (by simp))
  have HX := hide (HX.out.turn c10 (by simp))
  clear c10
  generalize W4.setRow (w.heap.size + 1) (atc (D0) (fun _ => .slice none 0 0)) = W4 at *
  refine hK.out _ _ (by exact ⟨rc_rng HM.out, atc_rng BA.out⟩) (fun hHeld => ?_)
  (try simp only [Act.put, List.setIfInBounds_toArray, List.set_cons_zero, List.set_cons_succ])
  refine wpAnyH_done (by kernel_rfl) ?_ _
  go_wp2_with fail
  refine bodyPost_ret (rres_of Try.results9 _ _ rfl rfl rfl B9.out B10.out) rfl ?_
  exact ⟨⟨_, _, _, fun _ => rfl, rfl⟩, HX.out⟩
end Go.Proofs.Ytacneghgimfklaa
