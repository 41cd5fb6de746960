/- Clone; Same. -/
import Derived.Test.YtpielknodjppgaaE1
import Derived.Test.YtpielknodjppgaaHeld
import Derived.BigQuiet
namespace Go.Proofs.Ytpielknodjppgaa
open Go.RowKit Go.Maps
set_option linter.unusedSimpArgs false
set_option linter.unusedVariables false
set_option maxRecDepth 100000
set_option maxHeartbeats 8000000


theorem built_cl (S : St) (W L : Nat) : Try.prog.built 82 [(0, .agg (st S)), (1, .map (some W)), (2, .map (some L))] = some (pl S W L) := by kernel_rfl
theorem inf_st2 (S : St) : (Try.prog.info? 78).map (·.size) = some (st S).toList.length := by rw [Array.length_toList, st_size]; kernel_rfl
theorem clone_nob {w : World} {p : Value} {S : St} (h : Any w p false S) : Calls Try.prog 52 #[p] w fun e w' => e = .returned (.pointer none) ∧ w = w' := by
  go_enter Try.func52, Try.ntmps52
  go_wp2_with fail
  refine (given_any h).mono ?_
  rintro e w1 ⟨rfl, rfl⟩
  go_wp2_with fail
  go_ret
  exact ⟨rfl, rfl⟩
theorem clone_any {w : World} {B W L : Nat} {S : St} (h : ModT w B W L S) : Calls Try.prog 52 #[.pointer (some ⟨B, 0, none⟩)] w fun e w' => ∃ B' W' L', e = .returned (.pointer (some ⟨B', 0, none⟩)) ∧ ModT w' B' W' L' S ∧ w.heap.size ≤ B' ∧ w.heap.size ≤ W' ∧ w.heap.size ≤ L' ∧ Ext w w' := by
  have H := hide h
  go_enter Try.func52, Try.ntmps52
  go_wp2_with fail
  refine (given_any h.any).mono ?_
  rintro e w1 ⟨rfl, rfl⟩
  clear h
  go_upto_region 3 with fail
  have hk := Ext.drew w
  refine wp_region_held_drew (S := fun w' => w'.rangeAt B 0 (st S).toList ∧ w'.cell? ⟨B, 35, none⟩ = some (.map (some W)) ∧ w'.cell? ⟨B, 36, none⟩ = some (.map (some L))) (by kernel_rfl) (by exact ⟨st_rng (H.out.ext hk).b, (H.out.ext hk).c (i := 35) (by omega), (H.out.ext hk).c (i := 36) (by omega)⟩) (fun hHeld => ?_)
  (refine held_take (i := 0) (v := ?_) rfl (by kernel_rfl) (by kernel_rfl) (by kernel_rfl) (fun _ _ _ h => h) (by rfl) ?_ (by assumption) ?_; rotate_left; (intro w hSw; (try dsimp only at hSw); (first | (go_simp; done) | (go_simp; with_reducible rfl))); (try simp only [Act.put, List.setIfInBounds_toArray, List.set_cons_zero, List.set_cons_succ]))
  (refine held_take (i := 1) (v := ?_) rfl (by kernel_rfl) (by kernel_rfl) (by kernel_rfl) (fun _ _ _ h => h) (by rfl) ?_ (by assumption) ?_; rotate_left; (intro w hSw; (try dsimp only at hSw); (first | (go_simp; done) | (go_simp; with_reducible rfl))); (try simp only [Act.put, List.setIfInBounds_toArray, List.set_cons_zero, List.set_cons_succ]))
  (refine held_take (i := 2) (v := ?_) rfl (by kernel_rfl) (by kernel_rfl) (by kernel_rfl) (fun _ _ _ h => h) (by rfl) ?_ (by assumption) ?_; rotate_left; (intro w hSw; (try dsimp only at hSw); (first | (go_simp; done) | (go_simp; with_reducible rfl))); (try simp only [Act.put, List.setIfInBounds_toArray, List.set_cons_zero, List.set_cons_succ]))
  refine wpAnyH_take (i := 3) (at_drop rfl) (by kernel_rfl) (by kernel_rfl) (by kernel_rfl) (fun _ _ _ h => h) (yieldsIf_load_mid (by rfl) 78 _ rfl B 0 rfl (st S).toList _ (fun w h => h.1) Try.underlying78 rfl (inf_st2 S)) (by assumption) ?_
  rw [Array.toArray_toList]
  (try simp only [Act.put, List.setIfInBounds_toArray, List.set_cons_zero, List.set_cons_succ])
  (refine held_take (i := 4) (v := ?_) rfl (by kernel_rfl) (by kernel_rfl) (by kernel_rfl) (fun _ _ _ h => h) (by rfl) ?_ (by assumption) ?_; rotate_left; (intro w hSw; (try dsimp only at hSw); (first | (go_simp; done) | (go_simp; with_reducible rfl))); (try simp only [Act.put, List.setIfInBounds_toArray, List.set_cons_zero, List.set_cons_succ]))
  (refine held_take (i := 5) (v := ?_) rfl (by kernel_rfl) (by kernel_rfl) (by kernel_rfl) (fun _ _ _ h => h) (by rfl) ?_ (by assumption) ?_; rotate_left; (intro w hSw; (try dsimp only at hSw); (first | (go_simp; done) | (go_simp; with_reducible rfl))); (try simp only [Act.put, List.setIfInBounds_toArray, List.set_cons_zero, List.set_cons_succ]))
  (refine held_take (i := 6) (v := ?_) rfl (by kernel_rfl) (by kernel_rfl) (by kernel_rfl) (fun _ _ _ h => h) (by rfl) ?_ (by assumption) ?_; rotate_left; (intro w hSw; (try dsimp only at hSw); (first | (go_simp; done) | (go_simp; with_reducible rfl))); (try simp only [Act.put, List.setIfInBounds_toArray, List.set_cons_zero, List.set_cons_succ]))
  (refine held_take (i := 7) (v := ?_) rfl (by kernel_rfl) (by kernel_rfl) (by kernel_rfl) (fun _ _ _ h => h) (by rfl) ?_ (by assumption) ?_; rotate_left; (intro w hSw; (try dsimp only at hSw); (first | (go_simp; done) | (go_simp; with_reducible rfl))); (try simp only [Act.put, List.setIfInBounds_toArray, List.set_cons_zero, List.set_cons_succ]))
  (refine held_take (i := 9) (v := ?_) rfl (by kernel_rfl) (by kernel_rfl) (by kernel_rfl) (fun _ _ _ h => h) (by rfl) ?_ (by assumption) ?_; rotate_left; (intro w hSw; (try dsimp only at hSw); (first | (go_simp; done) | (go_simp; with_reducible rfl))); (try simp only [Act.put, List.setIfInBounds_toArray, List.set_cons_zero, List.set_cons_succ]))
  (refine held_take (i := 10) (v := ?_) rfl (by kernel_rfl) (by kernel_rfl) (by kernel_rfl) (fun _ _ _ h => h) (by rfl) ?_ (by assumption) ?_; rotate_left; (intro w hSw; (try dsimp only at hSw); (first | (go_simp; done) | (go_simp; with_reducible rfl))); (try simp only [Act.put, List.setIfInBounds_toArray, List.set_cons_zero, List.set_cons_succ]))
  (refine held_take (i := 11) (v := ?_) rfl (by kernel_rfl) (by kernel_rfl) (by kernel_rfl) (fun _ _ _ h => h) (by rfl) ?_ (by assumption) ?_; rotate_left; (intro w hSw; (try dsimp only at hSw); (first | (go_simp; done) | (go_simp; with_reducible rfl))); (try simp only [Act.put, List.setIfInBounds_toArray, List.set_cons_zero, List.set_cons_succ]))
  (refine held_take (i := 12) (v := ?_) rfl (by kernel_rfl) (by kernel_rfl) (by kernel_rfl) (fun _ _ _ h => h) (by rfl) ?_ (by assumption) ?_; rotate_left; (intro w hSw; (try dsimp only at hSw); (first | (go_simp; done) | (go_simp; with_reducible rfl))); (try simp only [Act.put, List.setIfInBounds_toArray, List.set_cons_zero, List.set_cons_succ]))
  refine wpAnyH_ready (rs := [8]) (by kernel_rfl) (by simp) (held_cons rfl (fun K hK => ?_) AllReadyH.nil)
  go_simp
  refine (cloI_any (H.out.ext hk).wm).mono ?_
  rintro e wi ⟨rfl, hwi, hxi⟩
  rw [show w.drew.heap.size = w.heap.size by simp] at hwi
  have hwi0 := hwi
  have hk := hk.trans hxi
  (refine hK.out _ _ ?_ (fun hHeld => ?_))
  · exact ⟨st_rng (H.out.ext hk).b, (H.out.ext hk).c (i := 35) (by omega), (H.out.ext hk).c (i := 36) (by omega)⟩
  (try simp only [Act.put, List.setIfInBounds_toArray, List.set_cons_zero, List.set_cons_succ])
  refine wpAnyH_ready (rs := [13]) (by kernel_rfl) (by simp) (held_cons rfl (fun K hK => ?_) AllReadyH.nil)
  go_simp
  refine (cloL_any (H.out.ext hk).lm).mono ?_
  rintro e wl ⟨rfl, hwl, hxl⟩
  obtain ⟨Li, hLi⟩ : ∃ Li, Li = (wi).heap.size := ⟨_, rfl⟩
  rw [← hLi] at hwl ⊢
  have hLi2 : w.heap.size ≤ Li := by rw [hLi]; exact hk.size
  have hLi3 : w.heap.size < Li := by rw [hLi]; exact Nat.lt_of_lt_of_le hwi0.lt (Nat.le_refl _)
  clear hLi
  have hwl0 := hwl
  have hk := hk.trans hxl
  have hwi : MI wl w.heap.size S.wt := hwi.ext hxl
  have hne : w.heap.size ≠ Li := by omega
  (refine hK.out _ _ ?_ (fun hHeld => ?_))
  · exact ⟨st_rng (H.out.ext hk).b, (H.out.ext hk).c (i := 35) (by omega), (H.out.ext hk).c (i := 36) (by omega)⟩
  (try simp only [Act.put, List.setIfInBounds_toArray, List.set_cons_zero, List.set_cons_succ])
  have hbld : ∀ w', (Instr.build 82 #[(0, .agg (st S)), (1, .map (some w.heap.size)), (2, .map (some Li))]).run Try.prog w' = .ok (.agg (pl S w.heap.size Li)) w' := fun w' => run_build w' 82 _ _ (built_cl S w.heap.size Li)
  refine held_take (i := 14) (v := .agg (pl S w.heap.size Li)) rfl (by kernel_rfl) (by kernel_rfl) (by kernel_rfl) (fun _ _ _ h => h) (by rfl) ?_ (by assumption) ?_
  · intro w' hSw
    unfold execOp
    simp [Act.eval, hbld]
  (try simp only [Act.put, List.setIfInBounds_toArray, List.set_cons_zero, List.set_cons_succ])
  refine wpAnyH_ready (rs := [15]) (by kernel_rfl) (by simp) (held_cons rfl (fun K hK => ?_) AllReadyH.nil)
  go_simp
  have hb := Blk.new wl (pl S w.heap.size Li) 82
  have hy := Ext.alloc wl (.cells (pl S w.heap.size Li) 82)
  have sz := hk.size
  have HM := hide (show ModT (wl.alloc (.cells (pl S w.heap.size Li) 82)) wl.heap.size w.heap.size Li S from ⟨hb, hwi.ext hy, hwl.ext hy, H.out.ok, hne⟩)
  have hk := hk.trans hy
  (refine hK.out _ _ ?_ (fun hHeld => ?_))
  · exact ⟨st_rng (H.out.ext hk).b, (H.out.ext hk).c (i := 35) (by omega), (H.out.ext hk).c (i := 36) (by omega)⟩
  (try simp only [Act.put, List.setIfInBounds_toArray, List.set_cons_zero, List.set_cons_succ])
  (refine held_take (i := 16) (v := ?_) rfl (by kernel_rfl) (by kernel_rfl) (by kernel_rfl) (fun _ _ _ h => h) (by rfl) ?_ (by assumption) ?_; rotate_left; (intro w hSw; (try dsimp only at hSw); (first | (go_simp; done) | (go_simp; with_reducible rfl))); (try simp only [Act.put, List.setIfInBounds_toArray, List.set_cons_zero, List.set_cons_succ]))
  refine wpAnyH_done (by kernel_rfl) ?_ _
  go_wp2_with fail
  go_ret
  exact ⟨_, _, _, rfl, HM.out, sz, Nat.le_refl _, hLi2, hk⟩
end Go.Proofs.Ytpielknodjppgaa
