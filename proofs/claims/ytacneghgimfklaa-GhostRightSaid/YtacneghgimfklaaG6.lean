/- A Commit. -/
import Derived.Test.YtacneghgimfklaaG4
import Derived.Deep.WholeRow
namespace Go.Proofs.Ytacneghgimfklaa
open Go.RowKit Go.Maps
set_option linter.unusedSimpArgs false
set_option linter.unusedVariables false
set_option maxRecDepth 100000
set_option maxHeartbeats 4000000



theorem ccom_any {w : World} {C : Nat} {ty : TypeId} {tl : List Value} {MB W L : Nat} {S : St} {D : Nat → Dg} (h : CT w C ty tl MB W L S D) (x : Ent) {t : Nat} (hx : x.th = (t : Int)) (ht : t < S.N) (hwa : wfI x.ea) (hwo : 0 ≤ (D t).wo ∧ (D t).wo ≤ 4611686018427387904) (hwf : (D t).st = 2 → (D t).kd = 4) :
    Calls Try.prog 38 #[.pointer (some ⟨C, 0, none⟩), .agg (ec x)] w fun e w' => e = .returned (.bool (comB S (D t) x)) ∧ CT w' C ty tl MB W L (if comB S (D t) x = true then apS S x.ek x.et x.eo x.ea x.er else S) (if comB S (D t) x = true then upd D t (goD (D t) x.ek x.ea x.er) else D) ∧ Chg [C, MB, W, L] w w' := by
  have n1 := h.m.ok.n1
  have ht8 : t < 8 := by omega
  have j8 : (t : Int) < 8 := by omega
  have lC := h.lt.1
  have nBC : ¬ w.heap.size = C := by omega
  have nCB : ¬ C = w.heap.size := by omega
  obtain ⟨kd, th, nu, ok, oo, oa, ek, et, eo, ea, er, va, rr⟩ := x
  simp only at hx
  subst hx
  simp only [ec]
  have NQ := fun w' => neq_ent ⟨kd, (t : Int), nu, ok, oo, oa, ek, et, eo, ea, er, va, rr⟩ (nxM ⟨kd, (t : Int), nu, ok, oo, oa, ek, et, eo, ea, er, va, rr⟩) w'
  have CK := fun (w' : World) (h : DT w' C (3 + t * 9) (D t)) hC => takes_any h hC hwf ek et eo ea er
  have CA := fun (w' : World) (h : ModT w' MB W L S) => apply_any h ek et eo ea er hwa
  have NM := apS_NM S ek et eo ea er
  have SS : (apE S ek et eo ea er != 0) = true → apS S ek et eo ea er = S := by
    intro e
    unfold apE at e
    unfold apS
    split at e
    · simp at e
    · rename_i q; rw [if_neg q]
  have NM := hide NM
  have SS := hide SS
  have LTS := hide h.lt
  have E : comB S (D t) ⟨kd, (t : Int), nu, ok, oo, oa, ek, et, eo, ea, er, va, rr⟩ = ((eqE ⟨kd, (t : Int), nu, ok, oo, oa, ek, et, eo, ea, er, va, rr⟩ (nxM ⟨kd, (t : Int), nu, ok, oo, oa, ek, et, eo, ea, er, va, rr⟩) && tkB (D t) ek eo ea) && apE S ek et eo ea er == 0) := rfl
  have hwo := hide hwo
  clear hwf
  clear hwa
  generalize eqE ⟨kd, (t : Int), nu, ok, oo, oa, ek, et, eo, ea, er, va, rr⟩ (nxM ⟨kd, (t : Int), nu, ok, oo, oa, ek, et, eo, ea, er, va, rr⟩) = be at *
  generalize tkB (D t) ek eo ea = bt at *
  generalize comB S (D t) ⟨kd, (t : Int), nu, ok, oo, oa, ek, et, eo, ea, er, va, rr⟩ = res at *
  generalize apE S ek et eo ea er = ee at *
  generalize apS S ek et eo ea er = S' at *
  simp only [ec, nxM] at NQ
  go_enter Try.func38, Try.ntmps38
  go_upto_region 1 with fail
  have r1 := ((Blk.new w #[Value.int .i64 kd, .int .i64 (t : Int), .int .i64 nu, .int .i64 ok, .int .i64 oo, .int .i64 oa, .int .i64 ek, .int .i64 et, .int .i64 eo, .int .i64 ea, .int .i64 er, .int .i64 va, .int .i64 rr] 36).ext (Ext.drew _)).cell 1
  simp only [List.getElem?_toArray, List.getElem?_cons_zero, List.getElem?_cons_succ] at r1
  have HB := hide ((Blk.new w #[Value.int .i64 kd, .int .i64 (t : Int), .int .i64 nu, .int .i64 ok, .int .i64 oo, .int .i64 oa, .int .i64 ek, .int .i64 et, .int .i64 eo, .int .i64 ea, .int .i64 er, .int .i64 va, .int .i64 rr] 36).ext (Ext.drew _))
  have H := hide (h.ext ((Ext.alloc w (.cells #[Value.int .i64 kd, .int .i64 (t : Int), .int .i64 nu, .int .i64 ok, .int .i64 oo, .int .i64 oa, .int .i64 ek, .int .i64 et, .int .i64 eo, .int .i64 ea, .int .i64 er, .int .i64 va, .int .i64 rr] 36)).trans (Ext.drew _)))
  have HX := hide ((Ext.alloc w (.cells #[Value.int .i64 kd, .int .i64 (t : Int), .int .i64 nu, .int .i64 ok, .int .i64 oo, .int .i64 oa, .int .i64 ek, .int .i64 et, .int .i64 eo, .int .i64 ea, .int .i64 er, .int .i64 va, .int .i64 rr] 36)).trans (Ext.drew _))
  have HX0 := hide (show (w.alloc (.cells #[Value.int .i64 kd, .int .i64 (t : Int), .int .i64 nu, .int .i64 ok, .int .i64 oo, .int .i64 oa, .int .i64 ek, .int .i64 et, .int .i64 eo, .int .i64 ea, .int .i64 er, .int .i64 va, .int .i64 rr] 36)).drew.heap.size = w.heap.size + 1 from by simp)
  go_region
  clear r1
  generalize (w.alloc (.cells #[Value.int .i64 kd, .int .i64 (t : Int), .int .i64 nu, .int .i64 ok, .int .i64 oo, .int .i64 oa, .int .i64 ek, .int .i64 et, .int .i64 eo, .int .i64 ea, .int .i64 er, .int .i64 va, .int .i64 rr] 36)).drew = W1 at *
  have b6 := HB.out.cell
  go_upto_region 3 with fail
  clear b6
  have HX := hide (HX.out.trans (Ext.alloc W1 (.cells #[Value.int .i64 2, .int .i64 et, .int .i64 0, .int .i64 0, .int .i64 0, .int .i64 0, .int .i64 ek, .int .i64 et, .int .i64 eo, .int .i64 ea, .int .i64 er, .int .i64 0, .int .i64 0] 36)))
  have HN := hide (Blk.new W1 #[Value.int .i64 2, .int .i64 et, .int .i64 0, .int .i64 0, .int .i64 0, .int .i64 0, .int .i64 ek, .int .i64 et, .int .i64 eo, .int .i64 ea, .int .i64 er, .int .i64 0, .int .i64 0] 36)
  have HB := hide (HB.out.ext (Ext.alloc W1 (.cells #[Value.int .i64 2, .int .i64 et, .int .i64 0, .int .i64 0, .int .i64 0, .int .i64 0, .int .i64 ek, .int .i64 et, .int .i64 eo, .int .i64 ea, .int .i64 er, .int .i64 0, .int .i64 0] 36)))
  have H := hide (H.out.ext (Ext.alloc W1 (.cells #[Value.int .i64 2, .int .i64 et, .int .i64 0, .int .i64 0, .int .i64 0, .int .i64 0, .int .i64 ek, .int .i64 et, .int .i64 eo, .int .i64 ea, .int .i64 er, .int .i64 0, .int .i64 0] 36)))
  have hNC : W1.heap.size ≠ C := by have := H.out.lt.1; have := HX0.out; omega
  generalize W1.alloc (.cells #[Value.int .i64 2, .int .i64 et, .int .i64 0, .int .i64 0, .int .i64 0, .int .i64 0, .int .i64 ek, .int .i64 et, .int .i64 eo, .int .i64 ea, .int .i64 er, .int .i64 0, .int .i64 0] 36) = W2 at *
  generalize W1.heap.size = nb at *
  have LG : (Try.prog.info? 36).map (·.size) = some ([Value.int .i64 kd, .int .i64 (t : Int), .int .i64 nu, .int .i64 ok, .int .i64 oo, .int .i64 oa, .int .i64 ek, .int .i64 et, .int .i64 eo, .int .i64 ea, .int .i64 er, .int .i64 va, .int .i64 rr]).length := by kernel_rfl
  have LG2 : (Try.prog.info? 36).map (·.size) = some ([Value.int .i64 2, .int .i64 et, .int .i64 0, .int .i64 0, .int .i64 0, .int .i64 0, .int .i64 ek, .int .i64 et, .int .i64 eo, .int .i64 ea, .int .i64 er, .int .i64 0, .int .i64 0]).length := by kernel_rfl
  have LV : (Try.prog.info? 34).map (·.size) = some ([Value.int .i64 ek, .int .i64 et, .int .i64 eo, .int .i64 ea, .int .i64 er]).length := by kernel_rfl
  have RG : ∀ w', Blk w' w.heap.size #[Value.int .i64 kd, .int .i64 (t : Int), .int .i64 nu, .int .i64 ok, .int .i64 oo, .int .i64 oa, .int .i64 ek, .int .i64 et, .int .i64 eo, .int .i64 ea, .int .i64 er, .int .i64 va, .int .i64 rr] 36 → Blk w' nb #[Value.int .i64 2, .int .i64 et, .int .i64 0, .int .i64 0, .int .i64 0, .int .i64 0, .int .i64 ek, .int .i64 et, .int .i64 eo, .int .i64 ea, .int .i64 er, .int .i64 0, .int .i64 0] 36 → w'.cell? ⟨C, 2, none⟩ = some (.pointer (some ⟨MB, 0, none⟩)) → (w'.rangeAt w.heap.size 0 [Value.int .i64 kd, .int .i64 (t : Int), .int .i64 nu, .int .i64 ok, .int .i64 oo, .int .i64 oa, .int .i64 ek, .int .i64 et, .int .i64 eo, .int .i64 ea, .int .i64 er, .int .i64 va, .int .i64 rr] ∧ w'.rangeAt nb 0 [Value.int .i64 2, .int .i64 et, .int .i64 0, .int .i64 0, .int .i64 0, .int .i64 0, .int .i64 ek, .int .i64 et, .int .i64 eo, .int .i64 ea, .int .i64 er, .int .i64 0, .int .i64 0]) ∧ w'.rangeAt w.heap.size 6 [Value.int .i64 ek, .int .i64 et, .int .i64 eo, .int .i64 ea, .int .i64 er] ∧ w'.cell? ⟨C, 2, none⟩ = some (.pointer (some ⟨MB, 0, none⟩)) := by
    intro w' h1 h2 h3
    refine ⟨⟨fun j v hv => ?_, fun j v hv => ?_⟩, fun j v hv => ?_, h3⟩
    · rw [Nat.zero_add, h1.cell, ← hv]; simp
    · rw [Nat.zero_add, h2.cell, ← hv]; simp
    · rw [h1.cell, ← hv]
      have : 6 + j = j + 6 := by omega
      rw [this]
      match j with
      | 0 => rfl
      | 1 => rfl
      | 2 => rfl
      | 3 => rfl
      | 4 => rfl
      | j + 5 => simp at hv
  have NQ := NQ
  cases be
  · simp only [Bool.false_and] at E
    subst E
    refine wp_region_held_drew (S := fun w' => (w'.rangeAt w.heap.size 0 [Value.int .i64 kd, .int .i64 (t : Int), .int .i64 nu, .int .i64 ok, .int .i64 oo, .int .i64 oa, .int .i64 ek, .int .i64 et, .int .i64 eo, .int .i64 ea, .int .i64 er, .int .i64 va, .int .i64 rr] ∧ w'.rangeAt nb 0 [Value.int .i64 2, .int .i64 et, .int .i64 0, .int .i64 0, .int .i64 0, .int .i64 0, .int .i64 ek, .int .i64 et, .int .i64 eo, .int .i64 ea, .int .i64 er, .int .i64 0, .int .i64 0]) ∧ w'.rangeAt w.heap.size 6 [Value.int .i64 ek, .int .i64 et, .int .i64 eo, .int .i64 ea, .int .i64 er] ∧ w'.cell? ⟨C, 2, none⟩ = some (.pointer (some ⟨MB, 0, none⟩))) (by kernel_rfl) (by exact RG _ (HB.out.ext (Ext.drew _)) (HN.out.ext (Ext.drew _)) (H.out.ext (Ext.drew _)).p) (fun hHeld => ?_)
    have HB := hide (HB.out.ext (Ext.drew _))
    have HN := hide (HN.out.ext (Ext.drew _))
    have H := hide (H.out.ext (Ext.drew _))
    have HX := hide (HX.out.trans (Ext.drew _))
    generalize W2.drew = W2 at *
    refine wpAnyH_take (i := 0) (at_drop rfl) (by kernel_rfl) (by kernel_rfl) (by kernel_rfl) (fun _ _ _ h => h) (yieldsIf_load_mid (by rfl) 36 _ rfl w.heap.size 0 rfl [Value.int .i64 kd, .int .i64 (t : Int), .int .i64 nu, .int .i64 ok, .int .i64 oo, .int .i64 oa, .int .i64 ek, .int .i64 et, .int .i64 eo, .int .i64 ea, .int .i64 er, .int .i64 va, .int .i64 rr] _ (fun w h => h.1.1) Try.underlying36 rfl LG) (by assumption) ?_
    (try simp only [Act.put, List.setIfInBounds_toArray, List.set_cons_zero, List.set_cons_succ])
    refine wpAnyH_take (i := 1) (at_drop rfl) (by kernel_rfl) (by kernel_rfl) (by kernel_rfl) (fun _ _ _ h => h) (yieldsIf_load_mid (by rfl) 36 _ rfl nb 0 rfl [Value.int .i64 2, .int .i64 et, .int .i64 0, .int .i64 0, .int .i64 0, .int .i64 0, .int .i64 ek, .int .i64 et, .int .i64 eo, .int .i64 ea, .int .i64 er, .int .i64 0, .int .i64 0] _ (fun w h => h.1.2) Try.underlying36 rfl LG2) (by assumption) ?_
    (try simp only [Act.put, List.setIfInBounds_toArray, List.set_cons_zero, List.set_cons_succ])
    (refine held_take (i := 2) (v := ?_) rfl (by kernel_rfl) (by kernel_rfl) (by kernel_rfl) (fun _ _ _ h => h) (by rfl) ?_ (by assumption) ?_; rotate_left; (intro w hSw; (try dsimp only at hSw); (first | (go_simp; done) | (go_simp; with_reducible rfl))); (try simp only [Act.put, List.setIfInBounds_toArray, List.set_cons_zero, List.set_cons_succ]))
    (refine held_take (i := 3) (v := ?_) rfl (by kernel_rfl) (by kernel_rfl) (by kernel_rfl) (fun _ _ _ h => h) (by rfl) ?_ (by assumption) ?_; rotate_left; (intro w hSw; (try dsimp only at hSw); (first | (go_simp; done) | (go_simp; with_reducible rfl))); (try simp only [Act.put, List.setIfInBounds_toArray, List.set_cons_zero, List.set_cons_succ]))
    (refine held_skip (i := 4) rfl (by kernel_rfl) (by kernel_rfl) (by kernel_rfl) (fun _ _ _ h => h) (by rfl) (by assumption) ?_; (try simp only [Act.put, List.setIfInBounds_toArray, List.set_cons_zero, List.set_cons_succ]))
    (refine held_skip (i := 5) rfl (by kernel_rfl) (by kernel_rfl) (by kernel_rfl) (fun _ _ _ h => h) (by rfl) (by assumption) ?_; (try simp only [Act.put, List.setIfInBounds_toArray, List.set_cons_zero, List.set_cons_succ]))
    (refine held_skip (i := 6) rfl (by kernel_rfl) (by kernel_rfl) (by kernel_rfl) (fun _ _ _ h => h) (by rfl) (by assumption) ?_; (try simp only [Act.put, List.setIfInBounds_toArray, List.set_cons_zero, List.set_cons_succ]))
    (refine held_skip (i := 7) rfl (by kernel_rfl) (by kernel_rfl) (by kernel_rfl) (fun _ _ _ h => h) (by rfl) (by assumption) ?_; (try simp only [Act.put, List.setIfInBounds_toArray, List.set_cons_zero, List.set_cons_succ]))
    (refine held_skip (i := 8) rfl (by kernel_rfl) (by kernel_rfl) (by kernel_rfl) (fun _ _ _ h => h) (by rfl) (by assumption) ?_; (try simp only [Act.put, List.setIfInBounds_toArray, List.set_cons_zero, List.set_cons_succ]))
    (refine held_take (i := 9) (v := ?_) rfl (by kernel_rfl) (by kernel_rfl) (by kernel_rfl) (fun _ _ _ h => h) (by rfl) ?_ (by assumption) ?_; rotate_left; (intro w hSw; (try dsimp only at hSw); (first | (go_simp; done) | (go_simp; with_reducible rfl))); (try simp only [Act.put, List.setIfInBounds_toArray, List.set_cons_zero, List.set_cons_succ]))
    (refine held_take (i := 10) (v := ?_) rfl (by kernel_rfl) (by kernel_rfl) (by kernel_rfl) (fun _ _ _ h => h) (by rfl) ?_ (by assumption) ?_; rotate_left; (intro w hSw; (try dsimp only at hSw); (first | (go_simp; done) | (go_simp; with_reducible rfl))); (try simp only [Act.put, List.setIfInBounds_toArray, List.set_cons_zero, List.set_cons_succ]))
    ((refine held_skip (i := 11) rfl (by kernel_rfl) (by kernel_rfl) (by kernel_rfl) (fun _ _ _ h => h) (by rfl) (by assumption) ?_; (try simp only [Act.put, List.setIfInBounds_toArray, List.set_cons_zero, List.set_cons_succ])); (refine held_skip (i := 12) rfl (by kernel_rfl) (by kernel_rfl) (by kernel_rfl) (fun _ _ _ h => h) (by rfl) (by assumption) ?_; (try simp only [Act.put, List.setIfInBounds_toArray, List.set_cons_zero, List.set_cons_succ])); (refine held_skip (i := 13) rfl (by kernel_rfl) (by kernel_rfl) (by kernel_rfl) (fun _ _ _ h => h) (by rfl) (by assumption) ?_; (try simp only [Act.put, List.setIfInBounds_toArray, List.set_cons_zero, List.set_cons_succ])); (refine held_skip (i := 14) rfl (by kernel_rfl) (by kernel_rfl) (by kernel_rfl) (fun _ _ _ h => h) (by rfl) (by assumption) ?_; (try simp only [Act.put, List.setIfInBounds_toArray, List.set_cons_zero, List.set_cons_succ])); (refine held_skip (i := 15) rfl (by kernel_rfl) (by kernel_rfl) (by kernel_rfl) (fun _ _ _ h => h) (by rfl) (by assumption) ?_; (try simp only [Act.put, List.setIfInBounds_toArray, List.set_cons_zero, List.set_cons_succ])); (refine held_skip (i := 16) rfl (by kernel_rfl) (by kernel_rfl) (by kernel_rfl) (fun _ _ _ h => h) (by rfl) (by assumption) ?_; (try simp only [Act.put, List.setIfInBounds_toArray, List.set_cons_zero, List.set_cons_succ])); (refine held_skip (i := 17) rfl (by kernel_rfl) (by kernel_rfl) (by kernel_rfl) (fun _ _ _ h => h) (by rfl) (by assumption) ?_; (try simp only [Act.put, List.setIfInBounds_toArray, List.set_cons_zero, List.set_cons_succ])); (refine held_skip (i := 18) rfl (by kernel_rfl) (by kernel_rfl) (by kernel_rfl) (fun _ _ _ h => h) (by rfl) (by assumption) ?_; (try simp only [Act.put, List.setIfInBounds_toArray, List.set_cons_zero, List.set_cons_succ])); (refine held_take (i := 19) (v := ?_) rfl (by kernel_rfl) (by kernel_rfl) (by kernel_rfl) (fun _ _ _ h => h) (by rfl) ?_ (by assumption) ?_; rotate_left; (intro w hSw; (try dsimp only at hSw); (first | (go_simp; done) | (go_simp; with_reducible rfl))); (try simp only [Act.put, List.setIfInBounds_toArray, List.set_cons_zero, List.set_cons_succ])); refine wpAnyH_done (by kernel_rfl) ?_ _; go_wp2_with fail; go_ret)
    exact ⟨by simp, by first | exact H.out | simpa using H.out, HX.out.chg _⟩
  · cases bt
    · simp only [Bool.true_and, Bool.false_and] at E
      subst E
      refine wp_region_held_drew (S := fun w' => (w'.rangeAt w.heap.size 0 [Value.int .i64 kd, .int .i64 (t : Int), .int .i64 nu, .int .i64 ok, .int .i64 oo, .int .i64 oa, .int .i64 ek, .int .i64 et, .int .i64 eo, .int .i64 ea, .int .i64 er, .int .i64 va, .int .i64 rr] ∧ w'.rangeAt nb 0 [Value.int .i64 2, .int .i64 et, .int .i64 0, .int .i64 0, .int .i64 0, .int .i64 0, .int .i64 ek, .int .i64 et, .int .i64 eo, .int .i64 ea, .int .i64 er, .int .i64 0, .int .i64 0]) ∧ w'.rangeAt w.heap.size 6 [Value.int .i64 ek, .int .i64 et, .int .i64 eo, .int .i64 ea, .int .i64 er] ∧ w'.cell? ⟨C, 2, none⟩ = some (.pointer (some ⟨MB, 0, none⟩))) (by kernel_rfl) (by exact RG _ (HB.out.ext (Ext.drew _)) (HN.out.ext (Ext.drew _)) (H.out.ext (Ext.drew _)).p) (fun hHeld => ?_)
      have HB := hide (HB.out.ext (Ext.drew _))
      have HN := hide (HN.out.ext (Ext.drew _))
      have H := hide (H.out.ext (Ext.drew _))
      have HX := hide (HX.out.trans (Ext.drew _))
      generalize W2.drew = W2 at *
      refine wpAnyH_take (i := 0) (at_drop rfl) (by kernel_rfl) (by kernel_rfl) (by kernel_rfl) (fun _ _ _ h => h) (yieldsIf_load_mid (by rfl) 36 _ rfl w.heap.size 0 rfl [Value.int .i64 kd, .int .i64 (t : Int), .int .i64 nu, .int .i64 ok, .int .i64 oo, .int .i64 oa, .int .i64 ek, .int .i64 et, .int .i64 eo, .int .i64 ea, .int .i64 er, .int .i64 va, .int .i64 rr] _ (fun w h => h.1.1) Try.underlying36 rfl LG) (by assumption) ?_
      (try simp only [Act.put, List.setIfInBounds_toArray, List.set_cons_zero, List.set_cons_succ])
      refine wpAnyH_take (i := 1) (at_drop rfl) (by kernel_rfl) (by kernel_rfl) (by kernel_rfl) (fun _ _ _ h => h) (yieldsIf_load_mid (by rfl) 36 _ rfl nb 0 rfl [Value.int .i64 2, .int .i64 et, .int .i64 0, .int .i64 0, .int .i64 0, .int .i64 0, .int .i64 ek, .int .i64 et, .int .i64 eo, .int .i64 ea, .int .i64 er, .int .i64 0, .int .i64 0] _ (fun w h => h.1.2) Try.underlying36 rfl LG2) (by assumption) ?_
      (try simp only [Act.put, List.setIfInBounds_toArray, List.set_cons_zero, List.set_cons_succ])
      (refine held_take (i := 2) (v := ?_) rfl (by kernel_rfl) (by kernel_rfl) (by kernel_rfl) (fun _ _ _ h => h) (by rfl) ?_ (by assumption) ?_; rotate_left; (intro w hSw; (try dsimp only at hSw); (first | (go_simp; done) | (go_simp; with_reducible rfl))); (try simp only [Act.put, List.setIfInBounds_toArray, List.set_cons_zero, List.set_cons_succ]))
      (refine held_take (i := 3) (v := ?_) rfl (by kernel_rfl) (by kernel_rfl) (by kernel_rfl) (fun _ _ _ h => h) (by rfl) ?_ (by assumption) ?_; rotate_left; (intro w hSw; (try dsimp only at hSw); (first | (go_simp; done) | (go_simp; with_reducible rfl))); (try simp only [Act.put, List.setIfInBounds_toArray, List.set_cons_zero, List.set_cons_succ]))
      (refine held_take (i := 4) (v := ?_) rfl (by kernel_rfl) (by kernel_rfl) (by kernel_rfl) (fun _ _ _ h => h) (by rfl) ?_ (by assumption) ?_; rotate_left; (intro w hSw; (try dsimp only at hSw); (first | (go_simp; done) | (go_simp; with_reducible rfl))); (try simp only [Act.put, List.setIfInBounds_toArray, List.set_cons_zero, List.set_cons_succ]))
      (refine held_take (i := 5) (v := ?_) rfl (by kernel_rfl) (by kernel_rfl) (by kernel_rfl) (fun _ _ _ h => h) (by rfl) ?_ (by assumption) ?_; rotate_left; (intro w hSw; (try dsimp only at hSw); (first | (go_simp; done) | (go_simp; with_reducible rfl))); (try simp only [Act.put, List.setIfInBounds_toArray, List.set_cons_zero, List.set_cons_succ]))
      refine wpAnyH_take (i := 6) (at_drop rfl) (by kernel_rfl) (by kernel_rfl) (by kernel_rfl) (fun _ _ _ h => h) (yieldsIf_load_mid (by rfl) 34 _ rfl w.heap.size 6 rfl [Value.int .i64 ek, .int .i64 et, .int .i64 eo, .int .i64 ea, .int .i64 er] _ (fun w h => h.2.1) Try.underlying34 rfl LV) (by assumption) ?_
      (try simp only [Act.put, List.setIfInBounds_toArray, List.set_cons_zero, List.set_cons_succ])
      refine wpAnyH_ready (rs := [7]) (by kernel_rfl) (by simp) (held_cons rfl (fun K hK => ?_) AllReadyH.nil)
      rw [if_pos (by rfl)]
      go_simp
      go_at_call 61
      refine (CK _ (H.out.db ht8).dt H.out.lt.1).mono ?_
      rintro e w3 ⟨rfl, hx3⟩
      have HB := hide (HB.out.ext hx3)
      have HN := hide (HN.out.ext hx3)
      have H := hide (H.out.ext hx3)
      have HX := hide (HX.out.trans hx3)
      clear hx3
      go_simp
      refine hK.out _ _ (RG _ HB.out HN.out H.out.p) (fun hHeld => ?_)
      (try simp only [Act.put, List.setIfInBounds_toArray, List.set_cons_zero, List.set_cons_succ])
      (refine held_take (i := 8) (v := ?_) rfl (by kernel_rfl) (by kernel_rfl) (by kernel_rfl) (fun _ _ _ h => h) (by rfl) ?_ (by assumption) ?_; rotate_left; (intro w hSw; (try dsimp only at hSw); (first | (go_simp; done) | (go_simp; with_reducible rfl))); (try simp only [Act.put, List.setIfInBounds_toArray, List.set_cons_zero, List.set_cons_succ]))
      (refine held_take (i := 9) (v := ?_) rfl (by kernel_rfl) (by kernel_rfl) (by kernel_rfl) (fun _ _ _ h => h) (by rfl) ?_ (by assumption) ?_; rotate_left; (intro w hSw; (try dsimp only at hSw); (first | (go_simp; done) | (go_simp; with_reducible rfl))); (try simp only [Act.put, List.setIfInBounds_toArray, List.set_cons_zero, List.set_cons_succ]))
      (refine held_take (i := 10) (v := ?_) rfl (by kernel_rfl) (by kernel_rfl) (by kernel_rfl) (fun _ _ _ h => h) (by rfl) ?_ (by assumption) ?_; rotate_left; (intro w hSw; (try dsimp only at hSw); (first | (go_simp; done) | (go_simp; with_reducible rfl))); (try simp only [Act.put, List.setIfInBounds_toArray, List.set_cons_zero, List.set_cons_succ]))
      ((refine held_skip (i := 11) rfl (by kernel_rfl) (by kernel_rfl) (by kernel_rfl) (fun _ _ _ h => h) (by rfl) (by assumption) ?_; (try simp only [Act.put, List.setIfInBounds_toArray, List.set_cons_zero, List.set_cons_succ])); (refine held_skip (i := 12) rfl (by kernel_rfl) (by kernel_rfl) (by kernel_rfl) (fun _ _ _ h => h) (by rfl) (by assumption) ?_; (try simp only [Act.put, List.setIfInBounds_toArray, List.set_cons_zero, List.set_cons_succ])); (refine held_skip (i := 13) rfl (by kernel_rfl) (by kernel_rfl) (by kernel_rfl) (fun _ _ _ h => h) (by rfl) (by assumption) ?_; (try simp only [Act.put, List.setIfInBounds_toArray, List.set_cons_zero, List.set_cons_succ])); (refine held_skip (i := 14) rfl (by kernel_rfl) (by kernel_rfl) (by kernel_rfl) (fun _ _ _ h => h) (by rfl) (by assumption) ?_; (try simp only [Act.put, List.setIfInBounds_toArray, List.set_cons_zero, List.set_cons_succ])); (refine held_skip (i := 15) rfl (by kernel_rfl) (by kernel_rfl) (by kernel_rfl) (fun _ _ _ h => h) (by rfl) (by assumption) ?_; (try simp only [Act.put, List.setIfInBounds_toArray, List.set_cons_zero, List.set_cons_succ])); (refine held_skip (i := 16) rfl (by kernel_rfl) (by kernel_rfl) (by kernel_rfl) (fun _ _ _ h => h) (by rfl) (by assumption) ?_; (try simp only [Act.put, List.setIfInBounds_toArray, List.set_cons_zero, List.set_cons_succ])); (refine held_skip (i := 17) rfl (by kernel_rfl) (by kernel_rfl) (by kernel_rfl) (fun _ _ _ h => h) (by rfl) (by assumption) ?_; (try simp only [Act.put, List.setIfInBounds_toArray, List.set_cons_zero, List.set_cons_succ])); (refine held_skip (i := 18) rfl (by kernel_rfl) (by kernel_rfl) (by kernel_rfl) (fun _ _ _ h => h) (by rfl) (by assumption) ?_; (try simp only [Act.put, List.setIfInBounds_toArray, List.set_cons_zero, List.set_cons_succ])); (refine held_take (i := 19) (v := ?_) rfl (by kernel_rfl) (by kernel_rfl) (by kernel_rfl) (fun _ _ _ h => h) (by rfl) ?_ (by assumption) ?_; rotate_left; (intro w hSw; (try dsimp only at hSw); (first | (go_simp; done) | (go_simp; with_reducible rfl))); (try simp only [Act.put, List.setIfInBounds_toArray, List.set_cons_zero, List.set_cons_succ])); refine wpAnyH_done (by kernel_rfl) ?_ _; go_wp2_with fail; go_ret)
      exact ⟨by simp, by first | exact H.out | simpa using H.out, HX.out.chg _⟩
    · simp only [Bool.true_and] at E
      cases ya : (ee != 0)
      · have e0 : ee = 0 := by simpa using ya
        subst e0
        simp only [beq_self_eq_true] at E
        subst E
        refine wp_region_held_drew (S := fun w' => (w'.rangeAt w.heap.size 0 [Value.int .i64 kd, .int .i64 (t : Int), .int .i64 nu, .int .i64 ok, .int .i64 oo, .int .i64 oa, .int .i64 ek, .int .i64 et, .int .i64 eo, .int .i64 ea, .int .i64 er, .int .i64 va, .int .i64 rr] ∧ w'.rangeAt nb 0 [Value.int .i64 2, .int .i64 et, .int .i64 0, .int .i64 0, .int .i64 0, .int .i64 0, .int .i64 ek, .int .i64 et, .int .i64 eo, .int .i64 ea, .int .i64 er, .int .i64 0, .int .i64 0]) ∧ w'.rangeAt w.heap.size 6 [Value.int .i64 ek, .int .i64 et, .int .i64 eo, .int .i64 ea, .int .i64 er] ∧ w'.cell? ⟨C, 2, none⟩ = some (.pointer (some ⟨MB, 0, none⟩))) (by kernel_rfl) (by exact RG _ (HB.out.ext (Ext.drew _)) (HN.out.ext (Ext.drew _)) (H.out.ext (Ext.drew _)).p) (fun hHeld => ?_)
        have HB := hide (HB.out.ext (Ext.drew _))
        have HN := hide (HN.out.ext (Ext.drew _))
        have H := hide (H.out.ext (Ext.drew _))
        have HX := hide (HX.out.trans (Ext.drew _))
        generalize W2.drew = W2 at *
        refine wpAnyH_take (i := 0) (at_drop rfl) (by kernel_rfl) (by kernel_rfl) (by kernel_rfl) (fun _ _ _ h => h) (yieldsIf_load_mid (by rfl) 36 _ rfl w.heap.size 0 rfl [Value.int .i64 kd, .int .i64 (t : Int), .int .i64 nu, .int .i64 ok, .int .i64 oo, .int .i64 oa, .int .i64 ek, .int .i64 et, .int .i64 eo, .int .i64 ea, .int .i64 er, .int .i64 va, .int .i64 rr] _ (fun w h => h.1.1) Try.underlying36 rfl LG) (by assumption) ?_
        (try simp only [Act.put, List.setIfInBounds_toArray, List.set_cons_zero, List.set_cons_succ])
        refine wpAnyH_take (i := 1) (at_drop rfl) (by kernel_rfl) (by kernel_rfl) (by kernel_rfl) (fun _ _ _ h => h) (yieldsIf_load_mid (by rfl) 36 _ rfl nb 0 rfl [Value.int .i64 2, .int .i64 et, .int .i64 0, .int .i64 0, .int .i64 0, .int .i64 0, .int .i64 ek, .int .i64 et, .int .i64 eo, .int .i64 ea, .int .i64 er, .int .i64 0, .int .i64 0] _ (fun w h => h.1.2) Try.underlying36 rfl LG2) (by assumption) ?_
        (try simp only [Act.put, List.setIfInBounds_toArray, List.set_cons_zero, List.set_cons_succ])
        (refine held_take (i := 2) (v := ?_) rfl (by kernel_rfl) (by kernel_rfl) (by kernel_rfl) (fun _ _ _ h => h) (by rfl) ?_ (by assumption) ?_; rotate_left; (intro w hSw; (try dsimp only at hSw); (first | (go_simp; done) | (go_simp; with_reducible rfl))); (try simp only [Act.put, List.setIfInBounds_toArray, List.set_cons_zero, List.set_cons_succ]))
        (refine held_take (i := 3) (v := ?_) rfl (by kernel_rfl) (by kernel_rfl) (by kernel_rfl) (fun _ _ _ h => h) (by rfl) ?_ (by assumption) ?_; rotate_left; (intro w hSw; (try dsimp only at hSw); (first | (go_simp; done) | (go_simp; with_reducible rfl))); (try simp only [Act.put, List.setIfInBounds_toArray, List.set_cons_zero, List.set_cons_succ]))
        (refine held_take (i := 4) (v := ?_) rfl (by kernel_rfl) (by kernel_rfl) (by kernel_rfl) (fun _ _ _ h => h) (by rfl) ?_ (by assumption) ?_; rotate_left; (intro w hSw; (try dsimp only at hSw); (first | (go_simp; done) | (go_simp; with_reducible rfl))); (try simp only [Act.put, List.setIfInBounds_toArray, List.set_cons_zero, List.set_cons_succ]))
        (refine held_take (i := 5) (v := ?_) rfl (by kernel_rfl) (by kernel_rfl) (by kernel_rfl) (fun _ _ _ h => h) (by rfl) ?_ (by assumption) ?_; rotate_left; (intro w hSw; (try dsimp only at hSw); (first | (go_simp; done) | (go_simp; with_reducible rfl))); (try simp only [Act.put, List.setIfInBounds_toArray, List.set_cons_zero, List.set_cons_succ]))
        refine wpAnyH_take (i := 6) (at_drop rfl) (by kernel_rfl) (by kernel_rfl) (by kernel_rfl) (fun _ _ _ h => h) (yieldsIf_load_mid (by rfl) 34 _ rfl w.heap.size 6 rfl [Value.int .i64 ek, .int .i64 et, .int .i64 eo, .int .i64 ea, .int .i64 er] _ (fun w h => h.2.1) Try.underlying34 rfl LV) (by assumption) ?_
        (try simp only [Act.put, List.setIfInBounds_toArray, List.set_cons_zero, List.set_cons_succ])
        refine wpAnyH_ready (rs := [7]) (by kernel_rfl) (by simp) (held_cons rfl (fun K hK => ?_) AllReadyH.nil)
        rw [if_pos (by rfl)]
        go_simp
        go_at_call 61
        refine (CK _ (H.out.db ht8).dt H.out.lt.1).mono ?_
        rintro e w3 ⟨rfl, hx3⟩
        have HB := hide (HB.out.ext hx3)
        have HN := hide (HN.out.ext hx3)
        have H := hide (H.out.ext hx3)
        have HX := hide (HX.out.trans hx3)
        clear hx3
        go_simp
        refine hK.out _ _ (RG _ HB.out HN.out H.out.p) (fun hHeld => ?_)
        (try simp only [Act.put, List.setIfInBounds_toArray, List.set_cons_zero, List.set_cons_succ])
        (refine held_take (i := 8) (v := ?_) rfl (by kernel_rfl) (by kernel_rfl) (by kernel_rfl) (fun _ _ _ h => h) (by rfl) ?_ (by assumption) ?_; rotate_left; (intro w hSw; (try dsimp only at hSw); (first | (go_simp; done) | (go_simp; with_reducible rfl))); (try simp only [Act.put, List.setIfInBounds_toArray, List.set_cons_zero, List.set_cons_succ]))
        (refine held_take (i := 9) (v := ?_) rfl (by kernel_rfl) (by kernel_rfl) (by kernel_rfl) (fun _ _ _ h => h) (by rfl) ?_ (by assumption) ?_; rotate_left; (intro w hSw; (try dsimp only at hSw); (first | (go_simp; done) | (go_simp; with_reducible rfl))); (try simp only [Act.put, List.setIfInBounds_toArray, List.set_cons_zero, List.set_cons_succ]))
        (refine held_take (i := 10) (v := ?_) rfl (by kernel_rfl) (by kernel_rfl) (by kernel_rfl) (fun _ _ _ h => h) (by rfl) ?_ (by assumption) ?_; rotate_left; (intro w hSw; (try dsimp only at hSw); (first | (go_simp; done) | (go_simp; with_reducible rfl))); (try simp only [Act.put, List.setIfInBounds_toArray, List.set_cons_zero, List.set_cons_succ]))
        (refine held_take (i := 11) (v := ?_) rfl (by kernel_rfl) (by kernel_rfl) (by kernel_rfl) (fun _ _ _ h => h) (by rfl) ?_ (by assumption) ?_; rotate_left; (intro w hSw; (try dsimp only at hSw); (first | (go_simp; done) | (go_simp; with_reducible rfl))); (try simp only [Act.put, List.setIfInBounds_toArray, List.set_cons_zero, List.set_cons_succ]))
        (refine held_take (i := 12) (v := ?_) rfl (by kernel_rfl) (by kernel_rfl) (by kernel_rfl) (fun _ _ _ h => h) (by rfl) ?_ (by assumption) ?_; rotate_left; (intro w hSw; (try dsimp only at hSw); (first | (go_simp; done) | (go_simp; with_reducible rfl))); (try simp only [Act.put, List.setIfInBounds_toArray, List.set_cons_zero, List.set_cons_succ]))
        (refine held_take (i := 13) (v := ?_) rfl (by kernel_rfl) (by kernel_rfl) (by kernel_rfl) (fun _ _ _ h => h) (by rfl) ?_ (by assumption) ?_; rotate_left; (intro w hSw; (try dsimp only at hSw); (first | (go_simp; done) | (go_simp; with_reducible rfl))); (try simp only [Act.put, List.setIfInBounds_toArray, List.set_cons_zero, List.set_cons_succ]))
        (refine held_take (i := 14) (v := ?_) rfl (by kernel_rfl) (by kernel_rfl) (by kernel_rfl) (fun _ _ _ h => h) (by rfl) ?_ (by assumption) ?_; rotate_left; (intro w hSw; (try dsimp only at hSw); (first | (go_simp; done) | (go_simp; with_reducible rfl))); (try simp only [Act.put, List.setIfInBounds_toArray, List.set_cons_zero, List.set_cons_succ]))
        (refine held_take (i := 15) (v := ?_) rfl (by kernel_rfl) (by kernel_rfl) (by kernel_rfl) (fun _ _ _ h => h) (by rfl) ?_ (by assumption) ?_; rotate_left; (intro w hSw; (try dsimp only at hSw); (first | (go_simp; done) | (go_simp; with_reducible rfl))); (try simp only [Act.put, List.setIfInBounds_toArray, List.set_cons_zero, List.set_cons_succ]))
        refine wpAnyH_take (i := 16) (at_drop rfl) (by kernel_rfl) (by kernel_rfl) (by kernel_rfl) (fun _ _ _ h => h) (yieldsIf_load_mid (by rfl) 34 _ rfl w.heap.size 6 rfl [Value.int .i64 ek, .int .i64 et, .int .i64 eo, .int .i64 ea, .int .i64 er] _ (fun w h => h.2.1) Try.underlying34 rfl LV) (by assumption) ?_
        (try simp only [Act.put, List.setIfInBounds_toArray, List.set_cons_zero, List.set_cons_succ])
        refine wpAnyH_ready (rs := [17]) (by kernel_rfl) (by simp) (held_cons rfl (fun K hK => ?_) AllReadyH.nil)
        rw [if_pos (by rfl)]
        go_simp
        go_at_call 17
        refine (CA _ H.out.m).mono ?_
        rintro e w4 ⟨rfl, hm, hc⟩
        have H4 := hide (H.out.turnM NM.out.1 NM.out.2 hm hc)
        have HB4 := hide (HB.out.chg hc (by have := LTS.out; simp; omega))
        have HN4 := hide (HN.out.chg hc (by have := LTS.out; have := HX0.out; simp; omega))
        have HX4 := hide ((HX.out.chg [C, MB, W, L]).trans (hc.mono (by simp)))
        clear hm hc HX HN HB H
        go_simp
        refine hK.out _ _ (RG _ HB4.out HN4.out H4.out.p) (fun hHeld => ?_)
        (try simp only [Act.put, List.setIfInBounds_toArray, List.set_cons_zero, List.set_cons_succ])
        (refine held_take (i := 18) (v := ?_) rfl (by kernel_rfl) (by kernel_rfl) (by kernel_rfl) (fun _ _ _ h => h) (by rfl) ?_ (by assumption) ?_; rotate_left; (intro w hSw; (try dsimp only at hSw); (first | (go_simp; done) | (go_simp; with_reducible rfl))); (try simp only [Act.put, List.setIfInBounds_toArray, List.set_cons_zero, List.set_cons_succ]))
        (refine held_take (i := 19) (v := ?_) rfl (by kernel_rfl) (by kernel_rfl) (by kernel_rfl) (fun _ _ _ h => h) (by rfl) ?_ (by assumption) ?_; rotate_left; (intro w hSw; (try dsimp only at hSw); (first | (go_simp; done) | (go_simp; with_reducible rfl))); (try simp only [Act.put, List.setIfInBounds_toArray, List.set_cons_zero, List.set_cons_succ]))
        refine wpAnyH_done (by kernel_rfl) ?_ _
        have rb := HB4.out.cell
        have b0 := rb 6
        have b1 := rb 7
        have b2 := rb 8
        have b3 := rb 9
        have b4 := rb 10
        simp only [List.getElem?_toArray, List.getElem?_cons_zero, List.getElem?_cons_succ] at b0 b1 b2 b3 b4
        clear rb
        go_wp2_with fail
        refine (goon_any (H4.out.db ht8) hwo.out ek et eo ea er).mono ?_
        rintro e w5 ⟨rfl, hd5, hc5⟩
        have H5 := hide (H4.out.turn ht8 hd5 hc5)
        have HX5 := hide (HX4.out.trans (hc5.mono (by simp)))
        clear HX4 H4 hd5 hc5
        go_wp2_with fail
        go_ret
        exact ⟨by simp, by first | exact H5.out | simpa using H5.out, HX5.out⟩
      · have E2 : res = false := by rw [E]; simpa [bne] using ya
        subst E2
        clear E
        have SS := SS.out ya
        subst SS
        refine wp_region_held_drew (S := fun w' => (w'.rangeAt w.heap.size 0 [Value.int .i64 kd, .int .i64 (t : Int), .int .i64 nu, .int .i64 ok, .int .i64 oo, .int .i64 oa, .int .i64 ek, .int .i64 et, .int .i64 eo, .int .i64 ea, .int .i64 er, .int .i64 va, .int .i64 rr] ∧ w'.rangeAt nb 0 [Value.int .i64 2, .int .i64 et, .int .i64 0, .int .i64 0, .int .i64 0, .int .i64 0, .int .i64 ek, .int .i64 et, .int .i64 eo, .int .i64 ea, .int .i64 er, .int .i64 0, .int .i64 0]) ∧ w'.rangeAt w.heap.size 6 [Value.int .i64 ek, .int .i64 et, .int .i64 eo, .int .i64 ea, .int .i64 er] ∧ w'.cell? ⟨C, 2, none⟩ = some (.pointer (some ⟨MB, 0, none⟩))) (by kernel_rfl) (by exact RG _ (HB.out.ext (Ext.drew _)) (HN.out.ext (Ext.drew _)) (H.out.ext (Ext.drew _)).p) (fun hHeld => ?_)
        have HB := hide (HB.out.ext (Ext.drew _))
        have HN := hide (HN.out.ext (Ext.drew _))
        have H := hide (H.out.ext (Ext.drew _))
        have HX := hide (HX.out.trans (Ext.drew _))
        generalize W2.drew = W2 at *
        refine wpAnyH_take (i := 0) (at_drop rfl) (by kernel_rfl) (by kernel_rfl) (by kernel_rfl) (fun _ _ _ h => h) (yieldsIf_load_mid (by rfl) 36 _ rfl w.heap.size 0 rfl [Value.int .i64 kd, .int .i64 (t : Int), .int .i64 nu, .int .i64 ok, .int .i64 oo, .int .i64 oa, .int .i64 ek, .int .i64 et, .int .i64 eo, .int .i64 ea, .int .i64 er, .int .i64 va, .int .i64 rr] _ (fun w h => h.1.1) Try.underlying36 rfl LG) (by assumption) ?_
        (try simp only [Act.put, List.setIfInBounds_toArray, List.set_cons_zero, List.set_cons_succ])
        refine wpAnyH_take (i := 1) (at_drop rfl) (by kernel_rfl) (by kernel_rfl) (by kernel_rfl) (fun _ _ _ h => h) (yieldsIf_load_mid (by rfl) 36 _ rfl nb 0 rfl [Value.int .i64 2, .int .i64 et, .int .i64 0, .int .i64 0, .int .i64 0, .int .i64 0, .int .i64 ek, .int .i64 et, .int .i64 eo, .int .i64 ea, .int .i64 er, .int .i64 0, .int .i64 0] _ (fun w h => h.1.2) Try.underlying36 rfl LG2) (by assumption) ?_
        (try simp only [Act.put, List.setIfInBounds_toArray, List.set_cons_zero, List.set_cons_succ])
        (refine held_take (i := 2) (v := ?_) rfl (by kernel_rfl) (by kernel_rfl) (by kernel_rfl) (fun _ _ _ h => h) (by rfl) ?_ (by assumption) ?_; rotate_left; (intro w hSw; (try dsimp only at hSw); (first | (go_simp; done) | (go_simp; with_reducible rfl))); (try simp only [Act.put, List.setIfInBounds_toArray, List.set_cons_zero, List.set_cons_succ]))
        (refine held_take (i := 3) (v := ?_) rfl (by kernel_rfl) (by kernel_rfl) (by kernel_rfl) (fun _ _ _ h => h) (by rfl) ?_ (by assumption) ?_; rotate_left; (intro w hSw; (try dsimp only at hSw); (first | (go_simp; done) | (go_simp; with_reducible rfl))); (try simp only [Act.put, List.setIfInBounds_toArray, List.set_cons_zero, List.set_cons_succ]))
        (refine held_take (i := 4) (v := ?_) rfl (by kernel_rfl) (by kernel_rfl) (by kernel_rfl) (fun _ _ _ h => h) (by rfl) ?_ (by assumption) ?_; rotate_left; (intro w hSw; (try dsimp only at hSw); (first | (go_simp; done) | (go_simp; with_reducible rfl))); (try simp only [Act.put, List.setIfInBounds_toArray, List.set_cons_zero, List.set_cons_succ]))
        (refine held_take (i := 5) (v := ?_) rfl (by kernel_rfl) (by kernel_rfl) (by kernel_rfl) (fun _ _ _ h => h) (by rfl) ?_ (by assumption) ?_; rotate_left; (intro w hSw; (try dsimp only at hSw); (first | (go_simp; done) | (go_simp; with_reducible rfl))); (try simp only [Act.put, List.setIfInBounds_toArray, List.set_cons_zero, List.set_cons_succ]))
        refine wpAnyH_take (i := 6) (at_drop rfl) (by kernel_rfl) (by kernel_rfl) (by kernel_rfl) (fun _ _ _ h => h) (yieldsIf_load_mid (by rfl) 34 _ rfl w.heap.size 6 rfl [Value.int .i64 ek, .int .i64 et, .int .i64 eo, .int .i64 ea, .int .i64 er] _ (fun w h => h.2.1) Try.underlying34 rfl LV) (by assumption) ?_
        (try simp only [Act.put, List.setIfInBounds_toArray, List.set_cons_zero, List.set_cons_succ])
        refine wpAnyH_ready (rs := [7]) (by kernel_rfl) (by simp) (held_cons rfl (fun K hK => ?_) AllReadyH.nil)
        rw [if_pos (by rfl)]
        go_simp
        go_at_call 61
        refine (CK _ (H.out.db ht8).dt H.out.lt.1).mono ?_
        rintro e w3 ⟨rfl, hx3⟩
        have HB := hide (HB.out.ext hx3)
        have HN := hide (HN.out.ext hx3)
        have H := hide (H.out.ext hx3)
        have HX := hide (HX.out.trans hx3)
        clear hx3
        go_simp
        refine hK.out _ _ (RG _ HB.out HN.out H.out.p) (fun hHeld => ?_)
        (try simp only [Act.put, List.setIfInBounds_toArray, List.set_cons_zero, List.set_cons_succ])
        (refine held_take (i := 8) (v := ?_) rfl (by kernel_rfl) (by kernel_rfl) (by kernel_rfl) (fun _ _ _ h => h) (by rfl) ?_ (by assumption) ?_; rotate_left; (intro w hSw; (try dsimp only at hSw); (first | (go_simp; done) | (go_simp; with_reducible rfl))); (try simp only [Act.put, List.setIfInBounds_toArray, List.set_cons_zero, List.set_cons_succ]))
        (refine held_take (i := 9) (v := ?_) rfl (by kernel_rfl) (by kernel_rfl) (by kernel_rfl) (fun _ _ _ h => h) (by rfl) ?_ (by assumption) ?_; rotate_left; (intro w hSw; (try dsimp only at hSw); (first | (go_simp; done) | (go_simp; with_reducible rfl))); (try simp only [Act.put, List.setIfInBounds_toArray, List.set_cons_zero, List.set_cons_succ]))
        (refine held_take (i := 10) (v := ?_) rfl (by kernel_rfl) (by kernel_rfl) (by kernel_rfl) (fun _ _ _ h => h) (by rfl) ?_ (by assumption) ?_; rotate_left; (intro w hSw; (try dsimp only at hSw); (first | (go_simp; done) | (go_simp; with_reducible rfl))); (try simp only [Act.put, List.setIfInBounds_toArray, List.set_cons_zero, List.set_cons_succ]))
        (refine held_take (i := 11) (v := ?_) rfl (by kernel_rfl) (by kernel_rfl) (by kernel_rfl) (fun _ _ _ h => h) (by rfl) ?_ (by assumption) ?_; rotate_left; (intro w hSw; (try dsimp only at hSw); (first | (go_simp; done) | (go_simp; with_reducible rfl))); (try simp only [Act.put, List.setIfInBounds_toArray, List.set_cons_zero, List.set_cons_succ]))
        (refine held_take (i := 12) (v := ?_) rfl (by kernel_rfl) (by kernel_rfl) (by kernel_rfl) (fun _ _ _ h => h) (by rfl) ?_ (by assumption) ?_; rotate_left; (intro w hSw; (try dsimp only at hSw); (first | (go_simp; done) | (go_simp; with_reducible rfl))); (try simp only [Act.put, List.setIfInBounds_toArray, List.set_cons_zero, List.set_cons_succ]))
        (refine held_take (i := 13) (v := ?_) rfl (by kernel_rfl) (by kernel_rfl) (by kernel_rfl) (fun _ _ _ h => h) (by rfl) ?_ (by assumption) ?_; rotate_left; (intro w hSw; (try dsimp only at hSw); (first | (go_simp; done) | (go_simp; with_reducible rfl))); (try simp only [Act.put, List.setIfInBounds_toArray, List.set_cons_zero, List.set_cons_succ]))
        (refine held_take (i := 14) (v := ?_) rfl (by kernel_rfl) (by kernel_rfl) (by kernel_rfl) (fun _ _ _ h => h) (by rfl) ?_ (by assumption) ?_; rotate_left; (intro w hSw; (try dsimp only at hSw); (first | (go_simp; done) | (go_simp; with_reducible rfl))); (try simp only [Act.put, List.setIfInBounds_toArray, List.set_cons_zero, List.set_cons_succ]))
        (refine held_take (i := 15) (v := ?_) rfl (by kernel_rfl) (by kernel_rfl) (by kernel_rfl) (fun _ _ _ h => h) (by rfl) ?_ (by assumption) ?_; rotate_left; (intro w hSw; (try dsimp only at hSw); (first | (go_simp; done) | (go_simp; with_reducible rfl))); (try simp only [Act.put, List.setIfInBounds_toArray, List.set_cons_zero, List.set_cons_succ]))
        refine wpAnyH_take (i := 16) (at_drop rfl) (by kernel_rfl) (by kernel_rfl) (by kernel_rfl) (fun _ _ _ h => h) (yieldsIf_load_mid (by rfl) 34 _ rfl w.heap.size 6 rfl [Value.int .i64 ek, .int .i64 et, .int .i64 eo, .int .i64 ea, .int .i64 er] _ (fun w h => h.2.1) Try.underlying34 rfl LV) (by assumption) ?_
        (try simp only [Act.put, List.setIfInBounds_toArray, List.set_cons_zero, List.set_cons_succ])
        refine wpAnyH_ready (rs := [17]) (by kernel_rfl) (by simp) (held_cons rfl (fun K hK => ?_) AllReadyH.nil)
        rw [if_pos (by rfl)]
        go_simp
        go_at_call 17
        refine (CA _ H.out.m).mono ?_
        rintro e w4 ⟨rfl, hm, hc⟩
        have H4 := hide (H.out.turnM NM.out.1 NM.out.2 hm hc)
        have HB4 := hide (HB.out.chg hc (by have := LTS.out; simp; omega))
        have HN4 := hide (HN.out.chg hc (by have := LTS.out; have := HX0.out; simp; omega))
        have HX4 := hide ((HX.out.chg [C, MB, W, L]).trans (hc.mono (by simp)))
        clear hm hc HX HN HB H
        go_simp
        refine hK.out _ _ (RG _ HB4.out HN4.out H4.out.p) (fun hHeld => ?_)
        (try simp only [Act.put, List.setIfInBounds_toArray, List.set_cons_zero, List.set_cons_succ])
        (refine held_take (i := 18) (v := ?_) rfl (by kernel_rfl) (by kernel_rfl) (by kernel_rfl) (fun _ _ _ h => h) (by rfl) ?_ (by assumption) ?_; rotate_left; (intro w hSw; (try dsimp only at hSw); (first | (go_simp; done) | (go_simp; with_reducible rfl))); (try simp only [Act.put, List.setIfInBounds_toArray, List.set_cons_zero, List.set_cons_succ]))
        (refine held_take (i := 19) (v := ?_) rfl (by kernel_rfl) (by kernel_rfl) (by kernel_rfl) (fun _ _ _ h => h) (by rfl) ?_ (by assumption) ?_; rotate_left; (intro w hSw; (try dsimp only at hSw); (first | (go_simp; done) | (go_simp; with_reducible rfl))); (try simp only [Act.put, List.setIfInBounds_toArray, List.set_cons_zero, List.set_cons_succ]))
        refine wpAnyH_done (by kernel_rfl) ?_ _
        go_wp2_with fail
        go_ret
        exact ⟨by simp, by first | exact H4.out | simpa using H4.out, HX4.out⟩
end Go.Proofs.Ytacneghgimfklaa
