/- What may be done: the parts that read the maps. -/
import Derived.Test.YtpielknodjppgaaP2
import Derived.Test.YtpielknodjppgaaP3
namespace Go.Proofs.Ytpielknodjppgaa
open Go.RowKit Go.Maps
set_option linter.unusedSimpArgs false
set_option linter.unusedVariables false
set_option maxRecDepth 100000
set_option maxHeartbeats 4000000


theorem nat_wf {n : Nat} (h : n < 8) : wfI (n : Int) := wfI_of (by omega) (by omega)
theorem mcb_any {w : World} {B W L : Nat} {S : St} (h : ModT w B W L S) (k : Int) {t o : Nat} (a r : Int) (ht : t < S.N) (ho : o < S.M) :
    Calls Try.prog 44 #[.pointer (some ⟨B, 0, none⟩), (Value.agg #[.int .i64 k, .int .i64 (t : Int), .int .i64 (o : Int), .int .i64 a, .int .i64 r])] w fun e w' => e = .returned (.bool (mcbB S k t o r)) ∧ Ext w w' := by
  have n1 := h.ok.n1
  have m1 := h.ok.m1
  have ho8 : o < 8 := by omega
  have ht8 : t < 8 := by omega
  have i8 : (o : Int) < 8 := by omega
  have j8 : (t : Int) < 8 := by omega
  have L1 : Hid (∀ w', Ext w w' → (Instr.lookup 79 (.map (some W)) ((Value.agg #[.int .i64 (o : Int), .int .i64 (t : Int)])) true).run Try.prog w' = .ok (.tuple #[.int .i64 ((S.wt o t).getD 0), .bool (S.wt o t).isSome]) w') := hide fun w' x => (h.ext x).wm.look (nat_wf ho8) (nat_wf ht8)
  have L2 : Hid (∀ w', Ext w w' → (Instr.lookup 80 (.map (some L)) ((Value.agg #[.int .i64 (o : Int), .int .i64 (t : Int)])) true).run Try.prog w' = .ok (.tuple #[(Value.agg #[.int .i64 ((S.lf o t).getD (0, 0)).1, .int .i64 ((S.lf o t).getD (0, 0)).2]), .bool (S.lf o t).isSome]) w') := hide fun w' x => (h.ext x).lm.look (nat_wf ho8) (nat_wf ht8)
  have r1 := h.own ho8
  have r35 : w.cell? ⟨B, 35, none⟩ = some (.map (some W)) := h.c (by omega)
  have r36 : w.cell? ⟨B, 36, none⟩ = some (.map (some L)) := h.c (by omega)
  have rf := h.flg ht8
  have lB := h.b.lt
  have lB1 : B < w.heap.size + 1 := by omega
  have lB2 : B < w.heap.size + 1 + 1 := by omega
  have lB3 : B < w.heap.size + 1 + 1 + 1 := by omega
  have lS2 : w.heap.size < w.heap.size + 1 + 1 := by omega
  have lS3 : w.heap.size < w.heap.size + 1 + 1 + 1 := by omega
  have nB1 : ¬ B = w.heap.size + 1 := by omega
  have nB2 : ¬ B = w.heap.size + 1 + 1 := by omega
  clear h
  have x1 := (Ext.alloc w (.cells #[Value.int .i64 k, .int .i64 (t : Int), .int .i64 (o : Int), .int .i64 a, .int .i64 r] 36)).trans (Ext.alloc _ (.cells #[.int .i64 (o : Int), .int .i64 (t : Int)] 105))
  by_cases k6 : k = 6
  · subst k6
    have E := hide (show mcbB S 6 t o r = ((S.lf o t).isSome && (((S.lf o t).getD (0, 0)).2 == r) && (S.own o == -1)) from rfl)
    generalize mcbB S 6 t o r = res at *
    generalize S.own o = w0 at *
    have l1 := L2.out _ (x1.trans (Ext.drew _))
    have l2 := L2.out _ ((x1.trans (Ext.alloc _ (.cells #[.int .i64 0, .int .i64 0] 108))).trans (Ext.drew _))
    generalize (S.lf o t).getD (0, 0) = p at *
    obtain ⟨p1, p2⟩ := p
    simp only at E l1 l2
    clear L1 L2 x1
    cases b1 : (S.lf o t).isSome <;> cases b2 : (p2 == r)
    all_goals
      rw [b1, b2] at E
      rw [b1] at l1 l2
      clear b1
      go_enter Try.func44, Try.ntmps44
      go_wp2_with fail
      go_region
      all_goals
        go_wp2_with fail
        clear l1 l2
        go_region
        go_wp2_with fail
        go_ret
        exact ⟨by rw [E.out]; simp, (by repeat (first | exact Ext.refl _ | assumption | exact Ext.alloc _ _ | exact Ext.drew _ | refine Ext.trans ?_ (Ext.alloc _ _) | refine Ext.trans ?_ (Ext.drew _)))⟩
  · have E := hide (show mcbB S k t o r = ((S.wt o t).isSome && (r == 13 || (r == 12 && S.flg t))) by unfold mcbB; rw [if_neg k6])
    generalize mcbB S k t o r = res at *
    have q6 : (k == 6) = false := by simpa using k6
    have l1 := L1.out _ (x1.trans (Ext.drew _))
    generalize (S.wt o t).getD 0 = p at *
    generalize S.flg t = fb at *
    clear L1 L2 x1 k6
    cases b1 : (S.wt o t).isSome <;> cases b2 : (r == 13) <;> cases b3 : (r == 12)
    all_goals
      rw [b1, b2, b3] at E
      rw [b1] at l1
      clear b1
      go_enter Try.func44, Try.ntmps44
      go_wp2_with fail
      go_region
      go_wp2_with fail
      clear l1
      go_region
      go_wp2_with fail
      go_ret
      exact ⟨by rw [E.out]; simp, (by repeat (first | exact Ext.refl _ | assumption | exact Ext.alloc _ _ | exact Ext.drew _ | refine Ext.trans ?_ (Ext.alloc _ _) | refine Ext.trans ?_ (Ext.drew _)))⟩
theorem away_any {w : World} {B W L : Nat} {S : St} (h : ModT w B W L S) {t : Nat} (ht : t < S.N) : Calls Try.prog 45 #[.pointer (some ⟨B, 0, none⟩), .int .i64 (t : Int)] w fun e w' => e = .returned (.bool (awB S t)) ∧ Ext w w' := by
  have n1 := h.ok.n1
  have m1 := h.ok.m1
  have ht8 : t < 8 := by omega
  have j8 : (t : Int) < 8 := by omega
  have L1 : Hid (∀ i : Nat, i < 8 → ∀ w', Ext w w' → (Instr.lookup 79 (.map (some W)) ((Value.agg #[.int .i64 (i : Int), .int .i64 (t : Int)])) true).run Try.prog w' = .ok (.tuple #[.int .i64 ((S.wt i t).getD 0), .bool (S.wt i t).isSome]) w') := hide fun i hi w' x => (h.ext x).wm.look (nat_wf hi) (nat_wf ht8)
  have L2 : Hid (∀ i : Nat, i < 8 → ∀ w', Ext w w' → (Instr.lookup 80 (.map (some L)) ((Value.agg #[.int .i64 (i : Int), .int .i64 (t : Int)])) true).run Try.prog w' = .ok (.tuple #[(Value.agg #[.int .i64 ((S.lf i t).getD (0, 0)).1, .int .i64 ((S.lf i t).getD (0, 0)).2]), .bool (S.lf i t).isSome]) w') := hide fun i hi w' x => (h.ext x).lm.look (nat_wf hi) (nat_wf ht8)
  have r1 : w.cell? ⟨B, 1, none⟩ = some (.int .i64 (S.M : Int)) := h.c (by omega)
  have H35 : Hid (∀ w', Ext w w' → w'.cell? ⟨B, 35, none⟩ = some (.map (some W))) := hide fun w' x => (h.ext x).c (by omega)
  have H36 : Hid (∀ w', Ext w w' → w'.cell? ⟨B, 36, none⟩ = some (.map (some L))) := hide fun w' x => (h.ext x).c (by omega)
  have NO := hide (show (∀ j, j < S.M → ((S.wt j t).isSome || (S.lf j t).isSome) = false) → awB S t = false from fun q => by unfold awB; rw [List.any_eq_false]; intro j hj; rw [q j (List.mem_range.1 hj)]; simp)
  have YES := hide (show ∀ j, j < S.M → ((S.wt j t).isSome || (S.lf j t).isSome) = true → awB S t = true from fun j hj q => by unfold awB; rw [List.any_eq_true]; exact ⟨j, List.mem_range.2 hj, q⟩)
  clear h
  generalize awB S t = res at *
  go_enter Try.func45, Try.ntmps45
  go_wp2
  clear r1
  go_loopw [15] (fun v wr => ∃ i : Nat, i ≤ S.M ∧ v = .int .i64 (i : Int) ∧ Hid (∀ j, j < i → ((S.wt j t).isSome || (S.lf j t).isSome) = false) ∧ Ext w wr) (fun v _ => S.M - (intOf v).toNat)
  case atStart => exact ⟨0, by omega, rfl, fun j hj => by omega, Ext.refl _⟩
  case round =>
    obtain ⟨i, hi, rfl, hN, hx⟩ := hrel
    by_cases hlt : i < S.M
    · have i8 : (i : Int) < 8 := by omega
      have hlt' : (i : Int) < (S.M : Int) := by omega
      have l1 := L1.out i (by omega) _ hx
      have l2 := L2.out i (by omega) _ hx
      have c35 := H35.out _ hx
      have c36 := H36.out _ hx
      have Y := hide (YES.out i hlt)
      have NX := hide (show ((S.wt i t).isSome || (S.lf i t).isSome) = false → ∀ j, j < i + 1 → ((S.wt j t).isSome || (S.lf j t).isSome) = false from fun q j hj => by
        by_cases e : j = i
        · subst e; exact q
        · exact hN.out j (by omega))
      clear hN
      generalize (S.wt i t).getD 0 = p at *
      generalize (S.lf i t).getD (0, 0) = p2 at *
      cases b1 : (S.wt i t).isSome <;> cases b2 : (S.lf i t).isSome
      all_goals
        rw [b1, b2] at Y NX
        rw [b1] at l1
        rw [b2] at l2
        clear b1 b2
        go_wp2_with fail
        first
        | (go_ret; exact ⟨by rw [Y.out rfl]; simp, hx.trans (Ext.alloc _ _)⟩)
        | (go_roundw
           case rel => exact ⟨i + 1, by omega, by go_num, hide (NX.out rfl), hx.trans (Ext.alloc _ _)⟩
           case measure => simp [intOf]; omega)
    · obtain rfl : i = S.M := by omega
      have R := hide (NO.out hN.out)
      clear hN
      go_wp2_with fail
      go_ret
      exact ⟨by rw [R.out]; simp, hx⟩
end Go.Proofs.Ytpielknodjppgaa
