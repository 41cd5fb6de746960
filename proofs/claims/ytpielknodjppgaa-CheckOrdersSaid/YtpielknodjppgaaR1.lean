/- The document's model in the world: its cells; its small methods. -/
import Derived.Test.YtpielknodjppgaaP3
import Derived.Deep.MidRow
namespace Go.Proofs.Ytpielknodjppgaa
open Go.RowKit Go.Maps
set_option linter.unusedSimpArgs false
set_option linter.unusedVariables false
set_option maxRecDepth 100000
set_option maxHeartbeats 8000000


def plA (S : St) (o t : Nat) (j : Nat) : Int := if j = 0 then (S.wt o t).getD 0 else if j = 1 then ((S.lf o t).getD (0, 0)).1 else ((S.lf o t).getD (0, 0)).2
def rv (S : St) (i : Nat) : Value :=
  if i = 0 then .int .i64 (S.N : Int) else if i = 1 then .int .i64 (S.M : Int) else if i = 2 then .int .i64 (S.K : Int)
  else if i < 11 then .int .i64 (S.own (i - 3) + 1) else if i < 19 then .int .i64 (S.cnt (i - 11)) else if i < 27 then .int .i64 (S.hsh (i - 19))
  else if i < 35 then .bool (S.flg (i - 27)) else .int .i64 (plA S ((i - 35) / 24) ((i - 35) / 3 % 8) ((i - 35) % 3))
def rc (S : St) : Array Value := ((List.range 227).map (rv S)).toArray
section
variable {S : St}
theorem rc_size : (rc S).size = 227 := by simp [rc]
theorem rc_at {i : Nat} (h : i < 227) : (rc S)[i]? = some (rv S i) := by
  unfold rc
  rw [List.getElem?_toArray, List.getElem?_map, List.getElem?_range h]; rfl
theorem rc_own {o : Nat} (h : o < 8) : (rc S)[3 + o]? = some (.int .i64 (S.own o + 1)) := by
  rw [rc_at (by omega)]; unfold rv
  rw [if_neg (by omega), if_neg (by omega), if_neg (by omega), if_pos (by omega), show 3 + o - 3 = o by omega]
theorem rc_cnt {o : Nat} (h : o < 8) : (rc S)[11 + o]? = some (.int .i64 (S.cnt o)) := by
  rw [rc_at (by omega)]; unfold rv
  rw [if_neg (by omega), if_neg (by omega), if_neg (by omega), if_neg (by omega), if_pos (by omega), show 11 + o - 11 = o by omega]
theorem rc_hsh {o : Nat} (h : o < 8) : (rc S)[19 + o]? = some (.int .i64 (S.hsh o)) := by
  rw [rc_at (by omega)]; unfold rv
  rw [if_neg (by omega), if_neg (by omega), if_neg (by omega), if_neg (by omega), if_neg (by omega), if_pos (by omega), show 19 + o - 19 = o by omega]
theorem rc_flg {o : Nat} (h : o < 8) : (rc S)[27 + o]? = some (.bool (S.flg o)) := by
  rw [rc_at (by omega)]; unfold rv
  rw [if_neg (by omega), if_neg (by omega), if_neg (by omega), if_neg (by omega), if_neg (by omega), if_neg (by omega), if_pos (by omega), show 27 + o - 27 = o by omega]
theorem rc_pla {o t j : Nat} (h : o < 8) (h2 : t < 8) (h3 : j < 3) : (rc S)[35 + o * 24 + t * 3 + j]? = some (.int .i64 (plA S o t j)) := by
  rw [rc_at (by omega)]; unfold rv
  rw [if_neg (by omega), if_neg (by omega), if_neg (by omega), if_neg (by omega), if_neg (by omega), if_neg (by omega), if_neg (by omega), show (35 + o * 24 + t * 3 + j - 35) / 24 = o by omega, show (35 + o * 24 + t * 3 + j - 35) / 3 % 8 = t by omega, show (35 + o * 24 + t * 3 + j - 35) % 3 = j by omega]
theorem rc_set {S' : St} {i : Nat} {v : Value} (h : i < 227) (hk : rv S' i = v) (ho : ∀ j, j < 227 → j ≠ i → rv S' j = rv S j) : (rc S).setIfInBounds i v = rc S' := by
  unfold rc
  rw [List.setIfInBounds_toArray, map_set_aux (rv S) (rv S') 227 i v hk ho h]
theorem inf_rm (S : St) : (Try.prog.info? 56).map (·.size) = some (rc S).toList.length := by rw [Array.length_toList, rc_size]; kernel_rfl
theorem rc_rng {w : World} {b : Nat} (h : Blk w b (rc S) 56) : w.rangeAt b 0 (rc S).toList := fun j v hv => by
  rw [Nat.zero_add, h.cell, ← hv, Array.getElem?_toList]
end
theorem ris_any (S : St) (a : Int) (w : World) : Calls Try.prog 34 #[.agg (rc S), .int .i64 a] w fun e w' => e = .returned (.bool (isT S a)) ∧ Ext w w' := by
  have E := hide (show isT S a = (decide (0 ≤ a) && decide (a < S.N)) from rfl)
  have hb := Blk.new w (rc S) 56
  have r : (w.alloc (.cells (rc S) 56)).cell? ⟨w.heap.size, 0, none⟩ = some (.int .i64 (S.N : Int)) := by rw [hb.cell, rc_at (by omega)]; rfl
  clear hb
  generalize (S.N : Int) = n at *
  by_cases a0 : 0 ≤ a
  · have q1 := decide_eq_true a0
    go_enter Try.func34, Try.ntmps34
    go_wp2_with fail
    go_ret
    exact ⟨by rw [E.out]; simp [*], Ext.alloc _ _⟩
  · have q1 := decide_eq_false a0
    go_enter Try.func34, Try.ntmps34
    go_wp2_with fail
    go_ret
    exact ⟨by rw [E.out]; simp [*], Ext.alloc _ _⟩
theorem wt_pos {S : St} (ok : Ok S) (o t : Nat) : decide (0 < plA S o t 0) = (S.wt o t).isSome := by
  unfold plA
  rw [if_pos rfl]
  cases e : S.wt o t with
  | none => rfl
  | some c => have := ok.wt _ _ _ e; simp; omega
theorem lf_pos {S : St} (ok : Ok S) (o t : Nat) : decide (0 < plA S o t 1) = (S.lf o t).isSome := by
  unfold plA
  rw [if_neg (by omega), if_pos rfl]
  cases e : S.lf o t with
  | none => rfl
  | some c => have := ok.lf _ _ _ e; simp; omega
theorem rnone_any {S : St} (ok : Ok S) {o : Nat} (ho : o < S.M) (w : World) : Calls Try.prog 51 #[.agg (rc S), .int .i64 (o : Int)] w fun e w' => e = .returned (.bool (noW S o)) ∧ Ext w w' := by
  have n1 := ok.n1
  have m1 := ok.m1
  have i8 : (o : Int) < 8 := by omega
  have hb := Blk.new w (rc S) 56
  have hx := Ext.alloc w (.cells (rc S) 56)
  have r0 : (w.alloc (.cells (rc S) 56)).cell? ⟨w.heap.size, 0, none⟩ = some (.int .i64 (S.N : Int)) := by rw [hb.cell, rc_at (by omega)]; rfl
  have RT : Hid (∀ t : Nat, t < 8 → (w.alloc (.cells (rc S) 56)).cell? ⟨w.heap.size, 35 + o * 24 + t * 3, none⟩ = some (.int .i64 (plA S o t 0))) := hide fun t ht => by rw [hb.cell]; exact rc_pla (o := o) (t := t) (j := 0) (by omega) ht (by omega)
  have NO := hide (show (∀ j, j < S.N → (S.wt o j).isSome = false) → noW S o = true from fun q => by unfold noW; rw [List.all_eq_true]; intro j hj; rw [q j (List.mem_range.1 hj)]; rfl)
  have YES := hide (show ∀ j, j < S.N → (S.wt o j).isSome = true → noW S o = false from fun j hj q => by
    unfold noW
    cases e : ((List.range S.N).all fun t => !(S.wt (o : Nat) (t : Nat)).isSome)
    · rfl
    · have := List.all_eq_true.1 e j (List.mem_range.2 hj); rw [q] at this; cases this)
  have WP := hide (wt_pos ok o)
  clear hb
  generalize noW S o = res at *
  go_enter Try.func51, Try.ntmps51
  go_wp2_with fail
  generalize w.alloc (.cells (rc S) 56) = W0 at *
  go_loopw [5] (fun v wr => ∃ i : Nat, i ≤ S.N ∧ v = .int .i64 (i : Int) ∧ Hid (∀ j, j < i → (S.wt o j).isSome = false) ∧ wr = W0) (fun v _ => S.N - (intOf v).toNat)
  case atStart => exact ⟨0, by omega, rfl, fun j hj => by omega, rfl⟩
  case round =>
    obtain ⟨i, hi, rfl, hN, rfl⟩ := hrel
    by_cases hlt : i < S.N
    · have j8 : (i : Int) < 8 := by omega
      have hlt' : (i : Int) < (S.N : Int) := by omega
      have r1 := RT.out i (by omega)
      have wp := WP.out i
      have Y := hide (YES.out i hlt)
      have NX := hide (show (S.wt o i).isSome = false → ∀ j, j < i + 1 → (S.wt o j).isSome = false from fun q j hj => by
        by_cases e : j = i
        · subst e; exact q
        · exact hN.out j (by omega))
      clear hN
      generalize plA S o i 0 = p at *
      cases b1 : (S.wt o i).isSome
      all_goals
        rw [b1] at Y NX wp
        clear b1
        go_wp2_with fail
        first
        | (go_ret; refine ⟨?_, hx⟩; rw [Y.out (by first | rfl | trivial | simp)]; (try simp))
        | (go_roundw
           case rel => exact ⟨i + 1, by omega, by go_num, hide (NX.out rfl), by first | trivial | rfl⟩
           case measure => simp [intOf]; omega)
    · obtain rfl : i = S.N := by omega
      have R := hide (NO.out hN.out)
      clear hN
      go_wp2_with fail
      go_ret
      exact ⟨by rw [R.out]; simp, hx⟩
theorem rgone_any {S : St} (ok : Ok S) {t : Nat} (ht : t < S.N) (w : World) : Calls Try.prog 35 #[.agg (rc S), .int .i64 (t : Int)] w fun e w' => e = .returned (.bool (awB S t)) ∧ Ext w w' := by
  have n1 := ok.n1
  have m1 := ok.m1
  have j8 : (t : Int) < 8 := by omega
  have hb := Blk.new w (rc S) 56
  have hx := Ext.alloc w (.cells (rc S) 56)
  have r0 : (w.alloc (.cells (rc S) 56)).cell? ⟨w.heap.size, 1, none⟩ = some (.int .i64 (S.M : Int)) := by rw [hb.cell, rc_at (by omega)]; rfl
  have RT : Hid (∀ o : Nat, o < 8 → (w.alloc (.cells (rc S) 56)).cell? ⟨w.heap.size, 35 + o * 24 + t * 3, none⟩ = some (.int .i64 (plA S o t 0))) := hide fun o ho => by rw [hb.cell]; exact rc_pla (o := o) (t := t) (j := 0) ho (by omega) (by omega)
  have RT2 : Hid (∀ o : Nat, o < 8 → (w.alloc (.cells (rc S) 56)).cell? ⟨w.heap.size, 35 + o * 24 + t * 3 + 1, none⟩ = some (.int .i64 (plA S o t 1))) := hide fun o ho => by rw [hb.cell]; exact rc_pla (o := o) (t := t) (j := 1) ho (by omega) (by omega)
  have NO := hide (show (∀ j, j < S.M → ((S.wt j t).isSome || (S.lf j t).isSome) = false) → awB S t = false from fun q => by unfold awB; rw [List.any_eq_false]; intro j hj; rw [q j (List.mem_range.1 hj)]; simp)
  have YES := hide (show ∀ j, j < S.M → ((S.wt j t).isSome || (S.lf j t).isSome) = true → awB S t = true from fun j hj q => by unfold awB; rw [List.any_eq_true]; exact ⟨j, List.mem_range.2 hj, q⟩)
  have WP := hide (fun o => wt_pos ok o t)
  have LP := hide (fun o => lf_pos ok o t)
  clear hb
  generalize awB S t = res at *
  go_enter Try.func35, Try.ntmps35
  go_wp2_with fail
  generalize w.alloc (.cells (rc S) 56) = W0 at *
  go_loopw [5] (fun v wr => ∃ i : Nat, i ≤ S.M ∧ v = .int .i64 (i : Int) ∧ Hid (∀ j, j < i → ((S.wt j t).isSome || (S.lf j t).isSome) = false) ∧ wr = W0) (fun v _ => S.M - (intOf v).toNat)
  case atStart => exact ⟨0, by omega, rfl, fun j hj => by omega, rfl⟩
  case round =>
    obtain ⟨i, hi, rfl, hN, rfl⟩ := hrel
    by_cases hlt : i < S.M
    · have i8 : (i : Int) < 8 := by omega
      have hlt' : (i : Int) < (S.M : Int) := by omega
      have r1 := RT.out i (by omega)
      have r2 := RT2.out i (by omega)
      have wp := WP.out i
      have lp := LP.out i
      have Y := hide (YES.out i hlt)
      have NX := hide (show ((S.wt i t).isSome || (S.lf i t).isSome) = false → ∀ j, j < i + 1 → ((S.wt j t).isSome || (S.lf j t).isSome) = false from fun q j hj => by
        by_cases e : j = i
        · subst e; exact q
        · exact hN.out j (by omega))
      clear hN
      generalize plA S i t 0 = p at *
      generalize plA S i t 1 = p2 at *
      cases b1 : (S.wt i t).isSome <;> cases b2 : (S.lf i t).isSome
      all_goals
        rw [b1, b2] at Y NX
        rw [b1] at wp
        rw [b2] at lp
        clear b1 b2
        go_wp2_with fail
        first
        | (go_ret; refine ⟨?_, hx⟩; rw [Y.out (by first | rfl | trivial | simp)]; (try simp))
        | (go_roundw
           case rel => exact ⟨i + 1, by omega, by go_num, hide (NX.out rfl), by first | trivial | rfl⟩
           case measure => simp [intOf]; omega)
    · obtain rfl : i = S.M := by omega
      have R := hide (NO.out hN.out)
      clear hN
      go_wp2_with fail
      go_ret
      exact ⟨by rw [R.out]; simp, hx⟩
end Go.Proofs.Ytpielknodjppgaa
