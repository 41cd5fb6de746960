/- Those that are asleep, told by a closure over all threads. -/
import Derived.Test.YtleffmmlcbaooaaN2
namespace Go.Proofs.Ytleffmmlcbaooaa
open Go.RowKit
set_option linter.unusedSimpArgs false
set_option linter.unusedVariables false

theorem sleepersF_any (a b c : Bool) (w : World) : Calls Try.prog 28 #[.agg #[.bool a, .bool b, .bool c]] w fun e w' => e = .returned (.bool a) ∧ Ext w w' := by
  go_enter Try.func28, Try.ntmps28
  go_wp2
  go_ret
  exact ⟨by simp, Ext.alloc _ _⟩
/-- Those ahead of t that are asleep, rising. -/
def slp (g : Tb) (t : Nat) : List Nat := (List.range t).filter fun s => (g s).x
theorem slp_yes {g : Tb} {t : Nat} (h : (g t).x = true) : slp g (t + 1) = slp g t ++ [t] := by
  unfold slp; rw [List.range_succ, List.filter_append]; simp [h]
theorem slp_no {g : Tb} {t : Nat} (h : (g t).x = false) : slp g (t + 1) = slp g t := by
  unfold slp; rw [List.range_succ, List.filter_append]; simp [h]
theorem slp_mem {g : Tb} {t s : Nat} : s ∈ slp g t ↔ s < t ∧ (g s).x = true := by
  unfold slp; rw [List.mem_filter, List.mem_range]
theorem slp_len (g : Tb) (t : Nat) : (slp g t).length ≤ t := by
  unfold slp
  have := List.length_filter_le (fun s => (g s).x) (List.range t)
  rwa [List.length_range] at this
theorem slp_asc (g : Tb) (t : Nat) : (slp g t).Pairwise (· < ·) := List.Pairwise.filter _ List.pairwise_lt_range
set_option maxRecDepth 100000 in
theorem those_any {w : World} {M V N : Nat} {g : Tb} (h : TabT w M V N g) :
    Calls Try.prog 27 #[.pointer (some ⟨M, 0, none⟩), (.func (.func 28) #[] #[])] w fun e w' => ∃ v, e = .returned v ∧ w'.ownsRow w.heap.size 3 1 v (slp g N).length ((slp g N).map enI) ∧ Ext w w' := by
  have n2 := h.n2
  have HT := hide h
  have hX0 := Ext.refl w
  have hW := Ext.refl w
  go_enter Try.func27, Try.ntmps27
  go_wp2_with fail
  refine (all_in h).mono ?_
  rintro e w1 ⟨rfl, rfl⟩
  go_wp2_with fail
  go_loopw [5, 11] (fun v i wr => ∃ j : Nat, j ≤ N ∧ i = .int .i64 j ∧ wr.ownsRow w.heap.size 3 1 v (slp g j).length ((slp g j).map enI) ∧ Ext w wr) (fun _ i _ => N - (intOf i).toNat)
  case atStart => exact ⟨0, by omega, rfl, own_nil _ _ _ _, hW⟩
  case round =>
    clear hW
    obtain ⟨j, hj, rfl, hown, hW⟩ := hrel
    by_cases hlt : j < N
    · have hk := HT.out.ext hW
      have r0 := hk.lx hlt
      have r1 := hk.ly hlt
      have r2 := hk.lz hlt
      have sl := slp_len g j
      cases hx : (g j).x
      · have Y := hide (slp_no hx)
        go_wp2_with fail
        refine (sleepersF_any _ _ _ _).mono ?_
        rintro e w2 ⟨rfl, hx2⟩
        have hx3 := (Ext.alloc wr _).trans hx2
        go_wp2_with fail
        go_roundw
        case rel => exact ⟨j + 1, by omega, by go_num, by rw [Y.out]; exact own_ext hown hx3, hW.trans hx3⟩
        case measure => simp [intOf]; omega
      · have Y := hide (slp_yes hx)
        have HO := hide hown
        go_wp2_with fail
        refine (sleepersF_any _ _ _ _).mono ?_
        rintro e w2 ⟨rfl, hx2⟩
        have hx3 := (Ext.alloc wr _).trans hx2
        have hown2 := own_ext HO.out hx3
        have hW2 := hW.trans hx3
        clear hx2 hown r0 r1 r2 hk
        go_wp2_with (first
          | (at_builtin; refine wpList_app1 rfl rfl Try.underlying42 inf_int rfl (by omega) rfl hown2 hW2 rfl rfl rfl (by simp [Value.oneCell']) (by unfold maxLen; omega) (by omega) ?_; intro v' w3 hown' hW3; go_frame)
          | go_in)
        go_roundw
        case rel => exact ⟨j + 1, by omega, by go_num, by rw [Y.out, List.length_append, List.map_append]; exact hown', hW3⟩
        case measure => simp [intOf]; omega
    · obtain rfl : j = N := by omega
      go_wp2
      go_ret
      exact ⟨_, rfl, hown, hW⟩
theorem sleepers_any {w : World} {M V N : Nat} {g : Tb} (h : TabT w M V N g) :
    Calls Try.prog 23 #[.pointer (some ⟨M, 0, none⟩)] w fun e w' => ∃ v, e = .returned v ∧ w'.ownsRow w.heap.size 3 1 v (slp g N).length ((slp g N).map enI) ∧ Ext w w' := by
  go_enter Try.func23, Try.ntmps23
  go_wp2_with fail
  refine (those_any h).mono ?_
  rintro e w1 ⟨v, rfl, hown, hx⟩
  go_wp2_with fail
  go_ret
  exact ⟨v, rfl, hown, hx⟩
theorem those_nob {w : World} {p : Value} (h : Nob w p) :
    Calls Try.prog 27 #[p, (.func (.func 28) #[] #[])] w fun e w' => e = .returned (.slice none 0 0) ∧ Ext w w' := by
  go_enter Try.func27, Try.ntmps27
  go_wp2_with fail
  refine (all_nob h).mono ?_
  rintro e w1 ⟨rfl, rfl⟩
  go_wp2_with fail
  refine wp_loop_rounds 1 ?_
  rw [rounds_succ]
  go_wp2
  go_ret
  exact ⟨rfl, Ext.refl _⟩
theorem sleepers_nob {w : World} {p : Value} (h : Nob w p) :
    Calls Try.prog 23 #[p] w fun e w' => e = .returned (.slice none 0 0) ∧ Ext w w' := by
  go_enter Try.func23, Try.ntmps23
  go_wp2_with fail
  refine (those_nob h).mono ?_
  rintro e w1 ⟨rfl, hx⟩
  go_wp2_with fail
  go_ret
  exact ⟨rfl, hx⟩
end Go.Proofs.Ytleffmmlcbaooaa
