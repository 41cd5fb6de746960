/- What the laws share: steps that are not too many; a memory that is alive. -/
import Derived.Test.YtlmlkclpfjbedaaC5
namespace Go.Proofs.Ytlmlkclpfjbedaa
open Go.RowKit
set_option linter.unusedSimpArgs false
set_option linter.unusedVariables false

theorem short_any (A : Option Addr) (n c : Nat) (w : World) (hn : n ≤ c) (hc : c ≤ maxLen) :
    Calls Try.prog 9 #[.slice A n c] w fun e w' => e = .returned (.slice A (min n 200) c) ∧ Ext w w' := by
  unfold maxLen at hc
  by_cases h : n ≤ 200
  · have h1 : (n : Int) ≤ 200 := by omega
    have E := hide (show min n 200 = n by omega)
    go_enter Try.func9, Try.ntmps9
    go_wp2
    go_ret
    exact ⟨by rw [E.out]; simp, Ext.refl _⟩
  · have h1 : ¬ (n : Int) ≤ 200 := by omega
    have E := hide (show min n 200 = 200 by omega)
    have h2 : 200 ≤ c := by omega
    go_enter Try.func9, Try.ntmps9
    go_wp2
    go_ret
    exact ⟨by rw [E.out]; simp, Ext.refl _⟩
theorem alive_any (w : World) : Calls Try.prog 8 #[] w fun e w' => e = .returned (.bool true) ∧ Ext w w' := by
  go_enter Try.func8, Try.ntmps8
  go_wp2_with fail
  refine (new_in 2 _ (by omega) (by omega)).mono ?_
  rintro e w1 ⟨M, V, rfl, hm, hM, hV, hx⟩
  go_wp2_with fail
  refine (cas_any M V 0 (zeros 2) 0 0 5 _ hm).mono ?_
  rintro e w2 ⟨rfl, hm, hc⟩
  rw [show lookI (zeros 2) 0 = 0 from rfl, show casB (zeros 2) 0 0 = true from rfl]
  rw [show upI (zeros 2) 0 0 = 1 from rfl, show casL (zeros 2) 0 0 5 = [5, 0] from rfl] at hm
  have hT : ∀ t, t ∈ [M, V] → w.heap.size ≤ t := by simp; exact ⟨hM, hV⟩
  have hX := hx.turn hc hT
  have HT := hide hT
  clear hc hT hx
  go_wp2_with fail
  refine (cas_any M V 1 [5, 0] 0 0 6 _ hm).mono ?_
  rintro e w3 ⟨rfl, hm, hc⟩
  rw [show lookI [5, 0] 0 = 5 from rfl, show casB [5, 0] 0 0 = false from rfl]
  rw [show upI [5, 0] 0 1 = 2 from rfl, show casL [5, 0] 0 0 6 = [5, 0] from rfl] at hm
  have hX := hX.turn hc HT.out
  clear hc
  go_wp2_with fail
  refine (load_any M V 2 [5, 0] 0 _ hm).mono ?_
  rintro e w4 ⟨rfl, hm, hc⟩
  rw [show lookI [5, 0] 0 = 5 from rfl]
  rw [show upI [5, 0] 0 2 = 3 from rfl] at hm
  have hX := hX.turn hc HT.out
  clear hc
  go_wp2_with fail
  refine (count_any M V 3 [5, 0] _ hm).mono ?_
  rintro e w5 ⟨rfl, hx⟩
  have hX := hX.trans hx
  go_wp2_with fail
  go_ret
  exact ⟨by simp, hX⟩
end Go.Proofs.Ytlmlkclpfjbedaa
