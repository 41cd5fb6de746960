/- The document's Next, has, Reach. -/
import Derived.Test.YtaglpodilepioaaDoorR1
namespace Go.Proofs.YtaglpodilepioaaDoor
open Go.RowKit
set_option linter.unusedSimpArgs false
set_option linter.unusedVariables false
set_option maxRecDepth 100000
set_option maxHeartbeats 4000000


def nxI (L : EL) (i : Int) : NS := fun k => hasI L i (k : Int)
theorem nxI_nat (L : EL) (t : Nat) : nxI L (t : Int) = eg L t := by
  funext k
  unfold nxI hasI eg
  rw [Bool.eq_iff_iff, List.any_eq_true, decide_eq_true_eq]
  constructor
  · rintro ⟨⟨a, b⟩, hm, h⟩
    simp only [Bool.and_eq_true, decide_eq_true_eq] at h
    obtain ⟨rfl, rfl⟩ : a = t ∧ b = k := ⟨by omega, by omega⟩
    exact hm
  · intro h
    exact ⟨(t, k), h, by simp⟩
theorem low_yes {f : NS} {k : Nat} (h : f k = true) : low f (k + 1) = low f k ++ [k] := by unfold low; rw [List.range_succ, List.filter_append]; simp [h]
theorem low_no {f : NS} {k : Nat} (h : f k = false) : low f (k + 1) = low f k := by unfold low; rw [List.range_succ, List.filter_append]; simp [h]
theorem rnext_any {R B : Nat} {L : EL} (i : Int) (w : World) (h : RG w R B L) (hl : L.length < 1000) : Calls Tryd.prog 13 #[.pointer (some ⟨R, 0, none⟩), .int .i64 i] w fun e w' =>
    ∃ v, e = .returned v ∧ Row w' w.heap.size v (setL (nxI L i)) ∧ Ext w w' := by
  have HG := hide h
  clear h
  go_enter Tryd.func13, Tryd.ntmps13
  go_wp2_with fail
  go_loopw [5, 6] (fun v y wr => ∃ k : Nat, k ≤ 64 ∧ y = .int .i64 (k : Int) ∧ Row wr w.heap.size v (low (nxI L i) k) ∧ Ext w wr) (fun _ y _ => 64 - (intOf y).toNat)
  case atStart => exact ⟨0, by omega, rfl, own_nil _ _ _ _, Ext.refl _⟩
  case round =>
    obtain ⟨k, hk, rfl, hO, hX⟩ := hrel
    have HO := hide hO
    have HX := hide hX
    have hll := low_len (nxI L i) k
    by_cases hlt : k < 64
    · have HH := hide (rhas_any i (k : Int) wr (HG.out.ext hX) hl)
      have HH := hide (fun (_ : Unit) => HH.out)
      clear hO hX
      have hval : hasI L i (k : Int) = nxI L i k := rfl
      rw [hval] at HH
      by_cases hf : nxI L i k = true
      · rw [hf] at HH
        have HY := hide (low_yes hf)
        clear hf hval
        generalize low (nxI L i) k = l at *
        go_wp2_with (first | (go_at_call 10; (with_reducible refine (HH.out ()).mono ?_); rintro e w' ⟨rfl, rfl⟩; go_frame) | (at_builtin; refine wpList_app1 (W0 := w) (n := l.length) (xs := l.map enN) rfl rfl Tryd.underlying38 inf_int rfl (by omega) rfl HO.out HX.out rfl rfl rfl (by simp [Value.oneCell']) (by unfold maxLen; omega) (by omega) ?_; intro v' w3 hown' hW3; go_frame))
        go_roundw
        case rel => exact ⟨k + 1, by omega, by go_num, by rw [HY.out]; exact row_snoc hown', hW3⟩
        case measure => simp [intOf]; omega
      · have hf : nxI L i k = false := by simpa using hf
        rw [hf] at HH
        have HY := hide (low_no hf)
        clear hf hval
        go_wp2_with (go_at_call 10; (with_reducible refine (HH.out ()).mono ?_); rintro e w' ⟨rfl, rfl⟩; go_frame)
        go_roundw
        case rel => exact ⟨k + 1, by omega, by go_num, by rw [HY.out]; exact HO.out, HX.out⟩
        case measure => simp [intOf]; omega
    · obtain rfl : k = 64 := by omega
      clear hO hX
      go_wp2_with fail
      go_ret
      exact ⟨_, rfl, HO.out, HX.out⟩
theorem hasl_any {B n : Nat} {v : Value} {l : List Nat} (x : Nat) (w : World) (h : w.ownsRow B 3 1 v n (l.map enN)) (hn : n < 1000) : Calls Tryd.prog 30 #[v, .int .i64 (x : Int)] w fun e w' => e = .returned (.bool (l.contains x)) ∧ w = w' := by
  have hl : l.length = n := by have := h.1; simpa using this
  obtain ⟨A, c, rfl⟩ := own_sl h
  have HO := hide h
  have HL := hide hl
  clear h hl
  go_enter Tryd.func30, Tryd.ntmps30
  go_wp2_with fail
  go_loopw [5] (fun y wr => wr = w ∧ ∃ q : Nat, q ≤ n ∧ y = .int .i64 (q : Int) ∧ ∀ k, k < q → ∀ p, l[k]? = some p → p ≠ x) (fun y _ => n - (intOf y).toNat)
  case atStart => exact ⟨rfl, 0, by omega, rfl, fun k hk => by omega⟩
  case round =>
    obtain ⟨rfl, q, hq, rfl, hno⟩ := hrel
    have HK := hide hno
    clear hno
    by_cases hlt : q < n
    · obtain ⟨p, hp⟩ : ∃ p, l[q]? = some p := ⟨_, List.getElem?_eq_getElem (by rw [HL.out]; exact hlt)⟩
      obtain ⟨b2, off2, c2, he2, _, hc2⟩ := row_at HO.out hp
      simp only [Value.slice.injEq] at he2
      obtain ⟨rfl, -, rfl⟩ := he2
      have d1 := hc2 _ (Ext.refl _)
      have HP := hide hp
      clear hc2 hp
      by_cases h1 : p = x
      · have E1 : ((p : Int) == (x : Int)) = true := by simp [h1]
        have HT := hide (show l.contains x = true by rw [List.contains_iff_mem, ← h1]; exact List.mem_of_getElem? HP.out)
        clear h1
        go_wp2_with fail
        go_ret
        exact ⟨by rw [HT.out]; rfl, rfl⟩
      · have E1 : ((p : Int) == (x : Int)) = false := by simp; omega
        have HH := hide h1
        clear h1
        go_wp2_with fail
        go_roundw
        case rel => exact ⟨by first | rfl | trivial, q + 1, by omega, by go_num, fun k hk p' hp' => by
          by_cases e : k = q
          · subst e
            rw [HP.out] at hp'
            obtain rfl := Option.some.inj hp'
            exact HH.out
          · exact HK.out k (by omega) p' hp'⟩
        case measure => simp [intOf]; omega
    · obtain rfl : q = n := by omega
      have HT := hide (show l.contains x = false by
        rw [← Bool.not_eq_true, List.contains_iff_mem]
        intro hm
        obtain ⟨i, hi⟩ := List.getElem?_of_mem hm
        exact HK.out i (by rw [← HL.out]; exact (List.getElem?_eq_some_iff.1 hi).1) x hi rfl)
      go_wp2_with fail
      go_ret
      exact ⟨by rw [HT.out]; rfl, rfl⟩
end Go.Proofs.YtaglpodilepioaaDoor
