/- The document's Add; what the program's graph is beside it. -/
import Derived.Test.YtaglpodilepioaaDoorR2
import Derived.Test.YtaglpodilepioaaDoorA4
namespace Go.Proofs.YtaglpodilepioaaDoor
open Go.RowKit
set_option linter.unusedSimpArgs false
set_option linter.unusedVariables false
set_option maxRecDepth 100000
set_option maxHeartbeats 4000000


def addL (L : EL) (i j : Int) : EL := if isN i && isN j then (if hasI L i j then L else L ++ [(i.toNat, j.toNat)]) else L
def LOk (L : EL) : Prop := L.Nodup ∧ ∀ p, p ∈ L → p.1 < 64 ∧ p.2 < 64
theorem isN_ex {i : Int} (h : isN i = true) : ∃ t : Nat, i = (t : Int) ∧ t < 64 := by
  have h1 : 0 ≤ i ∧ i < 64 := by simpa [isN] using h
  obtain ⟨p, rfl⟩ := Int.eq_ofNat_of_zero_le h1.1
  exact ⟨p, rfl, by omega⟩
theorem hasI_nat (L : EL) (i j : Nat) : hasI L (i : Int) (j : Int) = eg L i j := by
  have := congrFun (nxI_nat L i) j
  exact this
theorem addL_ok {L : EL} (h : LOk L) (i j : Int) : LOk (addL L i j) := by
  unfold addL
  split
  · rename_i hn
    rw [Bool.and_eq_true] at hn
    obtain ⟨p, rfl, hp⟩ := isN_ex hn.1
    obtain ⟨q, rfl, hq⟩ := isN_ex hn.2
    split
    · exact h
    · rename_i hh
      rw [hasI_nat] at hh
      refine ⟨?_, fun x hx => ?_⟩
      · rw [List.nodup_append]
        refine ⟨h.1, by simp, fun a ha b hb => ?_⟩
        rw [List.mem_singleton.1 hb]
        rintro rfl
        exact hh (by simpa [eg] using ha)
      · rcases List.mem_append.1 hx with q1 | q1
        · exact h.2 x q1
        · rw [List.mem_singleton.1 q1]; simp; exact ⟨hp, hq⟩
  · exact h
theorem addL_len (L : EL) (i j : Int) : (addL L i j).length ≤ L.length + 1 := by unfold addL; split <;> (try split) <;> simp
/-- What Add makes of both. -/
theorem eg_add {L : EL} {i j : Int} (hi : isN i = true) (hj : isN j = true) : addE (eg L) i.toNat j.toNat = eg (addL L i j) := by
  obtain ⟨p, rfl, hp⟩ := isN_ex hi
  obtain ⟨q, rfl, hq⟩ := isN_ex hj
  unfold addL
  rw [hi, hj, hasI_nat]
  simp only [Bool.and_self, if_true, Int.toNat_natCast]
  funext a b
  unfold addE uni one
  by_cases hh : eg L p q = true
  · rw [if_pos hh]
    by_cases e : a = p
    · rw [if_pos e]
      by_cases e2 : b = q
      · subst e e2; simp [hh]
      · simp [e2]
    · rw [if_neg e]
  · rw [if_neg hh]
    unfold eg
    by_cases e : a = p
    · rw [if_pos e]
      subst e
      rw [Bool.eq_iff_iff]
      simp
    · rw [if_neg e]
      rw [Bool.eq_iff_iff]
      simp [e]
theorem eg_adds (L : EL) (i j : Int) : (if isN i && isN j then addE (eg L) i.toNat j.toNat else eg L) = eg (addL L i j) := by
  split
  · rename_i h
    rw [Bool.and_eq_true] at h
    exact eg_add h.1 h.2
  · rename_i h
    unfold addL
    rw [if_neg h]
theorem eg_nil : eg [] = zgr := by funext a b; simp [eg, zgr, non]
theorem inf_edge : (Tryd.prog.info? 31).map (fun i => (i.zero, i.size, i.bytes)) = some (some (.agg #[.int .i64 0, .int .i64 0]), 2, 16) := by kernel_rfl
theorem ecs_one (L : EL) : ∀ u, u ∈ ecs L → u.oneCell' = true := by
  intro u hu
  unfold ecs at hu
  rw [List.mem_flatMap] at hu
  obtain ⟨p, _, hp⟩ := hu
  simp at hp
  rcases hp with rfl | rfl <;> rfl
theorem radd_any {R : Nat} {L : EL} (i j : Int) (w : World) (h : RG w R 0 L) (hl : L.length < 1000) : Calls Tryd.prog 8 #[.pointer (some ⟨R, 0, none⟩), .int .i64 i, .int .i64 j] w fun e w' =>
    e = .returned (.int .i64 (if isN i && isN j then 0 else 1)) ∧ RG w' R 0 (addL L i j) ∧ Chg [R] w w' := by
  have HH := hide (fun (_ : Unit) => rhas_any i j w h hl)
  by_cases hi : isN i = true
  · by_cases hj : isN j = true
    · obtain ⟨A, c, hb, ho, _⟩ := h.open
      obtain ⟨b0, b1⟩ : 0 ≤ i ∧ i < 64 := by simpa [isN] using hi
      obtain ⟨b2, b3⟩ : 0 ≤ j ∧ j < 64 := by simpa [isN] using hj
      have HA := hide (show addL L i j = if hasI L i j then L else L ++ [(i.toNat, j.toNat)] by unfold addL; rw [hi, hj]; rfl)
      have HI := hide (show i = (i.toNat : Int) ∧ j = (j.toNat : Int) from ⟨by omega, by omega⟩)
      rw [hi, hj]
      simp only [Bool.and_self, if_true]
      have HG := hide h
      clear h hi hj
      by_cases hh : hasI L i j = true
      · rw [hh] at HH HA
        clear hh
        go_enter Tryd.func8, Tryd.ntmps8
        go_wp2_with (go_at_call 10; (with_reducible refine (HH.out ()).mono ?_); rintro e w' ⟨rfl, rfl⟩; go_frame)
        go_ret
        exact ⟨rfl, by rw [HA.out]; exact HG.out, Chg.refl _ _⟩
      · have hh : hasI L i j = false := by simpa using hh
        rw [hh] at HH HA
        clear hh
        have hc := hb.cell 0
        have HB := hide hb
        have HO := hide ho
        clear hb ho
        have h1 := ecs_one L
        have hbl := (HB.out).lt
        obtain ⟨n, hn⟩ : ∃ n, L.length = n := ⟨_, rfl⟩
        have HN := hide hn
        rw [hn] at hc hl HO HB
        clear hn
        go_enter Tryd.func8, Tryd.ntmps8
        go_wp2_with (first | (go_at_call 10; (with_reducible refine (HH.out ()).mono ?_); rintro e w' ⟨rfl, rfl⟩; go_frame) | (at_builtin; refine wpList_clone (W0 := w) (n := n) (xs := ecs L) rfl _ _ _ rfl Tryd.underlying22 inf_edge rfl (by omega) rfl rfl HO.out (Ext.refl _) h1 (by unfold maxLen; omega) (by omega) ?_; intro v1 w1 ho1 hx1; obtain ⟨A1, c1, rfl⟩ := own_sl ho1; go_frame) | (at_builtin; refine wpList_app2 (base := w.heap.size) (n := n) (xs := ecs L) rfl rfl Tryd.underlying22 inf_edge rfl (by omega) rfl ho1 hx1.size rfl rfl rfl (by simp [Value.oneCell']) (by unfold maxLen; omega) (by omega) ?_; intro v2 w2 ho2 hg2; have hBB := blk_kept (HB.out.ext hx1) ho1 (by decide) hg2; have d1 : w2.cell? ⟨R, 0, none⟩ = some (.slice A n c) := hBB.cell 0; have d2 := hBB.free 0; obtain ⟨A2, c2, rfl⟩ := own_sl ho2; go_frame))
        go_ret
        have hX := Ext.grown (hx1.trans (Ext.alloc _ _)) hg2 (own_row ho1)
        have hBB2 := hBB.set 0 (.slice A2 (n + 1) c2)
        refine ⟨rfl, ?_, (hX.chg [R]).set (p := ⟨R, 0, none⟩) (.inl (by simp)) _⟩
        rw [HA.out]
        simp only [Bool.false_eq_true, if_false]
        refine ⟨.slice A2 (n + 1) c2, hBB2, ?_⟩
        have ho3 := own_chgB (own_base ho2 (Nat.zero_le _)) ((Chg.refl [R] w2).set (p := ⟨R, 0, none⟩) (.inl (by simp)) (.slice A2 (n + 1) c2)) (fun k hk hm => by
          obtain ⟨cs, hb⟩ := own_blk ho2 k hk
          rw [List.mem_singleton.1 hm] at hb
          exact absurd (hb.type hBB) (by decide))
        rw [List.length_append, List.length_singleton, HN.out, ecs_append]
        have : ecs [(i.toNat, j.toNat)] = (#[.int .i64 i, .int .i64 j] : Array Value).toList := by
          obtain ⟨q1, q2⟩ := HI.out
          simp [ecs, ← q1, ← q2]
        rw [this]
        exact ho3
    · have hj : isN j = false := by simpa using hj
      have HA := hide (show addL L i j = L by unfold addL; rw [hj]; simp)
      have hj2 : ¬ (0 ≤ j ∧ j < 64) := fun q => by simp [isN, q] at hj
      rw [hi, hj]
      simp only [Bool.and_false, if_neg (show ¬ (false = true) by decide)]
      obtain ⟨b0, b1⟩ : 0 ≤ i ∧ i < 64 := by simpa [isN] using hi
      have HG := hide h
      clear h hi hj HH
      by_cases b2 : j < 0
      · clear hj2
        go_enter Tryd.func8, Tryd.ntmps8
        go_wp2_with fail
        go_ret
        exact ⟨rfl, by rw [HA.out]; exact HG.out, Chg.refl _ _⟩
      · have b3 : (64 : Int) ≤ j := by omega
        clear hj2
        go_enter Tryd.func8, Tryd.ntmps8
        go_wp2_with fail
        go_ret
        exact ⟨rfl, by rw [HA.out]; exact HG.out, Chg.refl _ _⟩
  · have hi : isN i = false := by simpa using hi
    have HA := hide (show addL L i j = L by unfold addL; rw [hi]; simp)
    have hi2 : ¬ (0 ≤ i ∧ i < 64) := fun q => by simp [isN, q] at hi
    rw [hi]
    simp only [Bool.false_and, if_neg (show ¬ (false = true) by decide)]
    have HG := hide h
    clear h hi HH
    by_cases b2 : i < 0
    · clear hi2
      go_enter Tryd.func8, Tryd.ntmps8
      go_wp2_with fail
      go_ret
      exact ⟨rfl, by rw [HA.out]; exact HG.out, Chg.refl _ _⟩
    · have b3 : (64 : Int) ≤ i := by omega
      clear hi2
      go_enter Tryd.func8, Tryd.ntmps8
      go_wp2_with fail
      go_ret
      exact ⟨rfl, by rw [HA.out]; exact HG.out, Chg.refl _ _⟩
end Go.Proofs.YtaglpodilepioaaDoor
