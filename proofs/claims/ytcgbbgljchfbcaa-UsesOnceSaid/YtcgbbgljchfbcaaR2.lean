/- The document's book: Drop. -/
import Derived.Test.YtcgbbgljchfbcaaR1
import Derived.Laws.AppendOwnNone
import Derived.Deep.RegionLaw
namespace Go.Proofs.Ytcgbbgljchfbcaa
open Go.RowKit
set_option linter.unusedSimpArgs false
set_option linter.unusedVariables false

theorem dropS_k {S : List Pr} (ok : OkS S) {k : Nat} (hk : k < S.length) : pcells (S.take k) ++ pcells (S.drop (k + 1)) = pcells (dropS S (S[k]).s) := by rw [dropS_at ok hk, pcells_append]
set_option maxHeartbeats 2000000 in
set_option maxRecDepth 100000 in
theorem rdrop_any {w : World} {B R : Nat} {S : List Pr} (z : Int) (hr : RefT w B R S) (ok : OkS S) (hBR : R < B) (hBw : B ≤ w.heap.size) :
    Calls Try.prog 10 #[(.pointer (some ⟨R, 0, none⟩)), .int .i64 z] w fun e w' => e = .returned (.tuple #[(Value.agg #[.int .i64 (dropR S z).s, .int .i64 (dropR S z).o, .int .i64 (dropR S z).t]), .int .i64 (dropE S z)]) ∧ RefT w' B R (dropS S z) ∧ Chg [R] w w' := by
  have hl := ok.len
  have hX := Ext.alloc w (.cells #[.int .i64 0, .int .i64 0, .int .i64 0] 30)
  have HR0 := hide hr
  have hr2 := hr.ext hX
  have bP0 := hide (Blk.new w #[.int .i64 0, .int .i64 0, .int .i64 0] 30)
  have lR := hr.lt
  obtain ⟨v, hb, hrow⟩ := hr2
  have hrow9 := hrow
  obtain ⟨A, c, rfl, hs⟩ := Sl.of_own hrow
  have r := hb.cell
  have HB := hide hb
  have HO := hide hrow9
  have HXX := hide hX
  clear hrow hrow9 hb hr hX
  go_enter Try.func10, Try.ntmps10
  go_wp2_with fail
  go_loopw [6] (fun i wr => ∃ j : Nat, ∃ hj : j ≤ S.length, i = .int .i64 j ∧ Hid (∀ k (h : k < j), (S[k]'(by omega)).s ≠ z) ∧ wr = w.alloc (.cells #[.int .i64 0, .int .i64 0, .int .i64 0] 30)) (fun i _ => S.length - (intOf i).toNat)
  case atStart => exact ⟨0, by omega, rfl, hide (fun k h => by omega), rfl⟩
  case round =>
    obtain ⟨k, hk, rfl, HN, rfl⟩ := hrel
    by_cases hlt : k < S.length
    · obtain ⟨b, off, hA, hbb, c0, c1, c2⟩ := hs.pr hlt
      by_cases he : (S[k]).s = z
      · have hf := bySlot_at hlt he HN.out
        have E1 := hide (show dropR S z = S[k] by unfold dropR; rw [hf]; rfl)
        have E2 := hide (show dropE S z = 0 by unfold dropE; rw [hf]; rfl)
        subst he
        clear hf hs
        obtain ⟨_, h | ⟨h, cap, cur, hv, hbase, hh, h1, h2, h3, h4⟩⟩ := HO.out
        · exact absurd h.2 (by omega)
        simp only [Value.slice.injEq, Option.some.injEq, true_and] at hv
        obtain ⟨rfl, rfl⟩ := hv
        simp only [Option.some.injEq, Addr.mk.injEq, and_true] at hA
        obtain ⟨rfl, rfl⟩ := hA
        rw [Nat.zero_add] at c0 c1 c2
        have bh : Blk (w.alloc (.cells #[.int .i64 0, .int .i64 0, .int .i64 0] 30)) h cur 30 := hh
        have hY := Ext.alloc (w.alloc (.cells #[.int .i64 0, .int .i64 0, .int .i64 0] 30)) (.cells #[.int .i64 (S[k]).s, .int .i64 (S[k]).o, .int .i64 (S[k]).t] 30)
        have bR3 := HB.out.ext hY
        have bh3 := bh.ext hY
        have bX3 := Blk.new (w.alloc (.cells #[.int .i64 0, .int .i64 0, .int .i64 0] 30)) #[.int .i64 (S[k]).s, .int .i64 (S[k]).o, .int .i64 (S[k]).t] 30
        have bP3 := bP0.out.ext hY
        have HX := hide (HXX.out.trans hY)
        have ew : (w.alloc (.cells #[.int .i64 0, .int .i64 0, .int .i64 0] 30)).heap.size = w.heap.size + 1 := by simp
        clear hh bh hY
        go_wp2_with fail
        generalize (w.alloc (.cells #[.int .i64 0, .int .i64 0, .int .i64 0] 30)).alloc (.cells #[.int .i64 (S[k]).s, .int .i64 (S[k]).o, .int .i64 (S[k]).t] 30) = W3 at *
        rw [ew] at bX3
        have HR3 := hide bR3
        have HX3 := hide bX3
        have HP3 := hide bP3
        have hcl : ∀ w', Ext W3 w' → ∀ j, j < S.length * 3 → w'.cell? ⟨h, j, none⟩ = (pcells S)[j]? := by
          intro w' hw' j hj
          rw [(bh3.ext hw').cell, ← h4, List.getElem?_take_of_lt hj, Array.getElem?_toList]
        have S1 := hide (show ∀ w', Ext W3 w' → ∀ j u, (pcells (S.take k))[j]? = some u → w'.cell? ((⟨h, 0, none⟩ : Addr).add j) = some u from by
          intro w' hw' j u hu
          have hj : j < k * 3 := by
            have := (List.getElem?_eq_some_iff.1 hu).1
            rw [pcells_length, List.length_take] at this
            omega
          rw [pcells_take, List.getElem?_take_of_lt hj] at hu
          rw [Addr.add_lit, Nat.zero_add, hcl w' hw' j (by omega)]
          exact hu)
        obtain ⟨A2, hA, S2⟩ : ∃ A2 : Addr, (if c = k + 1 then some (⟨h, 0, none⟩ : Addr) else some ⟨h, (k + 1) * 3, none⟩) = some A2 ∧ Hid (∀ w', Ext W3 w' → ∀ j u, (pcells (S.drop (k + 1)))[j]? = some u → w'.cell? (A2.add j) = some u) := by
          have hlen : (pcells (S.drop (k + 1))).length = (S.length - (k + 1)) * 3 := by rw [pcells_length, List.length_drop]
          by_cases hcap : c = k + 1
          · refine ⟨⟨h, 0, none⟩, by simp [hcap], fun w' hw' j u hu => ?_⟩
            have h0 : (pcells (S.drop (k + 1))).length = 0 := by rw [hlen]; omega
            rw [List.length_eq_zero_iff.1 h0] at hu
            simp at hu
          · refine ⟨⟨h, (k + 1) * 3, none⟩, by simp [hcap], fun w' hw' j u hu => ?_⟩
            have ht : j < (S.length - (k + 1)) * 3 := by
              have := (List.getElem?_eq_some_iff.1 hu).1
              rwa [hlen] at this
            rw [pcells_drop, List.getElem?_drop] at hu
            rw [Addr.add_lit, ← hu]
            exact hcl w' hw' _ (by omega)
        have L1 := hide (show (pcells (S.take k)).length = k * 3 by rw [pcells_length, List.length_take]; congr 1; omega)
        have L2 := hide (show (pcells (S.drop (k + 1))).length = (S.length - (k + 1)) * 3 by rw [pcells_length, List.length_drop])
        have hic : k ≤ c := by omega
        have hjc : k + 1 ≤ c := by omega
        have g0 : 0 ≤ (k : Int) + 1 := by omega
        have g1 : (k : Int) + 1 ≤ (S.length : Int) := by omega
        have gw : IntKind.i64.wrap ((k : Int) + 1) = (k : Int) + 1 := by rw [IntKind.wrap_i64]; omega
        unfold maxLen at h2
        have z0 : ∀ i, W3.drew.cell? ⟨R, i, none⟩ = #[Value.slice (some ⟨h, 0, none⟩) S.length c][i]? := (bR3.ext (Ext.drew _)).cell
        clear hcl bR3 bX3 bP3 bh3 h3 h4 r c0 c1 c2
        go_region_law
          (first
            | (refine step_own (W0 := W3) rfl _ (.tmp 40) 25 rfl Try.underlying25 inf_rpair rfl (by omega) (v := .slice none 0 0) (n := 0) (xs := []) (by simp [Act.eval, Act.put]) (own_nil _ _ _ _) (Ext.drew _) (ad := ⟨h, 0, none⟩) (m := k) (c := c) (news := pcells (S.take k)) (by simp [Act.eval, Act.put]) L1.out (S1.out _ (Ext.drew _)) (pcells_one _) (by unfold maxLen; omega) (by omega) ?_; intro A4 c4 w4 hown4 hX4; rw [Nat.zero_add, List.nil_append] at hown4; rw [Nat.zero_add]; have q0 := (HR3.out.ext hX4).cell)
            | (refine step_own (W0 := W3) rfl (.tmp 41) (.tmp 48) 25 rfl Try.underlying25 inf_rpair rfl (by omega) (v := .slice A4 k c4) (n := k) (xs := pcells (S.take k)) (by simp [Act.eval, Act.put]) hown4 hX4 (ad := A2) (m := S.length - (k + 1)) (c := c - (k + 1)) (news := pcells (S.drop (k + 1))) (by simp [Act.eval, Act.put]) L2.out (S2.out _ hX4) (pcells_one _) (by unfold maxLen; omega) (by omega) ?_; intro A5 c5 w5 hown5 hX5; have q1 := (HR3.out.ext hX5).cell; have q2 := (HR3.out.ext hX5).free))
        all_goals
          have rX := (HX3.out.ext hX5).cell
          have rP := (HP3.out.ext hX5).cell
          have fP := (HP3.out.ext hX5).free
          have HO5 := hide hown5
          have HX5 := hide hX5
          have HO4 := hide hown4
          have HX4 := hide hX4
          clear hown4 hX4 hown5 hX5 hA z0 q0
          go_wp2_with fail
          refine bodyPost_ret (v := .tuple #[.agg #[.int .i64 (S[k]).s, .int .i64 (S[k]).o, .int .i64 (S[k]).t], .int .i64 0]) (by simp [results, Try.results10, go_sem, *]) rfl ?_
          have ek : k + (S.length - (k + 1)) = (dropS S (S[k]).s).length := by rw [dropS_at ok hlt, List.length_append, List.length_take, List.length_drop]; omega
          have hown3 := HO5.out
          rw [dropS_k ok hlt] at hown3
          have e3 := HX.out.size
          have e5 := HX5.out.size
          have lX := HX3.out.lt
          have hb := (HR3.out.ext HX5.out).set 0 (.slice A5 (k + (S.length - (k + 1))) c5)
          rw [show (#[Value.slice (some ⟨h, 0, none⟩) S.length c].setIfInBounds 0 (.slice A5 (k + (S.length - (k + 1))) c5)) = #[.slice A5 (k + (S.length - (k + 1))) c5] by simp] at hb
          have lR1 : R ≠ w.heap.size := by omega
          have hs := ((((Chg.refl [R, w.heap.size] w5).set (p := ⟨R, 0, none⟩) (.inl (by simp)) (.slice A5 (k + (S.length - (k + 1))) c5)).set (p := ⟨w.heap.size, 0, none⟩) (.inl (by simp)) (.int .i64 (S[k]).s)).set (p := ⟨w.heap.size, 1, none⟩) (.inl (by simp)) (.int .i64 (S[k]).o)).set (p := ⟨w.heap.size, 2, none⟩) (.inl (by simp)) (.int .i64 (S[k]).t)
          rw [E1.out, E2.out]
          refine ⟨rfl, ⟨_, ((hb.far (p := ⟨w.heap.size, 0, none⟩) lR1 _).far (p := ⟨w.heap.size, 1, none⟩) lR1 _).far (p := ⟨w.heap.size, 2, none⟩) lR1 _, ?_⟩, ?_⟩
          · have q := own_low (own_chg hown3 hs (by intro t ht; simp at ht; omega)) (show B ≤ W3.heap.size by omega)
            rw [ek] at q ⊢
            exact q
          · exact (((((HX.out.trans HX5.out).chg [R]).set (p := ⟨R, 0, none⟩) (.inl (by simp)) _).set (p := ⟨w.heap.size, 0, none⟩) (.inr (by simp)) _).set (p := ⟨w.heap.size, 1, none⟩) (.inr (by simp)) _).set (p := ⟨w.heap.size, 2, none⟩) (.inr (by simp)) _
      · have HN2 := hide (show ∀ q (h : q < k + 1), (S[q]'(by omega)).s ≠ z from fun q h => by
          rcases Nat.lt_or_ge q k with p | p
          · exact HN.out q p
          · obtain rfl : q = k := by omega
            exact he)
        subst hA
        go_wp2_with fail
        go_roundw
        case rel => exact ⟨k + 1, by omega, by go_num, HN2, trivial⟩
        case measure => simp [intOf]; omega
    · obtain rfl : k = S.length := by omega
      have hf := bySlot_out HN.out
      have E1 := hide (show dropR S z = pz by unfold dropR; rw [hf]; rfl)
      have E2 := hide (show dropE S z = 6 by unfold dropE; rw [hf]; rfl)
      have E3 := hide (dropS_none hf)
      have rp := bP0.out.cell
      have rf := bP0.out.free
      clear hf
      go_wp2_with fail
      refine bodyPost_ret (v := .tuple #[.agg #[.int .i64 0, .int .i64 0, .int .i64 0], .int .i64 6]) (by simp [results, Try.results10, go_sem, *]) rfl ?_
      rw [E1.out, E2.out, E3.out]
      exact ⟨rfl, HR0.out.ext HXX.out, HXX.out.chg _⟩
end Go.Proofs.Ytcgbbgljchfbcaa
