/- The document's book: Slot, Obj, Of. -/
import Derived.Test.YtcgbbgljchfbcaaB6
namespace Go.Proofs.Ytcgbbgljchfbcaa
open Go.RowKit
set_option linter.unusedSimpArgs false
set_option linter.unusedVariables false

theorem inf_rpair : (Try.prog.info? 30).map (fun i => (i.zero, i.size, i.bytes)) = some (some ((Value.agg #[.int .i64 pz.s, .int .i64 pz.o, .int .i64 pz.t])), 3, 24) := by kernel_rfl
/-- The document's book at R, its row behind B. -/
def RefT (w : World) (B R : Nat) (S : List Pr) : Prop := ∃ v, Blk w R #[v] 27 ∧ w.ownsRow B 30 3 v S.length (pcells S)
theorem RefT.chg {w w' : World} {B R : Nat} {S : List Pr} {T : List Nat} (h : RefT w B R S) (x : Chg T w w') (hR : R ∉ T) (hT : ∀ t, t ∈ T → t < B) : RefT w' B R S := by
  obtain ⟨v, hb, hrow⟩ := h
  exact ⟨v, hb.chg x hR, own_chg hrow x hT⟩
theorem RefT.ext {w w' : World} {B R : Nat} {S : List Pr} (h : RefT w B R S) (x : Ext w w') : RefT w' B R S := h.chg (x.chg []) (by simp) (by simp)
theorem RefT.lt {w : World} {B R : Nat} {S : List Pr} (h : RefT w B R S) : R < w.heap.size := by obtain ⟨v, hb, _⟩ := h; exact hb.lt
theorem bySlot_at {S : List Pr} {z : Int} {j : Nat} (hj : j < S.length) (he : (S[j]).s = z) (hn : ∀ k (h : k < j), (S[k]'(by omega)).s ≠ z) : bySlot S z = some S[j] := by
  unfold bySlot
  rw [List.find?_eq_some_iff_getElem]
  exact ⟨by simpa using he, j, hj, rfl, fun k hk => by simpa using hn k hk⟩
theorem byObj_at {S : List Pr} {z : Int} {j : Nat} (hj : j < S.length) (he : (S[j]).o = z) (hn : ∀ k (h : k < j), (S[k]'(by omega)).o ≠ z) : byObj S z = some S[j] := by
  unfold byObj
  rw [List.find?_eq_some_iff_getElem]
  exact ⟨by simpa using he, j, hj, rfl, fun k hk => by simpa using hn k hk⟩
theorem bySlot_out {S : List Pr} {z : Int} (hn : ∀ k (h : k < S.length), (S[k]).s ≠ z) : bySlot S z = none := by
  rw [bySlot_none]
  intro p hp
  obtain ⟨k, hk, rfl⟩ := List.getElem_of_mem hp
  exact hn k hk
theorem byObj_out {S : List Pr} {z : Int} (hn : ∀ k (h : k < S.length), (S[k]).o ≠ z) : byObj S z = none := by
  rw [byObj_none]
  intro p hp
  obtain ⟨k, hk, rfl⟩ := List.getElem_of_mem hp
  exact hn k hk
theorem ofT_snoc {S : List Pr} {z : Int} {j : Nat} (hj : j < S.length) : ofT (S.take (j + 1)) z = ofT (S.take j) z ++ (if (S[j]).t = z then [S[j]] else []) := by
  unfold ofT
  rw [← List.take_append_getElem hj, List.filter_append]
  congr 1
  by_cases h : (S[j]).t = z
  · rw [if_pos h]; simp [h]
  · rw [if_neg h]; simp [h]
theorem rslot_any {w : World} {B R : Nat} {S : List Pr} (z : Int) (hr : RefT w B R S) (hl : S.length ≤ 4096) :
    Calls Try.prog 15 #[(.pointer (some ⟨R, 0, none⟩)), .int .i64 z] w fun e w' => e = .returned (.tuple #[.int .i64 (slotA S z), .bool (slotB S z)]) ∧ w = w' := by
  obtain ⟨v, hb, hrow⟩ := hr
  obtain ⟨A, c, rfl, hs⟩ := Sl.of_own hrow
  have r := hb.cell
  clear hrow
  go_enter Try.func15, Try.ntmps15
  go_wp2_with fail
  go_loopw [6] (fun i wr => ∃ j : Nat, ∃ hj : j ≤ S.length, i = .int .i64 j ∧ Hid (∀ k (h : k < j), (S[k]'(by omega)).o ≠ z) ∧ wr = w) (fun i _ => S.length - (intOf i).toNat)
  case atStart => exact ⟨0, by omega, rfl, hide (fun k h => by omega), rfl⟩
  case round =>
    obtain ⟨j, hj, rfl, HN, rfl⟩ := hrel
    by_cases hlt : j < S.length
    · obtain ⟨b, off, rfl, hbb, c0, c1, c2⟩ := hs.pr hlt
      by_cases he : (S[j]).o = z
      · have hf := byObj_at hlt he HN.out
        have E1 := hide (show slotA S z = (S[j]).s by unfold slotA; rw [hf]; rfl)
        have E2 := hide (show slotB S z = true by unfold slotB; rw [hf]; rfl)
        clear hf
        go_wp2_with fail
        go_ret2
        exact ⟨by rw [E1.out, E2.out]; simp, rfl⟩
      · have HN2 := hide (show ∀ k (h : k < j + 1), (S[k]'(by omega)).o ≠ z from fun k h => by
          rcases Nat.lt_or_ge k j with q | q
          · exact HN.out k q
          · obtain rfl : k = j := by omega
            exact he)
        go_wp2_with fail
        go_roundw
        case rel => exact ⟨j + 1, by omega, by go_num, HN2, trivial⟩
        case measure => simp [intOf]; omega
    · obtain rfl : j = S.length := by omega
      have hf := byObj_out HN.out
      have E1 := hide (show slotA S z = 0 by unfold slotA; rw [hf]; rfl)
      have E2 := hide (show slotB S z = false by unfold slotB; rw [hf]; rfl)
      clear hf
      go_wp2_with fail
      go_ret2
      exact ⟨by rw [E1.out, E2.out]; simp, rfl⟩
theorem robj_any {w : World} {B R : Nat} {S : List Pr} (z : Int) (hr : RefT w B R S) (hl : S.length ≤ 4096) :
    Calls Try.prog 17 #[(.pointer (some ⟨R, 0, none⟩)), .int .i64 z] w fun e w' => e = .returned (.tuple #[.int .i64 (objA S z), .bool (objB S z)]) ∧ w = w' := by
  obtain ⟨v, hb, hrow⟩ := hr
  obtain ⟨A, c, rfl, hs⟩ := Sl.of_own hrow
  have r := hb.cell
  clear hrow
  go_enter Try.func17, Try.ntmps17
  go_wp2_with fail
  go_loopw [6] (fun i wr => ∃ j : Nat, ∃ hj : j ≤ S.length, i = .int .i64 j ∧ Hid (∀ k (h : k < j), (S[k]'(by omega)).s ≠ z) ∧ wr = w) (fun i _ => S.length - (intOf i).toNat)
  case atStart => exact ⟨0, by omega, rfl, hide (fun k h => by omega), rfl⟩
  case round =>
    obtain ⟨j, hj, rfl, HN, rfl⟩ := hrel
    by_cases hlt : j < S.length
    · obtain ⟨b, off, rfl, hbb, c0, c1, c2⟩ := hs.pr hlt
      by_cases he : (S[j]).s = z
      · have hf := bySlot_at hlt he HN.out
        have E1 := hide (show objA S z = (S[j]).o by unfold objA; rw [hf]; rfl)
        have E2 := hide (show objB S z = true by unfold objB; rw [hf]; rfl)
        clear hf
        go_wp2_with fail
        go_ret2
        exact ⟨by rw [E1.out, E2.out]; simp, rfl⟩
      · have HN2 := hide (show ∀ k (h : k < j + 1), (S[k]'(by omega)).s ≠ z from fun k h => by
          rcases Nat.lt_or_ge k j with q | q
          · exact HN.out k q
          · obtain rfl : k = j := by omega
            exact he)
        go_wp2_with fail
        go_roundw
        case rel => exact ⟨j + 1, by omega, by go_num, HN2, trivial⟩
        case measure => simp [intOf]; omega
    · obtain rfl : j = S.length := by omega
      have hf := bySlot_out HN.out
      have E1 := hide (show objA S z = 0 by unfold objA; rw [hf]; rfl)
      have E2 := hide (show objB S z = false by unfold objB; rw [hf]; rfl)
      clear hf
      go_wp2_with fail
      go_ret2
      exact ⟨by rw [E1.out, E2.out]; simp, rfl⟩
set_option maxRecDepth 100000 in
theorem rof_any {w : World} {B R : Nat} {S : List Pr} (z : Int) (hr : RefT w B R S) (hl : S.length ≤ 4096) :
    Calls Try.prog 20 #[(.pointer (some ⟨R, 0, none⟩)), .int .i64 z] w fun e w' => ∃ v, e = .returned v ∧ w'.ownsRow w.heap.size 30 3 v (ofT S z).length (pcells (ofT S z)) ∧ Ext w w' := by
  have hX0 := Ext.refl w
  obtain ⟨v, hb, hrow⟩ := hr
  obtain ⟨A, c, rfl, hs⟩ := Sl.of_own hrow
  clear hrow
  go_enter Try.func20, Try.ntmps20
  go_wp2_with fail
  go_loopw [5, 6] (fun v i wr => ∃ j : Nat, j ≤ S.length ∧ i = .int .i64 j ∧ wr.ownsRow w.heap.size 30 3 v (ofT (S.take j) z).length (pcells (ofT (S.take j) z)) ∧ Ext w wr) (fun _ i _ => S.length - (intOf i).toNat)
  case atStart => exact ⟨0, by omega, rfl, own_nil _ _ _ _, hX0⟩
  case round =>
    clear hX0
    obtain ⟨j, hj, rfl, hown, hW⟩ := hrel
    have r := (hb.ext hW).cell
    by_cases hlt : j < S.length
    · obtain ⟨b, off, rfl, hbb, c0, c1, c2⟩ := (hs.ext hW (Nat.le_refl _)).pr hlt
      have sl : (ofT (S.take j) z).length ≤ 4096 := by
        have := ofT_le (S.take j) z
        rw [List.length_take] at this
        omega
      have Y := hide (ofT_snoc (z := z) hlt)
      by_cases he : (S[j]).t = z
      · have HO := hide hown
        have HW := hide hW
        clear hown hW
        go_wp2_with (first
          | (at_builtin; refine wpList_app1 (W0 := w) rfl rfl Try.underlying25 inf_rpair rfl (by omega) rfl HO.out HW.out rfl rfl rfl (by simp [Value.oneCell']) (by unfold maxLen; omega) (by omega) ?_; intro v' w3 hown' hW3; go_frame)
          | go_in)
        go_roundw
        case rel => exact ⟨j + 1, by omega, by go_num, by rw [Y.out, if_pos he, List.length_append, ← pcells_snoc]; exact he ▸ hown', hW3⟩
        case measure => simp [intOf]; omega
      · go_wp2_with fail
        go_roundw
        case rel => exact ⟨j + 1, by omega, by go_num, by rw [Y.out, if_neg he, List.append_nil]; exact hown, hW⟩
        case measure => simp [intOf]; omega
    · obtain rfl : j = S.length := by omega
      rw [List.take_length] at hown
      go_wp2_with fail
      go_ret
      exact ⟨_, rfl, hown, hW⟩
end Go.Proofs.Ytcgbbgljchfbcaa
