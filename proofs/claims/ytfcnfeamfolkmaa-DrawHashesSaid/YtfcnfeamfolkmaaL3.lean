/- DrawSame, walked. -/
import Derived.Test.YtfcnfeamfolkmaaL2
namespace Go.Proofs.Ytfcnfeamfolkmaa
open Go.RowKit
set_option linter.unusedSimpArgs false
set_option linter.unusedVariables false

/-- One that nobody made. -/
def Nob (w : World) (p : Value) : Prop := p = .pointer none ∨ ∃ M, p = .pointer (some ⟨M, 0, none⟩) ∧ Blk w M #[.int .u64 0, .int .i64 0] 38
theorem Nob.ext {w w' : World} {p : Value} (h : Nob w p) (x : Ext w w') : Nob w' p := by
  rcases h with h | ⟨M, h, k⟩
  · exact .inl h
  · exact .inr ⟨M, h, k.ext x⟩
theorem state_nob (p : Value) (w : World) (h : Nob w p) : Calls Try.prog 12 #[p] w fun e w' => e = .returned (.int .u64 0) ∧ Ext w w' := by
  rcases h with rfl | ⟨M, rfl, h⟩
  · go_enter Try.func12, Try.ntmps12
    go_wp2
    go_ret
    exact ⟨rfl, Ext.refl _⟩
  · have r := h.cell
    go_enter Try.func12, Try.ntmps12
    go_wp2
    go_ret
    exact ⟨by simp, Ext.refl _⟩
theorem count_nob (p : Value) (w : World) (h : Nob w p) : Calls Try.prog 13 #[p] w fun e w' => e = .returned (.int .i64 0) ∧ Ext w w' := by
  rcases h with rfl | ⟨M, rfl, h⟩
  · go_enter Try.func13, Try.ntmps13
    go_wp2
    go_ret
    exact ⟨rfl, Ext.refl _⟩
  · have r := h.cell
    go_enter Try.func13, Try.ntmps13
    go_wp2
    go_ret
    exact ⟨by simp, Ext.refl _⟩
theorem hash_nob (p : Value) (w : World) (h : Nob w p) : Calls Try.prog 14 #[p] w fun e w' => e = .returned (.int .u32 0) ∧ Ext w w' := by
  go_enter Try.func14, Try.ntmps14
  go_wp2_with fail
  refine (state_nob p _ h).mono ?_
  rintro e w1 ⟨rfl, hb⟩
  go_wp2_with fail
  go_ret
  exact ⟨rfl, hb⟩
set_option maxRecDepth 100000 in
theorem lsame_any (s : Nat) (m : Int) (w : World) (hs : s < two64) (hm0 : 0 ≤ m) (hm1 : m ≤ 255) :
    Calls Try.prog 6 #[.int .u64 s, .int .u8 m] w fun e w' => e = .returned (.bool true) ∧ Ext w w' := by
  obtain ⟨K, rfl⟩ : ∃ K : Nat, m = K := ⟨m.toNat, by omega⟩
  have hN1 : Nob ((w.alloc (.cells #[.int .u64 0, .int .i64 0] 38)).alloc (.cells #[.pointer none, .pointer (some ⟨w.heap.size, 0, none⟩)] 26)) (.pointer (some ⟨w.heap.size, 0, none⟩)) :=
    .inr ⟨w.heap.size, rfl, (Blk.new w _ _).ext (Ext.alloc _ _)⟩
  have hG := Blk.new (w.alloc (.cells #[.int .u64 0, .int .i64 0] 38)) #[.pointer none, .pointer (some ⟨w.heap.size, 0, none⟩)] 26
  simp only [World.size_alloc] at hG
  have rG := hG.rule
  have hX0 : Ext w ((w.alloc (.cells #[.int .u64 0, .int .i64 0] 38)).alloc (.cells #[.pointer none, .pointer (some ⟨w.heap.size, 0, none⟩)] 26)) := (Ext.alloc _ _).trans (Ext.alloc _ _)
  clear hG
  have hX := Ext.refl ((w.alloc (.cells #[.int .u64 0, .int .i64 0] 38)).alloc (.cells #[.pointer none, .pointer (some ⟨w.heap.size, 0, none⟩)] 26))
  go_enter Try.func6, Try.ntmps6
  go_wp2_with fail
  generalize (w.alloc (.cells #[.int .u64 0, .int .i64 0] 38)).alloc (.cells #[.pointer none, .pointer (some ⟨w.heap.size, 0, none⟩)] 26) = W1 at *
  go_loopw [14] (fun i wr => ∃ k : Nat, k ≤ 2 ∧ i = .int .i64 k ∧ Ext W1 wr) (fun i _ => 2 - (intOf i).toNat)
  case atStart => exact ⟨0, by omega, rfl, hX⟩
  case round =>
    clear hX
    obtain ⟨k, hk, rfl, hX⟩ := hrel
    rcases (by omega : k = 0 ∨ k = 1 ∨ k = 2) with rfl | rfl | rfl
    · have rG0 := rG _ hX 0
      have hN : Nob wr (.pointer none) := .inl rfl
      go_wp2_with fail
      (refine (hash_nob _ _ hN).mono ?_; rintro e w' ⟨rfl, hx⟩; have hX := hX.trans hx; have hN := hN.ext hx; clear hx)
      go_wp2_with fail
      (refine (state_nob _ _ hN).mono ?_; rintro e w' ⟨rfl, hx⟩; have hX := hX.trans hx; have hN := hN.ext hx; clear hx)
      go_wp2_with fail
      (refine (count_nob _ _ hN).mono ?_; rintro e w' ⟨rfl, hx⟩; have hX := hX.trans hx; have hN := hN.ext hx; clear hx)
      go_wp2_with fail
      go_roundw
      case rel => exact ⟨1, by omega, by go_num, hX⟩
      case measure => simp [intOf]
    · have rG1 := rG _ hX 1
      have hN := hN1.ext hX
      go_wp2_with fail
      (refine (hash_nob _ _ hN).mono ?_; rintro e w' ⟨rfl, hx⟩; have hX := hX.trans hx; have hN := hN.ext hx; clear hx)
      go_wp2_with fail
      (refine (state_nob _ _ hN).mono ?_; rintro e w' ⟨rfl, hx⟩; have hX := hX.trans hx; have hN := hN.ext hx; clear hx)
      go_wp2_with fail
      (refine (count_nob _ _ hN).mono ?_; rintro e w' ⟨rfl, hx⟩; have hX := hX.trans hx; have hN := hN.ext hx; clear hx)
      go_wp2_with fail
      go_roundw
      case rel => exact ⟨2, by omega, by go_num, hX⟩
      case measure => simp [intOf]
    · have hX := hX0.trans hX
      clear rG hN1
      go_wp2_with fail
      refine (new_any s _ hs).mono ?_
      rintro e w1 ⟨A, rfl, hA, hAz, hx⟩
      have lA := hA.lt
      have hAz : w.heap.size ≤ A := by have := hX.size; omega
      have hX := hX.trans hx
      clear hx
      go_wp2_with fail
      refine (new_any s _ hs).mono ?_
      rintro e w2 ⟨B, rfl, hB, hBz, hx⟩
      have hne : A ≠ B := by omega
      have hBz : w.heap.size ≤ B := by have := hX.size; omega
      have hA : Src _ A (beg s) 0 := hA.ext hx
      have hX := hX.trans hx
      clear hx
      have D1 := hide (show A ∉ [B] by simp; omega)
      have D2 := hide (show B ∉ [A] by simp; omega)
      have D3 := hide (show ∀ t, t ∈ [A] → w.heap.size ≤ t by simp; omega)
      have D4 := hide (show ∀ t, t ∈ [B] → w.heap.size ≤ t by simp; omega)
      clear lA hAz hBz hne
      go_wp2_with fail
      go_loopw [38] (fun i wr => ∃ (j n : Nat), i = .int .i64 j ∧ j ≤ K ∧ n < two64 ∧ n ≠ 0 ∧ Src wr A n j ∧ Src wr B n j ∧ Ext w wr) (fun i _ => K - (intOf i).toNat)
      case atStart => exact ⟨0, _, rfl, by omega, beg_lt hs, beg_ne _, hA, hB, hX⟩
      case round =>
        clear hA hB hX
        obtain ⟨j, n, rfl, hj, hn, hn0, hA, hB, hX⟩ := hrel
        by_cases hlt : j < K
        · go_wp2_with fail
          refine (state_any B _ _ _ hB).mono ?_
          rintro e w3 ⟨rfl, hx⟩
          have hA := hA.ext hx
          have hB := hB.ext hx
          have hX := hX.trans hx
          clear hx
          go_wp2_with fail
          have e0 : IntKind.u64.wrap ((s : Int) + (j : Int)) = (((s + j) % two64 : Nat) : Int) := by rw [← Int.natCast_add, wrap_nat]
          rw [e0]
          have hsj : (s + j) % two64 < two64 := Nat.mod_lt _ (by decide)
          generalize (s + j) % two64 = t at *
          clear e0
          refine (new_any t _ hsj).mono ?_
          rintro e w4 ⟨C, rfl, hC, hCz, hx⟩
          have lA := hA.lt
          have lB := hB.lt
          have D5 := hide (show A ∉ [C] by simp; omega)
          have D6 := hide (show B ∉ [C] by simp; omega)
          have D7 := hide (show ∀ t, t ∈ [C] → w.heap.size ≤ t by have := hX.size; simp; omega)
          have hA := hA.ext hx
          have hB := hB.ext hx
          have hX := hX.trans hx
          clear hx lA lB hCz
          go_wp2_with fail
          refine (hash_any C _ _ _ (beg_lt hsj) (beg_ne _) (by omega) hC).mono ?_
          rintro e w5 ⟨rfl, -, hc⟩
          have hA := hA.chg hc D5.out
          have hB := hB.chg hc D6.out
          have hX := hX.turn hc D7.out
          clear hc
          go_wp2_with fail
          refine (hash_any A n _ _ hn hn0 (by omega) hA).mono ?_
          rintro e w6 ⟨rfl, hA, hc⟩
          have hB := hB.chg hc D2.out
          have hX := hX.turn hc D3.out
          clear hc
          go_wp2_with fail
          refine (hash_any B n _ _ hn hn0 (by omega) hB).mono ?_
          rintro e w7 ⟨rfl, hB, hc⟩
          have hA := hA.chg hc D1.out
          have hX := hX.turn hc D4.out
          clear hc
          rw [upc_small (by omega)] at hA hB
          have b2 := hide (nxt_lt hn)
          have b3 := hide (nxt_ne hn hn0)
          generalize ((hsh n : Nat) : Int) = z at *
          go_wp2_with fail
          refine (count_any A _ _ _ hA).mono ?_
          rintro e w8 ⟨rfl, hx⟩
          have hA := hA.ext hx
          have hB := hB.ext hx
          have hX := hX.trans hx
          clear hx
          go_wp2_with fail
          go_roundw
          case rel => exact ⟨j + 1, _, by go_num, by omega, b2.out, b3.out, hA, hB, hX⟩
          case measure => simp [intOf]; omega
        · go_wp2_with fail
          refine (alive_any _).mono ?_
          rintro e w3 ⟨rfl, hx⟩
          go_wp2_with fail
          go_ret
          exact ⟨rfl, hX.trans hx⟩
end Go.Proofs.Ytfcnfeamfolkmaa
