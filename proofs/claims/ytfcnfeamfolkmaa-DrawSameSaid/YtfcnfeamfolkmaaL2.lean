/- DrawHashes, walked. -/
import Derived.Test.YtfcnfeamfolkmaaL1
namespace Go.Proofs.Ytfcnfeamfolkmaa
open Go.RowKit
set_option linter.unusedSimpArgs false
set_option linter.unusedVariables false

theorem upc_small {c : Int} (h : c < 2147483647) : upc c = c + 1 := if_pos h
set_option maxRecDepth 100000 in
theorem lhashes_any (s : Nat) (m : Int) (w : World) (hs : s < two64) (hm0 : 0 ≤ m) (hm1 : m ≤ 255) :
    Calls Try.prog 4 #[.int .u64 s, .int .u8 m] w fun e w' => e = .returned (.bool true) ∧ Ext w w' := by
  obtain ⟨K, rfl⟩ : ∃ K : Nat, m = K := ⟨m.toNat, by omega⟩
  go_enter Try.func4, Try.ntmps4
  go_wp2_with fail
  refine (new_any s _ hs).mono ?_
  rintro e w1 ⟨M, rfl, hS, hM, hX⟩
  go_wp2_with fail
  refine (rnew_any s _ hs).mono ?_
  rintro e w2 ⟨rfl, hx⟩
  have hS := hS.ext hx
  have hX := hX.trans hx
  have lM := hS.lt
  clear hx
  go_wp2_with fail
  have hR : RSrc _ w2.heap.size (beg s) 0 := Blk.new w2 _ _
  have hS : Src _ M (beg s) 0 := hS.ext (Ext.alloc w2 (.cells #[.int .u64 (beg s : Int), .int .i64 0] 29))
  have hX := hX.trans (Ext.alloc w2 (.cells #[.int .u64 (beg s : Int), .int .i64 0] 29))
  have hRz : w.heap.size ≤ w2.heap.size := by have := hX.size; simp at this; omega
  have hne : M ≠ w2.heap.size := by omega
  generalize w2.alloc (.cells #[.int .u64 (beg s : Int), .int .i64 0] 29) = w3 at *
  generalize w2.heap.size = R at *
  have D1 := hide (show R ∉ [M] by simp; omega)
  have D2 := hide (show M ∉ [R] by simp; omega)
  have D3 := hide (show ∀ t, t ∈ [M] → w.heap.size ≤ t by simp; omega)
  have D4 := hide (show ∀ t, t ∈ [R] → w.heap.size ≤ t by simp; omega)
  clear lM hM hRz hne
  go_loopw [14] (fun i wr => ∃ (j n : Nat), i = .int .i64 j ∧ j ≤ K ∧ n < two64 ∧ n ≠ 0 ∧ Src wr M n j ∧ RSrc wr R n j ∧ Ext w wr) (fun i _ => K - (intOf i).toNat)
  case atStart => exact ⟨0, _, rfl, by omega, beg_lt hs, beg_ne _, hS, hR, hX⟩
  case round =>
    clear hS hR hX
    obtain ⟨j, n, rfl, hj, hn, hn0, hS, hR, hX⟩ := hrel
    have r := hR.rule
    by_cases hlt : j < K
    · go_wp2_with fail
      have hW := Ext.refl wr
      refine wp_region_ext (by kernel_rfl) (by kernel_rfl) ?_
      repeat
        with_reducible refine wpQuiet_step (fun K hK => ?_)
        go_simp
        first
        | (refine hK _ ?_; clear hK K)
        | (apply Exists.intro
           refine ⟨fun w1 h1 => ?_, hK _ ?_⟩
           (have hW := Ext.trans2 hW (by repeat (first | exact Ext.refl _ | exact Ext.alloc _ _ | exact Ext.drewN _ _ | assumption | refine Ext.trans ?_ (Ext.alloc _ _) | refine Ext.trans ?_ (Ext.drew _) | refine Ext.trans ?_ (by assumption))) h1; (try have hV := Ext.trans2 hV (by repeat (first | exact Ext.refl _ | exact Ext.alloc _ _ | exact Ext.drewN _ _ | assumption | refine Ext.trans ?_ (Ext.alloc _ _) | refine Ext.trans ?_ (Ext.drew _) | refine Ext.trans ?_ (by assumption))) h1); (first | rfl | (go_simp; done) | (go_simp; rfl) | (first | (go_at_call 12; refine (state_any _ _ _ _ (hS.ext h1)).mono ?_; rintro e w2 ⟨rfl, hb⟩; exact ⟨rfl, h1.trans hb⟩) | (go_at_call 13; refine (count_any _ _ _ _ (hS.ext h1)).mono ?_; rintro e w2 ⟨rfl, hb⟩; exact ⟨rfl, h1.trans hb⟩))))
           clear hK K)
      refine wpQuiet_nil (fun w' hw' => ?_)
      have hW := Ext.trans2 hW (by repeat (first | exact Ext.refl _ | exact Ext.alloc _ _ | exact Ext.drewN _ _ | assumption | refine Ext.trans ?_ (Ext.alloc _ _) | refine Ext.trans ?_ (Ext.drew _) | refine Ext.trans ?_ (by assumption))) hw'
      try have hV := Ext.trans2 hV (by repeat (first | exact Ext.refl _ | exact Ext.alloc _ _ | exact Ext.drewN _ _ | assumption | refine Ext.trans ?_ (Ext.alloc _ _) | refine Ext.trans ?_ (Ext.drew _) | refine Ext.trans ?_ (by assumption))) hw'
      clear hw'
      have hS := hS.ext hW
      have hR := hR.ext hW
      have hX := hX.trans hW
      clear r hW
      go_wp2_with fail
      refine (hash_any M n _ _ hn hn0 (by omega) hS).mono ?_
      rintro e w4 ⟨rfl, hS, hc⟩
      have hR := hR.chg hc D1.out
      have hX := hX.turn hc D3.out
      clear hc
      go_wp2_with fail
      refine (rhash_any R n _ _ hn hn0 (by omega) (by omega) hR).mono ?_
      rintro e w5 ⟨rfl, hR, hc⟩
      have hS := hS.chg hc D2.out
      have hX := hX.turn hc D4.out
      clear hc
      rw [upc_small (by omega)] at hS
      have b1 := hsh_lt hn
      have b0 := nxt_up hn hn0
      have b2 := nxt_lt hn
      have b3 := nxt_ne hn hn0
      have b4 : hsh n ≠ 0 := b0
      generalize hsh n = q at *
      have b5 : (q : Int) < 2147483648 := by omega
      have b6 : ¬ (q : Int) = 0 := by omega
      have b7 := hide hn0
      have b8 := hide b2
      have b9 := hide b3
      clear b0 b1 b4 b2 b3 hn0
      generalize (q : Int) = z at *
      have c6 : (z == 0) = false := beq_false_of_ne b6
      have c5 : decide (2147483648 ≤ z) = false := decide_eq_false (by omega)
      clear b6
      go_wp2_with fail
      go_roundw
      case rel => exact ⟨j + 1, _, by go_num, by omega, b8.out, b9.out, hS, hR, hX⟩
      case measure => simp [intOf]; omega
    · go_wp2_with fail
      have hW := Ext.refl wr
      refine wp_region_ext (by kernel_rfl) (by kernel_rfl) ?_
      repeat
        with_reducible refine wpQuiet_step (fun K hK => ?_)
        go_simp
        first
        | (refine hK _ ?_; clear hK K)
        | (apply Exists.intro
           refine ⟨fun w1 h1 => ?_, hK _ ?_⟩
           (have hW := Ext.trans2 hW (by repeat (first | exact Ext.refl _ | exact Ext.alloc _ _ | exact Ext.drewN _ _ | assumption | refine Ext.trans ?_ (Ext.alloc _ _) | refine Ext.trans ?_ (Ext.drew _) | refine Ext.trans ?_ (by assumption))) h1; (try have hV := Ext.trans2 hV (by repeat (first | exact Ext.refl _ | exact Ext.alloc _ _ | exact Ext.drewN _ _ | assumption | refine Ext.trans ?_ (Ext.alloc _ _) | refine Ext.trans ?_ (Ext.drew _) | refine Ext.trans ?_ (by assumption))) h1); (first | rfl | (go_simp; done) | (go_simp; rfl) | (first | (go_at_call 12; refine (state_any _ _ _ _ (hS.ext h1)).mono ?_; rintro e w2 ⟨rfl, hb⟩; exact ⟨rfl, h1.trans hb⟩) | (go_at_call 13; refine (count_any _ _ _ _ (hS.ext h1)).mono ?_; rintro e w2 ⟨rfl, hb⟩; exact ⟨rfl, h1.trans hb⟩) | (go_at_call 9; refine (alive_any _).mono ?_; rintro e w2 ⟨rfl, hb⟩; exact ⟨rfl, h1.trans hb⟩))))
           clear hK K)
      refine wpQuiet_nil (fun w' hw' => ?_)
      have hW := Ext.trans2 hW (by repeat (first | exact Ext.refl _ | exact Ext.alloc _ _ | exact Ext.drewN _ _ | assumption | refine Ext.trans ?_ (Ext.alloc _ _) | refine Ext.trans ?_ (Ext.drew _) | refine Ext.trans ?_ (by assumption))) hw'
      try have hV := Ext.trans2 hV (by repeat (first | exact Ext.refl _ | exact Ext.alloc _ _ | exact Ext.drewN _ _ | assumption | refine Ext.trans ?_ (Ext.alloc _ _) | refine Ext.trans ?_ (Ext.drew _) | refine Ext.trans ?_ (by assumption))) hw'
      clear hw'
      go_wp2_with fail
      go_ret
      exact ⟨by simp, hX.trans hW⟩
end Go.Proofs.Ytfcnfeamfolkmaa
