/- The common ones' words: add, drop, least; the library's count of trailing zeros. -/
import Derived.Test.YtpadepamknbkoaaDoorB1
import Derived.BigRegion
namespace Go.Proofs.YtpadepamknbkoaaDoor
open Go.RowKit
set_option linter.unusedSimpArgs false
set_option linter.unusedVariables false


theorem tz_core (x k idx : Nat) (w : World) (hx0 : ((x : Int) == 0) = false)
    (key : IntKind.u64.wrap (bits BinOp.and IntKind.u64 (x : Int) (IntKind.u64.wrap (-(x : Int))) * 285870213051353865) / 288230376151711744 = (idx : Int))
    (hi : idx < 64) (hk : k < 64) (hcell : w.cell? ⟨0, idx, none⟩ = some (.int .u8 k)) :
    Calls Tryd.prog 40 #[.int .u64 (x : Int)] w fun e w' => e = .returned (.int .i64 k) ∧ w = w' := by
  go_enter Tryd.func40, Tryd.ntmps40
  go_wp2_with (simp only [key])
  go_ret
  exact ⟨rfl, rfl⟩
theorem tz_any (x : Nat) (hx : x < 18446744073709551616) (hx0 : x ≠ 0) (w : World) (hT : Tb w) :
    Calls Tryd.prog 40 #[.int .u64 (x : Int)] w fun e w' => e = .returned (.int .i64 (Lib.ctz 64 x)) ∧ w = w' := by
  obtain ⟨hlow, hk⟩ := Lib.lowest_bit 64 x hx0 hx
  obtain ⟨hi, htab⟩ := Lib.deBruijn64_at _ hk
  have hcell := hT.2 _ hi
  rw [htab] at hcell
  exact tz_core x _ _ w (by simp; omega) (tz64_key x _ hx hx0 hlow) hi hk hcell

theorem two_wrap (k : Nat) : IntKind.u64.wrap (2 ^ (k % 64) : Int) = ((2 ^ (k % 64) : Nat) : Int) := by
  have h1 : 2 ^ (k % 64) < 2 ^ 64 := Nat.pow_lt_pow_right (by omega) (by omega)
  have h2 : ((2 ^ (k % 64) : Nat) : Int) = (2 : Int) ^ (k % 64) := by push_cast; rfl
  rw [← h2, IntKind.wrap_u64]
  generalize 2 ^ (k % 64) = a at *
  omega
theorem or_val (c : Nat → Bool) (k : Nat) : bits .or .u64 (word c (k / 64) : Int) (IntKind.u64.wrap (2 ^ (k % 64) : Int)) = (word (updB c k true) (k / 64) : Int) := by
  have h1 : 2 ^ (k % 64) < 2 ^ 64 := Nat.pow_lt_pow_right (by omega) (by omega)
  rw [two_wrap, bits_or_u64_nat _ _ (word_lt c _) h1, word_add]
theorem no_val (c : Nat → Bool) (k : Nat) : bits .andNot .u64 (word c (k / 64) : Int) (IntKind.u64.wrap (2 ^ (k % 64) : Int)) = (word (updB c k false) (k / 64) : Int) := by
  have h1 : 2 ^ (k % 64) < 2 ^ 64 := Nat.pow_lt_pow_right (by omega) (by omega)
  rw [two_wrap, u64_andNot_nat _ _ (word_lt c _) h1, word_drop]
section
variable {w : World} {M n b : Nat} {vm : Value} {vo : Nat → Value} {c : Nat → Bool}
theorem add_any {k : Nat} (h : Blk w M (tcells n b vm vo c) 63) (hk : k < 4096) :
    Calls Tryd.prog 29 #[.pointer (some ⟨M, 259, none⟩), .int .i64 (k : Int)] w fun e w' => e = .returned (.tuple #[]) ∧ Blk w' M (tcells n b vm vo (updB c k true)) 63 ∧ Chg [M] w w' := by
  have c1 := (h.cell (259 + k / 64)).trans (tc_word (by omega))
  have f1 := h.free (259 + k / 64)
  have hW := Ext.refl w
  go_enter Tryd.func29, Tryd.ntmps29
  go_wp2_with fail
  go_region
  go_wp2
  go_end0
  rw [or_val]
  have h2 := h.set (259 + k / 64) (.int .u64 (word (updB c k true) (k / 64) : Int))
  rw [tc_setw hk] at h2
  exact ⟨rfl, h2.ext (Ext.drew _), ((Chg.refl [M] w).set (p := ⟨M, 259 + k / 64, none⟩) (.inl (by simp)) _).trans (Chg.drew _ _)⟩
theorem drop_any {k : Nat} (h : Blk w M (tcells n b vm vo c) 63) (hk : k < 4096) :
    Calls Tryd.prog 38 #[.pointer (some ⟨M, 259, none⟩), .int .i64 (k : Int)] w fun e w' => e = .returned (.tuple #[]) ∧ Blk w' M (tcells n b vm vo (updB c k false)) 63 ∧ Chg [M] w w' := by
  have c1 := (h.cell (259 + k / 64)).trans (tc_word (by omega))
  have f1 := h.free (259 + k / 64)
  go_enter Tryd.func38, Tryd.ntmps38
  go_wp2_with fail
  go_region
  go_wp2
  go_end0
  rw [no_val]
  have h2 := h.set (259 + k / 64) (.int .u64 (word (updB c k false) (k / 64) : Int))
  rw [tc_setw hk] at h2
  exact ⟨rfl, h2.ext (Ext.drew _), ((Chg.refl [M] w).set (p := ⟨M, 259 + k / 64, none⟩) (.inl (by simp)) _).trans (Chg.drew _ _)⟩

/-- Not one of the first words has a bit. -/
theorem word_no {c : Nat → Bool} {i : Nat} (h : ∀ j, j < 64 * i → c j = false) (h0 : word c i = 0) : ∀ j, j < 64 * (i + 1) → c j = false := by
  intro j hj
  by_cases q : j < 64 * i
  · exact h j q
  · have := word_zero.1 h0 (j - 64 * i) (by omega)
    rwa [show 64 * i + (j - 64 * i) = j by omega] at this
theorem ctz_bit {c : Nat → Bool} {i : Nat} (h0 : word c i ≠ 0) : Lib.ctz 64 (word c i) < 64 ∧ c (64 * i + Lib.ctz 64 (word c i)) = true ∧ ∀ j, j < Lib.ctz 64 (word c i) → c (64 * i + j) = false := by
  have hx := word_lt c i
  obtain ⟨m, hm, hk⟩ := Lib.ctzFrom_spec 64 (word c i) (by omega) hx
  have e : Lib.ctz 64 (word c i) = Lib.ctzFrom 64 (word c i) := by unfold Lib.ctz; rw [if_neg h0]
  rw [e]
  have hb : ∀ j, j < 64 → (word c i).testBit j = c (64 * i + j) := fun j hj => by unfold word; rw [wd_bit]; simp [hj]
  refine ⟨hk, ?_, fun j hj => ?_⟩
  · rw [← hb _ hk]
    generalize Lib.ctzFrom 64 (word c i) = t at *
    rw [hm, Nat.testBit_two_pow_mul]
    simp [Nat.testBit_zero]
  · rw [← hb _ (by omega)]
    generalize Lib.ctzFrom 64 (word c i) = t at *
    rw [hm, Nat.testBit_two_pow_mul]
    simp; omega
/-- The least one. -/
def IsL (c : Nat → Bool) (k : Nat) : Prop := k < 4096 ∧ c k = true ∧ ∀ j, j < k → c j = false
def leA (c : Nat → Bool) (v : Int) (o : Bool) : Prop := (o = true ∧ ∃ k : Nat, v = (k : Int) ∧ IsL c k) ∨ (o = false ∧ v = 0 ∧ ∀ j, j < 4096 → c j = false)
theorem least_any (h : Blk w M (tcells n b vm vo c) 63) (hT : Tb w) :
    Calls Tryd.prog 37 #[.pointer (some ⟨M, 259, none⟩)] w fun e w' => ∃ v o, e = .returned (.tuple #[.int .i64 v, .bool o]) ∧ leA c v o ∧ Ext w w' := by
  have hW := Ext.refl w
  have H := hide h
  have HT := hide hT
  clear h hT
  go_enter Tryd.func37, Tryd.ntmps37
  go_wp2_with fail
  clear hW
  go_loopw [7] (fun i wr => ∃ (t : Nat), t ≤ 64 ∧ i = .int .i64 t ∧ Ext w wr ∧ ∀ j, j < 64 * t → c j = false) (fun i _ => 64 - (intOf i).toNat)
  case atStart => exact ⟨0, by omega, rfl, Ext.refl w, fun j hj => by omega⟩
  case round =>
    obtain ⟨t, ht, rfl, hW, hz⟩ := hrel
    have HZ := hide hz
    clear hz
    by_cases hlt : t < 64
    · have c1 := fun w' (x : Ext w w') => (((H.out).ext x).cell (259 + t)).trans (tc_word hlt)
      by_cases h0 : word c t = 0
      · have E0 : ((word c t : Int) != 0) = false := by simp [h0]
        have N := hide (word_no HZ.out h0)
        go_wp2_with fail
        refine wp_region_ext (by kernel_rfl) (by kernel_rfl) ?_
        repeat
          with_reducible refine wpQuiet_step (fun K hK => ?_)
          go_simp
          first
          | (refine hK _ ?_; clear hK K)
          | (apply Exists.intro
             refine ⟨fun w1 h1 => ?_, hK _ ?_⟩
             (have hW := Ext.trans2 hW (by repeat (first | exact Ext.refl _ | exact Ext.alloc _ _ | exact Ext.drewN _ _ | assumption | refine Ext.trans ?_ (Ext.alloc _ _) | refine Ext.trans ?_ (Ext.drew _) | refine Ext.trans ?_ (by assumption))) h1; (try have hV := Ext.trans2 hV (by repeat (first | exact Ext.refl _ | exact Ext.alloc _ _ | exact Ext.drewN _ _ | assumption | refine Ext.trans ?_ (Ext.alloc _ _) | refine Ext.trans ?_ (Ext.drew _) | refine Ext.trans ?_ (by assumption))) h1); (first | rfl | (go_simp; done) | (go_simp; rfl) | fail))
             clear hK K)
        refine wpQuiet_nil (fun w' hw' => ?_)
        have hW := Ext.trans2 hW (by repeat (first | exact Ext.refl _ | exact Ext.alloc _ _ | exact Ext.drewN _ _ | assumption | refine Ext.trans ?_ (Ext.alloc _ _) | refine Ext.trans ?_ (Ext.drew _) | refine Ext.trans ?_ (by assumption))) hw'
        try have hV := Ext.trans2 hV (by repeat (first | exact Ext.refl _ | exact Ext.alloc _ _ | exact Ext.drewN _ _ | assumption | refine Ext.trans ?_ (Ext.alloc _ _) | refine Ext.trans ?_ (Ext.drew _) | refine Ext.trans ?_ (by assumption))) hw'
        clear hw'
        go_wp2_with fail
        go_roundw
        case rel => exact ⟨t + 1, by omega, by go_num, hW, N.out⟩
        case measure => simp [intOf]; omega
      · have E0 : ((word c t : Int) != 0) = true := by simp [h0]
        obtain ⟨k1, k2, k3⟩ := ctz_bit h0
        have HZ2 := HZ.out
        have F := hide (show IsL c (64 * t + Lib.ctz 64 (word c t)) from ⟨by omega, k2, fun j hj => by
          by_cases q : j < 64 * t
          · exact HZ2 j q
          · have := k3 (j - 64 * t) (by omega)
            rwa [show 64 * t + (j - 64 * t) = j by omega] at this⟩)
        have Z := tz_any (word c t) (word_lt c t) h0
        clear k2 k3 HZ2
        generalize Lib.ctz 64 (word c t) = q at *
        go_wp2_with fail
        refine wp_region_ext (by kernel_rfl) (by kernel_rfl) ?_
        repeat
          with_reducible refine wpQuiet_step (fun K hK => ?_)
          go_simp
          first
          | (refine hK _ ?_; clear hK K)
          | (apply Exists.intro
             refine ⟨fun w1 h1 => ?_, hK _ ?_⟩
             (have hW := Ext.trans2 hW (by repeat (first | exact Ext.refl _ | exact Ext.alloc _ _ | exact Ext.drewN _ _ | assumption | refine Ext.trans ?_ (Ext.alloc _ _) | refine Ext.trans ?_ (Ext.drew _) | refine Ext.trans ?_ (by assumption))) h1; (try have hV := Ext.trans2 hV (by repeat (first | exact Ext.refl _ | exact Ext.alloc _ _ | exact Ext.drewN _ _ | assumption | refine Ext.trans ?_ (Ext.alloc _ _) | refine Ext.trans ?_ (Ext.drew _) | refine Ext.trans ?_ (by assumption))) h1); (first | rfl | (go_simp; done) | (go_simp; rfl) | fail))
             clear hK K)
        refine wpQuiet_nil (fun w' hw' => ?_)
        have hW := Ext.trans2 hW (by repeat (first | exact Ext.refl _ | exact Ext.alloc _ _ | exact Ext.drewN _ _ | assumption | refine Ext.trans ?_ (Ext.alloc _ _) | refine Ext.trans ?_ (Ext.drew _) | refine Ext.trans ?_ (by assumption))) hw'
        try have hV := Ext.trans2 hV (by repeat (first | exact Ext.refl _ | exact Ext.alloc _ _ | exact Ext.drewN _ _ | assumption | refine Ext.trans ?_ (Ext.alloc _ _) | refine Ext.trans ?_ (Ext.drew _) | refine Ext.trans ?_ (by assumption))) hw'
        clear hw'
        go_wp2_with fail
        refine (Z _ (HT.out.ext hW)).mono ?_
        rintro e w1 ⟨rfl, rfl⟩
        go_wp2_with fail
        go_ret2
        exact ⟨_, _, rfl, .inl ⟨rfl, _, by omega, F.out⟩, hW⟩
    · obtain rfl : t = 64 := by omega
      have hf := HZ.out
      clear HZ
      go_wp2_with fail
      go_ret2
      exact ⟨_, _, rfl, .inr ⟨rfl, rfl, fun j hj => hf j (by omega)⟩, hW⟩
end
end Go.Proofs.YtpadepamknbkoaaDoor
