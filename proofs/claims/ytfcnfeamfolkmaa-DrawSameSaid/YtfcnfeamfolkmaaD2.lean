/- Sources, of the program and of the reference, in the world. -/
import Derived.Test.YtfcnfeamfolkmaaD1
namespace Go.Proofs.Ytfcnfeamfolkmaa
open Go.RowKit
set_option linter.unusedSimpArgs false
set_option linter.unusedVariables false

def mark : Nat := 88172645463325252
def beg (s : Nat) : Nat := if s ^^^ mark = 0 then 1 else s ^^^ mark
theorem xor_zero {a b : Nat} : a ^^^ b = 0 ↔ a = b := by
  constructor
  · intro h
    have : (a ^^^ b) ^^^ b = b := by rw [h, Nat.zero_xor]
    rwa [Nat.xor_assoc, Nat.xor_self, Nat.xor_zero] at this
  · rintro rfl; exact Nat.xor_self _
theorem beg_lt {s : Nat} (h : s < two64) : beg s < two64 := by unfold beg; split; decide; exact xor_lt h (by decide)
theorem beg_ne (s : Nat) : beg s ≠ 0 := by unfold beg; split; decide; assumption
theorem beg_eq {s : Nat} (h : s = mark) : beg s = 1 := if_pos (xor_zero.2 h)
theorem beg_not {s : Nat} (h : s ≠ mark) : beg s = s ^^^ mark := if_neg (fun e => h (xor_zero.1 e))
/-- A state that is stirred until it has an upper bit. -/
def settle (n : Nat) : Nat := if n / 2 ^ 33 ≠ 0 then n else if stN n / 2 ^ 33 ≠ 0 then stN n else stN (stN n)
def rk (n : Nat) : Nat := if n / 2 ^ 33 ≠ 0 then 0 else if stN n / 2 ^ 33 ≠ 0 then 1 else 2
theorem settle_yes {n : Nat} (h : n / 2 ^ 33 ≠ 0) : settle n = n := if_pos h
theorem small_of {n : Nat} (h : n / 2 ^ 33 = 0) : n < 2 ^ 33 := by omega
theorem settle_no {n : Nat} (h : n / 2 ^ 33 = 0) (h0 : n ≠ 0) : settle (stN n) = settle n ∧ rk (stN n) < rk n := by
  by_cases h1 : stN n / 2 ^ 33 = 0
  · have h2 := st_up (small_of h) h0 h1
    simp [settle, rk, h, h1, h2]
  · simp [settle, rk, h, h1]
theorem settle_lt {n : Nat} (h : n < two64) : settle n < two64 := by
  unfold settle; split
  · exact h
  · split
    · exact stN_lt h
    · exact stN_lt (stN_lt h)
theorem settle_up {n : Nat} (h0 : n ≠ 0) : settle n / 2 ^ 33 ≠ 0 := by
  unfold settle
  split
  · assumption
  · rename_i h1
    split
    · assumption
    · rename_i h2
      exact st_up (by omega) h0 (by omega)
theorem rk_le (n : Nat) : rk n ≤ 2 := by unfold rk; split <;> (try split) <;> omega
/-- The next state of a source. -/
def nxt (n : Nat) : Nat := settle (stN n)
theorem nxt_lt {n : Nat} (h : n < two64) : nxt n < two64 := settle_lt (stN_lt h)
theorem nxt_up {n : Nat} (h : n < two64) (h0 : n ≠ 0) : nxt n / 2 ^ 33 ≠ 0 := settle_up (st_ne h h0)
theorem nxt_ne {n : Nat} (h : n < two64) (h0 : n ≠ 0) : nxt n ≠ 0 := fun e => nxt_up h h0 (by rw [e])
def hsh (n : Nat) : Nat := nxt n / 2 ^ 33
theorem hsh_lt {n : Nat} (h : n < two64) : hsh n < 2147483648 := by
  have := nxt_lt h
  unfold hsh two64 at *
  omega

def Src (w : World) (M : Nat) (st : Nat) (cnt : Int) : Prop := Blk w M #[.int .u64 (st : Int), .int .i64 cnt] 38
def RSrc (w : World) (M : Nat) (st : Nat) (cnt : Int) : Prop := Blk w M #[.int .u64 (st : Int), .int .i64 cnt] 29
theorem new_any (s : Nat) (w : World) (hs : s < two64) :
    Calls Try.prog 10 #[.int .u64 s] w fun e w' => ∃ M, e = .returned (.pointer (some ⟨M, 0, none⟩)) ∧ Src w' M (beg s) 0 ∧ w.heap.size ≤ M ∧ Ext w w' := by
  have E : bits .xor .u64 (s : Int) 88172645463325252 = ((s ^^^ mark : Nat) : Int) := xor_nat hs (b := mark) (by decide)
  have HB := hide (show beg s = if s ^^^ mark = 0 then 1 else s ^^^ mark from rfl)
  generalize s ^^^ mark = x at *
  by_cases h : x = 0
  · rw [if_pos h] at HB
    subst h
    go_enter Try.func10, Try.ntmps10
    go_wp2_with fail
    go_ret
    exact ⟨_, rfl, by rw [HB.out]; exact Blk.new _ _ _, Nat.le_refl _, Ext.alloc _ _⟩
  · rw [if_neg h] at HB
    go_enter Try.func10, Try.ntmps10
    go_wp2_with fail
    go_ret
    exact ⟨_, rfl, by rw [HB.out]; exact Blk.new _ _ _, Nat.le_refl _, Ext.alloc _ _⟩
/-- Of a world whose source has that state: how often it is still to be stirred. -/
def rkW (M : Nat) (w : World) : Nat := match w.cell? ⟨M, 0, none⟩ with
  | some (.int .u64 n) => rk n.toNat
  | _ => 0
theorem rkW_of {M : Nat} {w : World} {st : Nat} {c : Int} {t : TypeId} (h : Blk w M #[.int .u64 (st : Int), .int .i64 c] t) : rkW M w = rk st := by
  unfold rkW
  rw [h.cell 0]
  rfl
theorem up_int (n : Nat) : (n : Int) / 8589934592 = ((n / 2 ^ 33 : Nat) : Int) := by omega
theorem hash_int {n : Nat} (h : n < two64) : (n : Int) / 8589934592 % 4294967296 = ((n / 2 ^ 33 : Nat) : Int) := by
  rw [up_int]; unfold two64 at h; omega
theorem next_any (M : Nat) (st : Nat) (c : Int) (w : World) (hs : st < two64) (h0 : st ≠ 0) (h : Src w M st c) :
    Calls Try.prog 20 #[.pointer (some ⟨M, 0, none⟩)] w fun e w' => e = .returned (.int .u32 (hsh st : Int)) ∧ Src w' M (nxt st) c ∧ Chg [M] w w' := by
  have r := h.cell
  have f := h.free
  go_enter Try.func20, Try.ntmps20
  go_wp2_with fail
  refine (stir_any st _ hs).mono ?_
  rintro e w1 ⟨rfl, hb⟩
  have h1 := h.ext hb
  have r := h1.cell
  have f := h1.free
  have hs1 : Src _ M (stN st) c := h1.set 0 (.int .u64 (stN st : Int))
  have hc := (hb.chg [M]).set (p := ⟨M, 0, none⟩) (.inl (by simp)) (.int .u64 (stN st : Int))
  have hx := st_ne hs h0
  have hy := stN_lt hs
  go_wp2_with fail
  clear r f h1
  go_loopw [11] (fun _ wr => ∃ n : Nat, n < two64 ∧ n ≠ 0 ∧ settle n = nxt st ∧ Src wr M n c ∧ Chg [M] w wr) (fun _ wr => rkW M wr)
  case atStart => exact ⟨_, hy, hx, rfl, hs1, hc⟩
  case round =>
    clear hc hs1 hx hy hb
    obtain ⟨n, hn, hn0, hset, hS, hc⟩ := hrel
    have rw0 := rkW_of hS
    have r := hS.cell
    have f := hS.free
    by_cases hu : n / 2 ^ 33 = 0
    · have hd : (n : Int) / 8589934592 = 0 := by rw [up_int, hu]; rfl
      go_wp2_with fail
      refine (stir_any n _ hn).mono ?_
      rintro e w2 ⟨rfl, hb⟩
      have h1 := hS.ext hb
      have r := h1.cell
      have f := h1.free
      have hs1 : Src _ M (stN n) c := h1.set 0 (.int .u64 (stN n : Int))
      have hc := (hc.trans (hb.chg [M])).set (p := ⟨M, 0, none⟩) (.inl (by simp)) (.int .u64 (stN n : Int))
      obtain ⟨g1, g2⟩ := settle_no hu hn0
      go_wp2_with fail
      go_roundw
      case rel => exact ⟨_, stN_lt hn, st_ne hn hn0, g1.trans hset, hs1, hc⟩
      case measure => rw [rkW_of hs1, rw0]; exact g2
    · have hd : ¬ (n : Int) / 8589934592 = 0 := by rw [up_int]; omega
      have e : nxt st = n := by rw [← hset, settle_yes hu]
      have E := hide (hash_int hn)
      go_wp2_with fail
      go_ret
      exact ⟨by rw [show hsh st = n / 2 ^ 33 by unfold hsh; rw [e], ← E.out]; rfl, by rw [e]; exact hS, hc⟩
def upc (c : Int) : Int := if c < 2147483647 then c + 1 else c
theorem cnt_any (M : Nat) (st : Nat) (c : Int) (w : World) (hc0 : 0 ≤ c) (h : Src w M st c) :
    Calls Try.prog 19 #[.pointer (some ⟨M, 0, none⟩)] w fun e w' => e = .returned (.tuple #[]) ∧ Src w' M st (upc c) ∧ Chg [M] w w' := by
  have r := h.cell
  have f := h.free
  by_cases hlt : c < 2147483647
  · have e : Src _ M st (c + 1) := h.set 1 (.int .i64 (c + 1))
    have c1 := (Chg.refl [M] w).set (p := ⟨M, 1, none⟩) (.inl (by simp)) (.int .i64 (c + 1))
    have E := hide (show upc c = c + 1 from if_pos hlt)
    go_enter Try.func19, Try.ntmps19
    go_wp2
    go_end0
    exact ⟨rfl, by rw [E.out]; exact e, c1⟩
  · have E := hide (show upc c = c from if_neg hlt)
    go_enter Try.func19, Try.ntmps19
    go_wp2
    go_end0
    exact ⟨rfl, by rw [E.out]; exact h, Chg.refl _ _⟩
theorem state_any (M : Nat) (st : Nat) (c : Int) (w : World) (h : Src w M st c) :
    Calls Try.prog 12 #[.pointer (some ⟨M, 0, none⟩)] w fun e w' => e = .returned (.int .u64 (st : Int)) ∧ Ext w w' := by
  have r := h.cell
  go_enter Try.func12, Try.ntmps12
  go_wp2
  go_ret
  exact ⟨by simp, Ext.refl _⟩
theorem count_any (M : Nat) (st : Nat) (c : Int) (w : World) (h : Src w M st c) :
    Calls Try.prog 13 #[.pointer (some ⟨M, 0, none⟩)] w fun e w' => e = .returned (.int .i64 c) ∧ Ext w w' := by
  have r := h.cell
  go_enter Try.func13, Try.ntmps13
  go_wp2
  go_ret
  exact ⟨by simp, Ext.refl _⟩
theorem hash_any (M : Nat) (st : Nat) (c : Int) (w : World) (hs : st < two64) (h0 : st ≠ 0) (hc0 : 0 ≤ c) (h : Src w M st c) :
    Calls Try.prog 14 #[.pointer (some ⟨M, 0, none⟩)] w fun e w' => e = .returned (.int .u32 (hsh st : Int)) ∧ Src w' M (nxt st) (upc c) ∧ Chg [M] w w' := by
  have hz : ¬ (st : Int) = 0 := by omega
  go_enter Try.func14, Try.ntmps14
  go_wp2_with fail
  refine (state_any M st c _ h).mono ?_
  rintro e w1 ⟨rfl, hb⟩
  have h := h.ext hb
  go_wp2_with fail
  refine (cnt_any M st c _ hc0 h).mono ?_
  rintro e w2 ⟨rfl, h, hc⟩
  have hc := (hb.chg [M]).trans hc
  clear hb
  go_wp2_with fail
  refine (next_any M st _ _ hs h0 h).mono ?_
  rintro e w3 ⟨rfl, h, hd⟩
  have hc := hc.trans hd
  clear hd
  go_wp2_with fail
  go_ret
  exact ⟨by simp, h, hc⟩
theorem rnew_any (s : Nat) (w : World) (hs : s < two64) :
    Calls Try.prog 11 #[.int .u64 s] w fun e w' => e = .returned (.agg #[.int .u64 (beg s : Int), .int .i64 0]) ∧ Ext w w' := by
  by_cases h : s = mark
  · have B : ((beg s : Nat) : Int) = 1 := by rw [beg_eq h]; rfl
    have hs2 : (s : Int) = 88172645463325252 := by rw [h]; rfl
    clear h
    generalize ((beg s : Nat) : Int) = b at *
    subst B
    go_enter Try.func11, Try.ntmps11
    go_wp2_with fail
    refine bodyPost_ret (v := .agg #[.int .u64 1, .int .i64 0]) (by simp [results, Try.results11, go_sem, *]) rfl ⟨rfl, ?_⟩
    exact Ext.alloc _ _
  · have B : bits .xor .u64 (s : Int) 88172645463325252 = ((beg s : Nat) : Int) := by rw [beg_not h]; exact xor_nat hs (b := mark) (by decide)
    have hs2 : ¬ (s : Int) = 88172645463325252 := by unfold mark at h; omega
    generalize ((beg s : Nat) : Int) = b at *
    subst B
    go_enter Try.func11, Try.ntmps11
    go_wp2_with fail
    refine bodyPost_ret (v := .agg #[.int .u64 (bits .xor .u64 (s : Int) 88172645463325252), .int .i64 0]) (by simp [results, Try.results11, go_sem, *]) rfl ⟨rfl, ?_⟩
    exact Ext.alloc _ _
theorem rhash_int {n : Nat} (h : n < two64) : IntKind.u32.wrap (IntKind.u64.wrap ((n : Int) / 8589934592)) = ((n / 2 ^ 33 : Nat) : Int) := by
  rw [IntKind.wrap_u64, IntKind.wrap_u32', up_int]; unfold two64 at h; omega
set_option maxRecDepth 100000 in
theorem rhash_any (M : Nat) (st : Nat) (c : Int) (w : World) (hs : st < two64) (h0 : st ≠ 0) (hc0 : 0 ≤ c) (hc1 : c < 1000) (h : RSrc w M st c) :
    Calls Try.prog 15 #[.pointer (some ⟨M, 0, none⟩)] w fun e w' => e = .returned (.int .u32 (hsh st : Int)) ∧ RSrc w' M (nxt st) (c + 1) ∧ Chg [M] w w' := by
  go_enter Try.func15, Try.ntmps15
  go_wp2_with fail
  go_loopw [3] (fun i wr => ∃ (j n : Nat), i = .int .i64 j ∧ j + rk (stN n) ≤ 2 ∧ n < two64 ∧ n ≠ 0 ∧ nxt n = nxt st ∧ RSrc wr M n c ∧ Chg [M] w wr) (fun i _ => 10 - (intOf i).toNat)
  case atStart => exact ⟨0, st, rfl, by have := rk_le (stN st); omega, hs, h0, rfl, h, Chg.refl _ _⟩
  case round =>
    obtain ⟨j, n, rfl, hj, hn, hn0, hset, hS, hc⟩ := hrel
    have r := hS.cell
    have f := hS.free
    have hlt : (j : Int) < 1000 := by omega
    go_wp2_with fail
    refine (rstir_any n _ hn).mono ?_
    rintro e w2 ⟨rfl, hb⟩
    have h1 := hS.ext hb
    have r := h1.cell
    have f := h1.free
    have hs1 : RSrc _ M (stN n) c := h1.set 0 (.int .u64 (stN n : Int))
    have hc := (hc.trans (hb.chg [M])).set (p := ⟨M, 0, none⟩) (.inl (by simp)) (.int .u64 (stN n : Int))
    have E := hide (rhash_int (stN_lt hn))
    go_wp2_with fail
    clear r f hS h1 hb
    generalize w2.setCell ⟨M, 0, none⟩ (.int .u64 (stN n : Int)) = w3 at *
    have r := hs1.rule
    have hW := Ext.refl w3
    refine wp_region_ext (by kernel_rfl) (by kernel_rfl) ?_
    repeat
      with_reducible refine wpQuiet_step (fun K hK => ?_)
      go_simp
      first
      | (refine hK _ ?_; clear hK K)
      | (apply Exists.intro
         refine ⟨fun w1 h1 => ?_, hK _ ?_⟩
         (have hW := Ext.trans2 hW (by repeat (first | exact Ext.refl _ | exact Ext.alloc _ _ | exact Ext.drewN _ _ | assumption | refine Ext.trans ?_ (Ext.alloc _ _) | refine Ext.trans ?_ (Ext.drew _) | refine Ext.trans ?_ (by assumption))) h1; (try have hV := Ext.trans2 hV (by repeat (first | exact Ext.refl _ | exact Ext.alloc _ _ | exact Ext.drewN _ _ | assumption | refine Ext.trans ?_ (Ext.alloc _ _) | refine Ext.trans ?_ (Ext.drew _) | refine Ext.trans ?_ (by assumption))) h1); (first | rfl | (go_simp; done) | (go_simp; rfl) | (go_at_call 18; refine (power_c 33 33 8589934592 _ (by decide) rfl rfl).mono ?_; rintro e w2 ⟨rfl, hb⟩; exact ⟨rfl, h1.trans hb⟩)))
         clear hK K)
    refine wpQuiet_nil (fun w' hw' => ?_)
    have hW := Ext.trans2 hW (by repeat (first | exact Ext.refl _ | exact Ext.alloc _ _ | exact Ext.drewN _ _ | assumption | refine Ext.trans ?_ (Ext.alloc _ _) | refine Ext.trans ?_ (Ext.drew _) | refine Ext.trans ?_ (by assumption))) hw'
    try have hV := Ext.trans2 hV (by repeat (first | exact Ext.refl _ | exact Ext.alloc _ _ | exact Ext.drewN _ _ | assumption | refine Ext.trans ?_ (Ext.alloc _ _) | refine Ext.trans ?_ (Ext.drew _) | refine Ext.trans ?_ (by assumption))) hw'
    clear hw'
    rw [E.out]
    have hs1 := hs1.ext hW
    have hc := hc.trans (hW.chg [M])
    clear r hW
    have r := hs1.cell
    have f := hs1.free
    have hy := stN_lt hn
    have hx := st_ne hn hn0
    have hq : nxt n = settle (stN n) := rfl
    generalize stN n = m at *
    by_cases hu : m / 2 ^ 33 = 0
    · obtain ⟨g1, g2⟩ := settle_no hu hx
      rw [hu]
      go_wp2_with fail
      go_roundw
      case rel => exact ⟨j + 1, m, by go_num, by omega, hy, hx, g1.trans (hq.symm.trans hset), hs1, hc⟩
      case measure => simp [intOf]; omega
    · have e : nxt st = m := by rw [← hset, hq, settle_yes hu]
      have e2 : hsh st = m / 2 ^ 33 := by unfold hsh; rw [e]
      have E2 := hide e2
      have hd : ¬ ((m / 2 ^ 33 : Nat) : Int) = 0 := by omega
      have hz : RSrc _ M m (c + 1) := hs1.set 1 (.int .i64 (c + 1))
      have hc := hc.set (p := ⟨M, 1, none⟩) (.inl (by simp)) (.int .i64 (c + 1))
      generalize m / 2 ^ 33 = q at *
      have hmin : min (c + 1) 2147483647 = c + 1 := by omega
      go_wp2_with fail
      go_ret
      exact ⟨by rw [E2.out]; rfl, by rw [e]; exact hz, hc⟩
end Go.Proofs.Ytfcnfeamfolkmaa
