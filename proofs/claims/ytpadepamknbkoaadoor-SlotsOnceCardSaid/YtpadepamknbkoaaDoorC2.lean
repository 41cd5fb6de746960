/- The table behind a pointer, told by its slots: Free, New. -/
import Derived.Test.YtpadepamknbkoaaDoorC1
namespace Go.Proofs.YtpadepamknbkoaaDoor
open Go.RowKit
set_option linter.unusedSimpArgs false
set_option linter.unusedVariables false

/-- One in use is no one's now. -/
theorem mine_away {S : TS} (ok : Ok S) {k : Nat} {x : Pl} (hk : (S.p k).a = 1) (ok' : Ok (S.plus.set k x)) (hx : x.a ≠ 3) (t : Int) : (S.plus.set k x).mine t = S.mine t := by
  have hl := (ok.lt (i := k) (by omega)).2
  have ho : ∀ i, i ≠ k → (S.plus.set k x).p i = S.p i := fun i hi => TS.p_other S.plus x hi
  rw [mine_drop (S := S) (k := k) (TS.len_set S.plus k x) (Nat.le_succ _) (fun i hi => ?_) ho (by rw [TS.p_self S.plus x hl]; exact hx)]
  · exact filter_ne_self (fun q => by have := (ok.mem.1 q).2.1; omega)
  · by_cases e : i = k
    · subst e; rw [TS.p_self S.plus x hl] at hi; exact absurd hi hx
    · rw [ho i e] at hi ⊢; exact (ok.ow i hi).2.2.2
theorem mine_get {S : TS} (ok : Ok S) {k : Nat} {x : Pl} (hk : (S.p k).a = 1) (hx : x.a = 3) (hc : x.c = S.N + 1) (t : Int) : (S.plus.set k x).mine t = if x.t = t then S.mine t ++ [k] else S.mine t := by
  have hl := (ok.lt (i := k) (by omega)).2
  have hp : (S.plus.set k x).p k = x := TS.p_self S.plus x hl
  have := mine_add (S := S) (S' := S.plus.set k x) (t := t) (k := k) ok (TS.len_set S.plus k x) rfl hl (fun i hi => TS.p_other S.plus x hi) (by omega) (by rw [hp]; exact hx) (by rw [hp]; exact hc)
  rwa [hp] at this
section
variable {w w' : World} {B M : Nat} {S : TS}
theorem free_any (h : TabT w B M S) (ok : Ok S) (z y : Int) :
    Calls Tryd.prog 11 #[.pointer (some ⟨M, 0, none⟩), .int .i64 z, .int .i64 y] w fun e w' => e = .returned (.int .i64 (frE S z y)) ∧ TabT w' B M (frS S z y) ∧ Kp TP B w w' := by
  obtain ⟨vm, vo, h⟩ := h
  have hn : 0 < S.L.length := by have := ok.n0; omega
  by_cases hf : frOk S z y
  · have hf2 := hf
    obtain ⟨hz, hy, ha⟩ := hf2
    obtain ⟨t, rfl⟩ : ∃ t : Nat, z = (t : Int) := ⟨z.toNat, by omega⟩
    obtain ⟨k, rfl⟩ : ∃ k : Nat, y = (k : Int) := ⟨y.toNat, by omega⟩
    rw [Int.toNat_natCast] at ha
    have ht : t < 256 := by omega
    have hlt := ok.lt (i := k) (by omega)
    have hok := ok.fr (t : Int) (k : Int)
    rw [show frE S (t : Int) (k : Int) = 0 from if_pos hf]
    have e0 : frS S (t : Int) (k : Int) = S.plus.set k (frX S (t : Int) k) := by
      unfold frS; rw [if_pos hf, Int.toNat_natCast]
    rw [e0] at hok ⊢
    have hg := ok.g0 k
    have hx := made_at hlt.1
    by_cases h1 : (S.p k).g = 16777215
    · have hX : frX S (t : Int) k = ⟨4, t, S.N + 1, (S.p k).g⟩ := if_pos h1
      rw [hX] at hok ⊢
      refine (free_spent h hn ht hx (by rw [ha]; rfl) h1).mono ?_
      rintro e w' ⟨rfl, hm, hkp⟩
      refine ⟨rfl, ⟨vm, vo, ?_⟩, hkp⟩
      have e1 : (fun q : Nat => (S.plus.set k ⟨4, t, S.N + 1, (S.p k).g⟩).mine (q : Int)) = fun q : Nat => S.mine (q : Int) := by
        funext q; exact mine_away ok ha hok (by simp) q
      rw [TS.len_set, com_set S.plus _ hlt.2, made_set S.plus _ hlt.1 hlt.2, e1, show updB S.plus.com k ((4 : Int) == 2) = S.com from updB_self (by show S.com k = _; unfold TS.com; rw [ha]; rfl)]
      exact hm
    · by_cases h2 : (S.mine (t : Int)).length < S.b
      · have hX : frX S (t : Int) k = ⟨3, t, S.N + 1, (S.p k).g + 1⟩ := by unfold frX; rw [if_neg h1, if_pos h2]
        rw [hX] at hok ⊢
        refine (free_via h hn ht hx (by rw [ha]; rfl) hg.1 (by omega) (fun w' l' hm => put_own hm ht h2 ok.b1)).mono ?_
        rintro e w' ⟨vo', rfl, hm, hkp⟩
        refine ⟨rfl, ⟨vm, vo', ?_⟩, hkp⟩
        have e1 : (fun q : Nat => (S.plus.set k ⟨3, t, S.N + 1, (S.p k).g + 1⟩).mine (q : Int)) = updO (fun q : Nat => S.mine (q : Int)) t (S.mine (t : Int) ++ [k]) := by
          funext q
          rw [mine_get ok ha rfl rfl]
          unfold updO
          by_cases e : q = t
          · subst e; rw [if_pos rfl, if_pos rfl]
          · rw [if_neg e, if_neg (by show ¬ (t : Int) = (q : Int); omega)]
        rw [TS.len_set, com_set S.plus _ hlt.2, made_set S.plus _ hlt.1 hlt.2, e1, show updB S.plus.com k ((3 : Int) == 2) = S.com from updB_self (by show S.com k = _; unfold TS.com; rw [ha]; rfl)]
        exact hm
      · have hX : frX S (t : Int) k = ⟨2, t, S.N + 1, (S.p k).g + 1⟩ := by unfold frX; rw [if_neg h1, if_neg h2]
        rw [hX] at hok ⊢
        refine (free_via h hn ht hx (by rw [ha]; rfl) hg.1 (by omega) (fun w' l' hm => (put_com hm ht (by have := ok.n1; omega) h2 ok.b1).mono fun e w2 ⟨q1, q2, q3⟩ => ⟨vo, q1, q2, q3⟩)).mono ?_
        rintro e w' ⟨vo', rfl, hm, hkp⟩
        refine ⟨rfl, ⟨vm, vo', ?_⟩, hkp⟩
        have e1 : (fun q : Nat => (S.plus.set k ⟨2, t, S.N + 1, (S.p k).g + 1⟩).mine (q : Int)) = fun q : Nat => S.mine (q : Int) := by
          funext q; exact mine_away ok ha hok (by simp) q
        rw [TS.len_set, com_set S.plus _ hlt.2, made_set S.plus _ hlt.1 hlt.2, e1]
        exact hm
  · rw [show frE S z y = 1 from if_neg hf, show frS S z y = S from if_neg hf]
    refine (free_arg h hn ?_).mono ?_
    · by_cases hz : 0 ≤ z ∧ z < 256
      · right
        intro h1
        have hy : 0 ≤ y := by
          unfold stZ at h1
          by_cases q : 0 ≤ y
          · exact q
          · rw [if_neg q] at h1; omega
        have h2 := st_at (i := y.toNat) ok
        rw [Int.toNat_of_nonneg hy, h1] at h2
        exact hf ⟨hz, hy, stA_1.1 h2.symm⟩
      · exact .inl hz
    · rintro e w' ⟨rfl, hx⟩
      exact ⟨rfl, ⟨vm, vo, h.ext hx⟩, hx.kp _ _⟩
end
/-- A table without blocks. -/
def TS.new (n b : Nat) : TS := ⟨b, 0, 0, List.replicate n z0⟩
theorem new_p (n b i : Nat) : (TS.new n b).p i = z0 := by
  unfold TS.new TS.p
  rw [List.getD_eq_getElem?_getD, List.getElem?_replicate]
  split <;> rfl
theorem new_ok {n b : Nat} (h1 : 1 ≤ n) (h2 : n ≤ 4096) (h3 : 1 ≤ b) (h4 : b ≤ 64) : Ok (TS.new n b) := by
  have hl : (TS.new n b).L.length = n := by unfold TS.new; simp
  refine ⟨h3, h4, by rw [hl]; exact h1, by rw [hl]; exact h2, Nat.zero_le _, fun i hi => by rw [new_p]; decide, fun i hi => ?_, fun i => by rw [new_p]; decide, fun i hi => by rw [new_p]; rfl, fun i hi => ?_⟩
  · rw [new_p]
    exact ⟨fun _ => Nat.zero_le _, fun _ => rfl⟩
  · rw [new_p] at hi; exact absurd hi (by decide)
theorem new_mine {n b : Nat} (ok : Ok (TS.new n b)) (t : Int) : (TS.new n b).mine t = [] := by
  apply List.eq_nil_iff_forall_not_mem.2
  intro i hi
  have := (ok.mem.1 hi).2.1
  rw [new_p] at this
  exact absurd this (by decide)
theorem new_com (n b : Nat) : (TS.new n b).com = fun _ => false := by
  funext i; unfold TS.com; rw [new_p]; rfl
def zc (n b : Int) : Array Value := #[Value.int .i64 n, .int .i64 b, .slice none 0 0] ++ Array.replicate 256 (.slice none 0 0) ++ Array.replicate 64 (.int .u64 0)
theorem bl_z (n b : Int) (w : World) : (Instr.build 63 #[(0, .int .i64 n), (1, .int .i64 b)]).run Tryd.prog w = .ok (.agg (zc n b)) w := by kernel_rfl
theorem zv_t (w : World) : (zeroValue 63).run Tryd.prog w = .ok (.agg (zc 0 0)) w := by kernel_rfl
theorem bl_0 (w : World) : (Instr.build 63 #[]).run Tryd.prog w = .ok (.agg (zc 0 0)) w := by kernel_rfl
theorem wpList_build {P : Program} {w : World} {ops : Array Oper} {rest : List Oper} {o : Oper} {a : Act} {Q : Exit → Act → World → Prop} (hg : o.guard = none) (t : TypeId) (parts : Array (Nat × Operand)) (hop : o.op = Op.build t parts)
    {v : Value} (hr : (Instr.build t (parts.map fun x => (x.1, a.eval x.2))).run P w = .ok v w) (h : wpList P ops Q rest (a.put o.dst v) w) : wpList P ops Q (o :: rest) a w := by
  refine wpList_plain hg fun K hK => ?_
  unfold Oper.wp execOp
  simp only [hop, Sem.run_bind, Sem.run_pure, Result.andThen_ok, hr]
  exact hK _ _ h
theorem zc_cells (n b : Nat) : zc n b = tcells n b (.slice none 0 0) (fun _ => .slice none 0 0) (fun _ => false) := by
  have h : ∀ i, word (fun _ => false) i = 0 := fun i => word_zero.2 (fun _ _ => rfl)
  unfold tcells zc
  simp only [h]
  apply Array.ext'
  simp only [List.toList_toArray, Array.toList_append, Array.toList_replicate, List.map_const', List.length_range]
  rfl
theorem new_out (n b : Int) (w : World) (h : ¬ (1 ≤ n ∧ n ≤ 4096 ∧ 1 ≤ b ∧ b ≤ 64)) :
    Calls Tryd.prog 7 #[.int .i64 n, .int .i64 b] w fun e w' => e = .returned (.tuple #[.pointer none, .int .i64 1]) ∧ w = w' := by
  by_cases h0 : n < 1
  · go_enter Tryd.func7, Tryd.ntmps7
    go_wp2
    go_ret2
    exact ⟨by simp, rfl⟩
  · by_cases h1 : 4096 < n
    · go_enter Tryd.func7, Tryd.ntmps7
      go_wp2
      go_ret2
      exact ⟨by simp, rfl⟩
    · by_cases h2 : b < 1
      · go_enter Tryd.func7, Tryd.ntmps7
        go_wp2
        go_ret2
        exact ⟨by simp, rfl⟩
      · have h3 : 64 < b := by omega
        go_enter Tryd.func7, Tryd.ntmps7
        go_wp2
        go_ret2
        exact ⟨by simp, rfl⟩
set_option maxRecDepth 100000 in
theorem new_in (n b : Nat) (w : World) (hT : Tb w) (h1 : 1 ≤ n) (h2 : n ≤ 4096) (h3 : 1 ≤ b) (h4 : b ≤ 64) :
    Calls Tryd.prog 7 #[.int .i64 (n : Int), .int .i64 (b : Int)] w fun e w' => ∃ M, e = .returned (.tuple #[.pointer (some ⟨M, 0, none⟩), .int .i64 0]) ∧ TabT w' w.heap.size M (TS.new n b) ∧ Ext w w' := by
  have a1 : ¬ (n : Int) < 1 := by omega
  have a2 : ¬ (4096 : Int) < n := by omega
  have a3 : ¬ (b : Int) < 1 := by omega
  have a4 : ¬ (64 : Int) < b := by omega
  obtain ⟨zz, hz1, hz3, hz4, hz2⟩ : ∃ zz : Array Value, (∀ w, (zeroValue 63).run Tryd.prog w = .ok (.agg zz) w) ∧ ¬ zz = #[] ∧ ¬ zz.size < 2 ∧ zz = zc 0 0 := ⟨_, zv_t, by decide +kernel, by decide +kernel, rfl⟩
  have HZ := hide hz2
  clear hz2
  go_enter Tryd.func7, Tryd.ntmps7
  go_wp2_with fail
  go_ret2
  have ez : (zz.setIfInBounds 0 (Value.int .i64 (n : Int))).setIfInBounds 1 (Value.int .i64 (b : Int)) = tcells n b (.slice none 0 0) (fun _ => .slice none 0 0) (fun _ => false) := by
    rw [HZ.out, ← zc_cells]
    unfold zc
    apply Array.ext'
    simp
  rw [ez]
  have hX := Ext.alloc w (.cells (tcells n b (.slice none 0 0) (fun _ => .slice none 0 0) (fun _ => false)) 63)
  have hl : (TS.new n b).L.length = n := by unfold TS.new; simp
  refine ⟨w.heap.size, rfl, ⟨.slice none 0 0, fun _ => .slice none 0 0, ?_⟩, hX⟩
  have e1 : (fun q : Nat => (TS.new n b).mine (q : Int)) = fun _ => [] := by
    funext q; exact new_mine (new_ok h1 h2 h3 h4) q
  rw [hl, new_com, e1, show (TS.new n b).made = [] from rfl]
  exact ⟨Nat.le_refl _, hT.1, hT.ext hX, Blk.new w _ _, own_nil _ _ _ _, fun t _ => own_nil _ _ _ _, fun s t k _ _ hk => by cases hk⟩
end Go.Proofs.YtpadepamknbkoaaDoor
