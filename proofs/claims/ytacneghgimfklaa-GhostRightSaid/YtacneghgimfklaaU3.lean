/-
  A law of layer 15 holds of every input: GhostRight. No condition.
-/
import Derived.Test.YtacneghgimfklaaV1
import Derived.Test.YtacneghgimfklaaK2
import Derived.Test.YtacneghgimfklaaK4
namespace Go.Proofs.Ytacneghgimfklaa
open Go.ChangeShapes Go.WideShapes Go.ChangeAt Go.RowKit Go.Deep Go.Joins
set_option linter.unusedVariables false
set_option linter.unusedSimpArgs false
set_option maxRecDepth 100000
set_option maxHeartbeats 16000000




theorem uall_ec (x : Ent) : ∀ u ∈ (ec x).toList, u.oneCell' = true := by simp [ec, Value.oneCell']
/-- The first entries, as a list. -/
def elF (f : Nat → Ent) (j : Nat) : List Ent := (List.range j).map f
theorem elF_len (f : Nat → Ent) (j : Nat) : (elF f j).length = j := by simp [elF]
theorem elF_succ (f : Nat → Ent) (j : Nat) : elF f (j + 1) = elF f j ++ [f j] := by simp [elF, List.range_succ]
theorem elF_at (f : Nat → Ent) {j k : Nat} (h : k < (elF f j).length) : (elF f j)[k] = f k := by simp [elF]
/-- The rows that a slice of the call's own reads as. -/
theorem rgs_own {w : World} {B n c : Nat} {A : Option Addr} {f : Nat → Ent} (h : w.ownsRow B 36 13 (.slice A n c) n (ecl (elF f n))) : RgS w A n f := by
  intro k hk
  have h' : w.ownsRow B 36 13 (.slice A (elF f n).length c) (elF f n).length (ecl (elF f n)) := by rw [elF_len]; exact h
  rcases h'.2 with ⟨h1, h0⟩ | ⟨g, cap, cur, h1, hb, hh, h3, h4, h5, h6⟩
  · rw [elF_len] at h0; omega
  · simp only [Value.slice.injEq] at h1
    obtain ⟨rfl, _, _⟩ := h1
    refine ⟨g, 0, rfl, (Array.getElem?_eq_some_iff.1 hh).1, fun j v hv => ?_⟩
    have hj : j < 13 := (List.getElem?_eq_some_iff.1 hv).1
    have hk' : k < (elF f n).length := by rw [elF_len]; exact hk
    have e : (cur.toList.take ((elF f n).length * 13))[k * 13 + j]? = (ecl (elF f n))[k * 13 + j]? := by rw [h6]
    have : k * 13 + j < (elF f n).length * 13 := by rw [elF_len]; omega
    rw [List.getElem?_take_of_lt this, ecl_at _ hk' hj, Array.getElem?_toList, elF_at] at e
    rw [Nat.zero_add, cell_of_row w g _ cur 36 (0, 0) hh, e, ← hv, Array.getElem?_toList]
theorem RgS.cut {w : World} {A : Option Addr} {n k : Nat} {f : Nat → Ent} (h : RgS w A n f) (hk : k ≤ n) : RgS w A k f := fun i hi => h i (by omega)
theorem RgS.ext {w w' : World} {A : Option Addr} {n : Nat} {f : Nat → Ent} (h : RgS w A n f) (x : Ext w w') : RgS w' A n f := fun k hk => by
  obtain ⟨b, off, ha, hb, hc⟩ := h k hk
  exact ⟨b, off, ha, Nat.lt_of_lt_of_le hb x.size, fun j v hv => (x.oldCell _ _ hb).trans (hc j v hv)⟩
theorem Stps.rgs {w : World} {A : Option Addr} {n : Nat} {f : Nat → Ent} (h : Stps w w.heap.size A n f) : RgS w A n f := fun k hk => by
  obtain ⟨b, off, ha, hb, hr⟩ := h.rng hk
  exact ⟨b, off, ha, hb, hr⟩
/-- The first ones of those that are right are right. -/
theorem cnt_cut {S0 : St} {f : Nat → Ent} {n k : Nat} (h : k ≤ cntR S0 f n) : cntR S0 f k = k := cnt_eq (fun i hi => cnt_ok (n := n) (by omega)) (Nat.le_refl _) (fun h => absurd h (by omega))
theorem wpList_aput {ops : Array Oper} {rest : List Oper} {o : Oper} {a : Act} {w : World} {Q : Exit → Act → World → Prop} (hgd : o.guard = none) (x y : Operand) (ho : o.op = .store 51 x y)
    (b : Nat) (D : Nat → Dg) (sl : Nat → Value) (hsl : ∀ t, (sl t).oneCell' = true) (hx : a.eval x = .pointer (some ⟨b, 0, none⟩)) (hy : a.eval y = .agg (atc D sl)) (old : Array Value) (hb : Blk w b old 51) (hs : old.size = 48)
    (h : ∀ w', Blk w' b (atc D sl) 51 → Chg [b] w w' → wpList Try.prog ops Q rest (a.put o.dst undef) w') : wpList Try.prog ops Q (o :: rest) a w :=
  wpList_store_row hgd 51 x y ho b (atc D sl) hx hy 51 old hb (by rw [atc_size]; exact inf_a) (by rw [hs, atc_size]) (all_atc hsl) (h _ (setRow_heap w b old _ _ _ hb) (Chg.row hb))
/-- The law, whatever the two Rights count. -/
theorem lright_gen (a b c z : Int) (hz : 0 ≤ z ∧ z ≤ 255) (A : Option Addr) (n cc cn : Nat) (f : Nat → Ent) (w : World) (hn : n ≤ cc) (hc' : cc ≤ maxLen) (hs : RgS w A n f) (hcn : cn ≤ min n 120)
    (HG1 : ∀ (w' : World) A7 c7, RgS w' A7 (min n 120) f → Calls Try.prog 8 #[.int .i64 a, .int .i64 b, .int .i64 c, .slice A7 (min n 120) c7] w' fun e w'' => e = .returned (.tuple #[.int .i64 (cn : Int), .bool (decide (cn = min n 120))]) ∧ Ext w' w'')
    (HG2 : ∀ (w' : World) A7 c7 k, k ≤ cn → RgS w' A7 k f → Calls Try.prog 8 #[.int .i64 a, .int .i64 b, .int .i64 c, .slice A7 k c7] w' fun e w'' => e = .returned (.tuple #[.int .i64 (k : Int), .bool true]) ∧ Ext w' w'')
    (HRR : ∀ (w' : World), RgS w' A (min n 120) f → Calls Try.prog 9 #[.int .i64 a, .int .i64 b, .int .i64 c, .slice A (min n 120) cc] w' fun e w'' => (∃ S' D' sl', (∀ t, (sl' t).oneCell' = true) ∧ e = .returned (.tuple #[.int .i64 (cn : Int), .agg (rc S'), .agg (atc D' sl')])) ∧ Ext w' w'') :
    Calls Try.prog 3 #[.agg #[Value.int .i64 a, .int .i64 b, .int .i64 c], .slice A n cc, .int .u8 z] w fun e w' => e = .returned (.bool true) ∧ Ext w w' := by
  have HS := hide hs
  clear hs
  obtain ⟨ti, hi, hzz, hsize, hby⟩ := info_parts inf_ge
  have r0 := (Blk.new w #[Value.int .i64 a, .int .i64 b, .int .i64 c] 22).cell
  have hx0 := Ext.alloc w (.cells #[Value.int .i64 a, .int .i64 b, .int .i64 c] 22)
  have HA0 := hide (Blk.new w #[Value.int .i64 a, .int .i64 b, .int .i64 c] 22)
  go_enter Try.func3, Try.ntmps3
  go_wp2_with fail
  refine (short_any A n cc _ hn hc').mono ?_
  rintro e w2 ⟨rfl, rfl⟩
  have HX := hide hx0
  clear hx0 r0
  have bsz : w.heap.size < (w.alloc (.cells #[Value.int .i64 a, .int .i64 b, .int .i64 c] 22)).heap.size := by simp
  generalize w.alloc (.cells #[Value.int .i64 a, .int .i64 b, .int .i64 c] 22) = W0 at *
  have hm : min n 120 ≤ n ∧ min n 120 ≤ 120 := by omega
  generalize min n 120 = m at *
  go_wp2_with fail
  go_loopw [7, 22] (fun x i wr => ∃ (j : Nat) (A7 : Option Addr) (c7 : Nat), j ≤ m ∧ x = .slice A7 j c7 ∧ i = .int .i64 (j : Int) ∧ wr.ownsRow W0.heap.size 36 13 (.slice A7 j c7) j (ecl (elF f j)) ∧ Ext W0 wr) (fun _ i _ => m - (intOf i).toNat)
  case atStart => exact ⟨0, none, 0, by omega, rfl, rfl, own_nil _ _ _ _, Ext.refl _⟩
  case round =>
    obtain ⟨j, A7, c7, hj, rfl, rfl, ho, hX⟩ := hrel
    by_cases hlt : j < m
    · obtain ⟨b1, off, rfl, hrg⟩ := (HS.out.ext (HX.out.trans hX)).at_ (Ext.refl _) (show j < n by omega)
      have RG := hide hrg
      have hx := Ext.alloc wr (.cells (ec (f j)) 31)
      have RG2 := hide (kblk_rng (Blk.new wr (ec (f j)) 31))
      have HO := hide (own_ext ho hx)
      have HXr := hide (hX.trans hx)
      have es := elF_succ f j
      have ES := hide es
      clear hrg ho hX hx es
      generalize hfx : f j = x at *
      go_wp2_with (first | (with_reducible refine wpList_load_mid rfl 31 _ rfl b1 (off + j * 13) rfl (ec x).toList _ RG.out Try.underlying31 rfl (kinf_r _) ?_; rw [Array.toArray_toList]; go_frame) | (with_reducible refine wpList_newr rfl _ _ rfl x rfl rfl ?_; go_frame) | (with_reducible refine wpList_load_mid rfl 31 _ rfl wr.heap.size 0 rfl (ec x).toList _ RG2.out Try.underlying31 rfl (kinf_r _) ?_; rw [Array.toArray_toList]; go_frame))
      refine (theirs_any x _).mono ?_
      rintro e w3 ⟨rfl, hx3⟩
      have HO := hide (own_ext (own_ext HO.out hx3) (Ext.alloc w3 (.cells (ec x) 36)))
      have HXr := hide ((HXr.out.trans hx3).trans (Ext.alloc w3 (.cells (ec x) 36)))
      have HN := hide (Blk.new w3 (ec x) 36)
      clear hx3 RG RG2
      go_wp2_with (first
        | (refine wpList_plain rfl (fun K hK => wp_build1 x _ rfl rfl (hK _ _ ?_)); go_frame)
        | (refine wpList_append_own (w3.alloc (.cells (ec x) 36)) rfl _ _ 25 rfl W0.heap.size 36 ti _ 13 104 Try.underlying25 hi hzz hsize hby rfl (by omega) (.slice A7 j c7) j (ecl (elF f j)) rfl HO.out ⟨w3.heap.size, 0, none⟩ 1 1 (ec x).toList rfl rfl (fun i u hu => by rw [Addr.add_mid, Nat.zero_add, HN.out.cell, ← hu, Array.getElem?_toList]) (uall_ec x) (by unfold maxLen; omega) (by omega) HXr.out.size ?_; intro v' w' ho' hg' _; obtain ⟨A8, c8, rfl⟩ := own_sl ho'; have HO8 := hide ho'; have HG8 := hide hg'; clear ho' hg'; go_frame))
      go_roundw
      case rel =>
        refine ⟨j + 1, A8, c8, by omega, rfl, by go_num, ?_, Ext.grown HXr.out HG8.out (own_row HO.out)⟩
        rw [ES.out, ecl_app, ecl_one]; exact HO8.out
      case measure => simp [intOf]; omega
    · obtain rfl : j = m := by omega
      have xw := HX.out.trans hX
      have s0 := ((HA0.out.ext hX).cell 0)
      have s1 := ((HA0.out.ext hX).cell 1)
      have s2 := ((HA0.out.ext hX).cell 2)
      simp only [List.getElem?_toArray, List.getElem?_cons_zero, List.getElem?_cons_succ] at s0 s1 s2
      have HR7 := hide (rgs_own ho)
      have JC := hide (show j ≤ c7 by
        rcases ho.2 with ⟨h1, h0⟩ | ⟨g, cap, cur, h1, hb, hh, h3, h4, h5, h6⟩
        · simp only [Value.slice.injEq] at h1; omega
        · simp only [Value.slice.injEq] at h1; omega)
      have HSA := hide (HS.out.ext xw)
      have HA := hide (HA0.out.ext hX)
      have HXw := hide xw
      obtain ⟨zz, hz1, hz2, hz3, hz4, -⟩ : ∃ zz : Array Value, (∀ w, (zeroValue 47).run Try.prog w = .ok (.agg zz) w) ∧ ¬ zz = #[] ∧ ¬ zz.size < 2 ∧ zz.size = 227 ∧ zz = zr := ⟨_, fun w => by kernel_rfl, by decide +kernel, by decide +kernel, by decide +kernel, rfl⟩
      have HZ := hide hz4
      obtain ⟨za, ha1, ha2, ha3, ha4, -⟩ : ∃ za : Array Value, (∀ w, (zeroValue 51).run Try.prog w = .ok (.agg za) w) ∧ ¬ za = #[] ∧ ¬ za.size < 2 ∧ za.size = 48 ∧ za = atc D0 (fun _ => .slice none 0 0) := ⟨_, zero_a, by decide +kernel, by decide +kernel, by decide +kernel, rfl⟩
      have HAZ := hide ha4
      clear hz4 ha4 ho hX xw
      go_wp2_with fail
      refine (HG1 _ A7 c7 HR7.out).mono ?_
      rintro e w3 ⟨rfl, hx3⟩
      have HA := hide (HA.out.ext hx3)
      have HSA := hide (HSA.out.ext hx3)
      have HR7 := hide (HR7.out.ext hx3)
      have HXw := hide (HXw.out.trans hx3)
      have s0 := HA.out.cell 0
      have s1 := HA.out.cell 1
      have s2 := HA.out.cell 2
      simp only [List.getElem?_toArray, List.getElem?_cons_zero, List.getElem?_cons_succ] at s0 s1 s2
      clear hx3
      go_wp2_with fail
      refine (HRR _ (HSA.out.cut (by omega))).mono ?_
      rintro e w4 ⟨⟨S', D', sl', hsl, rfl⟩, hx4⟩
      have HA := hide (HA.out.ext hx4)
      have HR7 := hide (HR7.out.ext hx4)
      have HXw := hide (HXw.out.trans hx4)
      clear hx4 s0 s1 s2
      go_upto_region 10 with (first
        | (refine wpList_put rfl _ _ rfl w4.heap.size S' rfl rfl zz ((Blk.new w4 zz 47).ext (Ext.alloc _ _)) HZ.out ?_; intro w5 hb5 hc5 hs5; have bz5 := hide ((show Blk ((w4.alloc (.cells zz 47)).alloc (.cells za 51)) (w4.heap.size + 1) za 51 from by have := Blk.new (w4.alloc (.cells zz 47)) za 51; rwa [World.size_alloc] at this).chg hc5 (by simp)); go_frame)
        | (refine wpList_aput rfl _ _ rfl (w4.heap.size + 1) D' sl' hsl rfl rfl za bz5.out HAZ.out ?_; intro w6 hb6 hc6; go_frame))
      have x46 := ((((Ext.alloc w4 (.cells zz 47)).trans (Ext.alloc _ (.cells za 51))).turn hc5 (by simp)).turn hc6 (by simp))
      have HA := hide (HA.out.ext x46)
      have HR7 := hide (HR7.out.ext x46)
      have HXw := hide (HXw.out.trans x46)
      clear x46 hb5 hc5 hs5 bz5 hb6 hc6 hz1 hz2 hz3 ha1 ha2 ha3
      obtain ⟨kk, hkk⟩ : ∃ kk : Nat, kk = (z % ((cn : Int) + 1)).toNat := ⟨_, rfl⟩
      have hk0 : 0 ≤ z % ((cn : Int) + 1) := Int.emod_nonneg _ (by omega)
      have hk1 : z % ((cn : Int) + 1) < (cn : Int) + 1 := Int.emod_lt_of_pos _ (by omega)
      have hkn : kk ≤ cn := by omega
      have ek : Int.tmod z ((cn : Int) + 1) = (kk : Int) := by rw [Int.tmod_eq_emod_of_nonneg hz.1]; omega
      have E1 : ((cn : Int) == (j : Int)) = decide (cn = j) := by rw [Bool.eq_iff_iff]; simp; omega
      have c1 : ((cn : Int) + 1 == 0) = false := by simp; omega
      have cj : (cn : Int) ≤ (j : Int) := by omega
      have kj : (kk : Int) ≤ (j : Int) := by omega
      have kc : kk ≤ c7 := by have := JC.out; omega
      clear hkk hk0 hk1
      go_upto_region 13 with fail
      have HA := hide (HA.out.ext (Ext.drew _))
      have HR7 := hide (HR7.out.ext (Ext.drew _))
      have HXw := hide (HXw.out.trans (Ext.drew _))
      have SS : ∀ w', Blk w' w.heap.size #[Value.int .i64 a, .int .i64 b, .int .i64 c] 22 → (w'.cell? ⟨w.heap.size, 0, none⟩ = some (.int .i64 a) ∧ w'.cell? ⟨w.heap.size, 1, none⟩ = some (.int .i64 b)) ∧ w'.cell? ⟨w.heap.size, 2, none⟩ = some (.int .i64 c) := fun w' h => ⟨⟨h.cell 0, h.cell 1⟩, h.cell 2⟩
      refine wp_region_held_drew (S := fun w' => (w'.cell? ⟨w.heap.size, 0, none⟩ = some (.int .i64 a) ∧ w'.cell? ⟨w.heap.size, 1, none⟩ = some (.int .i64 b)) ∧ w'.cell? ⟨w.heap.size, 2, none⟩ = some (.int .i64 c)) (by kernel_rfl) (by exact SS _ HA.out) (fun hHeld => ?_)
      generalize w6.drew = W6 at *
      (refine held_take (i := 0) (v := ?_) rfl (by kernel_rfl) (by kernel_rfl) (by kernel_rfl) (fun _ _ _ h => h) (by rfl) ?_ (by assumption) ?_; rotate_left; (intro w hSw; (try dsimp only at hSw); (first | (go_simp; done) | (go_simp; with_reducible rfl))); (try simp only [Act.put, List.setIfInBounds_toArray, List.set_cons_zero, List.set_cons_succ]))
      (refine held_take (i := 1) (v := ?_) rfl (by kernel_rfl) (by kernel_rfl) (by kernel_rfl) (fun _ _ _ h => h) (by rfl) ?_ (by assumption) ?_; rotate_left; (intro w hSw; (try dsimp only at hSw); (first | (go_simp; done) | (go_simp; with_reducible rfl))); (try simp only [Act.put, List.setIfInBounds_toArray, List.set_cons_zero, List.set_cons_succ]))
      (refine held_take (i := 2) (v := ?_) rfl (by kernel_rfl) (by kernel_rfl) (by kernel_rfl) (fun _ _ _ h => h) (by rfl) ?_ (by assumption) ?_; rotate_left; (intro w hSw; (try dsimp only at hSw); (first | (go_simp; done) | (go_simp; with_reducible rfl))); (try simp only [Act.put, List.setIfInBounds_toArray, List.set_cons_zero, List.set_cons_succ]))
      (refine held_take (i := 3) (v := ?_) rfl (by kernel_rfl) (by kernel_rfl) (by kernel_rfl) (fun _ _ _ h => h) (by rfl) ?_ (by assumption) ?_; rotate_left; (intro w hSw; (try dsimp only at hSw); (first | (go_simp; done) | (go_simp; with_reducible rfl))); (try simp only [Act.put, List.setIfInBounds_toArray, List.set_cons_zero, List.set_cons_succ]))
      (refine held_take (i := 4) (v := ?_) rfl (by kernel_rfl) (by kernel_rfl) (by kernel_rfl) (fun _ _ _ h => h) (by rfl) ?_ (by assumption) ?_; rotate_left; (intro w hSw; (try dsimp only at hSw); (first | (go_simp; done) | (go_simp; with_reducible rfl))); (try simp only [Act.put, List.setIfInBounds_toArray, List.set_cons_zero, List.set_cons_succ]))
      (refine held_take (i := 5) (v := ?_) rfl (by kernel_rfl) (by kernel_rfl) (by kernel_rfl) (fun _ _ _ h => h) (by rfl) ?_ (by assumption) ?_; rotate_left; (intro w hSw; (try dsimp only at hSw); (first | (go_simp; done) | (go_simp; with_reducible rfl))); (try simp only [Act.put, List.setIfInBounds_toArray, List.set_cons_zero, List.set_cons_succ]))
      (refine held_take (i := 6) (v := ?_) rfl (by kernel_rfl) (by kernel_rfl) (by kernel_rfl) (fun _ _ _ h => h) (by rfl) ?_ (by assumption) ?_; rotate_left; (intro w hSw; (try dsimp only at hSw); (first | (go_simp; done) | (go_simp; with_reducible rfl))); (try simp only [Act.put, List.setIfInBounds_toArray, List.set_cons_zero, List.set_cons_succ]))
      (refine held_take (i := 7) (v := ?_) rfl (by kernel_rfl) (by kernel_rfl) (by kernel_rfl) (fun _ _ _ h => h) (by rfl) ?_ (by assumption) ?_; rotate_left; (intro w hSw; (try dsimp only at hSw); (first | (go_simp; done) | (go_simp; with_reducible rfl))); (try simp only [Act.put, List.setIfInBounds_toArray, List.set_cons_zero, List.set_cons_succ]))
      (refine held_take (i := 8) (v := ?_) rfl (by kernel_rfl) (by kernel_rfl) (by kernel_rfl) (fun _ _ _ h => h) (by rfl) ?_ (by assumption) ?_; rotate_left; (intro w hSw; (try dsimp only at hSw); (first | (go_simp; done) | (go_simp; with_reducible rfl))); (try simp only [Act.put, List.setIfInBounds_toArray, List.set_cons_zero, List.set_cons_succ]))
      refine wpAnyH_ready (rs := [9]) (by kernel_rfl) (by simp) (held_cons rfl (fun K hK => ?_) AllReadyH.nil)
      rw [if_pos (by rfl)]
      go_simp
      go_at_call 8
      refine (HG2 _ A7 c7 kk hkn (HR7.out.cut (by omega))).mono ?_
      rintro e w7 ⟨rfl, hx7⟩
      have HA := hide (HA.out.ext hx7)
      have HXw := hide (HXw.out.trans hx7)
      clear hx7
      go_simp
      refine hK.out _ _ (SS _ HA.out) (fun hHeld => ?_)
      (try simp only [Act.put, List.setIfInBounds_toArray, List.set_cons_zero, List.set_cons_succ])
      (refine held_take (i := 10) (v := ?_) rfl (by kernel_rfl) (by kernel_rfl) (by kernel_rfl) (fun _ _ _ h => h) (by rfl) ?_ (by assumption) ?_; rotate_left; (intro w hSw; (try dsimp only at hSw); (first | (go_simp; done) | (go_simp; with_reducible rfl))); (try simp only [Act.put, List.setIfInBounds_toArray, List.set_cons_zero, List.set_cons_succ]))
      (refine held_take (i := 11) (v := ?_) rfl (by kernel_rfl) (by kernel_rfl) (by kernel_rfl) (fun _ _ _ h => h) (by rfl) ?_ (by assumption) ?_; rotate_left; (intro w hSw; (try dsimp only at hSw); (first | (go_simp; done) | (go_simp; with_reducible rfl))); (try simp only [Act.put, List.setIfInBounds_toArray, List.set_cons_zero, List.set_cons_succ]))
      (refine held_take (i := 12) (v := ?_) rfl (by kernel_rfl) (by kernel_rfl) (by kernel_rfl) (fun _ _ _ h => h) (by rfl) ?_ (by assumption) ?_; rotate_left; (intro w hSw; (try dsimp only at hSw); (first | (go_simp; done) | (go_simp; with_reducible rfl))); (try simp only [Act.put, List.setIfInBounds_toArray, List.set_cons_zero, List.set_cons_succ]))
      (refine held_take (i := 13) (v := ?_) rfl (by kernel_rfl) (by kernel_rfl) (by kernel_rfl) (fun _ _ _ h => h) (by rfl) ?_ (by assumption) ?_; rotate_left; (intro w hSw; (try dsimp only at hSw); (first | (go_simp; done) | (go_simp; with_reducible rfl))); (try simp only [Act.put, List.setIfInBounds_toArray, List.set_cons_zero, List.set_cons_succ]))
      (refine held_take (i := 14) (v := ?_) rfl (by kernel_rfl) (by kernel_rfl) (by kernel_rfl) (fun _ _ _ h => h) (by rfl) ?_ (by assumption) ?_; rotate_left; (intro w hSw; (try dsimp only at hSw); (first | (go_simp; done) | (go_simp; with_reducible rfl))); (try simp only [Act.put, List.setIfInBounds_toArray, List.set_cons_zero, List.set_cons_succ]))
      refine wpAnyH_done (by kernel_rfl) ?_ _
      go_wp2_with fail
      refine (alive_any _).mono ?_
      rintro e w8 ⟨rfl, hx8⟩
      go_wp2_with fail
      go_ret
      exact ⟨by simp, HXw.out.trans hx8⟩
theorem lright_any (a b c z : Int) (hz : 0 ≤ z ∧ z ≤ 255) (A : Option Addr) (n cc : Nat) (f : Nat → Ent) (w : World) (hn : n ≤ cc) (hc' : cc ≤ maxLen) (hs : Stps w w.heap.size A n f) (hf : ∀ k, k < n → Okst (f k)) :
    Calls Try.prog 3 #[.agg #[Value.int .i64 a, .int .i64 b, .int .i64 c], .slice A n cc, .int .u8 z] w fun e w' => e = .returned (.bool true) ∧ Ext w w' := by
  have hm : min n 120 ≤ n ∧ min n 120 ≤ 120 := by omega
  cases h : okN a b c with
  | false =>
    refine lright_gen a b c z hz A n cc 0 f w hn hc' hs.rgs (by omega) (fun w' A7 c7 _ => ?_) (fun w' A7 c7 k hk _ => ?_) (fun w' _ => ?_)
    · refine (gright_no h A7 _ c7 w').mono ?_
      rintro e w'' ⟨rfl, hx⟩
      refine ⟨?_, hx⟩
      simp only [Int.natCast_zero, eq_comm (a := (0 : Nat))]
    · obtain rfl : k = 0 := by omega
      exact gright_no h A7 0 c7 w'
    · exact rright_no h _ w'
  | true =>
    obtain ⟨h1, h2, h3, h4, h5, h6⟩ := (okN_iff a b c).1 h
    obtain ⟨a, rfl⟩ := Int.eq_ofNat_of_zero_le (by omega : 0 ≤ a)
    obtain ⟨b, rfl⟩ := Int.eq_ofNat_of_zero_le (by omega : 0 ≤ b)
    obtain ⟨c, rfl⟩ := Int.eq_ofNat_of_zero_le (by omega : 0 ≤ c)
    have hwf : ∀ i, i < min n 120 → wfI (f i).ea := fun i hi => (hf i (by omega)).a
    have hcn := cnt_le (st0 a b c) f (min n 120)
    refine lright_gen a b c z hz A n cc (cntR (st0 a b c) f (min n 120)) f w hn hc' hs.rgs hcn (fun w' A7 c7 hr => ?_) (fun w' A7 c7 k hk hr => ?_) (fun w' hr => ?_)
    · exact gright_ok h A7 _ c7 f w' (by omega) hr hwf
    · refine (gright_ok h A7 k c7 f w' (by omega) hr (fun i hi => hwf i (by omega))).mono ?_
      rintro e w'' ⟨rfl, hx⟩
      rw [cnt_cut hk]
      exact ⟨by simp, hx⟩
    · exact rright_ok h A _ cc f w' (by omega) hr hwf
theorem okWide_arr {w : World} {base : Nat} {n : Nat} {t e : TypeId} {v : Value} (ht : Try.prog.underlying t = some (.array n e)) (h : Value.okWide Try.prog w .any base t v) : ∃ cs, v = .agg cs ∧ cs.size = Try.prog.cellsOf t := by
  simp only [Value.okWide, ht] at h
  cases v <;> simp_all
theorem array3 {cs : Array Value} (h : cs.size = 3) : ∃ c0 c1 c2, cs = #[c0, c1, c2] := by
  obtain ⟨l⟩ := cs
  match l, h with
  | [c0, c1, c2], _ => exact ⟨c0, c1, c2, rfl⟩
theorem open_trip {H : Type} {enc : TypeId × Value → H} {W : World} {base : Nat} {v : Value} {d : DataW H} {p : List MemPlace} (hv : Value.okWide Try.prog W .any base 22 v) (h : DataW.Trod enc Try.prog W 0 (fun _ => true) true 22 v d p) :
    ∃ a b c : Int, v = .agg #[Value.int .i64 a, .int .i64 b, .int .i64 c] := by
  obtain ⟨cs, rfl, hsz⟩ := okWide_arr Try.underlying22 hv
  have hsz3 : cs.size = 3 := hsz.trans (by kernel_rfl)
  obtain ⟨c0, c1, c2, rfl⟩ := array3 hsz3
  obtain ⟨fuel, hf⟩ := h
  obtain ⟨xs, m, _, _, _, hl, hel⟩ := DataW.trod_array Try.underlying22 hf
  have hc : Try.prog.cellsOf 3 = 1 := by kernel_rfl
  rw [hc] at hel
  have g0 := hel 0 (by omega)
  have g1 := hel 1 (by omega)
  have g2 := hel 2 (by omega)
  rw [List.getElem?_eq_getElem (by omega)] at g0 g1 g2
  obtain ⟨a, e0, _, wa⟩ := DataW.trod_int Try.underlying3 g0
  obtain ⟨b, e1, _, wb⟩ := DataW.trod_int Try.underlying3 g1
  obtain ⟨c, e2, _, wc⟩ := DataW.trod_int Try.underlying3 g2
  simp [Value.cells] at e0 e1 e2
  subst e0 e1 e2
  exact ⟨a, b, c, rfl⟩
theorem open_u8 {H : Type} {enc : TypeId × Value → H} {W : World} {base : Nat} {v : Value} {d : DataW H} {p : List MemPlace} (hv : Value.okWide Try.prog W .any base 5 v) (h : DataW.Trod enc Try.prog W 0 (fun _ => true) true 5 v d p) : ∃ q : Int, v = .int .u8 q ∧ 0 ≤ q ∧ q ≤ 255 := by
  obtain ⟨n, rfl⟩ := okWide_int Try.underlying5 hv
  obtain ⟨fuel, hf⟩ := h
  obtain ⟨q, e, _, w⟩ := DataW.trod_int Try.underlying5 hf
  simp [Value.cells] at e
  subst e
  exact ⟨_, rfl, bounds_u8 w⟩
set_option maxRecDepth 100000 in
theorem ghostRight_walk {H : Type} {enc : TypeId × Value → H} (W : World) (base : Nat) (args : Array Value) (ds : List (DataW H)) (p : List MemPlace)
    (hval0 : ∀ (j : Nat) t v, Try.f3.params[j]? = some t → args[j]? = some v → Value.okWide Try.prog W .any base t v)
    (hA0 : DataW.TrodAll enc Try.prog W 0 (fun _ => true) true Try.f3.params.toList args.toList ds p) (_hlt : ∀ x ∈ p, x.block < W.heap.size) :
    Calls Try.prog 3 args W fun e W' => e = .returned (.bool true) ∧ Ext W W' := by
  have hval := hval0
  have hA := hA0
  rw [Try.params3] at hA hval
  clear hval0 hA0
  obtain ⟨v0, v1, v2, d0, d1, d2, p0, p1, p2, hargs, rfl, rfl, h0, h1, h2⟩ := trodAll_three hA
  obtain rfl : args = #[v0, v1, v2] := by cases args; simp_all
  obtain ⟨a, b, c, rfl⟩ := open_trip (hval 0 22 v0 rfl rfl) h0
  obtain ⟨A, n, cc, f, rfl, hn, hc, hs, hf⟩ := open_steps (hval 1 23 v1 rfl rfl) h1
  obtain ⟨z, rfl, hz⟩ := open_u8 (hval 2 5 v2 rfl rfl) h2
  exact lright_any a b c z hz A n cc f W hn hc hs hf
set_option maxRecDepth 100000 in
theorem ghostRight_lifted (os : Os) (started : os.Started) (H : Type) (enc : TypeId × Value → H) :
    ReturnsInHanded {} Try.checked os 3 .any (Rows.ghostRightSpec.pre6 enc Try.prog Try.f3 Rows.ghostRightRow.domain false) (Rows.ghostRightSpec.post enc Try.prog Try.f3 false true false false) :=
  law_lifted (fn := Try.f3) 4 os started (by kernel_rfl) Try.func3 rfl rfl Try.underlying4 (hread_of (by kernel_rfl))
    (fun l hl => by
      have hl2 : l.length = 3 := hl
      clear hl
      match l, hl2 with
      | [_, _, _], _ => rfl)
    (ChangeSpec.witness6 (enc := enc) (C := Try.checked) false ⟨#[], #[.agg #[.int .i64 0, .int .i64 0, .int .i64 0], .slice none 0 0, .int .u8 0], []⟩ 8 (by kernel_rfl) (by kernel_rfl) (by kernel_rfl) (by kernel_rfl))
    (fun W base args ds p hval hA hlt => ghostRight_walk W base args ds p hval hA hlt)
theorem ghostRight_holds : Rows.GhostRightSaid :=
  OpenClaim.holds_of_wide 3 Try.f3 rfl rfl rfl rfl rfl rfl rfl ⟨rfl, rfl, rfl, rfl, rfl⟩ rfl rfl rfl rfl rfl (by kernel_rfl) Try.func3 (by kernel_rfl)
    (of_decide_eq_true (by kernel_rfl)) (by unfold Func.isWrapper; rw [if_neg (of_decide_eq_false (by kernel_rfl))]; exact ⟨rfl, rfl⟩)
    (fun os started H enc _ => ghostRight_lifted os started H enc)
end Go.Proofs.Ytacneghgimfklaa
