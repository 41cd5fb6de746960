/-
  A law of layer 23 holds of every input: CheckOrders. No condition.
-/
import Derived.Test.YtpielknodjppgaaVA
import Derived.Test.YtpielknodjppgaaGC
namespace Go.Proofs.Ytpielknodjppgaa
open Go.ChangeShapes Go.WideShapes Go.ChangeAt Go.RowKit Go.Deep Go.Joins
set_option linter.unusedVariables false
set_option linter.unusedSimpArgs false
set_option maxRecDepth 100000
set_option maxHeartbeats 8000000



theorem lorders_far {a b c : Int} {A : Option Addr} {n cp : Nat} {w : World} (h : (7 < n ∧ n ≤ 12) ∨ 100 < n) : Calls Try.prog 3 #[.agg #[Value.int .i64 a, .int .i64 b, .int .i64 c], .slice A n cp] w fun e w' => e = .returned (.bool true) ∧ Ext w w' := by
  have HX := hide (Ext.alloc w (.cells #[Value.int .i64 a, .int .i64 b, .int .i64 c] 22))
  have al := fun w => alive_any w
  rcases h with h | h
  · obtain ⟨h1, h2⟩ := h
    have i1 : (7 : Int) < n := by omega
    have i2 : (n : Int) ≤ 12 := by omega
    go_enter Try.func3, Try.ntmps3
    go_wp2_with fail
    refine (al _).mono ?_
    rintro e w1 ⟨rfl, hx⟩
    go_wp2_with fail
    go_ret
    exact ⟨by simp, HX.out.trans hx⟩
  · have i1 : (7 : Int) < n := by omega
    have i2 : ¬ (n : Int) ≤ 12 := by omega
    have i3 : (100 : Int) < n := by omega
    go_enter Try.func3, Try.ntmps3
    go_wp2_with fail
    refine (al _).mono ?_
    rintro e w1 ⟨rfl, hx⟩
    go_wp2_with fail
    go_ret
    exact ⟨by simp, HX.out.trans hx⟩
theorem ordP_len (N M K : Int) (n : Nat) (g : Nat → Cl) : ((ordP N M K n g).getD []).length ≤ n := by
  unfold ordP
  split
  · cases q : pick n g n (st0 N.toNat M.toNat K.toNat) 0 with
    | none => simp
    | some out => simp [(pick_sound n _ _ _ q).1]
  · simp
theorem inf_c7 (c : Cl) : (Try.prog.info? 38).map (·.size) = some (cc c).toList.length := by rw [cc_len]; kernel_rfl
theorem inf_r7 (c : Cl) : (Try.prog.info? 44).map (·.size) = some (cc c).toList.length := by rw [cc_len]; kernel_rfl
theorem cc_rng {w : World} {B : Nat} {c : Cl} {t : TypeId} (h : Blk w B (cc c) t) : w.rangeAt B 0 (cc c).toList := fun j v hv => by rw [Nat.zero_add, h.cell, ← hv, Array.getElem?_toList]
theorem Cs.rng {w : World} {b0 n : Nat} {A : Option Addr} {g : Nat → Cl} (h : Cs w b0 A n g) {k : Nat} (hk : k < n) : ∃ b off, A = some ⟨b, off, none⟩ ∧ w.rangeAt b (off + k * 7) (cc (g k)).toList := by
  obtain ⟨b, off, ha, hb, hc⟩ := h k hk
  refine ⟨b, off, ha, fun j v hv => ?_⟩
  have hj : j < 7 := (List.getElem?_eq_some_iff.1 hv).1
  rw [Nat.add_assoc, hc j hj, ← hv, Array.getElem?_toList]
theorem lorders_any {a b c : Int} {A : Option Addr} {n cp : Nat} {g : Nat → Cl} {w : World} (hn : n ≤ 100) (hn2 : ¬ (7 < n ∧ n ≤ 12)) (h : Cs w w.heap.size A n g) (hok : ∀ k, k < n → OkC (g k)) :
    Calls Try.prog 3 #[.agg #[Value.int .i64 a, .int .i64 b, .int .i64 c], .slice A n cp] w fun e w' => e = .returned (.bool true) ∧ Ext w w' := by
  have H := hide h
  have HOK := hide hok
  have HS := hide (Blk.new w #[Value.int .i64 a, .int .i64 b, .int .i64 c] 22)
  have HX := hide (Ext.alloc w (.cells #[Value.int .i64 a, .int .i64 b, .int .i64 c] 22))
  clear h hok
  have hx1 : ¬ (7 : Int) < n ∨ ((7 : Int) < n ∧ ¬ (n : Int) ≤ 12) := by omega
  have i3 : ¬ (100 : Int) < n := by omega
  go_enter Try.func3, Try.ntmps3
  rcases hx1 with i1 | ⟨i1, i2⟩
  · go_upto_region 3 with fail
    generalize w.alloc (.cells #[Value.int .i64 a, .int .i64 b, .int .i64 c] 22) = W0 at *
    have hk := Ext.drew W0
    refine wp_region_held_drew (S := fun w' => w'.cell? ⟨w.heap.size, 0, none⟩ = some (.int .i64 a) ∧ w'.cell? ⟨w.heap.size, 1, none⟩ = some (.int .i64 b) ∧ w'.cell? ⟨w.heap.size, 2, none⟩ = some (.int .i64 c)) (by kernel_rfl) ⟨(HS.out.ext hk).cell 0, (HS.out.ext hk).cell 1, (HS.out.ext hk).cell 2⟩ (fun hHeld => ?_)
    (refine held_take (i := 0) (v := ?_) rfl (by kernel_rfl) (by kernel_rfl) (by kernel_rfl) (fun _ _ _ h => h) (by rfl) ?_ (by assumption) ?_; rotate_left; (intro w hSw; (try dsimp only at hSw); (first | (go_simp; done) | (go_simp; with_reducible rfl))); (try simp only [Act.put, List.setIfInBounds_toArray, List.set_cons_zero, List.set_cons_succ]))
    (refine held_take (i := 1) (v := ?_) rfl (by kernel_rfl) (by kernel_rfl) (by kernel_rfl) (fun _ _ _ h => h) (by rfl) ?_ (by assumption) ?_; rotate_left; (intro w hSw; (try dsimp only at hSw); (first | (go_simp; done) | (go_simp; with_reducible rfl))); (try simp only [Act.put, List.setIfInBounds_toArray, List.set_cons_zero, List.set_cons_succ]))
    (refine held_take (i := 2) (v := ?_) rfl (by kernel_rfl) (by kernel_rfl) (by kernel_rfl) (fun _ _ _ h => h) (by rfl) ?_ (by assumption) ?_; rotate_left; (intro w hSw; (try dsimp only at hSw); (first | (go_simp; done) | (go_simp; with_reducible rfl))); (try simp only [Act.put, List.setIfInBounds_toArray, List.set_cons_zero, List.set_cons_succ]))
    (refine held_take (i := 3) (v := ?_) rfl (by kernel_rfl) (by kernel_rfl) (by kernel_rfl) (fun _ _ _ h => h) (by rfl) ?_ (by assumption) ?_; rotate_left; (intro w hSw; (try dsimp only at hSw); (first | (go_simp; done) | (go_simp; with_reducible rfl))); (try simp only [Act.put, List.setIfInBounds_toArray, List.set_cons_zero, List.set_cons_succ]))
    (refine held_take (i := 4) (v := ?_) rfl (by kernel_rfl) (by kernel_rfl) (by kernel_rfl) (fun _ _ _ h => h) (by rfl) ?_ (by assumption) ?_; rotate_left; (intro w hSw; (try dsimp only at hSw); (first | (go_simp; done) | (go_simp; with_reducible rfl))); (try simp only [Act.put, List.setIfInBounds_toArray, List.set_cons_zero, List.set_cons_succ]))
    (refine held_take (i := 5) (v := ?_) rfl (by kernel_rfl) (by kernel_rfl) (by kernel_rfl) (fun _ _ _ h => h) (by rfl) ?_ (by assumption) ?_; rotate_left; (intro w hSw; (try dsimp only at hSw); (first | (go_simp; done) | (go_simp; with_reducible rfl))); (try simp only [Act.put, List.setIfInBounds_toArray, List.set_cons_zero, List.set_cons_succ]))
    (refine held_take (i := 6) (v := ?_) rfl (by kernel_rfl) (by kernel_rfl) (by kernel_rfl) (fun _ _ _ h => h) (by rfl) ?_ (by assumption) ?_; rotate_left; (intro w hSw; (try dsimp only at hSw); (first | (go_simp; done) | (go_simp; with_reducible rfl))); (try simp only [Act.put, List.setIfInBounds_toArray, List.set_cons_zero, List.set_cons_succ]))
    refine wpAnyH_ready (rs := [7]) (by kernel_rfl) (by simp) (held_cons rfl (fun K hK => ?_) AllReadyH.nil)
    rw [if_pos (by rfl)]
    go_simp
    go_at_call 8
    refine (theirs_any (H.out.ext (HX.out.trans hk) (Nat.le_refl _)) ((HX.out.trans hk).size) (by omega)).mono ?_
    rintro e w5 ⟨A5, c5, rfl, hr5, hx5⟩
    have hk := hk.trans hx5
    refine hK.out _ _ ⟨(HS.out.ext hk).cell 0, (HS.out.ext hk).cell 1, (HS.out.ext hk).cell 2⟩ (fun hHeld => ?_)
    (try simp only [Act.put, List.setIfInBounds_toArray, List.set_cons_zero, List.set_cons_succ])
    refine wpAnyH_ready (rs := [8]) (by kernel_rfl) (by simp) (held_cons rfl (fun K hK => ?_) AllReadyH.nil)
    rw [if_pos (by rfl)]
    go_simp
    go_at_call 7
    refine (can_any HOK.out (by omega) (own_cs hr5) (Nat.le_refl _) a b c).mono ?_
    rintro e w6 ⟨rfl, hx6⟩
    have hk := hk.trans hx6
    refine hK.out _ _ ⟨(HS.out.ext hk).cell 0, (HS.out.ext hk).cell 1, (HS.out.ext hk).cell 2⟩ (fun hHeld => ?_)
    (try simp only [Act.put, List.setIfInBounds_toArray, List.set_cons_zero, List.set_cons_succ])
    (refine held_take (i := 9) (v := ?_) rfl (by kernel_rfl) (by kernel_rfl) (by kernel_rfl) (fun _ _ _ h => h) (by rfl) ?_ (by assumption) ?_; rotate_left; (intro w hSw; (try dsimp only at hSw); (first | (go_simp; done) | (go_simp; with_reducible rfl))); (try simp only [Act.put, List.setIfInBounds_toArray, List.set_cons_zero, List.set_cons_succ]))
    (refine held_take (i := 10) (v := ?_) rfl (by kernel_rfl) (by kernel_rfl) (by kernel_rfl) (fun _ _ _ h => h) (by rfl) ?_ (by assumption) ?_; rotate_left; (intro w hSw; (try dsimp only at hSw); (first | (go_simp; done) | (go_simp; with_reducible rfl))); (try simp only [Act.put, List.setIfInBounds_toArray, List.set_cons_zero, List.set_cons_succ]))
    (refine held_take (i := 11) (v := ?_) rfl (by kernel_rfl) (by kernel_rfl) (by kernel_rfl) (fun _ _ _ h => h) (by rfl) ?_ (by assumption) ?_; rotate_left; (intro w hSw; (try dsimp only at hSw); (first | (go_simp; done) | (go_simp; with_reducible rfl))); (try simp only [Act.put, List.setIfInBounds_toArray, List.set_cons_zero, List.set_cons_succ]))
    (refine held_take (i := 12) (v := ?_) rfl (by kernel_rfl) (by kernel_rfl) (by kernel_rfl) (fun _ _ _ h => h) (by rfl) ?_ (by assumption) ?_; rotate_left; (intro w hSw; (try dsimp only at hSw); (first | (go_simp; done) | (go_simp; with_reducible rfl))); (try simp only [Act.put, List.setIfInBounds_toArray, List.set_cons_zero, List.set_cons_succ]))
    (refine held_take (i := 13) (v := ?_) rfl (by kernel_rfl) (by kernel_rfl) (by kernel_rfl) (fun _ _ _ h => h) (by rfl) ?_ (by assumption) ?_; rotate_left; (intro w hSw; (try dsimp only at hSw); (first | (go_simp; done) | (go_simp; with_reducible rfl))); (try simp only [Act.put, List.setIfInBounds_toArray, List.set_cons_zero, List.set_cons_succ]))
    refine wpAnyH_done (by kernel_rfl) ?_ _
    have HS := hide (HS.out.ext hk)
    have HX := hide (HX.out.trans hk)
    clear hK hHeld hr5 hk
    go_upto_region 4 with fail
    have hk := Ext.drew w6
    refine wp_region_held_drew (S := fun w' => w'.cell? ⟨w.heap.size, 0, none⟩ = some (.int .i64 a) ∧ w'.cell? ⟨w.heap.size, 1, none⟩ = some (.int .i64 b) ∧ w'.cell? ⟨w.heap.size, 2, none⟩ = some (.int .i64 c)) (by kernel_rfl) ⟨(HS.out.ext hk).cell 0, (HS.out.ext hk).cell 1, (HS.out.ext hk).cell 2⟩ (fun hHeld => ?_)
    (refine held_take (i := 0) (v := ?_) rfl (by kernel_rfl) (by kernel_rfl) (by kernel_rfl) (fun _ _ _ h => h) (by rfl) ?_ (by assumption) ?_; rotate_left; (intro w hSw; (try dsimp only at hSw); (first | (go_simp; done) | (go_simp; with_reducible rfl))); (try simp only [Act.put, List.setIfInBounds_toArray, List.set_cons_zero, List.set_cons_succ]))
    (refine held_take (i := 1) (v := ?_) rfl (by kernel_rfl) (by kernel_rfl) (by kernel_rfl) (fun _ _ _ h => h) (by rfl) ?_ (by assumption) ?_; rotate_left; (intro w hSw; (try dsimp only at hSw); (first | (go_simp; done) | (go_simp; with_reducible rfl))); (try simp only [Act.put, List.setIfInBounds_toArray, List.set_cons_zero, List.set_cons_succ]))
    (refine held_take (i := 2) (v := ?_) rfl (by kernel_rfl) (by kernel_rfl) (by kernel_rfl) (fun _ _ _ h => h) (by rfl) ?_ (by assumption) ?_; rotate_left; (intro w hSw; (try dsimp only at hSw); (first | (go_simp; done) | (go_simp; with_reducible rfl))); (try simp only [Act.put, List.setIfInBounds_toArray, List.set_cons_zero, List.set_cons_succ]))
    (refine held_take (i := 3) (v := ?_) rfl (by kernel_rfl) (by kernel_rfl) (by kernel_rfl) (fun _ _ _ h => h) (by rfl) ?_ (by assumption) ?_; rotate_left; (intro w hSw; (try dsimp only at hSw); (first | (go_simp; done) | (go_simp; with_reducible rfl))); (try simp only [Act.put, List.setIfInBounds_toArray, List.set_cons_zero, List.set_cons_succ]))
    (refine held_take (i := 4) (v := ?_) rfl (by kernel_rfl) (by kernel_rfl) (by kernel_rfl) (fun _ _ _ h => h) (by rfl) ?_ (by assumption) ?_; rotate_left; (intro w hSw; (try dsimp only at hSw); (first | (go_simp; done) | (go_simp; with_reducible rfl))); (try simp only [Act.put, List.setIfInBounds_toArray, List.set_cons_zero, List.set_cons_succ]))
    (refine held_take (i := 5) (v := ?_) rfl (by kernel_rfl) (by kernel_rfl) (by kernel_rfl) (fun _ _ _ h => h) (by rfl) ?_ (by assumption) ?_; rotate_left; (intro w hSw; (try dsimp only at hSw); (first | (go_simp; done) | (go_simp; with_reducible rfl))); (try simp only [Act.put, List.setIfInBounds_toArray, List.set_cons_zero, List.set_cons_succ]))
    (refine held_take (i := 6) (v := ?_) rfl (by kernel_rfl) (by kernel_rfl) (by kernel_rfl) (fun _ _ _ h => h) (by rfl) ?_ (by assumption) ?_; rotate_left; (intro w hSw; (try dsimp only at hSw); (first | (go_simp; done) | (go_simp; with_reducible rfl))); (try simp only [Act.put, List.setIfInBounds_toArray, List.set_cons_zero, List.set_cons_succ]))
    refine wpAnyH_ready (rs := [7]) (by kernel_rfl) (by simp) (held_cons rfl (fun K hK => ?_) AllReadyH.nil)
    rw [if_pos (by rfl)]
    go_simp
    go_at_call 8
    refine (theirs_any (H.out.ext (HX.out.trans hk) (Nat.le_refl _)) ((HX.out.trans hk).size) (by omega)).mono ?_
    rintro e w5 ⟨A5, c5, rfl, hr5, hx5⟩
    have hk := hk.trans hx5
    refine hK.out _ _ ⟨(HS.out.ext hk).cell 0, (HS.out.ext hk).cell 1, (HS.out.ext hk).cell 2⟩ (fun hHeld => ?_)
    (try simp only [Act.put, List.setIfInBounds_toArray, List.set_cons_zero, List.set_cons_succ])
    refine wpAnyH_ready (rs := [8]) (by kernel_rfl) (by simp) (held_cons rfl (fun K hK => ?_) AllReadyH.nil)
    rw [if_pos (by rfl)]
    go_simp
    go_at_call 9
    refine (order_any HOK.out (by omega) (own_cs hr5) (Nat.le_refl _) a b c).mono ?_
    rintro e w7 ⟨v7, rfl, hr7, hx7⟩
    obtain ⟨A7, c7, rfl⟩ := own_sl hr7
    have HR7 := hide hr7
    have hk := hk.trans hx7
    refine hK.out _ _ ⟨(HS.out.ext hk).cell 0, (HS.out.ext hk).cell 1, (HS.out.ext hk).cell 2⟩ (fun hHeld => ?_)
    (try simp only [Act.put, List.setIfInBounds_toArray, List.set_cons_zero, List.set_cons_succ])
    (refine held_take (i := 9) (v := ?_) rfl (by kernel_rfl) (by kernel_rfl) (by kernel_rfl) (fun _ _ _ h => h) (by rfl) ?_ (by assumption) ?_; rotate_left; (intro w hSw; (try dsimp only at hSw); (first | (go_simp; done) | (go_simp; with_reducible rfl))); (try simp only [Act.put, List.setIfInBounds_toArray, List.set_cons_zero, List.set_cons_succ]))
    (refine held_take (i := 10) (v := ?_) rfl (by kernel_rfl) (by kernel_rfl) (by kernel_rfl) (fun _ _ _ h => h) (by rfl) ?_ (by assumption) ?_; rotate_left; (intro w hSw; (try dsimp only at hSw); (first | (go_simp; done) | (go_simp; with_reducible rfl))); (try simp only [Act.put, List.setIfInBounds_toArray, List.set_cons_zero, List.set_cons_succ]))
    (refine held_take (i := 11) (v := ?_) rfl (by kernel_rfl) (by kernel_rfl) (by kernel_rfl) (fun _ _ _ h => h) (by rfl) ?_ (by assumption) ?_; rotate_left; (intro w hSw; (try dsimp only at hSw); (first | (go_simp; done) | (go_simp; with_reducible rfl))); (try simp only [Act.put, List.setIfInBounds_toArray, List.set_cons_zero, List.set_cons_succ]))
    (refine held_take (i := 12) (v := ?_) rfl (by kernel_rfl) (by kernel_rfl) (by kernel_rfl) (fun _ _ _ h => h) (by rfl) ?_ (by assumption) ?_; rotate_left; (intro w hSw; (try dsimp only at hSw); (first | (go_simp; done) | (go_simp; with_reducible rfl))); (try simp only [Act.put, List.setIfInBounds_toArray, List.set_cons_zero, List.set_cons_succ]))
    (refine held_take (i := 13) (v := ?_) rfl (by kernel_rfl) (by kernel_rfl) (by kernel_rfl) (fun _ _ _ h => h) (by rfl) ?_ (by assumption) ?_; rotate_left; (intro w hSw; (try dsimp only at hSw); (first | (go_simp; done) | (go_simp; with_reducible rfl))); (try simp only [Act.put, List.setIfInBounds_toArray, List.set_cons_zero, List.set_cons_succ]))
    refine wpAnyH_done (by kernel_rfl) ?_ _
    have HS := hide (HS.out.ext hk)
    have HX := hide (HX.out.trans hk)
    clear hK hHeld hr5 hr7 hk
    have hro := rorder_any (c := cp) (by omega) (H.out.ext HX.out (Nat.le_refl _)) HX.out.size a b c
    have rs := HS.out.cell
    have hlen := ordP_len a b c n g
    generalize ordE a b c n g = er at *
    generalize ordP a b c n g = rr at *
    generalize (decide (er = 0) && rr.isSome) = bb at *
    generalize rr.getD [] = L at *
    obtain ⟨ln, hln⟩ : ∃ ln, ln = L.length := ⟨_, rfl⟩
    rw [← hln] at hro HR7 hlen ⊢
    have HLN := hide hln
    clear hln
    go_wp2_with fail
    refine hro.mono ?_
    rintro e w8 ⟨v8, rfl, hr8, hx8⟩
    obtain ⟨A8, c8, rfl⟩ := own_sl hr8
    have HR8 := hide hr8
    have HR7 := hide (own_ext HR7.out hx8)
    have HX8 := hide (HX.out.trans hx8)
    clear hro hr8 hx8 rs HX HS
    go_wp2_with fail
    go_loopw [87] (fun v wr => ∃ j : Nat, j ≤ ln ∧ v = .int .i64 (j : Int) ∧ Ext w8 wr) (fun v _ => ln - (intOf v).toNat)
    case atStart => exact ⟨0, by omega, rfl, Ext.refl _⟩
    case round =>
      obtain ⟨j, hj, rfl, hX⟩ := hrel
      by_cases hlt : j < ln
      · have hxd := hX.trans (Ext.drew wr)
        obtain ⟨q, hq⟩ : ∃ q, L[j]? = some q := ⟨_, List.getElem?_eq_getElem (by have := HLN.out; omega)⟩
        have hq2 : (L.map enI)[j]? = some (enI q) := by rw [List.getElem?_map, hq]; rfl
        obtain ⟨G7, k7, e7, _, h7⟩ := own_atX HR7.out hq2
        obtain ⟨G8, k8, e8, _, h8⟩ := own_atX HR8.out hq2
        cases e7
        cases e8
        have r7 := h7 _ hxd
        have r8 := h8 _ hxd
        have HXD := hide hxd
        unfold enI at r7 r8
        clear hq hq2 h7 h8 hX hxd
        go_wp2_with fail
        go_region
        go_wp2_with fail
        go_roundw
        case rel => exact ⟨j + 1, by omega, by go_num, HXD.out⟩
        case measure => simp [intOf]; omega
      · have HXW := hide (HX8.out.trans hX)
        have hth := theirs_any (c := cp) (H.out.ext HXW.out (Nat.le_refl _)) HXW.out.size (by omega)
        clear hX HR7 HR8
        go_wp2_with fail
        refine hth.mono ?_
        rintro e w9 ⟨A9, c9, rfl, hr9, hx9⟩
        have HC9 := hide (own_cs hr9)
        have HX9 := hide (HXW.out.trans hx9)
        clear hth hr9 hx9 HXW
        go_wp2_with fail
        go_loopw [103] (fun v wr => ∃ j : Nat, j ≤ n ∧ v = .int .i64 (j : Int) ∧ Ext w9 wr) (fun v _ => n - (intOf v).toNat)
        case atStart => exact ⟨0, by omega, rfl, Ext.refl _⟩
        case round =>
          obtain ⟨j, hj, rfl, hX⟩ := hrel
          by_cases hlt : j < n
          · have HX10 := hide (hX.trans (Ext.alloc wr (.cells (cc (g j)) 38)))
            have HXW := hide ((HX9.out.trans hX).trans (Ext.alloc wr (.cells (cc (g j)) 38)))
            have HT := hide (Blk.new wr (cc (g j)) 38)
            obtain ⟨b, off, rfl, hb0, r0, r1, r2, r3, r4, r5, r6⟩ := (HC9.out.ext hX (Nat.le_refl _)).rules hlt
            clear hX
            unfold cc at HX10 HXW HT
            go_upto_region 17 with fail
            clear r0 r1 r2 r3 r4 r5 r6
            obtain ⟨T, hT⟩ : ∃ T, T = wr.heap.size := ⟨_, rfl⟩
            rw [← hT] at HT ⊢
            clear hT
            generalize wr.alloc (.cells #[.int .i64 (g j).k, .int .i64 (g j).t, .int .i64 (g j).o, .int .i64 (g j).a, .int .i64 (g j).r, .int .i64 (g j).f, .int .i64 (g j).u] 38) = W1 at *
            have HT : Hid (Blk W1 T (cc (g j)) 38) := HT
            have hk := Ext.drew W1
            have hcs := fun w' (x : Ext W1 w') => (H.out.ext (HXW.out.trans x) (Nat.le_refl _)).rng hlt
            obtain ⟨bl, ol, el, _⟩ := hcs _ hk
            subst el
            have HCS := hide (show ∀ w', Ext W1 w' → w'.rangeAt bl (ol + j * 7) (cc (g j)).toList from fun w' x => by
              obtain ⟨b2, o2, e2, h2⟩ := hcs w' x
              cases e2
              exact h2)
            clear hcs
            refine wp_region_held_drew (S := fun w' => w'.rangeAt T 0 (cc (g j)).toList ∧ w'.rangeAt bl (ol + j * 7) (cc (g j)).toList) (by kernel_rfl) ⟨cc_rng (HT.out.ext hk), HCS.out _ hk⟩ (fun hHeld => ?_)
            refine wpAnyH_take (i := 0) (at_drop rfl) (by kernel_rfl) (by kernel_rfl) (by kernel_rfl) (fun _ _ _ h => h) (yieldsIf_load_mid (by rfl) 38 _ rfl T 0 rfl (cc (g j)).toList _ (fun w h => h.1) Try.underlying38 rfl (inf_c7 (g j))) (by assumption) ?_
            rw [Array.toArray_toList]
            (try simp only [Act.put, List.setIfInBounds_toArray, List.set_cons_zero, List.set_cons_succ])
            (refine held_take (i := 2) (v := ?_) rfl (by kernel_rfl) (by kernel_rfl) (by kernel_rfl) (fun _ _ _ h => h) (by rfl) ?_ (by assumption) ?_; rotate_left; (intro w hSw; (try dsimp only at hSw); (first | (go_simp; done) | (go_simp; with_reducible rfl))); (try simp only [Act.put, List.setIfInBounds_toArray, List.set_cons_zero, List.set_cons_succ]))
            (refine held_take (i := 3) (v := ?_) rfl (by kernel_rfl) (by kernel_rfl) (by kernel_rfl) (fun _ _ _ h => h) (by rfl) ?_ (by assumption) ?_; rotate_left; (intro w hSw; (try dsimp only at hSw); (first | (go_simp; done) | (go_simp; with_reducible rfl))); (try simp only [Act.put, List.setIfInBounds_toArray, List.set_cons_zero, List.set_cons_succ]))
            (refine held_take (i := 4) (v := ?_) rfl (by kernel_rfl) (by kernel_rfl) (by kernel_rfl) (fun _ _ _ h => h) (by rfl) ?_ (by assumption) ?_; rotate_left; (intro w hSw; (try dsimp only at hSw); (first | (go_simp; done) | (go_simp; with_reducible rfl))); (try simp only [Act.put, List.setIfInBounds_toArray, List.set_cons_zero, List.set_cons_succ]))
            refine wpAnyH_take (i := 5) (at_drop rfl) (by kernel_rfl) (by kernel_rfl) (by kernel_rfl) (fun _ _ _ h => h) (yieldsIf_load_mid (by rfl) 44 _ rfl bl (ol + j * 7) rfl (cc (g j)).toList _ (fun w h => h.2) Try.underlying44 rfl (inf_r7 (g j))) (by assumption) ?_
            rw [Array.toArray_toList]
            (try simp only [Act.put, List.setIfInBounds_toArray, List.set_cons_zero, List.set_cons_succ])
            have CM := hide (cmay_any (g j))
            have RM := hide (rmay_any (g j))
            generalize mayC (g j) = m at *
            refine wpAnyH_ready (rs := [1]) (by kernel_rfl) (by simp) (held_cons rfl (fun K hK => ?_) AllReadyH.nil)
            rw [if_pos (by rfl)]
            go_simp
            go_at_call 11
            refine (CM.out _).mono ?_
            rintro e w11 ⟨rfl, hx11⟩
            have hk := hk.trans hx11
            refine hK.out _ _ ⟨cc_rng (HT.out.ext hk), HCS.out _ hk⟩ (fun hHeld => ?_)
            (try simp only [Act.put, List.setIfInBounds_toArray, List.set_cons_zero, List.set_cons_succ])
            refine wpAnyH_ready (rs := [6]) (by kernel_rfl) (by simp) (held_cons rfl (fun K hK => ?_) AllReadyH.nil)
            rw [if_pos (by rfl)]
            go_simp
            go_at_call 12
            refine (RM.out _).mono ?_
            rintro e w12 ⟨rfl, hx12⟩
            have hk := hk.trans hx12
            refine hK.out _ _ ⟨cc_rng (HT.out.ext hk), HCS.out _ hk⟩ (fun hHeld => ?_)
            (try simp only [Act.put, List.setIfInBounds_toArray, List.set_cons_zero, List.set_cons_succ])
            refine held_take (i := 7) (v := .bool false) rfl (by kernel_rfl) (by kernel_rfl) (by kernel_rfl) (fun _ _ _ h => h) (by rfl) (fun w' _ => by go_simp) (by assumption) ?_
            (try simp only [Act.put, List.setIfInBounds_toArray, List.set_cons_zero, List.set_cons_succ])
            refine wpAnyH_done (by kernel_rfl) ?_ _
            have HX12 := hide (HX10.out.trans hk)
            clear hK hHeld hk
            go_wp2_with fail
            go_roundw
            case rel => exact ⟨j + 1, by omega, by go_num, HX12.out⟩
            case measure => simp [intOf]; omega
          · have HXE := hide (HX9.out.trans hX)
            clear hX
            go_wp2_with fail
            refine (alive_any _).mono ?_
            rintro e w20 ⟨rfl, hx20⟩
            go_wp2_with fail
            go_ret
            exact ⟨by simp, HXE.out.trans hx20⟩
  · go_upto_region 3 with fail
    generalize w.alloc (.cells #[Value.int .i64 a, .int .i64 b, .int .i64 c] 22) = W0 at *
    have hk := Ext.drew W0
    refine wp_region_held_drew (S := fun w' => w'.cell? ⟨w.heap.size, 0, none⟩ = some (.int .i64 a) ∧ w'.cell? ⟨w.heap.size, 1, none⟩ = some (.int .i64 b) ∧ w'.cell? ⟨w.heap.size, 2, none⟩ = some (.int .i64 c)) (by kernel_rfl) ⟨(HS.out.ext hk).cell 0, (HS.out.ext hk).cell 1, (HS.out.ext hk).cell 2⟩ (fun hHeld => ?_)
    (refine held_take (i := 0) (v := ?_) rfl (by kernel_rfl) (by kernel_rfl) (by kernel_rfl) (fun _ _ _ h => h) (by rfl) ?_ (by assumption) ?_; rotate_left; (intro w hSw; (try dsimp only at hSw); (first | (go_simp; done) | (go_simp; with_reducible rfl))); (try simp only [Act.put, List.setIfInBounds_toArray, List.set_cons_zero, List.set_cons_succ]))
    (refine held_take (i := 1) (v := ?_) rfl (by kernel_rfl) (by kernel_rfl) (by kernel_rfl) (fun _ _ _ h => h) (by rfl) ?_ (by assumption) ?_; rotate_left; (intro w hSw; (try dsimp only at hSw); (first | (go_simp; done) | (go_simp; with_reducible rfl))); (try simp only [Act.put, List.setIfInBounds_toArray, List.set_cons_zero, List.set_cons_succ]))
    (refine held_take (i := 2) (v := ?_) rfl (by kernel_rfl) (by kernel_rfl) (by kernel_rfl) (fun _ _ _ h => h) (by rfl) ?_ (by assumption) ?_; rotate_left; (intro w hSw; (try dsimp only at hSw); (first | (go_simp; done) | (go_simp; with_reducible rfl))); (try simp only [Act.put, List.setIfInBounds_toArray, List.set_cons_zero, List.set_cons_succ]))
    (refine held_take (i := 3) (v := ?_) rfl (by kernel_rfl) (by kernel_rfl) (by kernel_rfl) (fun _ _ _ h => h) (by rfl) ?_ (by assumption) ?_; rotate_left; (intro w hSw; (try dsimp only at hSw); (first | (go_simp; done) | (go_simp; with_reducible rfl))); (try simp only [Act.put, List.setIfInBounds_toArray, List.set_cons_zero, List.set_cons_succ]))
    (refine held_take (i := 4) (v := ?_) rfl (by kernel_rfl) (by kernel_rfl) (by kernel_rfl) (fun _ _ _ h => h) (by rfl) ?_ (by assumption) ?_; rotate_left; (intro w hSw; (try dsimp only at hSw); (first | (go_simp; done) | (go_simp; with_reducible rfl))); (try simp only [Act.put, List.setIfInBounds_toArray, List.set_cons_zero, List.set_cons_succ]))
    (refine held_take (i := 5) (v := ?_) rfl (by kernel_rfl) (by kernel_rfl) (by kernel_rfl) (fun _ _ _ h => h) (by rfl) ?_ (by assumption) ?_; rotate_left; (intro w hSw; (try dsimp only at hSw); (first | (go_simp; done) | (go_simp; with_reducible rfl))); (try simp only [Act.put, List.setIfInBounds_toArray, List.set_cons_zero, List.set_cons_succ]))
    (refine held_take (i := 6) (v := ?_) rfl (by kernel_rfl) (by kernel_rfl) (by kernel_rfl) (fun _ _ _ h => h) (by rfl) ?_ (by assumption) ?_; rotate_left; (intro w hSw; (try dsimp only at hSw); (first | (go_simp; done) | (go_simp; with_reducible rfl))); (try simp only [Act.put, List.setIfInBounds_toArray, List.set_cons_zero, List.set_cons_succ]))
    refine wpAnyH_ready (rs := [7]) (by kernel_rfl) (by simp) (held_cons rfl (fun K hK => ?_) AllReadyH.nil)
    rw [if_pos (by rfl)]
    go_simp
    go_at_call 8
    refine (theirs_any (H.out.ext (HX.out.trans hk) (Nat.le_refl _)) ((HX.out.trans hk).size) (by omega)).mono ?_
    rintro e w5 ⟨A5, c5, rfl, hr5, hx5⟩
    have hk := hk.trans hx5
    refine hK.out _ _ ⟨(HS.out.ext hk).cell 0, (HS.out.ext hk).cell 1, (HS.out.ext hk).cell 2⟩ (fun hHeld => ?_)
    (try simp only [Act.put, List.setIfInBounds_toArray, List.set_cons_zero, List.set_cons_succ])
    refine wpAnyH_ready (rs := [8]) (by kernel_rfl) (by simp) (held_cons rfl (fun K hK => ?_) AllReadyH.nil)
    rw [if_pos (by rfl)]
    go_simp
    go_at_call 7
    refine (can_any HOK.out (by omega) (own_cs hr5) (Nat.le_refl _) a b c).mono ?_
    rintro e w6 ⟨rfl, hx6⟩
    have hk := hk.trans hx6
    refine hK.out _ _ ⟨(HS.out.ext hk).cell 0, (HS.out.ext hk).cell 1, (HS.out.ext hk).cell 2⟩ (fun hHeld => ?_)
    (try simp only [Act.put, List.setIfInBounds_toArray, List.set_cons_zero, List.set_cons_succ])
    (refine held_take (i := 9) (v := ?_) rfl (by kernel_rfl) (by kernel_rfl) (by kernel_rfl) (fun _ _ _ h => h) (by rfl) ?_ (by assumption) ?_; rotate_left; (intro w hSw; (try dsimp only at hSw); (first | (go_simp; done) | (go_simp; with_reducible rfl))); (try simp only [Act.put, List.setIfInBounds_toArray, List.set_cons_zero, List.set_cons_succ]))
    (refine held_take (i := 10) (v := ?_) rfl (by kernel_rfl) (by kernel_rfl) (by kernel_rfl) (fun _ _ _ h => h) (by rfl) ?_ (by assumption) ?_; rotate_left; (intro w hSw; (try dsimp only at hSw); (first | (go_simp; done) | (go_simp; with_reducible rfl))); (try simp only [Act.put, List.setIfInBounds_toArray, List.set_cons_zero, List.set_cons_succ]))
    (refine held_take (i := 11) (v := ?_) rfl (by kernel_rfl) (by kernel_rfl) (by kernel_rfl) (fun _ _ _ h => h) (by rfl) ?_ (by assumption) ?_; rotate_left; (intro w hSw; (try dsimp only at hSw); (first | (go_simp; done) | (go_simp; with_reducible rfl))); (try simp only [Act.put, List.setIfInBounds_toArray, List.set_cons_zero, List.set_cons_succ]))
    (refine held_take (i := 12) (v := ?_) rfl (by kernel_rfl) (by kernel_rfl) (by kernel_rfl) (fun _ _ _ h => h) (by rfl) ?_ (by assumption) ?_; rotate_left; (intro w hSw; (try dsimp only at hSw); (first | (go_simp; done) | (go_simp; with_reducible rfl))); (try simp only [Act.put, List.setIfInBounds_toArray, List.set_cons_zero, List.set_cons_succ]))
    (refine held_take (i := 13) (v := ?_) rfl (by kernel_rfl) (by kernel_rfl) (by kernel_rfl) (fun _ _ _ h => h) (by rfl) ?_ (by assumption) ?_; rotate_left; (intro w hSw; (try dsimp only at hSw); (first | (go_simp; done) | (go_simp; with_reducible rfl))); (try simp only [Act.put, List.setIfInBounds_toArray, List.set_cons_zero, List.set_cons_succ]))
    refine wpAnyH_done (by kernel_rfl) ?_ _
    have HS := hide (HS.out.ext hk)
    have HX := hide (HX.out.trans hk)
    clear hK hHeld hr5 hk
    go_upto_region 4 with fail
    have hk := Ext.drew w6
    refine wp_region_held_drew (S := fun w' => w'.cell? ⟨w.heap.size, 0, none⟩ = some (.int .i64 a) ∧ w'.cell? ⟨w.heap.size, 1, none⟩ = some (.int .i64 b) ∧ w'.cell? ⟨w.heap.size, 2, none⟩ = some (.int .i64 c)) (by kernel_rfl) ⟨(HS.out.ext hk).cell 0, (HS.out.ext hk).cell 1, (HS.out.ext hk).cell 2⟩ (fun hHeld => ?_)
    (refine held_take (i := 0) (v := ?_) rfl (by kernel_rfl) (by kernel_rfl) (by kernel_rfl) (fun _ _ _ h => h) (by rfl) ?_ (by assumption) ?_; rotate_left; (intro w hSw; (try dsimp only at hSw); (first | (go_simp; done) | (go_simp; with_reducible rfl))); (try simp only [Act.put, List.setIfInBounds_toArray, List.set_cons_zero, List.set_cons_succ]))
    (refine held_take (i := 1) (v := ?_) rfl (by kernel_rfl) (by kernel_rfl) (by kernel_rfl) (fun _ _ _ h => h) (by rfl) ?_ (by assumption) ?_; rotate_left; (intro w hSw; (try dsimp only at hSw); (first | (go_simp; done) | (go_simp; with_reducible rfl))); (try simp only [Act.put, List.setIfInBounds_toArray, List.set_cons_zero, List.set_cons_succ]))
    (refine held_take (i := 2) (v := ?_) rfl (by kernel_rfl) (by kernel_rfl) (by kernel_rfl) (fun _ _ _ h => h) (by rfl) ?_ (by assumption) ?_; rotate_left; (intro w hSw; (try dsimp only at hSw); (first | (go_simp; done) | (go_simp; with_reducible rfl))); (try simp only [Act.put, List.setIfInBounds_toArray, List.set_cons_zero, List.set_cons_succ]))
    (refine held_take (i := 3) (v := ?_) rfl (by kernel_rfl) (by kernel_rfl) (by kernel_rfl) (fun _ _ _ h => h) (by rfl) ?_ (by assumption) ?_; rotate_left; (intro w hSw; (try dsimp only at hSw); (first | (go_simp; done) | (go_simp; with_reducible rfl))); (try simp only [Act.put, List.setIfInBounds_toArray, List.set_cons_zero, List.set_cons_succ]))
    (refine held_take (i := 4) (v := ?_) rfl (by kernel_rfl) (by kernel_rfl) (by kernel_rfl) (fun _ _ _ h => h) (by rfl) ?_ (by assumption) ?_; rotate_left; (intro w hSw; (try dsimp only at hSw); (first | (go_simp; done) | (go_simp; with_reducible rfl))); (try simp only [Act.put, List.setIfInBounds_toArray, List.set_cons_zero, List.set_cons_succ]))
    (refine held_take (i := 5) (v := ?_) rfl (by kernel_rfl) (by kernel_rfl) (by kernel_rfl) (fun _ _ _ h => h) (by rfl) ?_ (by assumption) ?_; rotate_left; (intro w hSw; (try dsimp only at hSw); (first | (go_simp; done) | (go_simp; with_reducible rfl))); (try simp only [Act.put, List.setIfInBounds_toArray, List.set_cons_zero, List.set_cons_succ]))
    (refine held_take (i := 6) (v := ?_) rfl (by kernel_rfl) (by kernel_rfl) (by kernel_rfl) (fun _ _ _ h => h) (by rfl) ?_ (by assumption) ?_; rotate_left; (intro w hSw; (try dsimp only at hSw); (first | (go_simp; done) | (go_simp; with_reducible rfl))); (try simp only [Act.put, List.setIfInBounds_toArray, List.set_cons_zero, List.set_cons_succ]))
    refine wpAnyH_ready (rs := [7]) (by kernel_rfl) (by simp) (held_cons rfl (fun K hK => ?_) AllReadyH.nil)
    rw [if_pos (by rfl)]
    go_simp
    go_at_call 8
    refine (theirs_any (H.out.ext (HX.out.trans hk) (Nat.le_refl _)) ((HX.out.trans hk).size) (by omega)).mono ?_
    rintro e w5 ⟨A5, c5, rfl, hr5, hx5⟩
    have hk := hk.trans hx5
    refine hK.out _ _ ⟨(HS.out.ext hk).cell 0, (HS.out.ext hk).cell 1, (HS.out.ext hk).cell 2⟩ (fun hHeld => ?_)
    (try simp only [Act.put, List.setIfInBounds_toArray, List.set_cons_zero, List.set_cons_succ])
    refine wpAnyH_ready (rs := [8]) (by kernel_rfl) (by simp) (held_cons rfl (fun K hK => ?_) AllReadyH.nil)
    rw [if_pos (by rfl)]
    go_simp
    go_at_call 9
    refine (order_any HOK.out (by omega) (own_cs hr5) (Nat.le_refl _) a b c).mono ?_
    rintro e w7 ⟨v7, rfl, hr7, hx7⟩
    obtain ⟨A7, c7, rfl⟩ := own_sl hr7
    have HR7 := hide hr7
    have hk := hk.trans hx7
    refine hK.out _ _ ⟨(HS.out.ext hk).cell 0, (HS.out.ext hk).cell 1, (HS.out.ext hk).cell 2⟩ (fun hHeld => ?_)
    (try simp only [Act.put, List.setIfInBounds_toArray, List.set_cons_zero, List.set_cons_succ])
    (refine held_take (i := 9) (v := ?_) rfl (by kernel_rfl) (by kernel_rfl) (by kernel_rfl) (fun _ _ _ h => h) (by rfl) ?_ (by assumption) ?_; rotate_left; (intro w hSw; (try dsimp only at hSw); (first | (go_simp; done) | (go_simp; with_reducible rfl))); (try simp only [Act.put, List.setIfInBounds_toArray, List.set_cons_zero, List.set_cons_succ]))
    (refine held_take (i := 10) (v := ?_) rfl (by kernel_rfl) (by kernel_rfl) (by kernel_rfl) (fun _ _ _ h => h) (by rfl) ?_ (by assumption) ?_; rotate_left; (intro w hSw; (try dsimp only at hSw); (first | (go_simp; done) | (go_simp; with_reducible rfl))); (try simp only [Act.put, List.setIfInBounds_toArray, List.set_cons_zero, List.set_cons_succ]))
    (refine held_take (i := 11) (v := ?_) rfl (by kernel_rfl) (by kernel_rfl) (by kernel_rfl) (fun _ _ _ h => h) (by rfl) ?_ (by assumption) ?_; rotate_left; (intro w hSw; (try dsimp only at hSw); (first | (go_simp; done) | (go_simp; with_reducible rfl))); (try simp only [Act.put, List.setIfInBounds_toArray, List.set_cons_zero, List.set_cons_succ]))
    (refine held_take (i := 12) (v := ?_) rfl (by kernel_rfl) (by kernel_rfl) (by kernel_rfl) (fun _ _ _ h => h) (by rfl) ?_ (by assumption) ?_; rotate_left; (intro w hSw; (try dsimp only at hSw); (first | (go_simp; done) | (go_simp; with_reducible rfl))); (try simp only [Act.put, List.setIfInBounds_toArray, List.set_cons_zero, List.set_cons_succ]))
    (refine held_take (i := 13) (v := ?_) rfl (by kernel_rfl) (by kernel_rfl) (by kernel_rfl) (fun _ _ _ h => h) (by rfl) ?_ (by assumption) ?_; rotate_left; (intro w hSw; (try dsimp only at hSw); (first | (go_simp; done) | (go_simp; with_reducible rfl))); (try simp only [Act.put, List.setIfInBounds_toArray, List.set_cons_zero, List.set_cons_succ]))
    refine wpAnyH_done (by kernel_rfl) ?_ _
    have HS := hide (HS.out.ext hk)
    have HX := hide (HX.out.trans hk)
    clear hK hHeld hr5 hr7 hk
    have hro := rorder_any (c := cp) (by omega) (H.out.ext HX.out (Nat.le_refl _)) HX.out.size a b c
    have rs := HS.out.cell
    have hlen := ordP_len a b c n g
    generalize ordE a b c n g = er at *
    generalize ordP a b c n g = rr at *
    generalize (decide (er = 0) && rr.isSome) = bb at *
    generalize rr.getD [] = L at *
    obtain ⟨ln, hln⟩ : ∃ ln, ln = L.length := ⟨_, rfl⟩
    rw [← hln] at hro HR7 hlen ⊢
    have HLN := hide hln
    clear hln
    go_wp2_with fail
    refine hro.mono ?_
    rintro e w8 ⟨v8, rfl, hr8, hx8⟩
    obtain ⟨A8, c8, rfl⟩ := own_sl hr8
    have HR8 := hide hr8
    have HR7 := hide (own_ext HR7.out hx8)
    have HX8 := hide (HX.out.trans hx8)
    clear hro hr8 hx8 rs HX HS
    go_wp2_with fail
    go_loopw [87] (fun v wr => ∃ j : Nat, j ≤ ln ∧ v = .int .i64 (j : Int) ∧ Ext w8 wr) (fun v _ => ln - (intOf v).toNat)
    case atStart => exact ⟨0, by omega, rfl, Ext.refl _⟩
    case round =>
      obtain ⟨j, hj, rfl, hX⟩ := hrel
      by_cases hlt : j < ln
      · have hxd := hX.trans (Ext.drew wr)
        obtain ⟨q, hq⟩ : ∃ q, L[j]? = some q := ⟨_, List.getElem?_eq_getElem (by have := HLN.out; omega)⟩
        have hq2 : (L.map enI)[j]? = some (enI q) := by rw [List.getElem?_map, hq]; rfl
        obtain ⟨G7, k7, e7, _, h7⟩ := own_atX HR7.out hq2
        obtain ⟨G8, k8, e8, _, h8⟩ := own_atX HR8.out hq2
        cases e7
        cases e8
        have r7 := h7 _ hxd
        have r8 := h8 _ hxd
        have HXD := hide hxd
        unfold enI at r7 r8
        clear hq hq2 h7 h8 hX hxd
        go_wp2_with fail
        go_region
        go_wp2_with fail
        go_roundw
        case rel => exact ⟨j + 1, by omega, by go_num, HXD.out⟩
        case measure => simp [intOf]; omega
      · have HXW := hide (HX8.out.trans hX)
        have hth := theirs_any (c := cp) (H.out.ext HXW.out (Nat.le_refl _)) HXW.out.size (by omega)
        clear hX HR7 HR8
        go_wp2_with fail
        refine hth.mono ?_
        rintro e w9 ⟨A9, c9, rfl, hr9, hx9⟩
        have HC9 := hide (own_cs hr9)
        have HX9 := hide (HXW.out.trans hx9)
        clear hth hr9 hx9 HXW
        go_wp2_with fail
        go_loopw [103] (fun v wr => ∃ j : Nat, j ≤ n ∧ v = .int .i64 (j : Int) ∧ Ext w9 wr) (fun v _ => n - (intOf v).toNat)
        case atStart => exact ⟨0, by omega, rfl, Ext.refl _⟩
        case round =>
          obtain ⟨j, hj, rfl, hX⟩ := hrel
          by_cases hlt : j < n
          · have HX10 := hide (hX.trans (Ext.alloc wr (.cells (cc (g j)) 38)))
            have HXW := hide ((HX9.out.trans hX).trans (Ext.alloc wr (.cells (cc (g j)) 38)))
            have HT := hide (Blk.new wr (cc (g j)) 38)
            obtain ⟨b, off, rfl, hb0, r0, r1, r2, r3, r4, r5, r6⟩ := (HC9.out.ext hX (Nat.le_refl _)).rules hlt
            clear hX
            unfold cc at HX10 HXW HT
            go_upto_region 17 with fail
            clear r0 r1 r2 r3 r4 r5 r6
            obtain ⟨T, hT⟩ : ∃ T, T = wr.heap.size := ⟨_, rfl⟩
            rw [← hT] at HT ⊢
            clear hT
            generalize wr.alloc (.cells #[.int .i64 (g j).k, .int .i64 (g j).t, .int .i64 (g j).o, .int .i64 (g j).a, .int .i64 (g j).r, .int .i64 (g j).f, .int .i64 (g j).u] 38) = W1 at *
            have HT : Hid (Blk W1 T (cc (g j)) 38) := HT
            have hk := Ext.drew W1
            have hcs := fun w' (x : Ext W1 w') => (H.out.ext (HXW.out.trans x) (Nat.le_refl _)).rng hlt
            obtain ⟨bl, ol, el, _⟩ := hcs _ hk
            subst el
            have HCS := hide (show ∀ w', Ext W1 w' → w'.rangeAt bl (ol + j * 7) (cc (g j)).toList from fun w' x => by
              obtain ⟨b2, o2, e2, h2⟩ := hcs w' x
              cases e2
              exact h2)
            clear hcs
            refine wp_region_held_drew (S := fun w' => w'.rangeAt T 0 (cc (g j)).toList ∧ w'.rangeAt bl (ol + j * 7) (cc (g j)).toList) (by kernel_rfl) ⟨cc_rng (HT.out.ext hk), HCS.out _ hk⟩ (fun hHeld => ?_)
            refine wpAnyH_take (i := 0) (at_drop rfl) (by kernel_rfl) (by kernel_rfl) (by kernel_rfl) (fun _ _ _ h => h) (yieldsIf_load_mid (by rfl) 38 _ rfl T 0 rfl (cc (g j)).toList _ (fun w h => h.1) Try.underlying38 rfl (inf_c7 (g j))) (by assumption) ?_
            rw [Array.toArray_toList]
            (try simp only [Act.put, List.setIfInBounds_toArray, List.set_cons_zero, List.set_cons_succ])
            (refine held_take (i := 2) (v := ?_) rfl (by kernel_rfl) (by kernel_rfl) (by kernel_rfl) (fun _ _ _ h => h) (by rfl) ?_ (by assumption) ?_; rotate_left; (intro w hSw; (try dsimp only at hSw); (first | (go_simp; done) | (go_simp; with_reducible rfl))); (try simp only [Act.put, List.setIfInBounds_toArray, List.set_cons_zero, List.set_cons_succ]))
            (refine held_take (i := 3) (v := ?_) rfl (by kernel_rfl) (by kernel_rfl) (by kernel_rfl) (fun _ _ _ h => h) (by rfl) ?_ (by assumption) ?_; rotate_left; (intro w hSw; (try dsimp only at hSw); (first | (go_simp; done) | (go_simp; with_reducible rfl))); (try simp only [Act.put, List.setIfInBounds_toArray, List.set_cons_zero, List.set_cons_succ]))
            (refine held_take (i := 4) (v := ?_) rfl (by kernel_rfl) (by kernel_rfl) (by kernel_rfl) (fun _ _ _ h => h) (by rfl) ?_ (by assumption) ?_; rotate_left; (intro w hSw; (try dsimp only at hSw); (first | (go_simp; done) | (go_simp; with_reducible rfl))); (try simp only [Act.put, List.setIfInBounds_toArray, List.set_cons_zero, List.set_cons_succ]))
            refine wpAnyH_take (i := 5) (at_drop rfl) (by kernel_rfl) (by kernel_rfl) (by kernel_rfl) (fun _ _ _ h => h) (yieldsIf_load_mid (by rfl) 44 _ rfl bl (ol + j * 7) rfl (cc (g j)).toList _ (fun w h => h.2) Try.underlying44 rfl (inf_r7 (g j))) (by assumption) ?_
            rw [Array.toArray_toList]
            (try simp only [Act.put, List.setIfInBounds_toArray, List.set_cons_zero, List.set_cons_succ])
            have CM := hide (cmay_any (g j))
            have RM := hide (rmay_any (g j))
            generalize mayC (g j) = m at *
            refine wpAnyH_ready (rs := [1]) (by kernel_rfl) (by simp) (held_cons rfl (fun K hK => ?_) AllReadyH.nil)
            rw [if_pos (by rfl)]
            go_simp
            go_at_call 11
            refine (CM.out _).mono ?_
            rintro e w11 ⟨rfl, hx11⟩
            have hk := hk.trans hx11
            refine hK.out _ _ ⟨cc_rng (HT.out.ext hk), HCS.out _ hk⟩ (fun hHeld => ?_)
            (try simp only [Act.put, List.setIfInBounds_toArray, List.set_cons_zero, List.set_cons_succ])
            refine wpAnyH_ready (rs := [6]) (by kernel_rfl) (by simp) (held_cons rfl (fun K hK => ?_) AllReadyH.nil)
            rw [if_pos (by rfl)]
            go_simp
            go_at_call 12
            refine (RM.out _).mono ?_
            rintro e w12 ⟨rfl, hx12⟩
            have hk := hk.trans hx12
            refine hK.out _ _ ⟨cc_rng (HT.out.ext hk), HCS.out _ hk⟩ (fun hHeld => ?_)
            (try simp only [Act.put, List.setIfInBounds_toArray, List.set_cons_zero, List.set_cons_succ])
            refine held_take (i := 7) (v := .bool false) rfl (by kernel_rfl) (by kernel_rfl) (by kernel_rfl) (fun _ _ _ h => h) (by rfl) (fun w' _ => by go_simp) (by assumption) ?_
            (try simp only [Act.put, List.setIfInBounds_toArray, List.set_cons_zero, List.set_cons_succ])
            refine wpAnyH_done (by kernel_rfl) ?_ _
            have HX12 := hide (HX10.out.trans hk)
            clear hK hHeld hk
            go_wp2_with fail
            go_roundw
            case rel => exact ⟨j + 1, by omega, by go_num, HX12.out⟩
            case measure => simp [intOf]; omega
          · have HXE := hide (HX9.out.trans hX)
            clear hX
            go_wp2_with fail
            refine (alive_any _).mono ?_
            rintro e w20 ⟨rfl, hx20⟩
            go_wp2_with fail
            go_ret
            exact ⟨by simp, HXE.out.trans hx20⟩
set_option maxRecDepth 100000 in
theorem checkOrders_walk {H : Type} {enc : TypeId × Value → H} (W : World) (base : Nat) (args : Array Value) (ds : List (DataW H)) (p : List MemPlace)
    (hval0 : ∀ (j : Nat) t v, Try.f3.params[j]? = some t → args[j]? = some v → Value.okWide Try.prog W .any base t v)
    (hA0 : DataW.TrodAll enc Try.prog W 0 (fun _ => true) true Try.f3.params.toList args.toList ds p) (_hlt : ∀ x ∈ p, x.block < W.heap.size) :
    Calls Try.prog 3 args W fun e W' => e = .returned (.bool true) ∧ Ext W W' := by
  have hval := hval0
  have hA := hA0
  rw [Try.params3] at hA hval
  clear hval0 hA0
  obtain ⟨v0, v1, d0, d1, p0, p1, hargs, rfl, rfl, h0, h1⟩ := trodAll_two hA
  obtain rfl : args = #[v0, v1] := by cases args; simp_all
  obtain ⟨a, b, c, rfl⟩ := open_trip (hval 0 22 v0 rfl rfl) h0
  obtain ⟨A, n, cp, g, rfl, hn, hc, hs, hok⟩ := open_calls (hval 1 23 v1 rfl rfl) h1
  by_cases q : (7 < n ∧ n ≤ 12) ∨ 100 < n
  · exact lorders_far q
  · exact lorders_any (by omega) (by omega) hs hok
set_option maxRecDepth 100000 in
theorem checkOrders_lifted (os : Os) (started : os.Started) (H : Type) (enc : TypeId × Value → H) :
    ReturnsInHanded {} Try.checked os 3 .any (Rows.checkOrdersSpec.pre6 enc Try.prog Try.f3 Rows.checkOrdersRow.domain false) (Rows.checkOrdersSpec.post enc Try.prog Try.f3 false true false false) :=
  law_lifted (fn := Try.f3) 4 os started (by kernel_rfl) Try.func3 rfl rfl Try.underlying4 (hread_of (by kernel_rfl))
    (fun l hl => by
      have hl2 : l.length = 2 := hl
      clear hl
      match l, hl2 with
      | [_, _], _ => rfl)
    (ChangeSpec.witness6 (enc := enc) (C := Try.checked) false ⟨#[], #[.agg #[.int .i64 0, .int .i64 0, .int .i64 0], .slice none 0 0], []⟩ 8 (by kernel_rfl) (by kernel_rfl) (by kernel_rfl) (by kernel_rfl))
    (fun W base args ds p hval hA hlt => checkOrders_walk W base args ds p hval hA hlt)
theorem checkOrders_holds : Rows.CheckOrdersSaid :=
  OpenClaim.holds_of_wide 3 Try.f3 rfl rfl rfl rfl rfl rfl rfl ⟨rfl, rfl, rfl, rfl, rfl⟩ rfl rfl rfl rfl rfl (by kernel_rfl) Try.func3 (by kernel_rfl)
    (of_decide_eq_true (by kernel_rfl)) (by unfold Func.isWrapper; rw [if_neg (of_decide_eq_false (by kernel_rfl))]; exact ⟨rfl, rfl⟩)
    (fun os started H enc _ => checkOrders_lifted os started H enc)
end Go.Proofs.Ytpielknodjppgaa
