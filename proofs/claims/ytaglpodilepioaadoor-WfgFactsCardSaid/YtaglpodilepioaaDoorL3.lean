/- WfgFacts, walked. -/
import Derived.Test.YtaglpodilepioaaDoorS2
import Derived.Test.YtaglpodilepioaaDoorM1
import Derived.Test.YtaglpodilepioaaDoorL2
namespace Go.Proofs.YtaglpodilepioaaDoor
open Go.RowKit
set_option linter.unusedSimpArgs false
set_option linter.unusedVariables false
set_option maxRecDepth 100000
set_option maxHeartbeats 16000000


/-- Whether one of the first nodes reaches itself. -/
noncomputable def rdB (E : Gr) (k : Nat) : Bool := (List.range k).any fun n => wayS E n n
theorem rdB_step (E : Gr) (k : Nat) : rdB E (k + 1) = (rdB E k || wayS E k k) := by
  unfold rdB
  rw [List.range_succ, List.any_append]
  simp
theorem rdB_iff {E : Gr} : rdB E 64 = true ↔ ∃ n, n < 64 ∧ Way E n n := by
  unfold rdB
  simp only [List.any_eq_true, List.mem_range, wayS_iff]
/-- Whether a number is among the first of a list. -/
def inT (l : List Nat) (x q : Nat) : Bool := (l.take q).any fun y => decide (y = x)
theorem inT_step {l : List Nat} {x q y : Nat} (h : l[q]? = some y) : inT l x (q + 1) = (inT l x q || decide (y = x)) := by
  unfold inT
  rw [List.take_add_one, h]
  simp [List.any_append]
theorem inT_fin {E : Gr} {k : Nat} (hk : k < 64) : inT (setL (wayS E k)) k (setL (wayS E k)).length = wayS E k k := by
  unfold inT
  rw [List.take_length, Bool.eq_iff_iff, List.any_eq_true]
  constructor
  · rintro ⟨y, hy, he⟩
    rw [decide_eq_true_eq] at he
    subst he
    exact (mem_setL.1 hy).2
  · intro h
    exact ⟨k, mem_setL.2 ⟨hk, h⟩, by simp⟩
/-- The places of an order's first nodes. -/
def plc (o : List Nat) : Nat → Int → Int
  | 0 => fun _ => 0
  | i + 1 => match o[i]? with
    | some x => updI (plc o i) (x : Int) ((i : Int) + 1)
    | none => plc o i
theorem plc_in {o : List Nat} : ∀ (i k : Nat), k ∈ o.take i → 1 ≤ plc o i (k : Int) ∧ plc o i (k : Int) ≤ (i : Int)
  | 0, k, h => by simp at h
  | i + 1, k, h => by
    unfold plc
    cases hi : o[i]? with
    | none =>
      have hl : o.length ≤ i := List.getElem?_eq_none_iff.1 hi
      have := plc_in (o := o) i k (by rw [List.take_of_length_le (by omega)] at h; rw [List.take_of_length_le hl]; exact h)
      simp only
      omega
    | some x =>
      simp only
      unfold updI
      by_cases e : (k : Int) = (x : Int)
      · rw [if_pos e]; omega
      · rw [if_neg e]
        rw [List.take_add_one, hi] at h
        have : k ∈ o.take i := by
          rcases List.mem_append.1 h with q | q
          · exact q
          · simp at q; omega
        have := plc_in (o := o) i k this
        omega
/-- What is kept of the order. -/
structure OrdOk (E : Gr) (o : List Nat) : Prop where
  lt : ∀ (i x : Nat), o[i]? = some x → x < 64
  nod : o.Nodup
  pre : ∀ (i x : Nat), o[i]? = some x → ∀ k, k < 64 → E x k = true → k ∈ o.take i
  len : o.length ≤ 64
theorem ord_ok (E : Gr) : OrdOk E ((ordR E).getD []) := by
  cases hq : ordR E with
  | none => exact ⟨by simp, List.nodup_nil, by simp, by simp⟩
  | some o =>
    obtain ⟨h1, h2, h3, h4, _⟩ := stp_is _ hq
    refine ⟨fun i x hx => (mem_setL.1 (h3 x (List.mem_of_getElem? hx))).1, h2, h4, ?_⟩
    have : stp E o.length = some o := by rw [h1]; exact hq
    exact ord_len this
theorem plc_next {E : Gr} {o : List Nat} (h : OrdOk E o) {i x k : Nat} (hx : o[i]? = some x) (hk : k < 64) (he : E x k = true) : 1 ≤ plc o (i + 1) (k : Int) ∧ plc o (i + 1) (k : Int) ≤ (i : Int) := by
  have hm := h.pre i x hx k hk he
  have hne : k ≠ x := by
    rintro rfl
    obtain ⟨j, hj⟩ := List.getElem?_of_mem hm
    have hji := (List.getElem?_eq_some_iff.1 hj).1
    rw [List.length_take] at hji
    rw [List.getElem?_take_of_lt (by omega)] at hj
    have hil := (List.getElem?_eq_some_iff.1 hx).1
    have hjo : j < o.length := by omega
    have := (List.getElem?_inj hjo h.nod).1 (hj.trans hx.symm)
    omega
  have := plc_in i k hm
  unfold plc
  rw [hx]
  simp only
  unfold updI
  rw [if_neg (by omega)]
  exact this
theorem lfacts_any {A : Option Addr} {es : IE} {n c : Nat} (w : World) (hT : Tb w) (h : Eds w A es) (hn : es.length = n) :
    Calls Tryd.prog 5 #[.slice A n c] w fun e w' => e = .returned (.bool true) ∧ Ext w w' := by
  have HT := hide hT
  clear hT
  by_cases hbig : 200 < n
  · have hb2 : (200 : Int) < (n : Int) := by omega
    clear h hn
    go_enter Tryd.func5, Tryd.ntmps5
    go_wp2_with (go_at_call 6; (with_reducible refine (alive_any _ HT.out).mono ?_); rintro e1 w1 ⟨rfl, hx1⟩; go_frame)
    go_ret
    exact ⟨rfl, hx1⟩
  · have hb2 : ¬ (200 : Int) < (n : Int) := by omega
    obtain ⟨zz, hz1, hz2, hz3, hz5, hz4⟩ : ∃ zz : Array Value, (∀ w, (zeroValue 27).run Tryd.prog w = .ok (.agg zz) w) ∧ ¬ zz = #[] ∧ ¬ zz.size < 2 ∧ zz.size = 64 ∧ zz = zrw := ⟨_, fun w => by kernel_rfl, by decide +kernel, by decide +kernel, by decide +kernel, rfl⟩
    have HZ := hide hz5
    clear hz4 hz5
    have HTH := hide (theirs_any c w h hn (by omega))
    generalize eg (adds es) = E at *
    clear h hn
    go_enter Tryd.func5, Tryd.ntmps5
    go_wp2_with fail
    refine HTH.out.mono ?_
    rintro e1 w1 ⟨rfl, hx1⟩
    have HX1 := hide (hx1.trans (Ext.alloc w1 (.cells zz 27)))
    have hg1 : w.heap.size ≤ w1.heap.size := hx1.size
    go_wp2_with (first | (refine put_g rfl _ _ rfl w1.heap.size E rfl rfl zz (Blk.new w1 zz 27) HZ.out ?_; intro w2 hb2 hc2 hs2; have HG := hide hb2; have HX := hide (HX1.out.turn hc2 (by simp; omega)); clear hb2 hc2 hs2; go_frame) | (refine get_g rfl _ rfl w1.heap.size E rfl HG.out ?_; go_frame))
    clear hz1 hz2 hz3
    refine (ring_any E _ (HT.out.ext HX.out)).mono ?_
    rintro e3 w3 ⟨v3, rfl, ⟨Q, hq, hr⟩, hx3⟩
    have HRO := hide (ring_ok hr)
    have hQl := ring_len hr
    obtain ⟨A3, c3, rfl⟩ := own_sl hq
    have HG := hide (HG.out.ext hx3)
    have HX := hide (HX.out.trans hx3)
    have HQ := hide hq
    clear hr hq hx3
    have HGW := hide hg1
    clear hg1 HX1 HTH hx1
    go_wp2_with fail
    generalize w1.heap.size = g at *
    go_loopw [5, 26] (fun b y wr => ∃ k : Nat, k ≤ 64 ∧ y = .int .i64 (k : Int) ∧ b = .bool (rdB E k) ∧ Ext w3 wr) (fun _ y _ => 64 - (intOf y).toNat)
    case atStart => exact ⟨0, by omega, rfl, by rfl, Ext.refl _⟩
    case round =>
      obtain ⟨k, hk, rfl, rfl, hX⟩ := hrel
      obtain ⟨Wo, hWo⟩ : ∃ W, W = wr := ⟨_, rfl⟩
      subst hWo
      have HXa := hide hX
      have HGa := hide (HG.out.ext hX)
      clear hX
      by_cases hlt : k < 64
      · have HS := hide (rdB_step E k)
        have HFN := hide (inT_fin (E := E) hlt)
        have hNl := setL_len (wayS E k)
        have HRE := hide (reach_any E (k : Int) Wo (HT.out.ext (HX.out.trans HXa.out)))
        rw [ofN_nat hlt] at HRE
        generalize setL (wayS E k) = N at *
        generalize rdB E k = t at *
        go_wp2_with (refine get_g rfl _ rfl g E rfl HGa.out ?_; go_frame)
        refine HRE.out.mono ?_
        rintro e4 w4 ⟨v4, rfl, hr4, hx4⟩
        obtain ⟨A4, c4, rfl⟩ := own_sl hr4
        have HR4 := hide hr4
        have HXb := hide (HXa.out.trans hx4)
        clear hr4 hx4 HRE
        go_wp2_with fail
        go_loopw [5, 33] (fun b y wr => wr = w4 ∧ ∃ q : Nat, q ≤ N.length ∧ y = .int .i64 (q : Int) ∧ b = .bool (t || inT N k q)) (fun _ y _ => N.length - (intOf y).toNat)
        case atStart => exact ⟨rfl, 0, by omega, rfl, by simp [inT]⟩
        case round =>
          obtain ⟨rfl, q, hq, rfl, rfl⟩ := hrel
          by_cases hlq : q < N.length
          · obtain ⟨y, hy⟩ : ∃ y, N[q]? = some y := ⟨_, List.getElem?_eq_getElem hlq⟩
            obtain ⟨b3, off3, c5, he3, _, hc3⟩ := row_at HR4.out hy
            simp only [Value.slice.injEq] at he3
            obtain ⟨rfl, -, rfl⟩ := he3
            have d3 := hc3 _ (Ext.refl _)
            have HS3 := hide (inT_step (x := k) hy)
            clear hy hc3
            obtain ⟨b, hb⟩ : ∃ b, (t || inT N k q) = b := ⟨_, rfl⟩
            have HB := hide hb
            rw [hb]
            clear hb
            have hdec : ((y : Int) == (k : Int)) = decide (y = k) := by rw [Bool.eq_iff_iff]; simp; omega
            generalize decide (y = k) = dy at *
            cases b with
            | true =>
              go_wp2_with fail
              go_roundw
              case rel => exact ⟨by first | rfl | trivial, q + 1, by omega, by go_num, by rw [HS3.out, ← Bool.or_assoc, HB.out, Bool.true_or]⟩
              case measure => simp [intOf]; omega
            | false =>
              go_wp2_with fail
              go_roundw
              case rel => exact ⟨by first | rfl | trivial, q + 1, by omega, by go_num, by rw [HS3.out, ← Bool.or_assoc, HB.out, Bool.false_or]⟩
              case measure => simp [intOf]; omega
          · obtain rfl : q = N.length := by omega
            rw [HFN.out]
            generalize wayS E k k = wk2 at *
            go_wp2_with fail
            go_roundw
            case rel => exact ⟨k + 1, by omega, by go_num, by rw [HS.out], HXb.out⟩
            case measure => simp [intOf]; omega
      · have HRD := hide (show rdB E k = true ↔ ∃ n, n < 64 ∧ Way E n n by rw [show k = 64 by omega]; exact rdB_iff)
        generalize rdB E k = round at *
        have HX := hide (HX.out.trans HXa.out)
        have HQ := hide (own_ext HQ.out HXa.out)
        have HG := HGa
        clear HXa HGa
        go_wp2_with fail
        go_loopw [47] (fun y wr => ∃ i : Nat, i ≤ Q.length ∧ y = .int .i64 (i : Int) ∧ Ext Wo wr) (fun y _ => Q.length - (intOf y).toNat)
        case atStart => exact ⟨0, by omega, rfl, Ext.refl _⟩
        case round =>
          obtain ⟨i, hi, rfl, hX⟩ := hrel
          have HXc := hide hX
          have HGc := hide (HG.out.ext hX)
          clear hX
          by_cases hlq : i < Q.length
          · have hlen : 0 < Q.length := by omega
            have hm : (i + 1) % Q.length < Q.length := Nat.mod_lt _ hlen
            obtain ⟨x, hx⟩ : ∃ x, Q[i]? = some x := ⟨_, List.getElem?_eq_getElem hlq⟩
            obtain ⟨y, hy⟩ : ∃ y, Q[(i + 1) % Q.length]? = some y := ⟨_, List.getElem?_eq_getElem hm⟩
            obtain ⟨z, hz⟩ : ∃ z, Q[0]? = some z := ⟨_, List.getElem?_eq_getElem hlen⟩
            have hx64 := HRO.out.lt i x hx
            have hy64 := HRO.out.lt _ y hy
            have hxy := HRO.out.next i x y hx hy
            have hzx : ¬ (x : Int) < (z : Int) := by have := HRO.out.least i x z hx hz; omega
            have hQ0 : ¬ Q = [] := by rintro rfl; simp at hlq
            have htm : ((i : Int) + 1).tmod (Q.length : Int) = (((i + 1) % Q.length : Nat) : Int) := by
              rw [Int.tmod_eq_emod_of_nonneg (by omega), Int.natCast_emod]; rfl
            generalize (i + 1) % Q.length = mm at *
            have hmi : (mm : Int) < (Q.length : Int) := by omega
            have wq : IntKind.i64.wrap ((i : Int) + 1) = (i : Int) + 1 := by rw [IntKind.wrap_i64]; omega
            obtain ⟨b3, off3, c5, he3, _, hc3⟩ := row_at HQ.out hx
            simp only [Value.slice.injEq] at he3
            obtain ⟨rfl, -, rfl⟩ := he3
            obtain ⟨b4, off4, c6, he4, _, hc4⟩ := row_at HQ.out hy
            simp only [Value.slice.injEq, Option.some.injEq, Addr.mk.injEq, and_true] at he4
            obtain ⟨⟨rfl, rfl⟩, -, rfl⟩ := he4
            obtain ⟨b5, off5, c7, he5, _, hc5⟩ := row_at HQ.out hz
            simp only [Value.slice.injEq, Option.some.injEq, Addr.mk.injEq, and_true] at he5
            obtain ⟨⟨rfl, rfl⟩, -, rfl⟩ := he5
            have d1 : ∀ wx, Ext wr wx → wx.cell? ⟨b3, off3 + i, none⟩ = some (.int .i64 (x : Int)) := fun wx h => hc3 wx (HXc.out.trans h)
            have d1' := d1 _ (Ext.refl _)
            have d2 : ∀ wx, Ext wr wx → wx.cell? ⟨b3, off3 + mm, none⟩ = some (.int .i64 (y : Int)) := fun wx h => hc4 wx (HXc.out.trans h)
            have d3 : ∀ wx, Ext wr wx → wx.cell? ⟨b3, off3, none⟩ = some (.int .i64 (z : Int)) := fun wx h => by have := hc5 wx (HXc.out.trans h); rwa [Nat.add_zero] at this
            have HHS := hide (fun w => has_any E (x : Int) (y : Int) w)
            rw [isN_nat hx64, isN_nat hy64, Int.toNat_natCast, Int.toNat_natCast, hxy] at HHS
            have HHS := hide HHS.out
            clear hx hy hz hc3 hc4 hc5 hxy
            go_wp2_with fail
            have hk := Ext.drew wr
            refine wp_region_held_drew (S := fun w2 => Ext wr w2) (by kernel_rfl) hk (fun hHeld => ?_)
            refine wpAnyH_take (i := 0) (at_drop rfl) (by kernel_rfl) (by kernel_rfl) (by kernel_rfl) (fun _ _ _ h => h) (yieldsIf_load_mid (by rfl) 27 _ rfl g 0 rfl (gc E).toList _ (fun w h => r64_rng (HGc.out.ext h)) Tryd.underlying27 rfl (inf_gc E)) (by assumption) ?_
            rw [Array.toArray_toList]
            (try simp only [Act.put, List.setIfInBounds_toArray, List.set_cons_zero, List.set_cons_succ])
            (refine held_take (i := 1) (v := ?_) rfl (by kernel_rfl) (by kernel_rfl) (by kernel_rfl) (fun _ _ _ h => h) (by rfl) ?_ (by assumption) ?_; rotate_left; (intro w hSw; (try dsimp only at hSw); (first | (go_simp; done) | (go_simp; with_reducible rfl))); (try simp only [Act.put, List.setIfInBounds_toArray, List.set_cons_zero, List.set_cons_succ]))
            (refine held_take (i := 2) (v := ?_) rfl (by kernel_rfl) (by kernel_rfl) (by kernel_rfl) (fun _ _ _ h => h) (by rfl) ?_ (by assumption) ?_; rotate_left; (intro w hSw; (try dsimp only at hSw); (first | (go_simp; done) | (go_simp; with_reducible rfl))); (try simp only [Act.put, List.setIfInBounds_toArray, List.set_cons_zero, List.set_cons_succ]))
            (refine held_take (i := 3) (v := ?_) rfl (by kernel_rfl) (by kernel_rfl) (by kernel_rfl) (fun _ _ _ h => h) (by rfl) ?_ (by assumption) ?_; rotate_left; (intro w hSw; (try dsimp only at hSw); (first | (go_simp; done) | (go_simp; with_reducible rfl))); (try simp only [Act.put, List.setIfInBounds_toArray, List.set_cons_zero, List.set_cons_succ]))
            (refine held_take (i := 4) (v := ?_) rfl (by kernel_rfl) (by kernel_rfl) (by kernel_rfl) (fun _ _ _ h => h) (by rfl) ?_ (by assumption) ?_; rotate_left; (intro w hSw; (try dsimp only at hSw); (first | (go_simp; done) | (go_simp; with_reducible rfl))); (try simp only [Act.put, List.setIfInBounds_toArray, List.set_cons_zero, List.set_cons_succ]))
            (refine held_take (i := 5) (v := ?_) rfl (by kernel_rfl) (by kernel_rfl) (by kernel_rfl) (fun _ _ _ h => h) (by rfl) ?_ (by assumption) ?_; rotate_left; (intro w hSw; (try dsimp only at hSw); (first | (go_simp; done) | (go_simp; with_reducible rfl))); (try simp only [Act.put, List.setIfInBounds_toArray, List.set_cons_zero, List.set_cons_succ]))
            (refine held_take (i := 6) (v := ?_) rfl (by kernel_rfl) (by kernel_rfl) (by kernel_rfl) (fun _ _ _ h => h) (by rfl) ?_ (by assumption) ?_; rotate_left; (intro w hSw; (try dsimp only at hSw); (first | (go_simp; done) | (go_simp; with_reducible rfl))); (try simp only [Act.put, List.setIfInBounds_toArray, List.set_cons_zero, List.set_cons_succ]))
            (refine held_take (i := 7) (v := ?_) rfl (by kernel_rfl) (by kernel_rfl) (by kernel_rfl) (fun _ _ _ h => h) (by rfl) ?_ (by assumption) ?_; rotate_left; (intro w hSw; (try dsimp only at hSw); (first | (go_simp; done) | (go_simp; with_reducible rfl))); (try simp only [Act.put, List.setIfInBounds_toArray, List.set_cons_zero, List.set_cons_succ]))
            (refine held_take (i := 8) (v := ?_) rfl (by kernel_rfl) (by kernel_rfl) (by kernel_rfl) (fun _ _ _ h => h) (by rfl) ?_ (by assumption) ?_; rotate_left; (intro w hSw; (try dsimp only at hSw); (first | (go_simp; done) | (go_simp; with_reducible rfl))); (try simp only [Act.put, List.setIfInBounds_toArray, List.set_cons_zero, List.set_cons_succ]))
            (refine held_take (i := 9) (v := ?_) rfl (by kernel_rfl) (by kernel_rfl) (by kernel_rfl) (fun _ _ _ h => h) (by rfl) ?_ (by assumption) ?_; rotate_left; (intro w hSw; (try dsimp only at hSw); (first | (go_simp; done) | (go_simp; with_reducible rfl))); (try simp only [Act.put, List.setIfInBounds_toArray, List.set_cons_zero, List.set_cons_succ]))
            refine wpAnyH_ready (rs := [10]) (by kernel_rfl) (by simp) (held_cons rfl (fun K hK => ?_) AllReadyH.nil)
            rw [if_pos (by rfl)]
            go_simp
            go_at_call 9
            refine (HHS.out _).mono ?_
            rintro e6 w6 ⟨rfl, hy⟩
            have hk := hk.trans hy
            refine hK.out _ _ hk (fun hHeld => ?_)
            (try simp only [Act.put, List.setIfInBounds_toArray, List.set_cons_zero, List.set_cons_succ])
            (refine held_take (i := 11) (v := ?_) rfl (by kernel_rfl) (by kernel_rfl) (by kernel_rfl) (fun _ _ _ h => h) (by rfl) ?_ (by assumption) ?_; rotate_left; (intro w hSw; (try dsimp only at hSw); (first | (go_simp; done) | (go_simp; with_reducible rfl))); (try simp only [Act.put, List.setIfInBounds_toArray, List.set_cons_zero, List.set_cons_succ]))
            (refine held_take (i := 12) (v := ?_) rfl (by kernel_rfl) (by kernel_rfl) (by kernel_rfl) (fun _ _ _ h => h) (by rfl) ?_ (by assumption) ?_; rotate_left; (intro w hSw; (try dsimp only at hSw); (first | (go_simp; done) | (go_simp; with_reducible rfl))); (try simp only [Act.put, List.setIfInBounds_toArray, List.set_cons_zero, List.set_cons_succ]))
            (refine held_take (i := 13) (v := ?_) rfl (by kernel_rfl) (by kernel_rfl) (by kernel_rfl) (fun _ _ _ h => h) (by rfl) ?_ (by assumption) ?_; rotate_left; (intro w hSw; (try dsimp only at hSw); (first | (go_simp; done) | (go_simp; with_reducible rfl))); (try simp only [Act.put, List.setIfInBounds_toArray, List.set_cons_zero, List.set_cons_succ]))
            (refine held_take (i := 14) (v := ?_) rfl (by kernel_rfl) (by kernel_rfl) (by kernel_rfl) (fun _ _ _ h => h) (by rfl) ?_ (by assumption) ?_; rotate_left; (intro w hSw; (try dsimp only at hSw); (first | (go_simp; done) | (go_simp; with_reducible rfl))); (try simp only [Act.put, List.setIfInBounds_toArray, List.set_cons_zero, List.set_cons_succ]))
            (refine held_take (i := 15) (v := ?_) rfl (by kernel_rfl) (by kernel_rfl) (by kernel_rfl) (fun _ _ _ h => h) (by rfl) ?_ (by assumption) ?_; rotate_left; (intro w hSw; (try dsimp only at hSw); (first | (go_simp; done) | (go_simp; with_reducible rfl))); (try simp only [Act.put, List.setIfInBounds_toArray, List.set_cons_zero, List.set_cons_succ]))
            (refine held_take (i := 16) (v := ?_) rfl (by kernel_rfl) (by kernel_rfl) (by kernel_rfl) (fun _ _ _ h => h) (by rfl) ?_ (by assumption) ?_; rotate_left; (intro w hSw; (try dsimp only at hSw); (first | (go_simp; done) | (go_simp; with_reducible rfl))); (try simp only [Act.put, List.setIfInBounds_toArray, List.set_cons_zero, List.set_cons_succ]))
            (refine held_take (i := 17) (v := ?_) rfl (by kernel_rfl) (by kernel_rfl) (by kernel_rfl) (fun _ _ _ h => h) (by rfl) ?_ (by assumption) ?_; rotate_left; (intro w hSw; (try dsimp only at hSw); (first | (go_simp; done) | (go_simp; with_reducible rfl))); (try simp only [Act.put, List.setIfInBounds_toArray, List.set_cons_zero, List.set_cons_succ]))
            (refine held_take (i := 18) (v := ?_) rfl (by kernel_rfl) (by kernel_rfl) (by kernel_rfl) (fun _ _ _ h => h) (by rfl) ?_ (by assumption) ?_; rotate_left; (intro w hSw; (try dsimp only at hSw); (first | (go_simp; done) | (go_simp; with_reducible rfl))); (try simp only [Act.put, List.setIfInBounds_toArray, List.set_cons_zero, List.set_cons_succ]))
            refine wpAnyH_done (by kernel_rfl) ?_ _
            have HXd := hide (HXc.out.trans hk)
            clear hK K htm wq hQ0 hmi hm d1 d1' d2 d3
            go_wp2_with fail
            go_roundw
            case rel => exact ⟨i + 1, by omega, by go_num, HXd.out⟩
            case measure => simp [intOf]; omega
          · obtain rfl : i = Q.length := by omega
            have HX := hide (HX.out.trans HXc.out)
            go_wp2_with (refine get_g rfl _ rfl g E rfl HGc.out ?_; go_frame)
            refine (order_any E _ (HT.out.ext HX.out)).mono ?_
            rintro e7 w7 ⟨v7, b7, rfl, hO7, hx7⟩
            have hq1 := hO7.ok
            have hOK := ord_ok E
            have hOI := ord_iff E
            have HO := hide hO7.row
            have HG := hide (HGc.out.ext hx7)
            have HX := hide (HX.out.trans hx7)
            have hb7 : b7 = !round := by
              cases hr : round
              · cases ho : ordR E with
                | none => have := HRD.out.2 (hOI.1 ho); rw [hr] at this; cases this
                | some o => rw [hq1, ho]; rfl
              · rw [hOI.2 (HRD.out.1 hr)] at hq1
                rw [hq1]; rfl
            have hQn : decide ((0 : Int) < (Q.length : Int)) = round := by
              rw [Bool.eq_iff_iff, decide_eq_true_eq, HRD.out, ← HRO.out.one]
              cases Q <;> simp
            have hQn2 : decide (0 < Q.length) = round := by rw [← hQn]; exact decide_eq_decide.2 (by omega)
            have hQr : (decide (0 < Q.length) != round) = false := by rw [hQn2]; simp
            have hRr : ((!round) == round) = false := by cases round <;> rfl
            have HOK := hide hOK
            have hol := hOK.len
            generalize Q.length = nQ at *
            generalize (ordR E).getD [] = o at *
            obtain ⟨A7, c7, rfl⟩ := own_sl HO.out
            subst hb7
            clear hO7 hq1 hOI hOK hx7 HGc HXc
            have hmm := @run_makeMap Tryd.prog
            have hm0 := BM.made w7
            have hx0 := Ext.alloc w7 (.map #[] 0)
            obtain ⟨m, hm⟩ : ∃ m, w7.heap.size = m := ⟨_, rfl⟩
            have HM := hide hm
            clear hm
            go_wp2_with fail
            clear hmm hQn hQn2 hQr hRr hi hlq HRD HQ
            go_loopw [90] (fun y wr => ∃ i : Nat, i ≤ o.length ∧ y = .int .i64 (i : Int) ∧ BM wr w7.heap.size i (plc o i) ∧ Ext w7 wr) (fun y _ => o.length - (intOf y).toNat)
            case atStart => exact ⟨0, by omega, rfl, hm0, hx0⟩
            case round =>
              obtain ⟨i, hi, rfl, hM, hX⟩ := hrel
              obtain ⟨Wp, hWp⟩ : ∃ W, W = wr := ⟨_, rfl⟩
              subst hWp
              have HMp := hide hM
              have HXe := hide hX
              clear hM hX
              by_cases hlo : i < o.length
              · obtain ⟨x, hx⟩ : ∃ x, o[i]? = some x := ⟨_, List.getElem?_eq_getElem hlo⟩
                have hx64 := HOK.out.lt i x hx
                obtain ⟨b3, off3, c5, he3, _, hc3⟩ := row_at HO.out hx
                simp only [Value.slice.injEq] at he3
                obtain ⟨rfl, -, rfl⟩ := he3
                have d1 := hc3 _ HXe.out
                have HPN := hide (fun k hk he => plc_next HOK.out (k := k) hx hk he)
                have HPS := hide (show plc o (i + 1) = updI (plc o i) (x : Int) ((i : Int) + 1) by rw [plc, hx])
                have HNX := hide (fun (w' : World) (hT : Tb w') => next_any E (x : Int) w' hT)
                rw [ofN_nat hx64] at HNX
                have hNm : ∀ k, k ∈ setL (E x) → k < 64 ∧ E x k = true := fun k hk => mem_setL.1 hk
                have hNl := setL_len (E x)
                have HNX := hide HNX.out
                generalize setL (E x) = N at *
                clear hx hc3
                go_wp2_with (first | (refine wpList_put rfl _ _ _ rfl rfl HMp.out (by unfold maxLen; omega) (x : Int) ((i : Int) + 1) rfl rfl (ky_wf (by omega) (by omega)) (ky_wf (by omega) (by omega)) ?_; intro w8 hm8 hg8; have HM8 := hide hm8; have HX8 := hide (Ext.grown HXe.out hg8 (by intro k hk; cases hk; exact Nat.le_refl _)); have HG8 := hide (HG.out.ext HX8.out); clear hm8 hg8; go_frame) | (refine get_g rfl _ rfl g E rfl HG8.out ?_; go_frame))
                refine (HNX.out w8 (HT.out.ext (HX.out.trans HX8.out))).mono ?_
                rintro e9 w9 ⟨v9, rfl, hr9, hx9⟩
                obtain ⟨A9, c9, rfl⟩ := own_sl hr9
                have HR9 := hide hr9
                have HM9 := hide (HM8.out.ext hx9)
                rw [← HPS.out] at HM9
                have HX9 := hide (HX8.out.trans hx9)
                clear hr9 hx9 HNX HM8 HG8
                go_wp2_with fail
                go_loopw [103] (fun y wr => wr = w9 ∧ ∃ q : Nat, q ≤ N.length ∧ y = .int .i64 (q : Int)) (fun y _ => N.length - (intOf y).toNat)
                case atStart => exact ⟨rfl, 0, by omega, rfl⟩
                case round =>
                  obtain ⟨rfl, q, hq, rfl⟩ := hrel
                  by_cases hlq : q < N.length
                  · obtain ⟨y, hy⟩ : ∃ y, N[q]? = some y := ⟨_, List.getElem?_eq_getElem hlq⟩
                    obtain ⟨hy64, hyE⟩ := hNm y (List.mem_of_getElem? hy)
                    obtain ⟨u1, u2⟩ := HPN.out y hy64 hyE
                    have hlk := HM9.out.look (a := (y : Int)) (ky_wf (by omega) (by omega))
                    obtain ⟨b4, off4, c6, he4, _, hc4⟩ := row_at HR9.out hy
                    simp only [Value.slice.injEq] at he4
                    obtain ⟨rfl, -, rfl⟩ := he4
                    have d3 := hc4 _ (Ext.refl _)
                    generalize plc o (i + 1) (y : Int) = u at *
                    have E1 : (u == 0) = false := by simp; omega
                    have E2 : ¬ (i : Int) < u := by omega
                    clear hy hc4 hyE
                    go_wp2_with fail
                    go_roundw
                    case rel => exact ⟨by first | rfl | trivial, q + 1, by omega, by go_num⟩
                    case measure => simp [intOf]; omega
                  · obtain rfl : q = N.length := by omega
                    go_wp2_with fail
                    go_roundw
                    case rel => exact ⟨i + 1, by omega, by go_num, HM9.out, HX9.out⟩
                    case measure => simp [intOf]; omega
              · obtain rfl : i = o.length := by omega
                go_wp2_with fail
                refine (alive_any _ (HT.out.ext (HX.out.trans HXe.out))).mono ?_
                rintro e10 w10 ⟨rfl, hx10⟩
                go_wp2_with fail
                go_ret
                exact ⟨rfl, (HX.out.trans HXe.out).trans hx10⟩
end Go.Proofs.YtaglpodilepioaaDoor
