/-
  A law of layer 18 holds of every input: VmqRooms. No condition.
-/
import Derived.Test.YtonaibpenijomaaS1
namespace Go.Proofs.Ytonaibpenijomaa
open Go.ChangeShapes Go.WideShapes Go.ChangeAt Go.RowKit Go.Deep Go.Joins
set_option linter.unusedVariables false
set_option linter.unusedSimpArgs false
set_option maxRecDepth 100000


/-- So many requests that nobody waits for. -/
def full (n : Nat) : List En := (List.range n).map fun (j : Nat) => (((1 : Int), (j : Int)), ([] : List Int))
theorem full_len (n : Nat) : (full n).length = n := by simp [full]
theorem full_succ (n : Nat) : full (n + 1) = full n ++ [((1, (n : Int)), [])] := by simp [full, List.range_succ]
theorem full_has {n j : Nat} (h : n ≤ j) : hasR (full n) (1, (j : Int)) = false := has_none fun e he q => by
  obtain ⟨i, hi, rfl⟩ := List.mem_map.1 he
  have := List.mem_range.1 hi
  simp at q
  omega
theorem full_waits (n : Nat) : waitsB (full n) (-1) = false := waits_none fun e he q => by
  obtain ⟨i, hi, rfl⟩ := List.mem_map.1 he
  simp at q
theorem full_ok {j : Nat} (h : j < 400) : okA (1, (j : Int)) (-1) = true := by unfold okA mayR okT; simp; omega
theorem full_ask {j : Nat} (h : j < 256) : askB (full j) (1, (j : Int)) (-1) = true ∧ askE (full j) (1, (j : Int)) (-1) = 0 ∧ askS (full j) (1, (j : Int)) (-1) = full (j + 1) := by
  have h0 := askE_new (full_ok (by omega)) (full_waits j) (full_has (Nat.le_refl j)) (by rw [full_len]; omega)
  have := ask_new h0 (full_has (Nat.le_refl j))
  rw [full_succ]
  exact ⟨this.1, h0, this.2⟩
theorem full_over {j : Nat} (h : 256 ≤ j) (h2 : j < 400) : askB (full 256) (1, (j : Int)) (-1) = false ∧ askE (full 256) (1, (j : Int)) (-1) = 8 ∧ askS (full 256) (1, (j : Int)) (-1) = full 256 := by
  have h0 := askE_full (full_ok h2) (full_waits 256) (full_has h) (full_len 256)
  have := ask_err h0 (by decide)
  exact ⟨this.1, h0, this.2⟩
def SI (w0 wr : World) (C : Nat) (S : List En) : Prop := ∃ O, QT wr O C S ∧ (∀ k, k ∈ O → w0.heap.size ≤ k) ∧ Ext w0 wr
theorem SI.ext {w0 wr w' : World} {C : Nat} {S : List En} (h : SI w0 wr C S) (x : Ext wr w') : SI w0 w' C S := by
  obtain ⟨O, h1, h2, h3⟩ := h
  exact ⟨O, h1.ext x, h2, h3.trans x⟩
theorem SI.any {w0 wr : World} {C : Nat} {S : List En} (h : SI w0 wr C S) : Any wr (.pointer (some ⟨C, 0, none⟩)) true S := by
  obtain ⟨O, h1, h2, h3⟩ := h
  exact h1.any
theorem SI.ok {w0 wr : World} {C : Nat} {S : List En} (h : SI w0 wr C S) : Ok S := by
  obtain ⟨O, h1, h2, h3⟩ := h
  exact h1.ok
theorem SI.e {w0 wr : World} {C : Nat} {S : List En} (h : SI w0 wr C S) : Ext w0 wr := by
  obtain ⟨O, h1, h2, h3⟩ := h
  exact h3
theorem SI.ask {w0 w : World} {C : Nat} {S : List En} {k o : Int} (t : Int) (h : SI w0 w C S) (hr : wfR (k, o)) :
    Calls Try.prog 12 #[.pointer (some ⟨C, 0, none⟩), (Value.agg #[.int .i64 k, .int .i64 o]), .int .i64 t] w fun e w' => e = .returned (.tuple #[.bool (askB S (k, o) t), .int .i64 (askE S (k, o) t)]) ∧ SI w0 w' C (askS S (k, o) t) := by
  obtain ⟨O, h1, h2, h3⟩ := h
  exact (ask_any t h1 hr).mono fun e w' ⟨e1, O', q1, q2, q3⟩ => ⟨e1, O', q1, q3.low h2 h3, h3.turn q2 h2⟩
set_option maxHeartbeats 4000000 in
theorem lrooms_any (A : Option Addr) (n c : Nat) (f : Nat → Stp) (q : Nat) (w : World) (hq : q < 65536) (hnc : n ≤ c) (hc : c ≤ maxLen) (hs : Stps w A n f) (hf : ∀ k, k < n → Okst (f k)) :
    Calls Try.prog 6 #[.slice A n c, .int .u16 (q : Int)] w fun e w' => e = .returned (.bool true) ∧ Ext w w' := by
  have gm : (q : Int).tmod 400 = ((q % 400 : Nat) : Int) := by have := Int.ofNat_tmod q 400; simpa using this.symm
  have hM : q % 400 < 400 := Nat.mod_lt _ (by omega)
  generalize q % 400 = M at *
  have gw : IntKind.i64.wrap (q : Int) = (q : Int) := by rw [IntKind.wrap_i64]; omega
  go_enter Try.func6, Try.ntmps6
  go_wp2_with fail
  refine (new_any _).mono ?_
  rintro e w1 ⟨O1, C, rfl, hq1, hO1, hX1⟩
  have hS : SI w w1 C (full 0) := ⟨O1, hq1, hO1, hX1⟩
  clear hq1 hO1 hX1
  go_wp2_with fail
  go_loopw [21] (fun i wr => ∃ j : Nat, j ≤ M ∧ i = .int .i64 (j : Int) ∧ SI w wr C (full (min j 256))) (fun i _ => M - (intOf i).toNat)
  case atStart => exact ⟨0, by omega, rfl, hS⟩
  case round =>
    clear hS
    obtain ⟨j, hj, rfl, hS⟩ := hrel
    by_cases hlt : j < M
    · have hw : wfR (1, (j : Int)) := ⟨wfI_of (by simp) (by simp), wfI_of (by simp only; omega) (by simp only; omega)⟩
      have hcall := hS.ask (-1) hw
      by_cases h256 : j < 256
      · have hi : (j : Int) < 256 := by omega
        have HM := hide (show min (j + 1) 256 = j + 1 by omega)
        rw [show min j 256 = j by omega, (full_ask h256).1, (full_ask h256).2.1, (full_ask h256).2.2] at hcall
        clear hS
        go_wp2_with fail
        refine hcall.mono ?_
        rintro e w2 ⟨rfl, hS⟩
        go_wp2_with fail
        go_roundw
        case rel => exact ⟨j + 1, by omega, by go_num, by rw [HM.out]; exact hS⟩
        case measure => simp [intOf]; omega
      · have hi : ¬ (j : Int) < 256 := by omega
        have HM := hide (show min (j + 1) 256 = 256 by omega)
        rw [show min j 256 = 256 by omega, (full_over (by omega) (by omega)).1, (full_over (by omega) (by omega)).2.1, (full_over (by omega) (by omega)).2.2] at hcall
        clear hS
        go_wp2_with fail
        refine hcall.mono ?_
        rintro e w2 ⟨rfl, hS⟩
        go_wp2_with fail
        go_roundw
        case rel => exact ⟨j + 1, by omega, by go_num, by rw [HM.out]; exact hS⟩
        case measure => simp [intOf]; omega
    · obtain rfl : j = M := by omega
      obtain ⟨W1, hW1⟩ : ∃ W, W = wr := ⟨_, rfl⟩
      subst hW1
      go_wp2_with fail
      refine (short_any _ _ _ _ hnc hc).mono ?_
      rintro e w5 ⟨rfl, rfl⟩
      go_wp2_with fail
      have hNn : min n 400 ≤ n := Nat.min_le_left _ _
      have hN4 : min n 400 ≤ 400 := Nat.min_le_right _ _
      generalize min n 400 = N at *
      go_loopw [46] (fun i wr => ∃ (j : Nat) (S : List En), j ≤ N ∧ i = .int .i64 (j : Int) ∧ SI w wr C S) (fun i _ => N - (intOf i).toNat)
      case atStart => exact ⟨0, _, by omega, rfl, hS⟩
      case round =>
        clear hS
        obtain ⟨j, S, hj, rfl, hS⟩ := hrel
        by_cases hlt : j < N
        · obtain ⟨b, off, rfl, r0, r1, r2, r3⟩ := hs.rules (k := j) (by omega)
          have okj := hf j (by omega)
          obtain ⟨O, hq1, hO, hX⟩ := hS
          have p0 := r0 _ hX
          have p1 := r1 _ hX
          have p2 := r2 _ hX
          have p3 := r3 _ hX
          clear r0 r1 r2 r3
          generalize f j = s at *
          obtain ⟨kk, a, o, t⟩ := s
          simp only at p0 p1 p2 p3
          have hr : wfR (a, o) := okj.r
          have k0 : 0 ≤ kk := okj.k0
          have k1 : kk ≤ 255 := okj.k1
          have hxa := Ext.alloc wr (.cells #[.int .u8 kk, .int .i64 a, .int .i64 o, .int .i64 t] 32)
          have hB := Blk.new wr #[.int .u8 kk, .int .i64 a, .int .i64 o, .int .i64 t] 32
          have hnb : wr.heap.size ∉ O := fun z => by have := hq1.lt _ z; omega
          have HW := hide (waits_in t (hq1.ext hxa).any)
          have HQ := hide hq1
          have HX := hide hX
          have HO := hide hO
          have HB := hide hB
          have HNB := hide hnb
          clear hq1 hX hO hB hnb okj
          go_wp2_with fail
          refine HW.out.mono ?_
          rintro e w2 ⟨rfl, hx2⟩
          have hy2 := hxa.trans hx2
          have hL := len_any (HQ.out.ext hy2).any
          go_wp2_with fail
          refine hL.mono ?_
          rintro e w3 ⟨rfl, hx3⟩
          have hy3 := hy2.trans hx3
          have HB3 := hide ((HB.out.ext hx2).ext hx3)
          have rB := HB3.out.cell
          have hA := ask_any t (HQ.out.ext hy3) hr
          have HX3 := hide (HX.out.trans hy3)
          clear HW hL hx2 hx3 hy2 hy3 hxa p0 p1 p2 p3
          rcases ask_cases S (a, o) t with ⟨e0, e1, e2⟩ | ⟨e0, ok, ew, eh, e1, e2⟩ | ⟨e0, ok, ew, eh, el, e1, e2⟩
          · rw [e1, e2] at hA
            generalize askE S (a, o) t = z at *
            have z0 : (z == 0) = false := by simpa using e0
            generalize waitsB S t = wb at *
            clear e0 e1 e2
            have hl2 := HQ.out.ok.len
            have hl3 : ¬ (256 : Int) < (S.length : Int) := by omega
            cases wb
            · go_wp2_with fail
              refine hA.mono ?_
              rintro e w4 ⟨rfl, O4, hq4, hc4, hf4⟩
              have rB4 := (HB3.out.chg hc4 HNB.out).rule
              have hW4 := waits_in t hq4.any
              have hL4 := len_any hq4.any
              have WAI4 := hide (fun w' (x : Ext w4 w') => waits_in t (hq4.ext x).any)
              have hL4 := fun w' (x : Ext w4 w') => len_any (hq4.ext x).any
              skip
              have LEN4 := hide hL4
              (try rw [hw4] at WAI4)
              have HS := hide (show SI w w4 C _ from ⟨O4, hq4, hf4.low HO.out HX3.out, HX3.out.turn hc4 HO.out⟩)
              have hW := Ext.refl w4
              clear rB hW4 hL4 hq4 hc4 hf4 hA
              go_wp2_with (first | (go_at_call 15; (with_reducible refine (WAI4.out _ hW).mono ?_); rintro e w' ⟨rfl, hb⟩; have hW := Ext.trans2 hW (by repeat (first | exact Ext.refl _ | exact Ext.alloc _ _ | exact Ext.drewN _ _ | assumption | refine Ext.trans ?_ (Ext.alloc _ _) | refine Ext.trans ?_ (Ext.drew _) | refine Ext.trans ?_ (by assumption))) hb; (try have hV := Ext.trans2 hV (by repeat (first | exact Ext.refl _ | exact Ext.alloc _ _ | exact Ext.drewN _ _ | assumption | refine Ext.trans ?_ (Ext.alloc _ _) | refine Ext.trans ?_ (Ext.drew _) | refine Ext.trans ?_ (by assumption))) hb); clear hb) | (go_at_call 17; (with_reducible refine (LEN4.out _ hW).mono ?_); rintro e w' ⟨rfl, hb⟩; have hW := Ext.trans2 hW (by repeat (first | exact Ext.refl _ | exact Ext.alloc _ _ | exact Ext.drewN _ _ | assumption | refine Ext.trans ?_ (Ext.alloc _ _) | refine Ext.trans ?_ (Ext.drew _) | refine Ext.trans ?_ (by assumption))) hb; (try have hV := Ext.trans2 hV (by repeat (first | exact Ext.refl _ | exact Ext.alloc _ _ | exact Ext.drewN _ _ | assumption | refine Ext.trans ?_ (Ext.alloc _ _) | refine Ext.trans ?_ (Ext.drew _) | refine Ext.trans ?_ (by assumption))) hb); clear hb))
              go_roundw
              case rel => exact ⟨j + 1, _, by omega, by go_num, HS.out.ext hW⟩
              case measure => simp [intOf]; omega
            · go_wp2_with fail
              refine hA.mono ?_
              rintro e w4 ⟨rfl, O4, hq4, hc4, hf4⟩
              have rB4 := (HB3.out.chg hc4 HNB.out).rule
              have hW4 := waits_in t hq4.any
              have hL4 := len_any hq4.any
              have WAI4 := hide (fun w' (x : Ext w4 w') => waits_in t (hq4.ext x).any)
              have hL4 := fun w' (x : Ext w4 w') => len_any (hq4.ext x).any
              skip
              have LEN4 := hide hL4
              (try rw [hw4] at WAI4)
              have HS := hide (show SI w w4 C _ from ⟨O4, hq4, hf4.low HO.out HX3.out, HX3.out.turn hc4 HO.out⟩)
              have hW := Ext.refl w4
              clear rB hW4 hL4 hq4 hc4 hf4 hA
              go_wp2_with (first | (go_at_call 15; (with_reducible refine (WAI4.out _ hW).mono ?_); rintro e w' ⟨rfl, hb⟩; have hW := Ext.trans2 hW (by repeat (first | exact Ext.refl _ | exact Ext.alloc _ _ | exact Ext.drewN _ _ | assumption | refine Ext.trans ?_ (Ext.alloc _ _) | refine Ext.trans ?_ (Ext.drew _) | refine Ext.trans ?_ (by assumption))) hb; (try have hV := Ext.trans2 hV (by repeat (first | exact Ext.refl _ | exact Ext.alloc _ _ | exact Ext.drewN _ _ | assumption | refine Ext.trans ?_ (Ext.alloc _ _) | refine Ext.trans ?_ (Ext.drew _) | refine Ext.trans ?_ (by assumption))) hb); clear hb) | (go_at_call 17; (with_reducible refine (LEN4.out _ hW).mono ?_); rintro e w' ⟨rfl, hb⟩; have hW := Ext.trans2 hW (by repeat (first | exact Ext.refl _ | exact Ext.alloc _ _ | exact Ext.drewN _ _ | assumption | refine Ext.trans ?_ (Ext.alloc _ _) | refine Ext.trans ?_ (Ext.drew _) | refine Ext.trans ?_ (by assumption))) hb; (try have hV := Ext.trans2 hV (by repeat (first | exact Ext.refl _ | exact Ext.alloc _ _ | exact Ext.drewN _ _ | assumption | refine Ext.trans ?_ (Ext.alloc _ _) | refine Ext.trans ?_ (Ext.drew _) | refine Ext.trans ?_ (by assumption))) hb); clear hb))
              go_roundw
              case rel => exact ⟨j + 1, _, by omega, by go_num, HS.out.ext hW⟩
              case measure => simp [intOf]; omega
          · rw [e0, e1, e2] at hA
            rw [ew]
            have hll := add_len S (a, o) t
            have hl2 := HQ.out.ok.len
            have hl3 : ¬ (256 : Int) < (S.length : Int) := by omega
            by_cases t0 : 0 ≤ t
            · have hw4 : waitsB (addT S (a, o) t) t = true := by
                obtain ⟨e, he, h2⟩ := has_of eh
                exact waits_mem (add_mem.2 ⟨e, he, rfl⟩) (by unfold addE; rw [if_pos h2]; exact List.mem_append_right _ (who_mem.2 ⟨rfl, t0⟩))
              clear e0 e1 e2 ok ew eh
              go_wp2_with fail
              refine hA.mono ?_
              rintro e w4 ⟨rfl, O4, hq4, hc4, hf4⟩
              have rB4 := (HB3.out.chg hc4 HNB.out).rule
              have hW4 := waits_in t hq4.any
              have hL4 := len_any hq4.any
              have WAI4 := hide (fun w' (x : Ext w4 w') => waits_in t (hq4.ext x).any)
              have hL4 := fun w' (x : Ext w4 w') => len_any (hq4.ext x).any
              (try rw [hll] at hL4)
              have LEN4 := hide hL4
              (try rw [hw4] at WAI4)
              have HS := hide (show SI w w4 C _ from ⟨O4, hq4, hf4.low HO.out HX3.out, HX3.out.turn hc4 HO.out⟩)
              have hW := Ext.refl w4
              clear rB hW4 hL4 hq4 hc4 hf4 hA
              go_wp2_with (first | (go_at_call 15; (with_reducible refine (WAI4.out _ hW).mono ?_); rintro e w' ⟨rfl, hb⟩; have hW := Ext.trans2 hW (by repeat (first | exact Ext.refl _ | exact Ext.alloc _ _ | exact Ext.drewN _ _ | assumption | refine Ext.trans ?_ (Ext.alloc _ _) | refine Ext.trans ?_ (Ext.drew _) | refine Ext.trans ?_ (by assumption))) hb; (try have hV := Ext.trans2 hV (by repeat (first | exact Ext.refl _ | exact Ext.alloc _ _ | exact Ext.drewN _ _ | assumption | refine Ext.trans ?_ (Ext.alloc _ _) | refine Ext.trans ?_ (Ext.drew _) | refine Ext.trans ?_ (by assumption))) hb); clear hb) | (go_at_call 17; (with_reducible refine (LEN4.out _ hW).mono ?_); rintro e w' ⟨rfl, hb⟩; have hW := Ext.trans2 hW (by repeat (first | exact Ext.refl _ | exact Ext.alloc _ _ | exact Ext.drewN _ _ | assumption | refine Ext.trans ?_ (Ext.alloc _ _) | refine Ext.trans ?_ (Ext.drew _) | refine Ext.trans ?_ (by assumption))) hb; (try have hV := Ext.trans2 hV (by repeat (first | exact Ext.refl _ | exact Ext.alloc _ _ | exact Ext.drewN _ _ | assumption | refine Ext.trans ?_ (Ext.alloc _ _) | refine Ext.trans ?_ (Ext.drew _) | refine Ext.trans ?_ (by assumption))) hb); clear hb))
              go_roundw
              case rel => exact ⟨j + 1, _, by omega, by go_num, HS.out.ext hW⟩
              case measure => simp [intOf]; omega
            · clear e0 e1 e2 ok ew eh
              go_wp2_with fail
              refine hA.mono ?_
              rintro e w4 ⟨rfl, O4, hq4, hc4, hf4⟩
              have rB4 := (HB3.out.chg hc4 HNB.out).rule
              have hW4 := waits_in t hq4.any
              have hL4 := len_any hq4.any
              have WAI4 := hide (fun w' (x : Ext w4 w') => waits_in t (hq4.ext x).any)
              have hL4 := fun w' (x : Ext w4 w') => len_any (hq4.ext x).any
              (try rw [hll] at hL4)
              have LEN4 := hide hL4
              (try rw [hw4] at WAI4)
              have HS := hide (show SI w w4 C _ from ⟨O4, hq4, hf4.low HO.out HX3.out, HX3.out.turn hc4 HO.out⟩)
              have hW := Ext.refl w4
              clear rB hW4 hL4 hq4 hc4 hf4 hA
              go_wp2_with (first | (go_at_call 15; (with_reducible refine (WAI4.out _ hW).mono ?_); rintro e w' ⟨rfl, hb⟩; have hW := Ext.trans2 hW (by repeat (first | exact Ext.refl _ | exact Ext.alloc _ _ | exact Ext.drewN _ _ | assumption | refine Ext.trans ?_ (Ext.alloc _ _) | refine Ext.trans ?_ (Ext.drew _) | refine Ext.trans ?_ (by assumption))) hb; (try have hV := Ext.trans2 hV (by repeat (first | exact Ext.refl _ | exact Ext.alloc _ _ | exact Ext.drewN _ _ | assumption | refine Ext.trans ?_ (Ext.alloc _ _) | refine Ext.trans ?_ (Ext.drew _) | refine Ext.trans ?_ (by assumption))) hb); clear hb) | (go_at_call 17; (with_reducible refine (LEN4.out _ hW).mono ?_); rintro e w' ⟨rfl, hb⟩; have hW := Ext.trans2 hW (by repeat (first | exact Ext.refl _ | exact Ext.alloc _ _ | exact Ext.drewN _ _ | assumption | refine Ext.trans ?_ (Ext.alloc _ _) | refine Ext.trans ?_ (Ext.drew _) | refine Ext.trans ?_ (by assumption))) hb; (try have hV := Ext.trans2 hV (by repeat (first | exact Ext.refl _ | exact Ext.alloc _ _ | exact Ext.drewN _ _ | assumption | refine Ext.trans ?_ (Ext.alloc _ _) | refine Ext.trans ?_ (Ext.drew _) | refine Ext.trans ?_ (by assumption))) hb); clear hb))
              go_roundw
              case rel => exact ⟨j + 1, _, by omega, by go_num, HS.out.ext hW⟩
              case measure => simp [intOf]; omega
          · rw [e0, e1, e2] at hA
            rw [ew]
            have hll : (S ++ [((a, o), who t)]).length = S.length + 1 := by simp
            have hl2 := HQ.out.ok.len
            have hl4 : S.length < 256 := by omega
            have hl3 : ¬ (256 : Int) < (S.length : Int) + 1 := by omega
            by_cases t0 : 0 ≤ t
            · have hw4 : waitsB (S ++ [((a, o), who t)]) t = true := waits_mem (List.mem_append_right _ (List.mem_singleton.2 rfl)) (who_mem.2 ⟨rfl, t0⟩)
              clear e0 e1 e2 ok ew eh
              go_wp2_with fail
              refine hA.mono ?_
              rintro e w4 ⟨rfl, O4, hq4, hc4, hf4⟩
              have rB4 := (HB3.out.chg hc4 HNB.out).rule
              have hW4 := waits_in t hq4.any
              have hL4 := len_any hq4.any
              have WAI4 := hide (fun w' (x : Ext w4 w') => waits_in t (hq4.ext x).any)
              have hL4 := fun w' (x : Ext w4 w') => len_any (hq4.ext x).any
              (try rw [hll] at hL4)
              have LEN4 := hide hL4
              (try rw [hw4] at WAI4)
              have HS := hide (show SI w w4 C _ from ⟨O4, hq4, hf4.low HO.out HX3.out, HX3.out.turn hc4 HO.out⟩)
              have hW := Ext.refl w4
              clear rB hW4 hL4 hq4 hc4 hf4 hA
              go_wp2_with (first | (go_at_call 15; (with_reducible refine (WAI4.out _ hW).mono ?_); rintro e w' ⟨rfl, hb⟩; have hW := Ext.trans2 hW (by repeat (first | exact Ext.refl _ | exact Ext.alloc _ _ | exact Ext.drewN _ _ | assumption | refine Ext.trans ?_ (Ext.alloc _ _) | refine Ext.trans ?_ (Ext.drew _) | refine Ext.trans ?_ (by assumption))) hb; (try have hV := Ext.trans2 hV (by repeat (first | exact Ext.refl _ | exact Ext.alloc _ _ | exact Ext.drewN _ _ | assumption | refine Ext.trans ?_ (Ext.alloc _ _) | refine Ext.trans ?_ (Ext.drew _) | refine Ext.trans ?_ (by assumption))) hb); clear hb) | (go_at_call 17; (with_reducible refine (LEN4.out _ hW).mono ?_); rintro e w' ⟨rfl, hb⟩; have hW := Ext.trans2 hW (by repeat (first | exact Ext.refl _ | exact Ext.alloc _ _ | exact Ext.drewN _ _ | assumption | refine Ext.trans ?_ (Ext.alloc _ _) | refine Ext.trans ?_ (Ext.drew _) | refine Ext.trans ?_ (by assumption))) hb; (try have hV := Ext.trans2 hV (by repeat (first | exact Ext.refl _ | exact Ext.alloc _ _ | exact Ext.drewN _ _ | assumption | refine Ext.trans ?_ (Ext.alloc _ _) | refine Ext.trans ?_ (Ext.drew _) | refine Ext.trans ?_ (by assumption))) hb); clear hb))
              go_roundw
              case rel => exact ⟨j + 1, _, by omega, by go_num, HS.out.ext hW⟩
              case measure => simp [intOf]; omega
            · clear e0 e1 e2 ok ew eh
              go_wp2_with fail
              refine hA.mono ?_
              rintro e w4 ⟨rfl, O4, hq4, hc4, hf4⟩
              have rB4 := (HB3.out.chg hc4 HNB.out).rule
              have hW4 := waits_in t hq4.any
              have hL4 := len_any hq4.any
              have WAI4 := hide (fun w' (x : Ext w4 w') => waits_in t (hq4.ext x).any)
              have hL4 := fun w' (x : Ext w4 w') => len_any (hq4.ext x).any
              (try rw [hll] at hL4)
              have LEN4 := hide hL4
              (try rw [hw4] at WAI4)
              have HS := hide (show SI w w4 C _ from ⟨O4, hq4, hf4.low HO.out HX3.out, HX3.out.turn hc4 HO.out⟩)
              have hW := Ext.refl w4
              clear rB hW4 hL4 hq4 hc4 hf4 hA
              go_wp2_with (first | (go_at_call 15; (with_reducible refine (WAI4.out _ hW).mono ?_); rintro e w' ⟨rfl, hb⟩; have hW := Ext.trans2 hW (by repeat (first | exact Ext.refl _ | exact Ext.alloc _ _ | exact Ext.drewN _ _ | assumption | refine Ext.trans ?_ (Ext.alloc _ _) | refine Ext.trans ?_ (Ext.drew _) | refine Ext.trans ?_ (by assumption))) hb; (try have hV := Ext.trans2 hV (by repeat (first | exact Ext.refl _ | exact Ext.alloc _ _ | exact Ext.drewN _ _ | assumption | refine Ext.trans ?_ (Ext.alloc _ _) | refine Ext.trans ?_ (Ext.drew _) | refine Ext.trans ?_ (by assumption))) hb); clear hb) | (go_at_call 17; (with_reducible refine (LEN4.out _ hW).mono ?_); rintro e w' ⟨rfl, hb⟩; have hW := Ext.trans2 hW (by repeat (first | exact Ext.refl _ | exact Ext.alloc _ _ | exact Ext.drewN _ _ | assumption | refine Ext.trans ?_ (Ext.alloc _ _) | refine Ext.trans ?_ (Ext.drew _) | refine Ext.trans ?_ (by assumption))) hb; (try have hV := Ext.trans2 hV (by repeat (first | exact Ext.refl _ | exact Ext.alloc _ _ | exact Ext.drewN _ _ | assumption | refine Ext.trans ?_ (Ext.alloc _ _) | refine Ext.trans ?_ (Ext.drew _) | refine Ext.trans ?_ (by assumption))) hb); clear hb))
              go_roundw
              case rel => exact ⟨j + 1, _, by omega, by go_num, HS.out.ext hW⟩
              case measure => simp [intOf]; omega
        · obtain rfl : j = N := by omega
          go_wp2_with fail
          refine (alive_any _).mono ?_
          rintro e w6 ⟨rfl, hx⟩
          go_wp2_with fail
          go_ret
          exact ⟨rfl, hS.e.trans hx⟩
set_option maxRecDepth 100000 in
theorem vmqRooms_walk {H : Type} {enc : TypeId × Value → H} (W : World) (base : Nat) (args : Array Value) (ds : List (DataW H)) (p : List MemPlace)
    (hval0 : ∀ (j : Nat) t v, Try.f6.params[j]? = some t → args[j]? = some v → Value.okWide Try.prog W .any base t v)
    (hA0 : DataW.TrodAll enc Try.prog W 0 (fun _ => true) true Try.f6.params.toList args.toList ds p) (_hlt : ∀ x ∈ p, x.block < W.heap.size) :
    Calls Try.prog 6 args W fun e W' => e = .returned (.bool true) ∧ Ext W W' := by
  have hval := hval0
  have hA := hA0
  rw [Try.params6] at hA hval
  clear hval0 hA0
  obtain ⟨v0, v1, d0, d1, p0, p1, hargs, rfl, rfl, h0, h1⟩ := trodAll_two hA
  obtain rfl : args = #[v0, v1] := by cases args; simp_all
  obtain ⟨A, n, c, f, rfl, hn, hc, hs, hf⟩ := open_steps (hval 0 22 v0 rfl rfl) h0
  obtain ⟨y, rfl, rfl, rfl, wy⟩ := open_int Try.underlying60 (hval 1 60 v1 rfl rfl) h1
  have hb := bounds_u16 wy
  obtain ⟨q, rfl⟩ := Int.eq_ofNat_of_zero_le hb.1
  exact lrooms_any A n c f q W (by omega) hn hc hs hf
set_option maxRecDepth 100000 in
theorem vmqRooms_lifted (os : Os) (started : os.Started) (H : Type) (enc : TypeId × Value → H) :
    ReturnsInHanded {} Try.checked os 6 .any (Rows.vmqRoomsSpec.pre6 enc Try.prog Try.f6 Rows.vmqRoomsRow.domain false) (Rows.vmqRoomsSpec.post enc Try.prog Try.f6 false true false false) :=
  law_lifted (fn := Try.f6) 4 os started (by kernel_rfl) Try.func6 rfl rfl Try.underlying4 (hread_of (by kernel_rfl))
    (fun l hl => by
      have hl2 : l.length = 2 := hl
      clear hl
      match l, hl2 with
      | [_, _], _ => rfl)
    (ChangeSpec.witness6 (enc := enc) (C := Try.checked) false ⟨#[], #[.slice none 0 0, .int .u16 0], []⟩ 8 (by kernel_rfl) (by kernel_rfl) (by kernel_rfl) (by kernel_rfl))
    (fun W base args ds p hval hA hlt => vmqRooms_walk W base args ds p hval hA hlt)
theorem vmqRooms_holds : Rows.VmqRoomsSaid :=
  OpenClaim.holds_of_wide 6 Try.f6 rfl rfl rfl rfl rfl rfl rfl ⟨rfl, rfl, rfl, rfl, rfl⟩ rfl rfl rfl rfl rfl (by kernel_rfl) Try.func6 (by kernel_rfl)
    (of_decide_eq_true (by kernel_rfl)) (by unfold Func.isWrapper; rw [if_neg (of_decide_eq_false (by kernel_rfl))]; exact ⟨rfl, rfl⟩)
    (fun os started H enc _ => vmqRooms_lifted os started H enc)
end Go.Proofs.Ytonaibpenijomaa
