/-
  A law of layer 17 holds of every input: SafeRounds. No condition.
-/
import Derived.Test.YtndjlhnmpddpbaaS1
import Derived.Deep.RegionHeld3
namespace Go.Proofs.Ytndjlhnmpddpbaa
open Go.ChangeShapes Go.WideShapes Go.ChangeAt Go.RowKit Go.Deep Go.Joins
set_option linter.unusedVariables false
set_option linter.unusedSimpArgs false

theorem wnt_eq (a : Nat) : wnt a = decide ((0 : Int) < (a : Int)) := by
  unfold wnt
  by_cases h : 0 < a
  · rw [decide_eq_true h, decide_eq_true (by omega)]
  · rw [decide_eq_false h, decide_eq_false (by omega)]
set_option maxHeartbeats 8000000 in
set_option maxRecDepth 100000 in
theorem lrounds_any (q : Nat) (A : Option Addr) (n c : Nat) (f : Nat → Stp) (w : World) (hq : q ≤ 255) (hn : n ≤ c) (hc : c ≤ maxLen) (hs : Stps w w.heap.size A n f) (hf : ∀ k, k < n → Okst (f k)) :
    Calls Try.prog 6 #[.int .u8 (q : Int), .slice A n c] w fun e w' => e = .returned (.bool true) ∧ Ext w w' := by
  have HF := hide hf
  clear hf
  obtain ⟨N, eN, n1, n2⟩ : ∃ N : Nat, (q : Int) % 8 + 1 = (N : Int) ∧ 1 ≤ N ∧ N ≤ 8 := ⟨q % 8 + 1, by omega, by omega, by omega⟩
  go_enter Try.func6, Try.ntmps6
  go_wp2_with fail
  refine (new_in N _ n1 (by omega)).mono ?_
  rintro e w1 ⟨M, V, rfl, hm, hM, hV, hX⟩
  have HT := hide (low2 hM hV)
  clear hM hV
  go_wp2_with fail
  refine (short_any A n c _ hn hc).mono ?_
  rintro e w3 ⟨rfl, rfl⟩
  go_wp2_with fail
  go_loopw [8, 9, 32] (fun x y i wr => ∃ (j a r : Nat) (g : Ti), j ≤ min n 300 ∧ a ≤ j ∧ r ≤ j ∧ i = .int .i64 j ∧ x = .int .i64 a ∧ y = .int .i64 r ∧ MT 48 wr M V N g a r ∧ Ext w wr) (fun _ _ i _ => min n 300 - (intOf i).toNat)
  case atStart => exact ⟨0, 0, 0, _, by omega, by omega, by omega, rfl, rfl, rfl, hm, hX⟩
  case round =>
    clear hm hX
    obtain ⟨j, a, r, g, hj, haj, hrj, rfl, rfl, rfl, hm, hX⟩ := hrel
    by_cases hlt : j < min n 300
    · have hj2 : j < n := by omega
      obtain ⟨b, off, rfl, hb, r0, r1, r2⟩ := (hs.chg hX (Nat.le_refl _)).rules hj2
      have hok := HF.out j hj2
      have k0 := hok.k0
      have k1 := hok.k1
      have HS := hide (show wr.heap.size ∉ [M, V] by have a2 := hm.m.lt; have a3 := hm.v.lt; simp; omega)
      have bs := Blk.new wr #[.int .u8 (f j).k, .int .i64 (f j).n, .int .i64 (f j).s] 35
      have rs := bs.ruleC HS.out
      have s0 : ∀ w', Chg [M, V] (wr.alloc (.cells #[.int .u8 (f j).k, .int .i64 (f j).n, .int .i64 (f j).s] 35)) w' → w'.cell? ⟨wr.heap.size, 0, none⟩ = some (.int .u8 (f j).k) := fun w' h => rs w' h 0
      have s1 : ∀ w', Chg [M, V] (wr.alloc (.cells #[.int .u8 (f j).k, .int .i64 (f j).n, .int .i64 (f j).s] 35)) w' → w'.cell? ⟨wr.heap.size, 1, none⟩ = some (.int .i64 (f j).n) := fun w' h => rs w' h 1
      have s2 : ∀ w', Chg [M, V] (wr.alloc (.cells #[.int .u8 (f j).k, .int .i64 (f j).n, .int .i64 (f j).s] 35)) w' → w'.cell? ⟨wr.heap.size, 2, none⟩ = some (.int .i64 (f j).s) := fun w' h => rs w' h 2
      have hm := hm.ext (Ext.alloc wr (.cells #[.int .u8 (f j).k, .int .i64 (f j).n, .int .i64 (f j).s] 35))
      have hX := hX.trans (Ext.alloc wr (.cells #[.int .u8 (f j).k, .int .i64 (f j).n, .int .i64 (f j).s] 35))
      have hV := Chg.refl [M, V] (wr.alloc (.cells #[.int .u8 (f j).k, .int .i64 (f j).n, .int .i64 (f j).s] 35))
      clear bs hok rs
      by_cases q1 : (f j).k % 4 = 1
      · go_wp2_with fail
        refine (request_any hm (by omega)).mono ?_
        rintro e w4 ⟨rfl, hm, hc⟩
        (have hX := hX.turn hc HT.out; have hV := hV.trans hc; clear hc)
        clear hV s0 s1 s2
        go_wp2_with fail
        refine (rounds_any hm).mono ?_
        rintro e w5 ⟨rfl, rfl⟩
        go_wp2_with fail
        refine (wanted_any hm).mono ?_
        rw [wnt_eq]
        rintro e w5 ⟨rfl, rfl⟩
        go_wp2_with fail
        go_roundw
        case rel => exact ⟨j + 1, a + 1, r, _, by omega, by omega, by omega, by go_num, by first | rfl | go_num, rfl, hm, hX⟩
        case measure => simp [intOf]; omega
      · by_cases q2 : (f j).k % 4 = 2
        · cases hd : don N g a
          · go_wp2_with fail
            refine (done_any hm (by omega)).mono ?_
            rw [hd, show dA false a = 0 from rfl, show dE false = 9 from rfl, show dW false a = a from rfl, show dR false r = r from rfl]
            rintro e w4 ⟨rfl, hm, hc⟩
            (have hX := hX.turn hc HT.out; have hV := hV.trans hc; clear hc)
            clear hV s0 s1 s2
            go_wp2_with fail
            refine (rounds_any hm).mono ?_
            rintro e w5 ⟨rfl, rfl⟩
            go_wp2_with fail
            refine (wanted_any hm).mono ?_
            rw [wnt_eq]
            rintro e w5 ⟨rfl, rfl⟩
            go_wp2_with fail
            go_roundw
            case rel => exact ⟨j + 1, a, r, _, by omega, by omega, by omega, by go_num, rfl, rfl, hm, hX⟩
            case measure => simp [intOf]; omega
          · obtain ⟨hd1, hd2⟩ : wnt a = true ∧ stl N g = true := by
              unfold don at hd
              simpa using hd
            have e0 : ((a : Int) == 0) = false := by
              have := wnt_of hd1
              have : ¬ (a : Int) = 0 := by omega
              simpa using this
            go_wp2_with fail
            refine (done_any hm (by omega)).mono ?_
            rw [hd, show dA true a = a from rfl, show dE true = 0 from rfl, show dW true a = 0 from rfl, show dR true r = r + 1 from rfl]
            rintro e w4 ⟨rfl, hm, hc⟩
            clear hd hd1
            go_wp2_with fail
            refine (still_any hm).mono ?_
            rw [hd2]
            rintro e w5 ⟨rfl, rfl⟩
            (have hX := hX.turn hc HT.out; have hV := hV.trans hc; clear hc)
            clear hV s0 s1 s2
            go_wp2_with fail
            refine (rounds_any hm).mono ?_
            rintro e w5 ⟨rfl, rfl⟩
            go_wp2_with fail
            refine (wanted_any hm).mono ?_
            rw [wnt_eq]
            rintro e w5 ⟨rfl, rfl⟩
            go_wp2_with fail
            go_roundw
            case rel => exact ⟨j + 1, 0, r + 1, _, by omega, by omega, by omega, by go_num, rfl, by first | rfl | go_num, hm, hX⟩
            case measure => simp [intOf]; omega
        · have hN0 : ¬ N = 0 := by omega
          have hN1 : ¬ (N : Int) = 0 := by omega
          go_wp2_with fail
          go_region_held3 (fun w' => w'.cell? ⟨wr.heap.size, 1, none⟩ = some (.int .i64 (f j).n) ∧ w'.cell? ⟨wr.heap.size, 2, none⟩ = some (.int .i64 (f j).s)) (first | exact ⟨s1 _ hV, s2 _ hV⟩ | exact ⟨s1 _ (hV.trans (Chg.drew _ _)), s2 _ (hV.trans (Chg.drew _ _))⟩)
            (first | (go_at_call 14; refine (put_any (hm.ext (Ext.drew _))).mono ?_; have hX := hX.trans (Ext.drew _); have hV := hV.trans (Chg.drew _ _); rintro e w4 ⟨rfl, hm, hc⟩; (have hX := hX.turn hc HT.out; have hV := hV.trans hc; clear hc)))
          clear hV s0 s1 s2
          go_wp2_with fail
          refine (rounds_any hm).mono ?_
          rintro e w5 ⟨rfl, rfl⟩
          go_wp2_with fail
          refine (wanted_any hm).mono ?_
          rw [wnt_eq]
          rintro e w5 ⟨rfl, rfl⟩
          go_wp2_with fail
          go_roundw
          case rel => exact ⟨j + 1, a, r, _, by omega, by omega, by omega, by go_num, rfl, rfl, hm, hX⟩
          case measure => simp [intOf]; omega
    · go_wp2_with fail
      refine (alive_any _).mono ?_
      rintro e w3 ⟨rfl, hx⟩
      have hX := hX.trans hx
      clear hx
      go_wp2_with fail
      go_ret
      exact ⟨rfl, hX⟩

set_option maxRecDepth 100000 in
theorem safeRounds_walk {H : Type} {enc : TypeId × Value → H} (W : World) (base : Nat) (args : Array Value) (ds : List (DataW H)) (p : List MemPlace)
    (hval0 : ∀ (j : Nat) t v, Try.f6.params[j]? = some t → args[j]? = some v → Value.okWide Try.prog W .any base t v)
    (hA0 : DataW.TrodAll enc Try.prog W 0 (fun _ => true) true Try.f6.params.toList args.toList ds p) (_hlt : ∀ x ∈ p, x.block < W.heap.size) :
    Calls Try.prog 6 args W fun e W' => e = .returned (.bool true) ∧ Ext W W' := by
  have hval := hval0
  have hA := hA0
  rw [Try.params6] at hA hval
  clear hval0 hA0
  obtain ⟨v0, v1, d0, d1, p0, p1, hargs, rfl, rfl, h0, h1⟩ := trodAll_two hA
  obtain rfl : args = #[v0, v1] := by cases args; simp_all
  obtain ⟨y, rfl, rfl, rfl, wy⟩ := open_int Try.underlying5 (hval 0 5 v0 rfl rfl) h0
  obtain ⟨A, n, c, f, rfl, hn, hc, hs, hf⟩ := open_steps (hval 1 22 v1 rfl rfl) h1
  have hb := bounds_u8 wy
  obtain ⟨q, rfl⟩ := Int.eq_ofNat_of_zero_le hb.1
  exact lrounds_any q A n c f W (by omega) hn hc hs hf
set_option maxRecDepth 100000 in
theorem safeRounds_lifted (os : Os) (started : os.Started) (H : Type) (enc : TypeId × Value → H) :
    ReturnsInHanded {} Try.checked os 6 .any (Rows.safeRoundsSpec.pre6 enc Try.prog Try.f6 Rows.safeRoundsRow.domain false) (Rows.safeRoundsSpec.post enc Try.prog Try.f6 false true false false) :=
  law_lifted (fn := Try.f6) 4 os started (by kernel_rfl) Try.func6 rfl rfl Try.underlying4 (hread_of (by kernel_rfl))
    (fun l hl => by
      have hl2 : l.length = 2 := hl
      clear hl
      match l, hl2 with
      | [_, _], _ => rfl)
    (ChangeSpec.witness6 (enc := enc) (C := Try.checked) false ⟨#[], #[.int .u8 0, .slice none 0 0], []⟩ 8 (by kernel_rfl) (by kernel_rfl) (by kernel_rfl) (by kernel_rfl))
    (fun W base args ds p hval hA hlt => safeRounds_walk W base args ds p hval hA hlt)
theorem safeRounds_holds : Rows.SafeRoundsSaid :=
  OpenClaim.holds_of_wide 6 Try.f6 rfl rfl rfl rfl rfl rfl rfl ⟨rfl, rfl, rfl, rfl, rfl⟩ rfl rfl rfl rfl rfl (by kernel_rfl) Try.func6 (by kernel_rfl)
    (of_decide_eq_true (by kernel_rfl)) (by unfold Func.isWrapper; rw [if_neg (of_decide_eq_false (by kernel_rfl))]; exact ⟨rfl, rfl⟩)
    (fun os started H enc _ => safeRounds_lifted os started H enc)
end Go.Proofs.Ytndjlhnmpddpbaa
