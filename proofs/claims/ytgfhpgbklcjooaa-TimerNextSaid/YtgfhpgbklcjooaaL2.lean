/-
  A law of layer 7 holds of every input: TimerNext. No condition.
-/
import Derived.Test.YtgfhpgbklcjooaaS2
namespace Go.Proofs.Ytgfhpgbklcjooaa
open Go.ChangeShapes Go.WideShapes Go.ChangeAt Go.RowKit Go.Deep Go.Joins
set_option linter.unusedVariables false
set_option linter.unusedSimpArgs false

theorem low_CM {w : World} {C m : Nat} (h1 : w.heap.size ≤ C) (h2 : w.heap.size ≤ m) : ∀ t, t ∈ [C, m] → w.heap.size ≤ t := by simp; exact ⟨h1, h2⟩
theorem low_M {w : World} {C m : Nat} (h : ∀ t, t ∈ [C, m] → w.heap.size ≤ t) : ∀ t, t ∈ [m] → w.heap.size ≤ t := by simp at h ⊢; exact h.2
theorem early {f : Al} {v now : Int} (h : NxA f v) (hv : v ≠ 0) (ok : OkA f) (hn : now < v) (h0 : 0 ≤ now) : tkT now (v - 1 - now) = v - 1 ∧ DueL f (v - 1) [] ∧ rest f (v - 1) = f ∧ v ≤ TM := by
  rcases h with ⟨h, _⟩ | ⟨_, ⟨t, ht⟩, h2⟩
  · exact absurd h hv
  · have hT := ok.hi t
    rw [ht] at hT
    refine ⟨?_, DueL.nil fun x hx => ?_, ?_, hT⟩
    · unfold tkT tkN latI; rw [show max (v - 1 - now) 0 = v - 1 - now by omega, if_pos (by omega)]; omega
    · have := h2 x hx; omega
    · funext x
      unfold rest
      split
      · by_cases e : f x = 0
        · exact e.symm
        · have := h2 x e; omega
      · rfl
theorem in_time {f : Al} {v : Int} (h : NxA f v) (hv : v ≠ 0) (hT : v ≤ TM) {l : List Nat} (hd : DueL f v l) : 0 < l.length := by
  rcases h with ⟨h, _⟩ | ⟨_, ⟨t, ht⟩, h2⟩
  · exact absurd h hv
  · exact List.length_pos_of_mem ((hd.mem t).2 ⟨by rw [ht]; exact hv, by rw [ht]; exact Int.le_refl _⟩)
theorem one_more {v : Int} (hT : v ≤ TM) : tkT (v - 1) 1 = v := by
  unfold tkT tkN latI; rw [show max (1 : Int) 0 = 1 by omega, if_pos (by omega)]; omega
theorem and15_wf (x : Int) : (ky (bits .and .i64 x 15)).wf = true := by
  have e : bits .and .i64 x 15 = x % 16 := and15 x
  rw [e]; exact ky_wf (by omega) (by omega)
set_option maxRecDepth 100000 in
theorem lnext_any (A : Option Addr) (n c : Nat) (f : Nat → Stp) (w : World) (hn : n ≤ c) (hc : c ≤ maxLen) (hs : Stps w w.heap.size A n f) (hf : ∀ k, k < n → Okst (f k)) :
    Calls Try.prog 6 #[.slice A n c] w fun e w' => e = .returned (.bool true) ∧ Ext w w' := by
  have HF := hide hf
  clear hf
  go_enter Try.func6, Try.ntmps6
  go_wp2_with fail
  refine (new_any _).mono ?_
  rintro e w1 ⟨C, m, rfl, hk, hC, hm, hX⟩
  have HT := hide (low_CM hC hm)
  clear hC hm
  go_wp2_with fail
  refine (short_any A n c _ hn hc).mono ?_
  rintro e w2 ⟨rfl, rfl⟩
  go_wp2_with fail
  go_loopw [15] (fun i wr => ∃ (j : Nat) (now : Int) (al : Al), j ≤ min n 200 ∧ i = .int .i64 j ∧ ClkT wr C m now al ∧ Ext w wr) (fun i _ => min n 200 - (intOf i).toNat)
  case atStart => exact ⟨0, 0, _, by omega, rfl, hk, hX⟩
  case round =>
    clear hk hX
    obtain ⟨j, now, al, hj, rfl, hk, hX⟩ := hrel
    by_cases hlt : j < min n 200
    · have hj2 : j < n := by omega
      obtain ⟨b, off, rfl, hb, r0, r1, r2⟩ := (hs.chg hX (Nat.le_refl _)).rules hj2
      have hok := HF.out j hj2
      have wt := hok.wt
      have wn := hok.wn
      have k0 := hok.k0
      have k1 := hok.k1
      have hx := Ext.alloc wr (.cells #[.int .u8 (f j).k, .int .i64 (f j).t, .int .i64 (f j).n] 30)
      have hk := hk.ext hx
      have hX := hX.trans hx
      clear hx hok
      by_cases hr : (f j).k % 4 = 2
      · go_wp2_with fail
        refine (tick_any hk (and15_wf _)).mono ?_
        rintro e w2 ⟨v, l, rfl, hd, hrow, hk, hc⟩
        have hX := hX.turn hc HT.out
        clear hd hrow hc
        go_wp2_with fail
        go_roundw
        case rel => exact ⟨j + 1, _, _, by omega, by go_num, hk, hX⟩
        case measure => simp [intOf]; omega
      · go_wp2_with fail
        refine (set_any hk wt wn).mono ?_
        rintro e w2 ⟨rfl, hk, hc⟩
        have hX := hX.turn hc (low_M HT.out)
        clear hc
        go_wp2_with fail
        go_roundw
        case rel => exact ⟨j + 1, _, _, by omega, by go_num, hk, hX⟩
        case measure => simp [intOf]; omega
    · clear hs hj
      go_wp2_with fail
      refine (next_any hk).mono ?_
      rintro e w2 ⟨v, rfl, hv, hx⟩
      have hk := hk.ext hx
      have hX := hX.trans hx
      clear hx
      by_cases hz : v = 0
      · have hb : nz v = false := by rw [hz]; rfl
        go_wp2_with fail
        refine (alive_any _).mono ?_
        rintro e w3 ⟨rfl, hx⟩
        go_wp2_with fail
        go_ret
        exact ⟨by simp, hX.trans hx⟩
      · have hb : nz v = true := by simpa [nz] using hz
        have n0 := hk.n0
        have n1 := hk.n1
        by_cases hge : v ≤ now
        · go_wp2_with fail
          refine (now_any hk).mono ?_
          rintro e w3 ⟨rfl, rfl⟩
          go_wp2_with fail
          refine (alive_any _).mono ?_
          rintro e w3 ⟨rfl, hx⟩
          go_wp2_with fail
          go_ret
          exact ⟨by simp, hX.trans hx⟩
        · obtain ⟨e1, e2, e3, e4⟩ := early hv hz hk.ok (by omega) n0
          unfold TM at n1
          have hT := e4
          unfold TM at hT
          have E1 := hide e1
          have E2 := hide e2
          have E3 := hide e3
          have E4 := hide e4
          have E5 := hide (one_more e4)
          clear e1 e2 e3 e4
          go_wp2_with fail
          refine (now_any hk).mono ?_
          rintro e w3 ⟨rfl, rfl⟩
          go_wp2_with fail
          refine (now_any hk).mono ?_
          rintro e w3 ⟨rfl, rfl⟩
          go_wp2_with fail
          refine (tick_any hk (ky_wf (by omega) (by omega))).mono ?_
          rintro e w3 ⟨x, l, rfl, hd, hrow, hk, hc⟩
          rw [E1.out] at hd hk
          rw [E3.out] at hk
          obtain rfl := hd.one E2.out
          have hX := hX.turn hc HT.out
          obtain ⟨A2, c2, rfl⟩ := own_len hrow
          clear hd hrow hc
          go_wp2_with fail
          refine (tick_any (n := 1) hk (by decide)).mono ?_
          rintro e w4 ⟨x, l, rfl, hd, hrow, hk, hc⟩
          rw [E5.out] at hd hk
          have hp := in_time hv hz E4.out hd
          have hX := hX.turn hc HT.out
          obtain ⟨A3, c3, rfl⟩ := own_len hrow
          clear hd hrow hc
          go_wp2_with fail
          refine (now_any hk).mono ?_
          rintro e w5 ⟨rfl, rfl⟩
          go_wp2_with fail
          refine (alive_any _).mono ?_
          rintro e w5 ⟨rfl, hx⟩
          go_wp2_with fail
          go_ret
          exact ⟨by simp, hX.trans hx⟩

theorem timerNext_walk {H : Type} {enc : TypeId × Value → H} (W : World) (base : Nat) (args : Array Value) (ds : List (DataW H)) (p : List MemPlace)
    (hval0 : ∀ (j : Nat) t v, Try.f6.params[j]? = some t → args[j]? = some v → Value.okWide Try.prog W .any base t v)
    (hA0 : DataW.TrodAll enc Try.prog W 0 (fun _ => true) true Try.f6.params.toList args.toList ds p) (_hlt : ∀ x ∈ p, x.block < W.heap.size) :
    Calls Try.prog 6 args W fun e W' => e = .returned (.bool true) ∧ Ext W W' := by
  have hval := hval0
  have hA := hA0
  rw [Try.params6] at hA hval
  clear hval0 hA0
  obtain ⟨v0, d0, rfl, rfl, h0⟩ := trodAll_one hA
  obtain ⟨A, n, c, f, rfl, hn, hc, hs, hf⟩ := open_steps (hval 0 22 v0 rfl rfl) h0
  exact lnext_any A n c f W hn hc hs hf
set_option maxRecDepth 100000 in
theorem timerNext_lifted (os : Os) (started : os.Started) (H : Type) (enc : TypeId × Value → H) :
    ReturnsInHanded {} Try.checked os 6 .any (Rows.timerNextSpec.pre6 enc Try.prog Try.f6 Rows.timerNextRow.domain false) (Rows.timerNextSpec.post enc Try.prog Try.f6 false true false false) :=
  law_lifted (fn := Try.f6) 4 os started (by kernel_rfl) Try.func6 rfl rfl Try.underlying4 (hread_of (by kernel_rfl))
    (fun l hl => by
      have hl2 : l.length = 1 := hl
      clear hl
      match l, hl2 with
      | [_], _ => rfl)
    (ChangeSpec.witness6 (enc := enc) (C := Try.checked) false ⟨#[], #[.slice none 0 0], []⟩ 8 (by kernel_rfl) (by kernel_rfl) (by kernel_rfl) (by kernel_rfl))
    (fun W base args ds p hval hA hlt => timerNext_walk W base args ds p hval hA hlt)
theorem timerNext_holds : Rows.TimerNextSaid :=
  OpenClaim.holds_of_wide 6 Try.f6 rfl rfl rfl rfl rfl rfl rfl ⟨rfl, rfl, rfl, rfl, rfl⟩ rfl rfl rfl rfl rfl (by kernel_rfl) Try.func6 (by kernel_rfl)
    (of_decide_eq_true (by kernel_rfl)) (by unfold Func.isWrapper; rw [if_neg (of_decide_eq_false (by kernel_rfl))]; exact ⟨rfl, rfl⟩)
    (fun os started H enc _ => timerNext_lifted os started H enc)
end Go.Proofs.Ytgfhpgbklcjooaa
