/-
  A law of layer 17 holds of every input: SafeStands. No condition.
-/
import Derived.Test.YtndjlhnmpddpbaaS1
import Derived.Deep.RegionHeld3
namespace Go.Proofs.Ytndjlhnmpddpbaa
open Go.ChangeShapes Go.WideShapes Go.ChangeAt Go.RowKit Go.Deep Go.Joins
set_option linter.unusedVariables false
set_option linter.unusedSimpArgs false

/-- What Put leaves, of a thread and a state that are. -/
def pG (b : Bool) (g : Ti) (t : Nat) (v : Int) : Ti := if b = true then upI g t v else g
section
variable {w w' : World} {M V N : Nat} {g : Ti} {a r t : Nat} {v : Int}
theorem state_n (h : MT 48 w M V N g a r) (ht : t < N) : Calls Try.prog 16 #[(.pointer (some ⟨M, 0, none⟩)), .int .i64 (t : Int)] w fun e w' => e = .returned (.int .i64 (g t)) ∧ w = w' := by
  have := state_any (z := (t : Int)) h
  rw [stI_n g ht] at this
  exact this
theorem may_n (h : MT 48 w M V N g a r) (ht : t < N) : Calls Try.prog 21 #[(.pointer (some ⟨M, 0, none⟩)), .int .i64 (t : Int)] w fun e w' => e = .returned (.bool (g t == 0 || (g t == 1 && !wnt a))) ∧ w = w' := by
  have := may_any (z := (t : Int)) h
  unfold mayB at this
  rw [stI_n g ht] at this
  exact this
theorem put_n (h : MT 48 w M V N g a r) (ht : t < N) (h0 : 0 ≤ v) (h1 : v ≤ 3) : Calls Try.prog 14 #[(.pointer (some ⟨M, 0, none⟩)), .int .i64 (t : Int), .int .i64 v] w fun e w' => e = .returned (.int .i64 (dE (gsB a (g t) v))) ∧ MT 48 w' M V N (pG (gsB a (g t) v) g t v) a r ∧ Chg [M, V] w w' := by
  have := put_any (z := (t : Int)) (s := v) h
  have hB := nin ht
  have hS := isS_yes h0 h1
  cases hb : gsB a (g t) v
  · rw [putE_9 ⟨hB, hS⟩ (by rw [Int.toNat_natCast]; exact hb), putG_9 (by rw [Int.toNat_natCast]; exact hb)] at this
    exact this
  · rw [putE_0 ⟨hB, hS⟩ (by rw [Int.toNat_natCast]; exact hb), putG_0 ⟨hB, hS⟩ (by rw [Int.toNat_natCast]; exact hb), Int.toNat_natCast] at this
    exact this
end
set_option maxHeartbeats 8000000 in
set_option maxRecDepth 100000 in
theorem lstands_any (q : Nat) (A : Option Addr) (n c : Nat) (f : Nat → Stp) (w : World) (hq : q ≤ 255) (hn : n ≤ c) (hc : c ≤ maxLen) (hs : Stps w w.heap.size A n f) (hf : ∀ k, k < n → Okst (f k)) :
    Calls Try.prog 4 #[.int .u8 (q : Int), .slice A n c] w fun e w' => e = .returned (.bool true) ∧ Ext w w' := by
  have HF := hide hf
  clear hf
  obtain ⟨N, eN, n1, n2⟩ : ∃ N : Nat, (q : Int) % 8 + 1 = (N : Int) ∧ 1 ≤ N ∧ N ≤ 8 := ⟨q % 8 + 1, by omega, by omega, by omega⟩
  have hN0 : ¬ N = 0 := by omega
  have hN1 : ¬ (N : Int) = 0 := by omega
  go_enter Try.func4, Try.ntmps4
  go_wp2_with fail
  refine (new_in N _ n1 (by omega)).mono ?_
  rintro e w1 ⟨M, V, rfl, hm, hM, hV, hX⟩
  have HT := hide (low2 hM hV)
  clear hM hV
  go_wp2_with fail
  refine (short_any A n c _ hn hc).mono ?_
  rintro e w3 ⟨rfl, rfl⟩
  go_wp2_with fail
  go_loopw [37] (fun i wr => ∃ (j a r : Nat) (g : Ti), j ≤ min n 300 ∧ a ≤ j ∧ r ≤ j ∧ i = .int .i64 j ∧ MT 48 wr M V N g a r ∧ Ext w wr) (fun i _ => min n 300 - (intOf i).toNat)
  case atStart => exact ⟨0, 0, 0, _, by omega, by omega, by omega, rfl, hm, hX⟩
  case round =>
    clear hm hX
    obtain ⟨j, a, r, g, hj, haj, hrj, rfl, hm, hX⟩ := hrel
    by_cases hlt : j < min n 300
    · have hj2 : j < n := by omega
      obtain ⟨b, off, rfl, hb, r0, r1, r2⟩ := (hs.chg hX (Nat.le_refl _)).rules hj2
      have hok := HF.out j hj2
      have k0 := hok.k0
      have k1 := hok.k1
      have bs := (Blk.new wr #[.int .u8 (f j).k, .int .i64 (f j).n, .int .i64 (f j).s] 35).rule
      have s0 : ∀ w', Ext (wr.alloc (.cells #[.int .u8 (f j).k, .int .i64 (f j).n, .int .i64 (f j).s] 35)) w' → w'.cell? ⟨wr.heap.size, 0, none⟩ = some (.int .u8 (f j).k) := fun w' h => bs w' h 0
      have s1 : ∀ w', Ext (wr.alloc (.cells #[.int .u8 (f j).k, .int .i64 (f j).n, .int .i64 (f j).s] 35)) w' → w'.cell? ⟨wr.heap.size, 1, none⟩ = some (.int .i64 (f j).n) := fun w' h => bs w' h 1
      have s2 : ∀ w', Ext (wr.alloc (.cells #[.int .u8 (f j).k, .int .i64 (f j).n, .int .i64 (f j).s] 35)) w' → w'.cell? ⟨wr.heap.size, 2, none⟩ = some (.int .i64 (f j).s) := fun w' h => bs w' h 2
      have s0 := s0 _ (Ext.refl _)
      have s1 := s1 _ (Ext.refl _)
      have s2 := s2 _ (Ext.refl _)
      have hm := hm.ext (Ext.alloc wr (.cells #[.int .u8 (f j).k, .int .i64 (f j).n, .int .i64 (f j).s] 35))
      have hX := hX.trans (Ext.alloc wr (.cells #[.int .u8 (f j).k, .int .i64 (f j).n, .int .i64 (f j).s] 35))
      clear bs hok
      obtain ⟨t, ht, et⟩ : ∃ t : Nat, t < N ∧ (bits .and .i64 (f j).n 7).tmod (N : Int) = (t : Int) := ⟨((f j).n % 8).toNat % N, Nat.mod_lt _ (by omega), by
        rw [and7, Int.tmod_eq_emod_of_nonneg (by omega), Int.natCast_emod, Int.toNat_of_nonneg (by omega)]⟩
      have hcs := state_n hm ht
      have hx01 := hm.ok t ht
      by_cases q1 : (f j).k % 4 = 1
      · clear hx01
        go_wp2_with fail
        refine hcs.mono ?_
        rintro e w5 ⟨rfl, rfl⟩
        go_wp2_with fail
        refine (wanted_any hm).mono ?_
        rintro e w5 ⟨rfl, rfl⟩
        go_wp2_with fail
        refine (request_any hm (by omega)).mono ?_
        rintro e w4 ⟨rfl, hm, hc⟩
        (have hX := hX.turn hc HT.out; clear hc)
        go_wp2_with fail
        go_roundw
        case rel => exact ⟨j + 1, a + 1, r, _, by omega, by omega, by omega, by go_num, hm, hX⟩
        case measure => simp [intOf]; omega
      · obtain ⟨v, hv0, hv3, ev⟩ : ∃ v : Int, 0 ≤ v ∧ v ≤ 3 ∧ bits .and .i64 (f j).s 3 = v := ⟨(f j).s % 4, by omega, by omega, and3 _⟩
        have hput := put_n hm ht hv0 hv3
        generalize hx : g t = x at *
        have HXX := hide hx
        clear hx
        cases hb : gsB a x v
        · rw [hb] at hput
          by_cases g3 : x = 3
          · subst g3
            have hx := HXX.out
            clear hb hx01
            cases hwa : wnt a
            · go_wp2_with fail
              refine hcs.mono ?_
              rintro e w5 ⟨rfl, rfl⟩
              go_wp2_with fail
              refine (wanted_any hm).mono ?_
              rw [hwa]
              rintro e w5 ⟨rfl, rfl⟩
              go_wp2_with fail
              refine hput.mono ?_
              rintro e w4 ⟨rfl, hm, hc⟩
              have hst := state_n hm ht
              have hmay := may_n hm ht
              rw [hwa] at hmay
              (rw [show pG false g t v = g from rfl] at hm hst hmay; rw [hx] at hst hmay)
              (have hX := hX.turn hc HT.out; clear hc)
              clear s0 s2
              go_wp2_with (first | (go_at_call 16; refine hst.mono ?_; rintro e w5 ⟨rfl, rfl⟩) | (go_at_call 21; refine hmay.mono ?_; rintro e w5 ⟨rfl, rfl⟩))
              go_roundw
              case rel => exact ⟨j + 1, a, r, _, by omega, by omega, by omega, by go_num, hm, hX⟩
              case measure => simp [intOf]; omega
            · go_wp2_with fail
              refine hcs.mono ?_
              rintro e w5 ⟨rfl, rfl⟩
              go_wp2_with fail
              refine (wanted_any hm).mono ?_
              rw [hwa]
              rintro e w5 ⟨rfl, rfl⟩
              go_wp2_with fail
              refine hput.mono ?_
              rintro e w4 ⟨rfl, hm, hc⟩
              have hst := state_n hm ht
              have hmay := may_n hm ht
              rw [hwa] at hmay
              (rw [show pG false g t v = g from rfl] at hm hst hmay; rw [hx] at hst hmay)
              (have hX := hX.turn hc HT.out; clear hc)
              clear s0 s2
              go_wp2_with (first | (go_at_call 16; refine hst.mono ?_; rintro e w5 ⟨rfl, rfl⟩) | (go_at_call 21; refine hmay.mono ?_; rintro e w5 ⟨rfl, rfl⟩))
              go_roundw
              case rel => exact ⟨j + 1, a, r, _, by omega, by omega, by omega, by go_num, hm, hX⟩
              case measure => simp [intOf]; omega
          · by_cases g1 : x = 1
            · subst g1
              have hx := HXX.out
              cases hwa : wnt a
              · rw [gsB_1, hwa] at hb
                simp at hb
              · clear hb hx01 g3
                go_wp2_with fail
                refine hcs.mono ?_
                rintro e w5 ⟨rfl, rfl⟩
                go_wp2_with fail
                refine (wanted_any hm).mono ?_
                rw [hwa]
                rintro e w5 ⟨rfl, rfl⟩
                go_wp2_with fail
                refine hput.mono ?_
                rintro e w4 ⟨rfl, hm, hc⟩
                have hst := state_n hm ht
                have hmay := may_n hm ht
                rw [hwa] at hmay
                (rw [show pG false g t v = g from rfl] at hm hst hmay; rw [hx] at hst hmay)
                (have hX := hX.turn hc HT.out; clear hc)
                clear s0 s2
                go_wp2_with (first | (go_at_call 16; refine hst.mono ?_; rintro e w5 ⟨rfl, rfl⟩) | (go_at_call 21; refine hmay.mono ?_; rintro e w5 ⟨rfl, rfl⟩))
                go_roundw
                case rel => exact ⟨j + 1, a, r, _, by omega, by omega, by omega, by go_num, hm, hX⟩
                case measure => simp [intOf]; omega
            · rw [gsB_e g3 g1] at hb
              cases hb
        · rw [hb] at hput
          by_cases g3 : x = 3
          · subst g3
            rw [gsB_3] at hb
            obtain rfl : v = 3 := by simpa using hb
            clear hb hx01
            cases hwa : wnt a
            · go_wp2_with fail
              refine hcs.mono ?_
              rintro e w5 ⟨rfl, rfl⟩
              go_wp2_with fail
              refine (wanted_any hm).mono ?_
              rw [hwa]
              rintro e w5 ⟨rfl, rfl⟩
              go_wp2_with fail
              refine hput.mono ?_
              rintro e w4 ⟨rfl, hm, hc⟩
              have hst := state_n hm ht
              have hmay := may_n hm ht
              rw [hwa] at hmay
              (rw [show pG true g t 3 = upI g t 3 from rfl] at hm hst hmay; rw [upI_same] at hst hmay)
              (have hX := hX.turn hc HT.out; clear hc)
              clear s0 s2
              go_wp2_with (first | (go_at_call 16; refine hst.mono ?_; rintro e w5 ⟨rfl, rfl⟩) | (go_at_call 21; refine hmay.mono ?_; rintro e w5 ⟨rfl, rfl⟩))
              go_roundw
              case rel => exact ⟨j + 1, a, r, _, by omega, by omega, by omega, by go_num, hm, hX⟩
              case measure => simp [intOf]; omega
            · go_wp2_with fail
              refine hcs.mono ?_
              rintro e w5 ⟨rfl, rfl⟩
              go_wp2_with fail
              refine (wanted_any hm).mono ?_
              rw [hwa]
              rintro e w5 ⟨rfl, rfl⟩
              go_wp2_with fail
              refine hput.mono ?_
              rintro e w4 ⟨rfl, hm, hc⟩
              have hst := state_n hm ht
              have hmay := may_n hm ht
              rw [hwa] at hmay
              (rw [show pG true g t 3 = upI g t 3 from rfl] at hm hst hmay; rw [upI_same] at hst hmay)
              (have hX := hX.turn hc HT.out; clear hc)
              clear s0 s2
              go_wp2_with (first | (go_at_call 16; refine hst.mono ?_; rintro e w5 ⟨rfl, rfl⟩) | (go_at_call 21; refine hmay.mono ?_; rintro e w5 ⟨rfl, rfl⟩))
              go_roundw
              case rel => exact ⟨j + 1, a, r, _, by omega, by omega, by omega, by go_num, hm, hX⟩
              case measure => simp [intOf]; omega
          · by_cases g1 : x = 1
            · subst g1
              rw [gsB_1] at hb
              cases hwa : wnt a
              · clear hb hx01 g3
                go_wp2_with fail
                refine hcs.mono ?_
                rintro e w5 ⟨rfl, rfl⟩
                go_wp2_with fail
                refine (wanted_any hm).mono ?_
                rw [hwa]
                rintro e w5 ⟨rfl, rfl⟩
                go_wp2_with fail
                refine hput.mono ?_
                rintro e w4 ⟨rfl, hm, hc⟩
                have hst := state_n hm ht
                have hmay := may_n hm ht
                rw [hwa] at hmay
                (rw [show pG true g t v = upI g t v from rfl] at hm hst hmay; rw [upI_same] at hst hmay)
                (have hX := hX.turn hc HT.out; clear hc)
                clear s0 s2
                go_wp2_with (first | (go_at_call 16; refine hst.mono ?_; rintro e w5 ⟨rfl, rfl⟩) | (go_at_call 21; refine hmay.mono ?_; rintro e w5 ⟨rfl, rfl⟩))
                go_roundw
                case rel => exact ⟨j + 1, a, r, _, by omega, by omega, by omega, by go_num, hm, hX⟩
                case measure => simp [intOf]; omega
              · have b0 : (v == 0) = false := by
                  rw [hwa] at hb
                  simpa using hb
                clear hb hx01 g3
                go_wp2_with fail
                refine hcs.mono ?_
                rintro e w5 ⟨rfl, rfl⟩
                go_wp2_with fail
                refine (wanted_any hm).mono ?_
                rw [hwa]
                rintro e w5 ⟨rfl, rfl⟩
                go_wp2_with fail
                refine hput.mono ?_
                rintro e w4 ⟨rfl, hm, hc⟩
                have hst := state_n hm ht
                have hmay := may_n hm ht
                rw [hwa] at hmay
                (rw [show pG true g t v = upI g t v from rfl] at hm hst hmay; rw [upI_same] at hst hmay)
                (have hX := hX.turn hc HT.out; clear hc)
                clear s0 s2
                go_wp2_with (first | (go_at_call 16; refine hst.mono ?_; rintro e w5 ⟨rfl, rfl⟩) | (go_at_call 21; refine hmay.mono ?_; rintro e w5 ⟨rfl, rfl⟩))
                go_roundw
                case rel => exact ⟨j + 1, a, r, _, by omega, by omega, by omega, by go_num, hm, hX⟩
                case measure => simp [intOf]; omega
            · have b3 : (x == 3) = false := by simpa using g3
              have b1 : (x == 1) = false := by simpa using g1
              clear hb hx01 g3 g1
              cases hwa : wnt a
              · go_wp2_with fail
                refine hcs.mono ?_
                rintro e w5 ⟨rfl, rfl⟩
                go_wp2_with fail
                refine (wanted_any hm).mono ?_
                rw [hwa]
                rintro e w5 ⟨rfl, rfl⟩
                go_wp2_with fail
                refine hput.mono ?_
                rintro e w4 ⟨rfl, hm, hc⟩
                have hst := state_n hm ht
                have hmay := may_n hm ht
                rw [hwa] at hmay
                (rw [show pG true g t v = upI g t v from rfl] at hm hst hmay; rw [upI_same] at hst hmay)
                (have hX := hX.turn hc HT.out; clear hc)
                clear s0 s2
                go_wp2_with (first | (go_at_call 16; refine hst.mono ?_; rintro e w5 ⟨rfl, rfl⟩) | (go_at_call 21; refine hmay.mono ?_; rintro e w5 ⟨rfl, rfl⟩))
                go_roundw
                case rel => exact ⟨j + 1, a, r, _, by omega, by omega, by omega, by go_num, hm, hX⟩
                case measure => simp [intOf]; omega
              · go_wp2_with fail
                refine hcs.mono ?_
                rintro e w5 ⟨rfl, rfl⟩
                go_wp2_with fail
                refine (wanted_any hm).mono ?_
                rw [hwa]
                rintro e w5 ⟨rfl, rfl⟩
                go_wp2_with fail
                refine hput.mono ?_
                rintro e w4 ⟨rfl, hm, hc⟩
                have hst := state_n hm ht
                have hmay := may_n hm ht
                rw [hwa] at hmay
                (rw [show pG true g t v = upI g t v from rfl] at hm hst hmay; rw [upI_same] at hst hmay)
                (have hX := hX.turn hc HT.out; clear hc)
                clear s0 s2
                go_wp2_with (first | (go_at_call 16; refine hst.mono ?_; rintro e w5 ⟨rfl, rfl⟩) | (go_at_call 21; refine hmay.mono ?_; rintro e w5 ⟨rfl, rfl⟩))
                go_roundw
                case rel => exact ⟨j + 1, a, r, _, by omega, by omega, by omega, by go_num, hm, hX⟩
                case measure => simp [intOf]; omega
    · go_wp2_with fail
      refine (request_any hm (by omega)).mono ?_
      rintro e w4 ⟨rfl, hm, hc⟩
      (have hX := hX.turn hc HT.out; clear hc)
      go_wp2_with fail
      have ha1 : 1 ≤ a + 1 := by omega
      have ha2 : a + 1 ≤ 301 := by omega
      have hr2 : r ≤ 300 := by omega
      clear haj hrj
      generalize a + 1 = a at *
      go_loopw [104] (fun i wq => ∃ (t : Nat) (g : Ti), t ≤ N ∧ i = .int .i64 t ∧ MT 48 wq M V N g a r ∧ (∀ k, k < t → g k ≠ 0) ∧ Ext w wq) (fun i _ => N - (intOf i).toNat)
      case atStart => exact ⟨0, _, by omega, rfl, hm, fun k hk => by omega, hX⟩
      case round =>
        clear hm hX
        obtain ⟨t, g, ht, rfl, hm, hg, hX⟩ := hrel
        by_cases htl : t < N
        · have hst := state_n hm htl
          have HG := hide hg
          clear hg
          by_cases h0 : g t = 0
          · rw [h0] at hst
            have hD : don N g a = false := by unfold don; rw [stl_no htl h0, Bool.and_false]
            have hput := fun w (h : MT 48 w M V N g a r) => put_n (v := 1) h htl (by omega) (by omega)
            rw [h0] at hput
            have hG1 := hide (show ∀ k, k < t + 1 → pG (gsB a 0 1) g t 1 k ≠ 0 from fun k hk => by
              show upI g t 1 k ≠ 0
              by_cases e : k = t
              · rw [e, upI_same]; omega
              · rw [upI_other _ _ e]; exact HG.out k (by omega))
            clear h0
            go_wp2_with fail
            refine hst.mono ?_
            rintro e w5 ⟨rfl, rfl⟩
            go_wp2_with fail
            refine (done_any hm (by omega)).mono ?_
            rw [hD, show dA false a = 0 from rfl, show dE false = 9 from rfl, show dW false a = a from rfl, show dR false r = r from rfl]
            rintro e w6 ⟨rfl, hm, hc⟩
            (have hX := hX.turn hc HT.out; clear hc)
            clear hD
            go_wp2_with fail
            refine (hput _ hm).mono ?_
            rw [show dE (gsB a 0 1) = 0 from rfl]
            rintro e w7 ⟨rfl, hm, hc⟩
            (have hX := hX.turn hc HT.out; clear hc)
            clear hput hst
            go_wp2_with fail
            go_roundw
            case rel => exact ⟨t + 1, _, by omega, by go_num, hm, hG1.out, hX⟩
            case measure => simp [intOf]; omega
          · have H0 := hide h0
            have e0 : (g t == 0) = false := by simpa using h0
            clear h0
            go_wp2_with fail
            refine hst.mono ?_
            rintro e w5 ⟨rfl, rfl⟩
            go_wp2_with fail
            go_roundw
            case rel => exact ⟨t + 1, _, by omega, by go_num, hm, fun k hk => by
              by_cases e : k = t
              · rw [e]; exact H0.out
              · exact HG.out k (by omega), hX⟩
            case measure => simp [intOf]; omega
        · obtain rfl : t = N := by omega
          have hD : don t g a = true := by unfold don; rw [stl_yes hg, wnt_yes (by omega)]; rfl
          have ha3 : (1 : Int) ≤ a := by omega
          clear hg
          go_wp2_with fail
          refine (done_any hm (by omega)).mono ?_
          rw [hD, show dA true a = a from rfl, show dE true = 0 from rfl, show dW true a = 0 from rfl, show dR true r = r + 1 from rfl]
          rintro e w6 ⟨rfl, hm, hc⟩
          (have hX := hX.turn hc HT.out; clear hc)
          clear hD
          go_wp2_with fail
          refine (wanted_any hm).mono ?_
          rw [wnt_no]
          rintro e w7 ⟨rfl, rfl⟩
          go_wp2_with fail
          refine (alive_any _).mono ?_
          rintro e w8 ⟨rfl, hx⟩
          go_wp2_with fail
          go_ret
          exact ⟨by simp, hX.trans hx⟩

set_option maxRecDepth 100000 in
theorem safeStands_walk {H : Type} {enc : TypeId × Value → H} (W : World) (base : Nat) (args : Array Value) (ds : List (DataW H)) (p : List MemPlace)
    (hval0 : ∀ (j : Nat) t v, Try.f4.params[j]? = some t → args[j]? = some v → Value.okWide Try.prog W .any base t v)
    (hA0 : DataW.TrodAll enc Try.prog W 0 (fun _ => true) true Try.f4.params.toList args.toList ds p) (_hlt : ∀ x ∈ p, x.block < W.heap.size) :
    Calls Try.prog 4 args W fun e W' => e = .returned (.bool true) ∧ Ext W W' := by
  have hval := hval0
  have hA := hA0
  rw [Try.params4] at hA hval
  clear hval0 hA0
  obtain ⟨v0, v1, d0, d1, p0, p1, hargs, rfl, rfl, h0, h1⟩ := trodAll_two hA
  obtain rfl : args = #[v0, v1] := by cases args; simp_all
  obtain ⟨y, rfl, rfl, rfl, wy⟩ := open_int Try.underlying5 (hval 0 5 v0 rfl rfl) h0
  obtain ⟨A, n, c, f, rfl, hn, hc, hs, hf⟩ := open_steps (hval 1 22 v1 rfl rfl) h1
  have hb := bounds_u8 wy
  obtain ⟨q, rfl⟩ := Int.eq_ofNat_of_zero_le hb.1
  exact lstands_any q A n c f W (by omega) hn hc hs hf
set_option maxRecDepth 100000 in
theorem safeStands_lifted (os : Os) (started : os.Started) (H : Type) (enc : TypeId × Value → H) :
    ReturnsInHanded {} Try.checked os 4 .any (Rows.safeStandsSpec.pre6 enc Try.prog Try.f4 Rows.safeStandsRow.domain false) (Rows.safeStandsSpec.post enc Try.prog Try.f4 false true false false) :=
  law_lifted (fn := Try.f4) 4 os started (by kernel_rfl) Try.func4 rfl rfl Try.underlying4 (hread_of (by kernel_rfl))
    (fun l hl => by
      have hl2 : l.length = 2 := hl
      clear hl
      match l, hl2 with
      | [_, _], _ => rfl)
    (ChangeSpec.witness6 (enc := enc) (C := Try.checked) false ⟨#[], #[.int .u8 0, .slice none 0 0], []⟩ 8 (by kernel_rfl) (by kernel_rfl) (by kernel_rfl) (by kernel_rfl))
    (fun W base args ds p hval hA hlt => safeStands_walk W base args ds p hval hA hlt)
theorem safeStands_holds : Rows.SafeStandsSaid :=
  OpenClaim.holds_of_wide 4 Try.f4 rfl rfl rfl rfl rfl rfl rfl ⟨rfl, rfl, rfl, rfl, rfl⟩ rfl rfl rfl rfl rfl (by kernel_rfl) Try.func4 (by kernel_rfl)
    (of_decide_eq_true (by kernel_rfl)) (by unfold Func.isWrapper; rw [if_neg (of_decide_eq_false (by kernel_rfl))]; exact ⟨rfl, rfl⟩)
    (fun os started H enc _ => safeStands_lifted os started H enc)
end Go.Proofs.Ytndjlhnmpddpbaa
