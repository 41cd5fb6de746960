/- Pack, with its bytes in a new block. -/
import Derived.Test.YtlgomkocalieeaaGreatDoorO4
namespace Go.Proofs.YtlgomkocalieeaaGreatDoor
open Go.RowKit
set_option linter.unusedSimpArgs false
set_option linter.unusedVariables false
set_option maxRecDepth 100000

theorem By.of_own2 {w : World} {l : List UInt8} {base n : Nat} {v : Value} (h : w.ownsRow base 5 1 v n (bcells l)) : ∃ A c, v = .slice A l.length c ∧ l.length ≤ c ∧ c ≤ maxLen ∧ By w A l ∧ (∀ b, A = some b → base ≤ b.block) := by
  obtain ⟨A, c, rfl, h1, h2, h3⟩ := By.of_own h
  refine ⟨A, c, rfl, h1, h2, h3, fun b e => ?_⟩
  subst e
  exact own_row h b.block rfl
/-- What Pack answers of a program that may be. -/
def PackR2 (B : Nat) (l : List Op3) (e : Ending) (w' : World) : Prop := (fits l = true ∧ ∃ A' c', e = .returned (.tuple #[.slice A' (bytesO l).length c', .int .i64 0]) ∧ (bytesO l).length ≤ c' ∧ c' ≤ maxLen ∧ By w' A' (bytesO l) ∧ (∀ b, A' = some b → B ≤ b.block)) ∨ (fits l = false ∧ e = .returned (.tuple #[.slice none 0 0, .int .i64 1]))
theorem pack_ok2 {w : World} {A : Option Addr} {l : List Op3} (c : Nat) (h : Ch w A l) (hw : wrongO l = 0) :
    Calls Tryz.prog 34 #[.slice A l.length c] w fun e w' => PackR2 w.heap.size l e w' ∧ Ext w w' := by
  have hc := wrong_any c h
  rw [hw] at hc
  obtain ⟨h64, hall⟩ := wrong_out hw
  have HALL := hide hall
  have H := hide h
  have h64i : (l.length : Int) ≤ 64 := by omega
  have hwr : IntKind.i64.wrap (3 * (l.length : Int)) = ((3 * l.length : Nat) : Int) := by rw [IntKind.wrap_i64]; omega
  clear h hall
  go_enter Tryz.func34, Tryz.ntmps34
  go_wp2_with (go_at_call 52; refine hc.mono ?_; rintro e w1 ⟨rfl, hb⟩)
  obtain ⟨w2, hmk, hown, hx⟩ := make_own 31 5 Tryz.underlying31 inf_u8 w1 (3 * l.length) (by omega) (by unfold maxLen; omega) w.heap.size hb.size
  rw [show ((3 * l.length : Nat) : Int) = 3 * (l.length : Int) by omega] at hmk
  rw [hmk]
  have hX2 := hb.trans hx
  clear hmk hx hc hb hwr
  generalize some (⟨w1.heap.size, 0, none⟩ : Addr) = A0 at *
  go_wp2_with fail
  go_loopw [5, 19] (fun v i wr => ∃ j : Nat, j ≤ l.length ∧ i = .int .i64 (j : Int) ∧ Ext w wr ∧ wr.ownsRow w.heap.size 5 1 v (j * 3) (bcells (bytesO (l.take j))) ∧ fits (l.take j) = true) (fun _ i _ => l.length - (intOf i).toNat)
  case atStart => exact ⟨0, by omega, rfl, hX2, by simpa [bcells, bytesO] using hown, rfl⟩
  case round =>
    clear hX2 hown
    obtain ⟨j, hj, rfl, hW0, hown, hfit⟩ := hrel
    by_cases hlt : j < l.length
    · have hs := fit_succ l hlt
      rw [hfit, Bool.true_and] at hs
      have HS := hide (bytes_succ l hlt)
      have HF := hide hs
      have HN := hide (@fit_no l j hlt)
      have hm : mayO l[j] = true := List.all_eq_true.1 HALL.out _ (List.getElem_mem hlt)
      have HP := hide (@pbO_cells l[j] hm)
      obtain ⟨b1, o1, rfl, r1⟩ := (H.out.ext hW0).at_ hlt
      have hmo := may_out hm
      generalize l[j] = x at *
      obtain ⟨k, o, a⟩ := x
      have q1 := fun w' (x : Ext wr w') => (r1 w' x).1
      have q2 := fun w' (x : Ext wr w') => (r1 w' x).2.1
      have q3 := fun w' (x : Ext wr w') => (r1 w' x).2.2
      clear r1 hs hfit
      obtain ⟨A3, c3, rfl⟩ := own_sl hown
      have HO := hide hown
      have HW := hide hW0
      have hx := Ext.refl wr
      obtain ⟨h1, h2, h3, h4, h5, h6, h7⟩ := hmo
      simp only at h1 h2 h3 h4 h5 h6 h7
      have HM := hide h5
      have HOR := hide (or_lo k o (by omega) (by omega) h1 h2)
      clear hown hW0 h5 h6 h7
      cases hf : fitO (k, o, a) with
      | false =>
        have ha : (65535 : Int) < a := by simpa [fitO] using hf
        go_wp2_with fail
        go_ret2
        exact ⟨by unfold PackR2; exact .inr ⟨HN.out hf, rfl⟩, HW.out.trans (Ext.alloc _ _)⟩
      | true =>
        have ha : ¬ (65535 : Int) < a := by simpa [fitO] using hf
        have hor := HOR.out
        have hmd : (k + 16 * o) % 256 = k + 16 * o := by have := HM.out; omega
        rw [hf] at HF
        have HO2 := hide (own_ext HO.out (Ext.alloc wr (.cells #[.int .i64 k, .int .i64 o, .int .i64 a] 53)))
        go_wp2_with (at_builtin; refine wpList_appm (W0 := w) 3 rfl rfl Tryz.underlying31 inf_u8 rfl (by omega) rfl HO2.out (HW.out.trans (Ext.alloc _ _)) rfl (by simp) rfl (by simp [Value.oneCell']) (by unfold maxLen; omega) (by omega) ?_; intro v' w4 hown' hW4; go_frame)
        go_roundw
        case rel => exact ⟨j + 1, by omega, by simp, hW4, by rw [HS.out, bcells_app, HP.out hf, show (j + 1) * 3 = j * 3 + 3 by omega]; exact hown', HF.out⟩
        case measure => simp [intOf]; omega
    · obtain rfl : j = l.length := by omega
      have h3 : ¬ (l.length : Int) < (l.length : Int) := by omega
      rw [List.take_length] at hown hfit
      obtain ⟨A3, c3, rfl, hle, hmx, hby, hlo⟩ := By.of_own2 hown
      clear hown
      go_wp2_with fail
      go_ret2
      exact ⟨by unfold PackR2; exact .inl ⟨hfit, A3, c3, rfl, hle, hmx, hby, hlo⟩, hW0⟩
end Go.Proofs.YtlgomkocalieeaaGreatDoor
