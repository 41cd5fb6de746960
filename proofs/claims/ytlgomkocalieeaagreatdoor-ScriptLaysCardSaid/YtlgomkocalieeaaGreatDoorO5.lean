/- The document's Pack. -/
import Derived.Test.YtlgomkocalieeaaGreatDoorO4
namespace Go.Proofs.YtlgomkocalieeaaGreatDoor
open Go.RowKit
set_option linter.unusedSimpArgs false
set_option linter.unusedVariables false
set_option maxRecDepth 100000

theorem rpack_no {w : World} {A : Option Addr} {l : List Op3} (c : Nat) (h : Ch w A l) (hw : wrongO l ≠ 0) :
    Calls Tryz.prog 20 #[.slice A l.length c] w fun e w' => e = .returned (.tuple #[.slice none 0 0, .int .i64 (wrongO l)]) ∧ Ext w w' := by
  have hc := rall_any c h
  generalize wrongO l = e0 at *
  go_enter Tryz.func20, Tryz.ntmps20
  go_wp2_with (go_at_call 35; refine hc.mono ?_; rintro e w' ⟨rfl, hb⟩)
  go_ret2
  exact ⟨rfl, hb⟩
theorem rpack_ok {w : World} {A : Option Addr} {l : List Op3} (c : Nat) (h : Ch w A l) (hw : wrongO l = 0) :
    Calls Tryz.prog 20 #[.slice A l.length c] w fun e w' => PackR l e w' ∧ Ext w w' := by
  have hc := rall_any c h
  rw [hw] at hc
  obtain ⟨h64, hall⟩ := wrong_out hw
  have HALL := hide hall
  have H := hide h
  have h64i : (l.length : Int) ≤ 64 := by omega
  clear h hall
  go_enter Tryz.func20, Tryz.ntmps20
  go_wp2_with (go_at_call 35; refine hc.mono ?_; rintro e w1 ⟨rfl, hb⟩)
  go_loopw [5, 6] (fun v i wr => ∃ j : Nat, j ≤ l.length ∧ i = .int .i64 (j : Int) ∧ Ext w wr ∧ wr.ownsRow w.heap.size 5 1 v (j * 3) (bcells (bytesO (l.take j))) ∧ fits (l.take j) = true) (fun _ i _ => l.length - (intOf i).toNat)
  case atStart => exact ⟨0, by omega, rfl, hb, by simpa [bcells, bytesO] using own_nil w1 _ _ _, rfl⟩
  case round =>
    clear hb hc
    obtain ⟨j, hj, rfl, hW0, hown, hfit⟩ := hrel
    by_cases hlt : j < l.length
    · have hs := fit_succ l hlt
      rw [hfit, Bool.true_and] at hs
      have HS := hide (bytes_succ l hlt)
      have HF := hide hs
      have HN := hide (@fit_no l j hlt)
      have hm : mayO l[j] = true := List.all_eq_true.1 HALL.out _ (List.getElem_mem hlt)
      have HP := hide (@pbO_cells l[j] hm)
      obtain ⟨b1, o1, rfl, r1⟩ := (H.out.ext hW0).at_ hlt
      have hmo := may_out hm
      generalize l[j] = x at *
      obtain ⟨k, o, a⟩ := x
      have q1 := fun w' (x : Ext wr w') => (r1 w' x).1
      have q2 := fun w' (x : Ext wr w') => (r1 w' x).2.1
      have q3 := fun w' (x : Ext wr w') => (r1 w' x).2.2
      clear r1 hs hfit
      obtain ⟨A3, c3, rfl⟩ := own_sl hown
      have HO := hide hown
      have HW := hide hW0
      have hx := Ext.refl wr
      obtain ⟨h1, h2, h3, h4, h5, h6, h7⟩ := hmo
      simp only at h1 h2 h3 h4 h5 h6 h7
      have hk0 : 1 ≤ k := by omega
      have hk9 : k ≤ 9 := by omega
      clear hown hW0 h5 h6 h7
      cases hf : fitO (k, o, a) with
      | false =>
        have ha : (65535 : Int) < a := by simpa [fitO] using hf
        go_wp2_with fail
        go_ret2
        exact ⟨by unfold PackR; exact .inr ⟨HN.out hf, rfl⟩, HW.out.trans (Ext.alloc _ _)⟩
      | true =>
        have ha : ¬ (65535 : Int) < a := by simpa [fitO] using hf
        have hmd : (k + 16 * o) % 256 = k + 16 * o := by omega
        rw [hf] at HF
        have HO2 := hide (own_ext HO.out (Ext.alloc wr (.cells #[.int .i64 k, .int .i64 o, .int .i64 a] 53)))
        go_wp2_with (at_builtin; refine wpList_appm (W0 := w) 3 rfl rfl Tryz.underlying31 inf_u8 rfl (by omega) rfl HO2.out (HW.out.trans (Ext.alloc _ _)) rfl (by simp) rfl (by simp [Value.oneCell']) (by unfold maxLen; omega) (by omega) ?_; intro v' w4 hown' hW4; go_frame)
        go_roundw
        case rel => exact ⟨j + 1, by omega, by simp, hW4, by rw [HS.out, bcells_app, HP.out hf, show (j + 1) * 3 = j * 3 + 3 by omega]; exact hown', HF.out⟩
        case measure => simp [intOf]; omega
    · obtain rfl : j = l.length := by omega
      have h3 : ¬ (l.length : Int) < (l.length : Int) := by omega
      rw [List.take_length] at hown hfit
      obtain ⟨A3, c3, rfl, hle, hmx, hby⟩ := By.of_own hown
      clear hown
      go_wp2_with fail
      go_ret2
      exact ⟨by unfold PackR; exact .inl ⟨hfit, A3, c3, rfl, hle, hmx, hby⟩, hW0⟩
end Go.Proofs.YtlgomkocalieeaaGreatDoor
