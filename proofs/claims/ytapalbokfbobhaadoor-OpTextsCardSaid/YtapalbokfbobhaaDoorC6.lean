/- The document's text. -/
import Derived.Test.YtapalbokfbobhaaDoorC5
namespace Go.Proofs.YtapalbokfbobhaaDoor
open Go.RowKit Go.Sort
set_option linter.unusedSimpArgs false
set_option linter.unusedVariables false
set_option maxRecDepth 100000

theorem wrong_take {l : List Op3} (h : wrongO l = 0) (j : Nat) : wrongO (l.take j) = 0 := by
  obtain ⟨h1, h2⟩ := wrong_out h
  unfold wrongO
  rw [if_neg (by rw [List.length_take]; omega), if_pos]
  exact List.all_eq_true.2 fun x hx => List.all_eq_true.1 h2 x (List.mem_of_mem_take hx)
theorem text_one (x : Op3) (l : List Op3) : textO ((x :: l).take 1) = partO x := by simp [textO, Lib.join_one]
theorem text_succ {l : List Op3} {j : Nat} (h0 : 0 < j) (hj : j < l.length) : textO (l.take (j + 1)) = textO (l.take j) ++ 59 :: 32 :: partO l[j] := by
  cases l with
  | nil => simp at hj
  | cons x r =>
    obtain ⟨m, rfl⟩ : ∃ m, j = m + 1 := ⟨j - 1, by omega⟩
    have hm : m < r.length := by simpa using hj
    unfold textO
    rw [List.take_succ_cons, List.take_succ_cons, List.map_cons, List.map_cons, Lib.join_cons, Lib.join_cons, List.getElem_cons_succ]
    rw [List.map_take, List.map_take, Lib.joinTail_take_succ [59, 32] (r.map partO) m (partO r[m]) (by rw [List.getElem?_map, List.getElem?_eq_getElem hm]; rfl)]
    simp
theorem rtext_no {w : World} {A : Option Addr} {l : List Op3} (c : Nat) (h : Ch w A l) (hw : wrongO l ≠ 0) :
    Calls Tryd.prog 9 #[.slice A l.length c] w fun e w' => e = .returned (.tuple #[(Value.string ⟨List.toArray ([])⟩), .int .i64 (wrongO l)]) ∧ Ext w w' := by
  have hc := rall_any c h
  generalize wrongO l = e0 at *
  go_enter Tryd.func9, Tryd.ntmps9
  go_wp2_with (go_at_call 23; refine hc.mono ?_; rintro e w' ⟨rfl, hb⟩)
  go_ret2
  exact ⟨rfl, hb⟩
theorem rtext_yes {w : World} {A : Option Addr} {l : List Op3} (c : Nat) (h : Ch w A l) (hw : wrongO l = 0) :
    Calls Tryd.prog 9 #[.slice A l.length c] w fun e w' => e = .returned (.tuple #[(Value.string ⟨List.toArray (textO l)⟩), .int .i64 0]) ∧ Ext w w' := by
  have hc := rall_any c h
  rw [hw] at hc
  have HL := hide (fun j => text_len (wrong_take hw j))
  obtain ⟨h64, hall⟩ := wrong_out hw
  have HALL := hide hall
  have H := hide h
  clear h hall
  go_enter Tryd.func9, Tryd.ntmps9
  go_wp2_with (go_at_call 23; refine hc.mono ?_; rintro e w1 ⟨rfl, hb⟩)
  go_loopw [5, 6] (fun v i wr => ∃ j : Nat, j ≤ l.length ∧ i = .int .i64 (j : Int) ∧ Ext w wr ∧ v = (Value.string ⟨List.toArray (textO (l.take j))⟩)) (fun _ i _ => l.length - (intOf i).toNat)
  case atStart => exact ⟨0, by omega, rfl, hb, rfl⟩
  case round =>
    clear hb hc
    obtain ⟨j, hj, rfl, hW0, rfl⟩ := hrel
    by_cases hlt : j < l.length
    · have hm : mayO l[j] = true := List.all_eq_true.1 HALL.out _ (List.getElem_mem hlt)
      have hS := @text_succ l j
      have lp := part_len hm
      have lt := HL.out j
      have h1 : j = 0 → textO (l.take 1) = partO l[j] := by rintro rfl; cases l with | nil => simp at hlt | cons x r => exact text_one x r
      obtain ⟨b1, o1, rfl, r1⟩ := (H.out.ext hW0).at_ hlt
      have hp := rone_any l[j] hm
      have HS := hide (fun q => hS q hlt)
      have H1 := hide h1
      clear hS h1
      generalize l[j] = x at *
      obtain ⟨k, o, a⟩ := x
      have q1 := fun w' (x : Ext wr w') => (r1 w' x).1
      have q2 := fun w' (x : Ext wr w') => (r1 w' x).2.1
      have q3 := fun w' (x : Ext wr w') => (r1 w' x).2.2
      clear r1
      have hx := Ext.refl wr
      generalize hy : partO (k, o, a) = y at *
      by_cases hj0 : j = 0
      · have ez : textO (l.take j) = [] := by rw [hj0]; rfl
        have e1 := fun w => add_lists w [] y (by decide) (by omega)
        have H2 := hide (H1.out hj0)
        rw [ez]
        clear H1 HS lt ez
        subst hj0
        simp only [Nat.zero_mul, Nat.add_zero, Nat.zero_add] at q1 q2 q3
        go_wp2_with (go_at_call 24; refine (hp _).mono ?_; rintro e w3 ⟨rfl, hb3⟩)
        go_roundw
        case rel => exact ⟨1, by omega, by simp, hW0.trans hb3, by rw [H2.out]⟩
        case measure => simp [intOf]; omega
      · have hj1 : 0 < (j : Int) := by omega
        have H2 := hide (HS.out (by omega))
        have e1 := fun w => add_lists w (textO (l.take j)) [59, 32] (by omega) (by decide)
        have e2 := fun w => add_lists w (textO (l.take j) ++ [59, 32]) y (by simp; omega) (by omega)
        clear H1 HS
        generalize textO (l.take j) = z at *
        go_wp2_with (go_at_call 24; refine (hp _).mono ?_; rintro e w3 ⟨rfl, hb3⟩)
        go_roundw
        case rel => exact ⟨j + 1, by omega, by simp, hW0.trans hb3, by simp [H2.out]⟩
        case measure => simp [intOf]; omega
    · obtain rfl : j = l.length := by omega
      have h3 : ¬ (l.length : Int) < (l.length : Int) := by omega
      rw [List.take_length]
      go_wp2
      go_ret2
      exact ⟨rfl, hW0⟩
end Go.Proofs.YtapalbokfbobhaaDoor
