/- Nests, Even. -/
import Derived.Test.YtapalbokfbobhaaDoorG1
namespace Go.Proofs.YtapalbokfbobhaaDoor
open Go.RowKit
set_option linter.unusedSimpArgs false
set_option linter.unusedVariables false
set_option maxRecDepth 100000

/-- Does a program, behind what is entered, leave what was entered last? -/
def nestO : List Op3 → List Int → Bool
  | [], _ => true
  | x :: l, es => if x.1 = 1 then nestO l (es ++ [x.2.1]) else if x.1 = 3 then (if es.getLast? = some x.2.1 then nestO l es.dropLast else false) else nestO l es
def icells (l : List Int) : List Value := l.map (.int .i64)
theorem own_shrink {w : World} {base n m size c : Nat} {e : TypeId} {A : Option Addr} {xs : List Value} (h : w.ownsRow base e size (.slice A n c) n xs) (hm : m ≤ n) (h0 : A ≠ none) : w.ownsRow base e size (.slice A m c) m (xs.take (m * size)) := by
  have hms : m * size ≤ n * size := Nat.mul_le_mul_right _ hm
  obtain ⟨hl, ⟨h1, _⟩ | ⟨g, cap, cur, h1, h2, h3, h4, h5, h6, h7⟩⟩ := h
  · cases h1; exact absurd rfl h0
  · cases h1
    refine ⟨by rw [List.length_take]; omega, .inr ⟨g, c, cur, rfl, h2, h3, by omega, h5, h6, ?_⟩⟩
    rw [← h7, List.take_take]
    congr 1; omega
theorem own_last {w : World} {base c : Nat} {A : Option Addr} {es : List Int} {t : Int} (h : w.ownsRow base 3 1 (.slice A (es ++ [t]).length c) (es ++ [t]).length (icells (es ++ [t]))) : ∃ b, A = some ⟨b, 0, none⟩ ∧ (es ++ [t]).length ≤ c ∧ ∀ w', Ext w w' → w'.cell? ⟨b, es.length, none⟩ = some (.int .i64 t) := by
  obtain ⟨hl, ⟨h1, _⟩ | ⟨g, cap, cur, h1, h2, h3, h4, h5, h6, h7⟩⟩ := h
  · injection h1 with _ h1; simp at h1
  · cases h1
    have hb : Blk w g cur 3 := h3
    refine ⟨g, rfl, h4, fun w' x => ?_⟩
    have hlt : es.length < (es ++ [t]).length * 1 := by simp
    rw [(hb.ext x).cell, ← Array.getElem?_toList, ← List.getElem?_take_of_lt hlt, h7]
    simp [icells]
set_option maxHeartbeats 4000000 in
theorem nests_any {w : World} {A : Option Addr} {l : List Op3} (c : Nat) (h1 : Ch w A l) (hl : l.length ≤ 64) (hc : l.length ≤ c) :
    Calls Tryd.prog 17 #[.slice A l.length c] w fun e w' => e = .returned (.bool (nestO l [])) ∧ Ext w w' := by
  have H1 := hide h1
  have hW0 := Ext.refl w
  clear h1
  go_enter Tryd.func17, Tryd.ntmps17
  go_wp2_with (go_at_call 29; refine (first_any _ _ _ _ hl hc).mono ?_; rintro e w' ⟨rfl, rfl⟩)
  go_loopw [3, 10] (fun v i wr => ∃ (j : Nat) (es : List Int), j ≤ l.length ∧ i = .int .i64 (j : Int) ∧ nestO l [] = nestO (l.drop j) es ∧ es.length ≤ j ∧ Ext w wr ∧ wr.ownsRow w.heap.size 3 1 v es.length (icells es)) (fun _ i _ => l.length - (intOf i).toNat)
  case atStart => exact ⟨0, [], by omega, rfl, rfl, Nat.le_refl _, hW0, own_nil _ _ _ _⟩
  case round =>
    clear hW0
    obtain ⟨j, es, hj, rfl, hn, hes, hW0, hown⟩ := hrel
    by_cases hlt : j < l.length
    · rw [List.drop_eq_getElem_cons hlt] at hn
      obtain ⟨b1, o1, rfl, r1⟩ := (H1.out.ext hW0).at_ hlt
      generalize l[j] = x at *
      obtain ⟨k, o, a⟩ := x
      have HN := hide hn
      have q1 := fun w' (x : Ext wr w') => (r1 w' x).1
      have q2 := fun w' (x : Ext wr w') => (r1 w' x).2.1
      have q3 := fun w' (x : Ext wr w') => (r1 w' x).2.2
      clear r1 hn
      have hx := Ext.refl wr
      have HW := hide hW0
      have HO := hide hown
      have hes64 : es.length + 1 ≤ 64 := by omega
      obtain ⟨A3, c3, rfl⟩ := own_sl hown
      clear hW0 hown
      by_cases k1 : k = 1
      · have HE := hide (show nestO ((k, o, a) :: l.drop (j + 1)) es = nestO (l.drop (j + 1)) (es ++ [o]) by rw [nestO, if_pos k1])
        subst k1
        go_wp2_with (at_builtin; refine wpList_app1 (W0 := w) rfl rfl Tryd.underlying59 inf_int rfl (by omega) rfl (own_ext HO.out (Ext.alloc _ _)) (HW.out.trans (Ext.alloc _ _)) rfl (by simp) rfl (by simp [Value.oneCell']) (by unfold maxLen; omega) (by omega) ?_; intro v' w5 hown' hW5; go_frame)
        go_roundw
        case rel => exact ⟨j + 1, es ++ [o], by omega, by simp, HN.out.trans HE.out, by simp; omega, hW5, by rw [List.length_append]; simpa [icells] using hown'⟩
        case measure => simp [intOf]; omega
      · by_cases k3 : k = 3
        · rcases List.eq_nil_or_concat es with rfl | ⟨es2, t, rfl⟩
          · have HE := hide (show nestO ((k, o, a) :: l.drop (j + 1)) [] = false by rw [nestO, if_neg k1, if_pos k3]; rfl)
            subst k3
            have HB := (Blk.new wr #[.int .i64 3, .int .i64 o, .int .i64 a] 24).rule
            go_wp2_with fail
            have hk := Ext.drew (wr.alloc (.cells #[.int .i64 3, .int .i64 o, .int .i64 a] 24))
            go_region
            go_wp2_with fail
            go_ret
            exact ⟨by rw [HN.out, HE.out]; rfl, (HW.out.trans (Ext.alloc _ _)).trans hk⟩
          · rw [List.concat_eq_append] at HO HN hes hes64
            rw [List.concat_eq_append]
            obtain ⟨g, rfl, hle, hcell⟩ := own_last HO.out
            have e9 : (es2 ++ [t]).length = es2.length + 1 := by simp
            have HO2 := hide (own_shrink HO.out (m := es2.length) (by omega) (by simp))
            rw [e9] at hle hes64 hes ⊢
            have hw2 : IntKind.i64.wrap ((es2.length : Int) + 1 - 1) = (es2.length : Int) := by rw [IntKind.wrap_i64]; omega
            have hci := hcell wr hx
            have hcg := fun w' (x : Ext (wr.alloc (.cells #[.int .i64 k, .int .i64 o, .int .i64 a] 24)) w') => hcell w' ((Ext.alloc _ _).trans x)
            have hk := Ext.drew (wr.alloc (.cells #[.int .i64 k, .int .i64 o, .int .i64 a] 24))
            have hk0 := Ext.refl (wr.alloc (.cells #[.int .i64 k, .int .i64 o, .int .i64 a] 24))
            have HB := (Blk.new wr #[.int .i64 k, .int .i64 o, .int .i64 a] 24).rule
            have hB0 := hcg _ hk0
            have hB1 := HB _ hk0 1
            have hil : (es2.length : Int) < (es2.length : Int) + 1 := by omega
            have hsc : es2.length ≤ c3 := by omega
            have hneg : decide ((es2.length : Int) < 0) = false := decide_eq_false (by omega)
            clear hcell
            cases ht : (t != o) with
            | true =>
              have HE := hide (show nestO ((k, o, a) :: l.drop (j + 1)) (es2 ++ [t]) = false by rw [nestO, if_neg k1, if_pos k3, if_neg (by simpa using ht)])
              subst k3
              go_wp2_with fail
              go_region
              all_goals go_wp2_with fail
              all_goals go_ret
              all_goals exact ⟨by rw [HN.out, HE.out]; rfl, (HW.out.trans (Ext.alloc _ _)).trans hk⟩
            | false =>
              have HE := hide (show nestO ((k, o, a) :: l.drop (j + 1)) (es2 ++ [t]) = nestO (l.drop (j + 1)) es2 by rw [nestO, if_neg k1, if_pos k3, if_pos (by simpa using ht), List.dropLast_concat])
              subst k3
              go_wp2_with fail
              go_region
              go_wp2_with fail
              go_roundw
              case rel => exact ⟨j + 1, es2, by omega, by simp, HN.out.trans HE.out, by omega, (HW.out.trans (Ext.alloc _ _)).trans hk, by have := own_ext HO2.out ((Ext.alloc _ _).trans hk); simpa [icells] using this⟩
              case measure => simp [intOf]; omega
        · have HE := hide (show nestO ((k, o, a) :: l.drop (j + 1)) es = nestO (l.drop (j + 1)) es by rw [nestO, if_neg k1, if_neg k3])
          go_wp2_with fail
          go_roundw
          case rel => exact ⟨j + 1, es, by omega, by simp, HN.out.trans HE.out, by omega, HW.out.trans (Ext.alloc _ _), own_ext HO.out (Ext.alloc _ _)⟩
          case measure => simp [intOf]; omega
    · obtain rfl : j = l.length := by omega
      rw [List.drop_length] at hn
      have h3 : ¬ (l.length : Int) < (l.length : Int) := by omega
      have HN := hide hn
      obtain ⟨A3, c3, rfl⟩ := own_sl hown
      clear hn hown
      go_wp2_with fail
      go_ret
      exact ⟨by rw [HN.out]; rfl, hW0⟩
end Go.Proofs.YtapalbokfbobhaaDoor
