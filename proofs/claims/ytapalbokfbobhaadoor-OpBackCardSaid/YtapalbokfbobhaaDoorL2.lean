/- The calls, each by one spec; OpTexts. -/
import Derived.Test.YtapalbokfbobhaaDoorL1
import Derived.Test.YtapalbokfbobhaaDoorD2
import Derived.Laws.BytesString
import Derived.Laws.BytesArg
namespace Go.Proofs.YtapalbokfbobhaaDoor
open Go.RowKit
set_option linter.unusedSimpArgs false
set_option linter.unusedVariables false
set_option maxRecDepth 100000

def textR (l : List Op3) : List UInt8 := if wrongO l = 0 then textO l else []
def packB (l : List Op3) : List UInt8 := if packE l = 0 then bytesO l else []
theorem text_any {w : World} {A : Option Addr} {l : List Op3} (c : Nat) (h : Ch w A l) (hG : Glob w) : Calls Tryd.prog 8 #[.slice A l.length c] w fun e w' => e = .returned (.tuple #[(Value.string ⟨List.toArray (textR l)⟩), .int .i64 (wrongO l)]) ∧ Ext w w' := by
  by_cases hw : wrongO l = 0
  · rw [show textR l = textO l from if_pos hw, hw]; exact text_yes c h hw hG
  · rw [show textR l = [] from if_neg hw]; exact text_no c h hw
theorem rtext_any {w : World} {A : Option Addr} {l : List Op3} (c : Nat) (h : Ch w A l) : Calls Tryd.prog 9 #[.slice A l.length c] w fun e w' => e = .returned (.tuple #[(Value.string ⟨List.toArray (textR l)⟩), .int .i64 (wrongO l)]) ∧ Ext w w' := by
  by_cases hw : wrongO l = 0
  · rw [show textR l = textO l from if_pos hw, hw]; exact rtext_yes c h hw
  · rw [show textR l = [] from if_neg hw]; exact rtext_no c h hw
theorem packR_any {l : List Op3} (hw : wrongO l = 0) {e : Ending} {w' : World} (h : PackR l e w') : ∃ A c, e = .returned (.tuple #[.slice A (packB l).length c, .int .i64 (packE l)]) ∧ By w' A (packB l) := by
  rcases h with ⟨hf, A, c, h1, _, _, h2⟩ | ⟨hf, h1⟩
  · have e1 : packE l = 0 := by unfold packE; rw [if_pos hw, if_pos hf]
    rw [show packB l = bytesO l from if_pos e1, e1]
    exact ⟨A, c, h1, h2⟩
  · have e1 : packE l = 1 := by unfold packE; rw [if_pos hw, if_neg (by simp [hf])]
    rw [show packB l = [] from if_neg (by rw [e1]; decide), e1]
    exact ⟨none, 0, h1, .inl rfl⟩
theorem pack_any {w : World} {A : Option Addr} {l : List Op3} (c : Nat) (h : Ch w A l) : Calls Tryd.prog 10 #[.slice A l.length c] w fun e w' => (∃ A c, e = .returned (.tuple #[.slice A (packB l).length c, .int .i64 (packE l)]) ∧ By w' A (packB l)) ∧ Ext w w' := by
  by_cases hw : wrongO l = 0
  · exact (pack_ok c h hw).mono fun e w' ⟨h1, h2⟩ => ⟨packR_any hw h1, h2⟩
  · have e1 : packE l = wrongO l := if_neg hw
    rw [show packB l = [] from if_neg (by rw [e1]; exact hw), e1]
    exact (pack_no c h hw).mono fun e w' ⟨h1, h2⟩ => ⟨⟨none, 0, h1, .inl rfl⟩, h2⟩
theorem rpack_any {w : World} {A : Option Addr} {l : List Op3} (c : Nat) (h : Ch w A l) : Calls Tryd.prog 11 #[.slice A l.length c] w fun e w' => (∃ A c, e = .returned (.tuple #[.slice A (packB l).length c, .int .i64 (packE l)]) ∧ By w' A (packB l)) ∧ Ext w w' := by
  by_cases hw : wrongO l = 0
  · exact (rpack_ok c h hw).mono fun e w' ⟨h1, h2⟩ => ⟨packR_any hw h1, h2⟩
  · have e1 : packE l = wrongO l := if_neg hw
    rw [show packB l = [] from if_neg (by rw [e1]; exact hw), e1]
    exact (rpack_no c h hw).mono fun e w' ⟨h1, h2⟩ => ⟨⟨none, 0, h1, .inl rfl⟩, h2⟩
theorem far_any (A : Option Addr) (n c : Nat) (w : World) : Calls Tryd.prog 6 #[.slice A n c] w fun e w' => e = .returned (.bool (decide (200 < n))) ∧ w = w' := by
  go_enter Tryd.func6, Tryd.ntmps6
  go_wp2
  go_ret
  exact ⟨by simp; omega, rfl⟩
theorem conv_by {w : World} {A : Option Addr} {l : List UInt8} (c : Nat) (h : By w A l) : Sem.run Tryd.prog (convert 33 9 (.slice A l.length c)) w = .ok (Value.string ⟨List.toArray (l)⟩) w := by
  rcases h with h | ⟨b, off, rfl, h2, h3⟩
  · obtain rfl := List.eq_nil_of_length_eq_zero h
    rw [show ([] : List UInt8).length = 0 from rfl]
    cases A with
    | none => exact run_convert_bytes_nil (P := Tryd.prog) (w := w) 33 5 Tryd.underlying33 Tryd.underlying5 0 c 9 Tryd.underlying9
    | some a => exact run_convert_bytes_back (P := Tryd.prog) w 33 9 5 a c [] Tryd.underlying33 Tryd.underlying5 Tryd.underlying9 (fun j hj => by simp at hj)
  · exact run_convert_bytes_back (P := Tryd.prog) w 33 9 5 ⟨b, off, none⟩ c l Tryd.underlying33 Tryd.underlying5 Tryd.underlying9 (fun j hj => by rw [Addr.add_mid]; exact h3 j hj)
set_option maxHeartbeats 2000000 in
theorem texts_any {w : World} {A : Option Addr} {l : List Op3} (c : Nat) (h : Ch w A l) (x : Op3) (t n : Int) (hG : Glob w) :
    Calls Tryd.prog 3 #[.slice A l.length c, .agg #[.int .i64 x.1, .int .i64 x.2.1, .int .i64 x.2.2], .agg #[.int .i64 t, .int .i64 n]] w fun e w' => e = .returned (.bool true) ∧ Ext w w' := by
  obtain ⟨k, o, a⟩ := x
  have H := hide h
  have HG := hide hG
  clear h hG
  have hfr := fun w => far_any A l.length c w
  go_enter Tryd.func3, Tryd.ntmps3
  go_wp2_with fail
  have hY := fun w' (h : Ext ((w.alloc (Obj.cells #[.int .i64 k, .int .i64 o, .int .i64 a] 24)).alloc (Obj.cells #[.int .i64 t, .int .i64 n] 25)) w') => h.boxCell
  have hYf := fun w' (h : Ext ((w.alloc (Obj.cells #[.int .i64 k, .int .i64 o, .int .i64 a] 24)).alloc (Obj.cells #[.int .i64 t, .int .i64 n] 25)) w') => h.boxFree
  simp only [World.size_alloc] at hY hYf
  have hX := fun w' (h : Ext ((w.alloc (Obj.cells #[.int .i64 k, .int .i64 o, .int .i64 a] 24)).alloc (Obj.cells #[.int .i64 t, .int .i64 n] 25)) w') => ((Ext.alloc (w.alloc (Obj.cells #[.int .i64 k, .int .i64 o, .int .i64 a] 24)) (Obj.cells #[.int .i64 t, .int .i64 n] 25)).trans h).boxCell
  have hXf := fun w' (h : Ext ((w.alloc (Obj.cells #[.int .i64 k, .int .i64 o, .int .i64 a] 24)).alloc (Obj.cells #[.int .i64 t, .int .i64 n] 25)) w') => ((Ext.alloc (w.alloc (Obj.cells #[.int .i64 k, .int .i64 o, .int .i64 a] 24)) (Obj.cells #[.int .i64 t, .int .i64 n] 25)).trans h).boxFree
  have hX0 : Ext w ((w.alloc (Obj.cells #[.int .i64 k, .int .i64 o, .int .i64 a] 24)).alloc (Obj.cells #[.int .i64 t, .int .i64 n] 25)) := (Ext.alloc _ _).trans (Ext.alloc _ _)
  generalize (w.alloc (Obj.cells #[.int .i64 k, .int .i64 o, .int .i64 a] 24)).alloc (Obj.cells #[.int .i64 t, .int .i64 n] 25) = W0 at *
  have hW := Ext.refl W0
  cases hfar : decide (200 < l.length) with
  | true =>
    rw [hfar] at hfr
    go_wp2_with (first | (go_at_call 6; refine (hfr _).mono ?_; rintro e w' ⟨rfl, rfl⟩) | (go_at_call 7; (with_reducible refine (alive_any _ (HG.out.ext (hX0.trans hW))).mono ?_); rintro e w' ⟨rfl, hb⟩; have hW := Ext.trans2 hW (by repeat (first | exact Ext.refl _ | exact Ext.alloc _ _ | exact Ext.drewN _ _ | assumption | refine Ext.trans ?_ (Ext.alloc _ _) | refine Ext.trans ?_ (Ext.drew _) | refine Ext.trans ?_ (by assumption))) hb; (try have hV := Ext.trans2 hV (by repeat (first | exact Ext.refl _ | exact Ext.alloc _ _ | exact Ext.drewN _ _ | assumption | refine Ext.trans ?_ (Ext.alloc _ _) | refine Ext.trans ?_ (Ext.drew _) | refine Ext.trans ?_ (by assumption))) hb); clear hb))
    go_ret
    exact ⟨rfl, hX0.trans hW⟩
  | false =>
    rw [hfar] at hfr
    have hl : l.length ≤ 200 := by have := of_decide_eq_false hfar; omega
    go_wp2_with (first | (go_at_call 6; refine (hfr _).mono ?_; rintro e w' ⟨rfl, rfl⟩) | (go_at_call 8; (with_reducible refine (text_any c (H.out.ext (hX0.trans hW)) (HG.out.ext (hX0.trans hW))).mono ?_); rintro e w' ⟨rfl, hb⟩; have hW := Ext.trans2 hW (by repeat (first | exact Ext.refl _ | exact Ext.alloc _ _ | exact Ext.drewN _ _ | assumption | refine Ext.trans ?_ (Ext.alloc _ _) | refine Ext.trans ?_ (Ext.drew _) | refine Ext.trans ?_ (by assumption))) hb; (try have hV := Ext.trans2 hV (by repeat (first | exact Ext.refl _ | exact Ext.alloc _ _ | exact Ext.drewN _ _ | assumption | refine Ext.trans ?_ (Ext.alloc _ _) | refine Ext.trans ?_ (Ext.drew _) | refine Ext.trans ?_ (by assumption))) hb); clear hb) | (go_at_call 9; (with_reducible refine (rtext_any c (H.out.ext (hX0.trans hW))).mono ?_); rintro e w' ⟨rfl, hb⟩; have hW := Ext.trans2 hW (by repeat (first | exact Ext.refl _ | exact Ext.alloc _ _ | exact Ext.drewN _ _ | assumption | refine Ext.trans ?_ (Ext.alloc _ _) | refine Ext.trans ?_ (Ext.drew _) | refine Ext.trans ?_ (by assumption))) hb; (try have hV := Ext.trans2 hV (by repeat (first | exact Ext.refl _ | exact Ext.alloc _ _ | exact Ext.drewN _ _ | assumption | refine Ext.trans ?_ (Ext.alloc _ _) | refine Ext.trans ?_ (Ext.drew _) | refine Ext.trans ?_ (by assumption))) hb); clear hb) | (go_at_call 10; refine (pack_any c (H.out.ext (hX0.trans hW))).mono ?_; rintro e w' ⟨⟨A4, c4, rfl, hb4⟩, hb⟩; have HB4 := hide hb4; have hP4 := Ext.refl w'; have hW := Ext.trans2 hW (by repeat (first | exact Ext.refl _ | exact Ext.alloc _ _ | exact Ext.drewN _ _ | assumption | refine Ext.trans ?_ (Ext.alloc _ _) | refine Ext.trans ?_ (Ext.drew _) | refine Ext.trans ?_ (by assumption))) hb; clear hb hb4) | (go_at_call 11; refine (rpack_any c (H.out.ext (hX0.trans hW))).mono ?_; rintro e w' ⟨⟨A5, c5, rfl, hb5⟩, hb⟩; have HB5 := hide hb5; have HB4 := hide (HB4.out.ext hb); have hW := Ext.trans2 hW (by repeat (first | exact Ext.refl _ | exact Ext.alloc _ _ | exact Ext.drewN _ _ | assumption | refine Ext.trans ?_ (Ext.alloc _ _) | refine Ext.trans ?_ (Ext.drew _) | refine Ext.trans ?_ (by assumption))) hb; clear hb hb5))
    have hc4 := fun w2 (x : Ext w' w2) => conv_by c4 (HB4.out.ext x)
    have hc5 := fun w2 (x : Ext w' w2) => conv_by c5 (HB5.out.ext x)
    generalize packB l = pb at *
    generalize packE l = pe at *
    generalize textR l = tr at *
    generalize wrongO l = we at *
    have hX := fun w2 (x : Ext w' w2) => hX w2 (hW.trans x)
    have hY := fun w2 (x : Ext w' w2) => hY w2 (hW.trans x)
    have HXX := hide (hX0.trans hW)
    have hW := Ext.refl w'
    have hm1 := fun w => may_any k o a t n w
    have hm2 := fun w => rmay_any k o a t n w
    generalize mayI k o a t n = mb at *
    refine wp_region_ext (by kernel_rfl) (by kernel_rfl) ?_
    repeat
      with_reducible refine wpQuiet_step (fun K hK => ?_)
      go_simp
      first
      | (refine hK _ ?_; clear hK K)
      | (apply Exists.intro
         refine ⟨fun w1 h1 => ?_, hK _ ?_⟩
         (have hW := Ext.trans2 hW (by repeat (first | exact Ext.refl _ | exact Ext.alloc _ _ | exact Ext.drewN _ _ | assumption | refine Ext.trans ?_ (Ext.alloc _ _) | refine Ext.trans ?_ (Ext.drew _) | refine Ext.trans ?_ (by assumption))) h1; (try have hV := Ext.trans2 hV (by repeat (first | exact Ext.refl _ | exact Ext.alloc _ _ | exact Ext.drewN _ _ | assumption | refine Ext.trans ?_ (Ext.alloc _ _) | refine Ext.trans ?_ (Ext.drew _) | refine Ext.trans ?_ (by assumption))) h1); (first | rfl | (go_simp; done) | (go_simp; rfl) | first | (go_at_call 12; (with_reducible refine (hm1 _).mono ?_); rintro e w2 ⟨rfl, hb⟩; exact ⟨rfl, h1.trans hb⟩) | (go_at_call 13; (with_reducible refine (hm2 _).mono ?_); rintro e w2 ⟨rfl, hb⟩; exact ⟨rfl, h1.trans hb⟩) | (go_at_call 7; (with_reducible refine (alive_any _ (HG.out.ext (HXX.out.trans hW))).mono ?_); rintro e w2 ⟨rfl, hb⟩; exact ⟨rfl, h1.trans hb⟩)))
         clear hK K)
    refine wpQuiet_nil (fun w' hw' => ?_)
    have hW := Ext.trans2 hW (by repeat (first | exact Ext.refl _ | exact Ext.alloc _ _ | exact Ext.drewN _ _ | assumption | refine Ext.trans ?_ (Ext.alloc _ _) | refine Ext.trans ?_ (Ext.drew _) | refine Ext.trans ?_ (by assumption))) hw'
    try have hV := Ext.trans2 hV (by repeat (first | exact Ext.refl _ | exact Ext.alloc _ _ | exact Ext.drewN _ _ | assumption | refine Ext.trans ?_ (Ext.alloc _ _) | refine Ext.trans ?_ (Ext.drew _) | refine Ext.trans ?_ (by assumption))) hw'
    clear hw'
    go_wp2_with fail
    go_ret
    exact ⟨rfl, HXX.out.trans hW⟩
end Go.Proofs.YtapalbokfbobhaaDoor
