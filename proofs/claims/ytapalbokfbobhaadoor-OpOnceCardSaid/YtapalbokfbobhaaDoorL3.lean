/- OpBack. -/
import Derived.Test.YtapalbokfbobhaaDoorL2
namespace Go.Proofs.YtapalbokfbobhaaDoor
open Go.RowKit
set_option linter.unusedSimpArgs false
set_option linter.unusedVariables false
set_option maxRecDepth 100000

set_option maxHeartbeats 2000000 in
theorem back_any {w : World} {A : Option Addr} {l : List Op3} (c : Nat) (h : Ch w A l) (hG : Glob w) :
    Calls Tryd.prog 4 #[.slice A l.length c] w fun e w' => e = .returned (.bool true) ∧ Ext w w' := by
  have H := hide h
  have HG := hide hG
  have hW := Ext.refl w
  clear h hG
  have hfr := fun w => far_any A l.length c w
  cases hfar : decide (200 < l.length) with
  | true =>
    rw [hfar] at hfr
    go_enter Tryd.func4, Tryd.ntmps4
    go_wp2_with (first | (go_at_call 6; refine (hfr _).mono ?_; rintro e w' ⟨rfl, rfl⟩) | (go_at_call 7; (with_reducible refine (alive_any _ (HG.out.ext hW)).mono ?_); rintro e w' ⟨rfl, hb⟩; have hW := Ext.trans2 hW (by repeat (first | exact Ext.refl _ | exact Ext.alloc _ _ | exact Ext.drewN _ _ | assumption | refine Ext.trans ?_ (Ext.alloc _ _) | refine Ext.trans ?_ (Ext.drew _) | refine Ext.trans ?_ (by assumption))) hb; (try have hV := Ext.trans2 hV (by repeat (first | exact Ext.refl _ | exact Ext.alloc _ _ | exact Ext.drewN _ _ | assumption | refine Ext.trans ?_ (Ext.alloc _ _) | refine Ext.trans ?_ (Ext.drew _) | refine Ext.trans ?_ (by assumption))) hb); clear hb))
    go_ret
    exact ⟨rfl, hW⟩
  | false =>
    rw [hfar] at hfr
    have hl : l.length ≤ 200 := by have := of_decide_eq_false hfar; omega
    by_cases hwr : wrongO l = 0
    · have hlt := text_len hwr
      have HPT := hide (parse_text hwr)
      have ht := fun w h hG => text_yes (w := w) (A := A) (l := l) c h hwr hG
      have hpk := fun w h => pack_ok (w := w) (A := A) (l := l) c h hwr
      have hpa := fun w hG => parse_any (textO l) (by omega) w hG
      generalize textO l = tx at *
      have HSM := hide (fun w A2 c2 (h1 : Ch w A l) (h2 : Ch w A2 l) => same_any (w := w) (A1 := A2) (A2 := A) (c1 := c2) (c2 := c) h2 h1 (by omega))
      go_enter Tryd.func4, Tryd.ntmps4
      go_wp2_with (first | (go_at_call 6; refine (hfr _).mono ?_; rintro e w' ⟨rfl, rfl⟩) | (go_at_call 8; (with_reducible refine (ht _ (H.out.ext hW) (HG.out.ext hW)).mono ?_); rintro e w' ⟨rfl, hb⟩; have hW := Ext.trans2 hW (by repeat (first | exact Ext.refl _ | exact Ext.alloc _ _ | exact Ext.drewN _ _ | assumption | refine Ext.trans ?_ (Ext.alloc _ _) | refine Ext.trans ?_ (Ext.drew _) | refine Ext.trans ?_ (by assumption))) hb; (try have hV := Ext.trans2 hV (by repeat (first | exact Ext.refl _ | exact Ext.alloc _ _ | exact Ext.drewN _ _ | assumption | refine Ext.trans ?_ (Ext.alloc _ _) | refine Ext.trans ?_ (Ext.drew _) | refine Ext.trans ?_ (by assumption))) hb); clear hb))
      refine (hpa _ (HG.out.ext hW)).mono ?_
      rintro e w2 ⟨⟨A2, c2, h1, hle, hch⟩, hb⟩
      rw [HPT.out] at h1 hle hch
      have h1 : e = .returned (.tuple #[.slice A2 l.length c2, .int .i64 0]) := h1
      subst h1
      have hW := hW.trans hb
      have HC2 := hide hch
      clear hch hle hpa ht hb
      go_wp2_with fail
      refine (hpk _ (H.out.ext hW)).mono ?_
      rintro e w3 ⟨hpr, hb⟩
      have hW := hW.trans hb
      have HC2 := hide (HC2.out.ext hb)
      clear hb hpk
      unfold PackR at hpr
      rcases hpr with ⟨hf, A3, c3, rfl, hle3, hmx3, hby⟩ | ⟨hf, rfl⟩
      · have HUB := hide (unpack_bytes hwr hf)
        have hun := unpack_any (l := bytesO l) (by rw [bytesO_length]; omega) hle3 hmx3 hby
        generalize bytesO l = bl at *
        clear hfr
        go_wp2_with fail
        refine hun.mono ?_
        rintro e w4 ⟨⟨A4, c4, h1, hle4, hch4⟩, hb⟩
        rw [HUB.out] at h1 hle4 hch4
        have h1 : e = .returned (.tuple #[.slice A4 l.length c4, .int .i64 0]) := h1
        subst h1
        have hW := hW.trans hb
        have HC2 := hide (HC2.out.ext hb)
        have HC4 := hide hch4
        clear hb hch4 hun hle4 hby
        have hs1 := fun w' (x : Ext w4 w') => HSM.out w' A2 c2 (H.out.ext (hW.trans x)) (HC2.out.ext x)
        have hs2 := fun w' (x : Ext w4 w') => HSM.out w' A4 c4 (H.out.ext (hW.trans x)) (HC4.out.ext x)
        have HX := hide hW
        have hW := Ext.refl w4
        go_wp2_with (first | (go_at_call 16; (with_reducible refine (hs1 _ hW).mono ?_); rintro e w' ⟨rfl, hb⟩; have hW := Ext.trans2 hW (by repeat (first | exact Ext.refl _ | exact Ext.alloc _ _ | exact Ext.drewN _ _ | assumption | refine Ext.trans ?_ (Ext.alloc _ _) | refine Ext.trans ?_ (Ext.drew _) | refine Ext.trans ?_ (by assumption))) hb; (try have hV := Ext.trans2 hV (by repeat (first | exact Ext.refl _ | exact Ext.alloc _ _ | exact Ext.drewN _ _ | assumption | refine Ext.trans ?_ (Ext.alloc _ _) | refine Ext.trans ?_ (Ext.drew _) | refine Ext.trans ?_ (by assumption))) hb); clear hb) | (go_at_call 16; (with_reducible refine (hs2 _ hW).mono ?_); rintro e w' ⟨rfl, hb⟩; have hW := Ext.trans2 hW (by repeat (first | exact Ext.refl _ | exact Ext.alloc _ _ | exact Ext.drewN _ _ | assumption | refine Ext.trans ?_ (Ext.alloc _ _) | refine Ext.trans ?_ (Ext.drew _) | refine Ext.trans ?_ (by assumption))) hb; (try have hV := Ext.trans2 hV (by repeat (first | exact Ext.refl _ | exact Ext.alloc _ _ | exact Ext.drewN _ _ | assumption | refine Ext.trans ?_ (Ext.alloc _ _) | refine Ext.trans ?_ (Ext.drew _) | refine Ext.trans ?_ (by assumption))) hb); clear hb) | (go_at_call 7; (with_reducible refine (alive_any _ (HG.out.ext (HX.out.trans hW))).mono ?_); rintro e w' ⟨rfl, hb⟩; have hW := Ext.trans2 hW (by repeat (first | exact Ext.refl _ | exact Ext.alloc _ _ | exact Ext.drewN _ _ | assumption | refine Ext.trans ?_ (Ext.alloc _ _) | refine Ext.trans ?_ (Ext.drew _) | refine Ext.trans ?_ (by assumption))) hb; (try have hV := Ext.trans2 hV (by repeat (first | exact Ext.refl _ | exact Ext.alloc _ _ | exact Ext.drewN _ _ | assumption | refine Ext.trans ?_ (Ext.alloc _ _) | refine Ext.trans ?_ (Ext.drew _) | refine Ext.trans ?_ (by assumption))) hb); clear hb))
        go_ret
        exact ⟨rfl, HX.out.trans hW⟩
      · have hun : Calls Tryd.prog 15 #[.slice none 0 0] w3 fun e w' => UnpackR [] e w' ∧ Ext w3 w' := unpack_any (l := []) (A := none) (c := 0) (by simp) (by simp) (by unfold maxLen; omega) (.inl rfl)
        clear hfr
        go_wp2_with fail
        refine hun.mono ?_
        rintro e w4 ⟨⟨A4, c4, h1, hle4, hch4⟩, hb⟩
        have h1 : e = .returned (.tuple #[.slice A4 0 c4, .int .i64 0]) := h1
        subst h1
        have hW := hW.trans hb
        have HC2 := hide (HC2.out.ext hb)
        clear hb hch4 hun hle4
        have hs1 := fun w' (x : Ext w4 w') => HSM.out w' A2 c2 (H.out.ext (hW.trans x)) (HC2.out.ext x)
        have HX := hide hW
        have hW := Ext.refl w4
        go_wp2_with (first | (go_at_call 16; (with_reducible refine (hs1 _ hW).mono ?_); rintro e w' ⟨rfl, hb⟩; have hW := Ext.trans2 hW (by repeat (first | exact Ext.refl _ | exact Ext.alloc _ _ | exact Ext.drewN _ _ | assumption | refine Ext.trans ?_ (Ext.alloc _ _) | refine Ext.trans ?_ (Ext.drew _) | refine Ext.trans ?_ (by assumption))) hb; (try have hV := Ext.trans2 hV (by repeat (first | exact Ext.refl _ | exact Ext.alloc _ _ | exact Ext.drewN _ _ | assumption | refine Ext.trans ?_ (Ext.alloc _ _) | refine Ext.trans ?_ (Ext.drew _) | refine Ext.trans ?_ (by assumption))) hb); clear hb) | (go_at_call 7; (with_reducible refine (alive_any _ (HG.out.ext (HX.out.trans hW))).mono ?_); rintro e w' ⟨rfl, hb⟩; have hW := Ext.trans2 hW (by repeat (first | exact Ext.refl _ | exact Ext.alloc _ _ | exact Ext.drewN _ _ | assumption | refine Ext.trans ?_ (Ext.alloc _ _) | refine Ext.trans ?_ (Ext.drew _) | refine Ext.trans ?_ (by assumption))) hb; (try have hV := Ext.trans2 hV (by repeat (first | exact Ext.refl _ | exact Ext.alloc _ _ | exact Ext.drewN _ _ | assumption | refine Ext.trans ?_ (Ext.alloc _ _) | refine Ext.trans ?_ (Ext.drew _) | refine Ext.trans ?_ (by assumption))) hb); clear hb))
        go_ret
        exact ⟨rfl, HX.out.trans hW⟩
    · have hne : ¬ wrongO l = 0 := hwr
      have ht := fun w h => text_no (w := w) (A := A) (l := l) c h hwr
      generalize wrongO l = we at *
      go_enter Tryd.func4, Tryd.ntmps4
      go_wp2_with (first | (go_at_call 6; refine (hfr _).mono ?_; rintro e w' ⟨rfl, rfl⟩) | (go_at_call 8; (with_reducible refine (ht _ (H.out.ext hW)).mono ?_); rintro e w' ⟨rfl, hb⟩; have hW := Ext.trans2 hW (by repeat (first | exact Ext.refl _ | exact Ext.alloc _ _ | exact Ext.drewN _ _ | assumption | refine Ext.trans ?_ (Ext.alloc _ _) | refine Ext.trans ?_ (Ext.drew _) | refine Ext.trans ?_ (by assumption))) hb; (try have hV := Ext.trans2 hV (by repeat (first | exact Ext.refl _ | exact Ext.alloc _ _ | exact Ext.drewN _ _ | assumption | refine Ext.trans ?_ (Ext.alloc _ _) | refine Ext.trans ?_ (Ext.drew _) | refine Ext.trans ?_ (by assumption))) hb); clear hb) | (go_at_call 7; (with_reducible refine (alive_any _ (HG.out.ext hW)).mono ?_); rintro e w' ⟨rfl, hb⟩; have hW := Ext.trans2 hW (by repeat (first | exact Ext.refl _ | exact Ext.alloc _ _ | exact Ext.drewN _ _ | assumption | refine Ext.trans ?_ (Ext.alloc _ _) | refine Ext.trans ?_ (Ext.drew _) | refine Ext.trans ?_ (by assumption))) hb; (try have hV := Ext.trans2 hV (by repeat (first | exact Ext.refl _ | exact Ext.alloc _ _ | exact Ext.drewN _ _ | assumption | refine Ext.trans ?_ (Ext.alloc _ _) | refine Ext.trans ?_ (Ext.drew _) | refine Ext.trans ?_ (by assumption))) hb); clear hb))
      go_ret
      exact ⟨rfl, hW⟩
end Go.Proofs.YtapalbokfbobhaaDoor
