/- Even, of a program that is. -/
import Derived.Test.YtapalbokfbobhaaDoorG2
namespace Go.Proofs.YtapalbokfbobhaaDoor
open Go.RowKit
set_option linter.unusedSimpArgs false
set_option linter.unusedVariables false
set_option maxRecDepth 100000

theorem slice_to (A : Option Addr) (n c j : Nat) (h : j + 1 ≤ c) (w : World) : Sem.run Tryd.prog (Instr.sliceAt 22 (.slice A n c) none (some (.int .i64 ((j : Int) + 1))) none) w = .ok (.slice A (j + 1) c) w := by
  have h1 : (j : Int) + 1 ≤ (c : Int) := by omega
  have h2 : (0 : Int) ≤ (j : Int) + 1 := by omega
  go_simp
  try omega
set_option maxHeartbeats 2000000 in
theorem even_true {w : World} {A : Option Addr} {l : List Op3} (c : Nat) (h1 : Ch w A l) (hl : l.length ≤ 64) (hc : l.length ≤ c)
    (hE : ∀ j (h : j < l.length), 0 ≤ depO (l.take (j + 1)) (l[j]).2.1 ∧ depO l (l[j]).2.1 = 0) :
    Calls Tryd.prog 19 #[.slice A l.length c] w fun e w' => e = .returned (.bool true) ∧ Ext w w' := by
  have H1 := hide h1
  have hW0 := Ext.refl w
  clear h1
  go_enter Tryd.func19, Tryd.ntmps19
  go_wp2_with (go_at_call 29; refine (first_any _ _ _ _ hl hc).mono ?_; rintro e w' ⟨rfl, rfl⟩)
  go_loopw [9] (fun i wr => ∃ j : Nat, j ≤ l.length ∧ i = .int .i64 (j : Int) ∧ Ext w wr) (fun i _ => l.length - (intOf i).toNat)
  case atStart => exact ⟨0, by omega, rfl, hW0⟩
  case round =>
    clear hW0
    obtain ⟨j, hj, rfl, hW0⟩ := hrel
    by_cases hlt : j < l.length
    · obtain ⟨hd1, hd2⟩ := hE j hlt
      have HCH := hide (H1.out.ext hW0)
      obtain ⟨b1, o1, rfl, r1⟩ := HCH.out.at_ hlt
      have tl : (l.take (j + 1)).length = j + 1 := by rw [List.length_take]; omega
      have hdA := fun w (h : Ch w (some ⟨b1, o1, none⟩) l) obj => depth_any (A := some ⟨b1, o1, none⟩) c obj (h.take (j + 1)) (by omega) (by omega)
      have hdB := fun w (h : Ch w (some ⟨b1, o1, none⟩) l) obj => depth_any (A := some ⟨b1, o1, none⟩) c obj h hl hc
      rw [tl] at hdA
      generalize l[j] = x at *
      obtain ⟨k, o, a⟩ := x
      simp only at hd1 hd2
      have q1 := fun w' (x : Ext wr w') => (r1 w' x).1
      have q2 := fun w' (x : Ext wr w') => (r1 w' x).2.1
      have q3 := fun w' (x : Ext wr w') => (r1 w' x).2.2
      clear r1 tl hE
      have hx := Ext.refl wr
      have HW := hide hW0
      clear hW0
      have hA := fun w h => hdA w h o
      have hB := fun w h => hdB w h o
      rw [hd2] at hB
      generalize depO (l.take (j + 1)) o = d at *
      have hneg : decide (d < 0) = false := decide_eq_false (by omega)
      have hjc : j + 1 ≤ c := by omega
      have hji : (j : Int) + 1 ≤ (c : Int) := by omega
      clear hdA hdB
      go_wp2_with fail
      have HC2 := hide (HCH.out.ext (Ext.alloc wr (.cells #[.int .i64 k, .int .i64 o, .int .i64 a] 24)))
      have hX := (Blk.new wr #[.int .i64 k, .int .i64 o, .int .i64 a] 24).rule
      have HX0 := hide (HW.out.trans (Ext.alloc wr (.cells #[.int .i64 k, .int .i64 o, .int .i64 a] 24)))
      have q1' := fun w' (x : Ext (wr.alloc (.cells #[.int .i64 k, .int .i64 o, .int .i64 a] 24)) w') => q1 w' ((Ext.alloc _ _).trans x)
      clear q1 q2 q3 hx
      generalize wr.alloc (.cells #[.int .i64 k, .int .i64 o, .int .i64 a] 24) = W1 at *
      have hW := Ext.refl W1
      have hwj : IntKind.i64.wrap ((j : Int) + 1) = (j : Int) + 1 := by rw [IntKind.wrap_i64]; omega
      have hsl := fun w => slice_to (some ⟨b1, o1, none⟩) l.length c j hjc w
      refine wp_region_ext (by kernel_rfl) (by kernel_rfl) ?_
      repeat
        with_reducible refine wpQuiet_step (fun K hK => ?_)
        go_simp
        first
        | (refine hK _ ?_; clear hK K)
        | (apply Exists.intro
           refine ⟨fun w1 h1 => ?_, hK _ ?_⟩
           (have hW := Ext.trans2 hW (by repeat (first | exact Ext.refl _ | exact Ext.alloc _ _ | exact Ext.drewN _ _ | assumption | refine Ext.trans ?_ (Ext.alloc _ _) | refine Ext.trans ?_ (Ext.drew _) | refine Ext.trans ?_ (by assumption))) h1; (try have hV := Ext.trans2 hV (by repeat (first | exact Ext.refl _ | exact Ext.alloc _ _ | exact Ext.drewN _ _ | assumption | refine Ext.trans ?_ (Ext.alloc _ _) | refine Ext.trans ?_ (Ext.drew _) | refine Ext.trans ?_ (by assumption))) h1); (first | rfl | (go_simp; done) | (go_simp; rfl) | first | (go_at_call 18; (with_reducible refine (hA _ (HC2.out.ext hW)).mono ?_); rintro e w2 ⟨rfl, hb⟩; exact ⟨rfl, h1.trans hb⟩) | (go_at_call 18; (with_reducible refine (hB _ (HC2.out.ext hW)).mono ?_); rintro e w2 ⟨rfl, hb⟩; exact ⟨rfl, h1.trans hb⟩)))
           clear hK K)
      refine wpQuiet_nil (fun w' hw' => ?_)
      have hW := Ext.trans2 hW (by repeat (first | exact Ext.refl _ | exact Ext.alloc _ _ | exact Ext.drewN _ _ | assumption | refine Ext.trans ?_ (Ext.alloc _ _) | refine Ext.trans ?_ (Ext.drew _) | refine Ext.trans ?_ (by assumption))) hw'
      try have hV := Ext.trans2 hV (by repeat (first | exact Ext.refl _ | exact Ext.alloc _ _ | exact Ext.drewN _ _ | assumption | refine Ext.trans ?_ (Ext.alloc _ _) | refine Ext.trans ?_ (Ext.drew _) | refine Ext.trans ?_ (by assumption))) hw'
      clear hw'
      go_wp2_with fail
      go_roundw
      case rel => exact ⟨j + 1, by omega, by simp, HX0.out.trans hW⟩
      case measure => simp [intOf]; omega
    · obtain rfl : j = l.length := by omega
      have h3 : ¬ (l.length : Int) < (l.length : Int) := by omega
      go_wp2_with fail
      go_ret
      exact ⟨rfl, hW0⟩
end Go.Proofs.YtapalbokfbobhaaDoor
