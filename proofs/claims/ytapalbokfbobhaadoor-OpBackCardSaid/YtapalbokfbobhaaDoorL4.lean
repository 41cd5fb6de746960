/- OpOnce. -/
import Derived.Test.YtapalbokfbobhaaDoorL3
namespace Go.Proofs.YtapalbokfbobhaaDoor
open Go.RowKit
set_option linter.unusedSimpArgs false
set_option linter.unusedVariables false
set_option maxRecDepth 100000

theorem wrong_len {m : List Op3} (h : wrongO m = 0) : m.length ≤ 64 := (wrong_out h).1
theorem once_far {w : World} {A : Option Addr} {s l : List UInt8} (c : Nat) (h : 3000 < s.length ∨ 1000 < l.length) (hG : Glob w) :
    Calls Tryd.prog 5 #[(Value.string ⟨List.toArray (s)⟩), .slice A l.length c] w fun e w' => e = .returned (.bool true) ∧ Ext w w' := by
  have HG := hide hG
  have hW := Ext.refl w
  clear hG
  by_cases h1 : 3000 < s.length
  · have h1i : (3000 : Int) < (s.length : Int) := by omega
    go_enter Tryd.func5, Tryd.ntmps5
    go_wp2_with (go_at_call 7; (with_reducible refine (alive_any _ (HG.out.ext hW)).mono ?_); rintro e w' ⟨rfl, hb⟩; have hW := Ext.trans2 hW (by repeat (first | exact Ext.refl _ | exact Ext.alloc _ _ | exact Ext.drewN _ _ | assumption | refine Ext.trans ?_ (Ext.alloc _ _) | refine Ext.trans ?_ (Ext.drew _) | refine Ext.trans ?_ (by assumption))) hb; (try have hV := Ext.trans2 hV (by repeat (first | exact Ext.refl _ | exact Ext.alloc _ _ | exact Ext.drewN _ _ | assumption | refine Ext.trans ?_ (Ext.alloc _ _) | refine Ext.trans ?_ (Ext.drew _) | refine Ext.trans ?_ (by assumption))) hb); clear hb)
    go_ret
    exact ⟨rfl, hW⟩
  · have h1i : ¬ (3000 : Int) < (s.length : Int) := by omega
    have h2i : (1000 : Int) < (l.length : Int) := by omega
    go_enter Tryd.func5, Tryd.ntmps5
    go_wp2_with (go_at_call 7; (with_reducible refine (alive_any _ (HG.out.ext hW)).mono ?_); rintro e w' ⟨rfl, hb⟩; have hW := Ext.trans2 hW (by repeat (first | exact Ext.refl _ | exact Ext.alloc _ _ | exact Ext.drewN _ _ | assumption | refine Ext.trans ?_ (Ext.alloc _ _) | refine Ext.trans ?_ (Ext.drew _) | refine Ext.trans ?_ (by assumption))) hb; (try have hV := Ext.trans2 hV (by repeat (first | exact Ext.refl _ | exact Ext.alloc _ _ | exact Ext.drewN _ _ | assumption | refine Ext.trans ?_ (Ext.alloc _ _) | refine Ext.trans ?_ (Ext.drew _) | refine Ext.trans ?_ (by assumption))) hb); clear hb)
    go_ret
    exact ⟨rfl, hW⟩
set_option maxHeartbeats 4000000 in
theorem once_any {w : World} {A : Option Addr} {s l : List UInt8} (c : Nat) (hs : s.length ≤ 3000) (hl : l.length ≤ 1000) (hc : l.length ≤ c) (hcm : c ≤ maxLen) (hb : By w A l) (hG : Glob w) :
    Calls Tryd.prog 5 #[(Value.string ⟨List.toArray (s)⟩), .slice A l.length c] w fun e w' => e = .returned (.bool true) ∧ Ext w w' := by
  have h1i : ¬ (3000 : Int) < (s.length : Int) := by omega
  have h2i : ¬ (1000 : Int) < (l.length : Int) := by omega
  have hpa := parse_any s (by omega) w hG
  have HB := hide hb
  have HG := hide hG
  have HUA := hide (fun w h => unpack_any (w := w) (A := A) (l := l) hl hc hcm h)
  clear hb hG
  go_enter Tryd.func5, Tryd.ntmps5
  go_wp2_with fail
  refine hpa.mono ?_
  rintro e w1 ⟨⟨A1, c1, rfl, hle1, hch1⟩, hW1⟩
  clear hpa
  cases hps : parseO s with
  | mk m1 e1 =>
  rw [hps] at hle1 hch1
  by_cases he1 : e1 = 0
  · subst he1
    obtain ⟨hw1, ht1⟩ := text_parse hps
    have htx := text_yes c1 hch1 hw1 (HG.out.ext hW1)
    rw [ht1] at htx
    clear hps hch1 hle1 ht1
    go_wp2_with fail
    refine htx.mono ?_
    rintro e wt ⟨rfl, hbt⟩
    have hW1 := hW1.trans hbt
    clear htx hbt hw1
    go_wp2_with fail
    refine (HUA.out _ (HB.out.ext hW1)).mono ?_
    rintro e w2 ⟨⟨A2, c2, rfl, hle2, hch2⟩, hb2⟩
    have hW2 := hW1.trans hb2
    clear hW1 hb2
    cases hpu : unpackO l with
    | mk m e2 =>
    rw [hpu] at hle2 hch2
    by_cases he2 : e2 = 0
    · subst he2
      obtain ⟨hw2, hf2, hbm⟩ := bytes_unpack hpu
      have hm64 := wrong_len hw2
      have hpk := pack_ok c2 hch2 hw2
      clear hpu
      go_wp2_with fail
      refine hpk.mono ?_
      rintro e w3 ⟨hpr, hb3⟩
      have hW3 := hW2.trans hb3
      have hchm := hch2.ext hb3
      unfold PackR at hpr
      rw [hbm] at hpr
      clear hpk hW2 hch2 hb3 hbm
      rcases hpr with ⟨_, A3, c3, rfl, _, _, hby⟩ | ⟨hf, _⟩
      · have hcv1 := conv_by c3 hby
        have hcv2 := conv_by c (HB.out.ext hW3)
        clear hby
        go_wp2_with fail
        clear hcv1 hcv2
        have HX3 := hide hW3
        have HC3 := hide hchm
        have hx0 := Ext.refl w3
        clear hW3 hchm
        go_loopw [65] (fun i wr => ∃ j : Nat, j ≤ m.length ∧ i = .int .i64 (j : Int) ∧ Ext w3 wr) (fun i _ => m.length - (intOf i).toNat)
        case atStart => exact ⟨0, by omega, rfl, hx0⟩
        case round =>
          clear hx0
          obtain ⟨j, hj, rfl, hW0⟩ := hrel
          by_cases hlt : j < m.length
          · have tl : (m.take (j + 1)).length = j + 1 := by rw [List.length_take]; omega
            have hN := fun w h => nests_any (w := w) (A := A2) (l := m) c2 h hm64 hle2
            have hD := fun w (h : Ch w A2 m) obj => depth_any (w := w) (A := A2) (l := m.take (j + 1)) c2 obj (h.take (j + 1)) (by omega) (by omega)
            have hge := fun p => nests_depth (l := m) (p := p) (i := j + 1)
            rw [tl] at hD
            have HCW := hide (HC3.out.ext hW0)
            obtain ⟨b1, o1, rfl, r1⟩ := HCW.out.at_ hlt
            generalize m[j] = x at *
            obtain ⟨k, o, a⟩ := x
            have q2 := fun w' (x : Ext wr w') => (r1 w' x).2.1
            have hD := fun w h => hD w h o
            have hge := hge o
            generalize depO (m.take (j + 1)) o = d at *
            generalize nestO m [] = nb at *
            have HW := hide hW0
            clear r1 tl hW0
            have hW := Ext.refl wr
            have hjc : j + 1 ≤ c2 := by omega
            have hwj : IntKind.i64.wrap ((j : Int) + 1) = (j : Int) + 1 := by rw [IntKind.wrap_i64]; omega
            have hsl := fun w => slice_to (some ⟨b1, o1, none⟩) m.length c2 j hjc w
            have hji : (j : Int) < (m.length : Int) := by omega
            cases nb with
            | true =>
              have hneg : decide (d < 0) = false := decide_eq_false (by have := hge rfl; omega)
              clear hge
              go_wp2_with fail
              refine wp_region_ext (by kernel_rfl) (by kernel_rfl) ?_
              repeat
                with_reducible refine wpQuiet_step (fun K hK => ?_)
                go_simp
                first
                | (refine hK _ ?_; clear hK K)
                | (apply Exists.intro
                   refine ⟨fun w1 h1 => ?_, hK _ ?_⟩
                   (have hW := Ext.trans2 hW (by repeat (first | exact Ext.refl _ | exact Ext.alloc _ _ | exact Ext.drewN _ _ | assumption | refine Ext.trans ?_ (Ext.alloc _ _) | refine Ext.trans ?_ (Ext.drew _) | refine Ext.trans ?_ (by assumption))) h1; (try have hV := Ext.trans2 hV (by repeat (first | exact Ext.refl _ | exact Ext.alloc _ _ | exact Ext.drewN _ _ | assumption | refine Ext.trans ?_ (Ext.alloc _ _) | refine Ext.trans ?_ (Ext.drew _) | refine Ext.trans ?_ (by assumption))) h1); (first | rfl | (go_simp; done) | (go_simp; rfl) | first | (go_at_call 17; (with_reducible refine (hN _ (HCW.out.ext hW)).mono ?_); rintro e w2 ⟨rfl, hb⟩; exact ⟨rfl, h1.trans hb⟩) | (go_at_call 18; (with_reducible refine (hD _ (HCW.out.ext hW)).mono ?_); rintro e w2 ⟨rfl, hb⟩; exact ⟨rfl, h1.trans hb⟩)))
                   clear hK K)
              refine wpQuiet_nil (fun w' hw' => ?_)
              have hW := Ext.trans2 hW (by repeat (first | exact Ext.refl _ | exact Ext.alloc _ _ | exact Ext.drewN _ _ | assumption | refine Ext.trans ?_ (Ext.alloc _ _) | refine Ext.trans ?_ (Ext.drew _) | refine Ext.trans ?_ (by assumption))) hw'
              try have hV := Ext.trans2 hV (by repeat (first | exact Ext.refl _ | exact Ext.alloc _ _ | exact Ext.drewN _ _ | assumption | refine Ext.trans ?_ (Ext.alloc _ _) | refine Ext.trans ?_ (Ext.drew _) | refine Ext.trans ?_ (by assumption))) hw'
              clear hw'
              go_wp2_with fail
              go_roundw
              case rel => exact ⟨j + 1, by omega, by simp, HW.out.trans hW⟩
              case measure => simp [intOf]; omega
            | false =>
              clear hge
              go_wp2_with fail
              refine wp_region_ext (by kernel_rfl) (by kernel_rfl) ?_
              repeat
                with_reducible refine wpQuiet_step (fun K hK => ?_)
                go_simp
                first
                | (refine hK _ ?_; clear hK K)
                | (apply Exists.intro
                   refine ⟨fun w1 h1 => ?_, hK _ ?_⟩
                   (have hW := Ext.trans2 hW (by repeat (first | exact Ext.refl _ | exact Ext.alloc _ _ | exact Ext.drewN _ _ | assumption | refine Ext.trans ?_ (Ext.alloc _ _) | refine Ext.trans ?_ (Ext.drew _) | refine Ext.trans ?_ (by assumption))) h1; (try have hV := Ext.trans2 hV (by repeat (first | exact Ext.refl _ | exact Ext.alloc _ _ | exact Ext.drewN _ _ | assumption | refine Ext.trans ?_ (Ext.alloc _ _) | refine Ext.trans ?_ (Ext.drew _) | refine Ext.trans ?_ (by assumption))) h1); (first | rfl | (go_simp; done) | (go_simp; rfl) | first | (go_at_call 17; (with_reducible refine (hN _ (HCW.out.ext hW)).mono ?_); rintro e w2 ⟨rfl, hb⟩; exact ⟨rfl, h1.trans hb⟩) | (go_at_call 18; (with_reducible refine (hD _ (HCW.out.ext hW)).mono ?_); rintro e w2 ⟨rfl, hb⟩; exact ⟨rfl, h1.trans hb⟩)))
                   clear hK K)
              refine wpQuiet_nil (fun w' hw' => ?_)
              have hW := Ext.trans2 hW (by repeat (first | exact Ext.refl _ | exact Ext.alloc _ _ | exact Ext.drewN _ _ | assumption | refine Ext.trans ?_ (Ext.alloc _ _) | refine Ext.trans ?_ (Ext.drew _) | refine Ext.trans ?_ (by assumption))) hw'
              try have hV := Ext.trans2 hV (by repeat (first | exact Ext.refl _ | exact Ext.alloc _ _ | exact Ext.drewN _ _ | assumption | refine Ext.trans ?_ (Ext.alloc _ _) | refine Ext.trans ?_ (Ext.drew _) | refine Ext.trans ?_ (by assumption))) hw'
              clear hw'
              go_wp2_with fail
              go_roundw
              case rel => exact ⟨j + 1, by omega, by simp, HW.out.trans hW⟩
              case measure => simp [intOf]; omega
          · obtain rfl : j = m.length := by omega
            have h3 : ¬ (m.length : Int) < (m.length : Int) := by omega
            have hW := hW0
            go_wp2_with (go_at_call 7; (with_reducible refine (alive_any _ (HG.out.ext (HX3.out.trans hW))).mono ?_); rintro e w' ⟨rfl, hb⟩; have hW := Ext.trans2 hW (by repeat (first | exact Ext.refl _ | exact Ext.alloc _ _ | exact Ext.drewN _ _ | assumption | refine Ext.trans ?_ (Ext.alloc _ _) | refine Ext.trans ?_ (Ext.drew _) | refine Ext.trans ?_ (by assumption))) hb; (try have hV := Ext.trans2 hV (by repeat (first | exact Ext.refl _ | exact Ext.alloc _ _ | exact Ext.drewN _ _ | assumption | refine Ext.trans ?_ (Ext.alloc _ _) | refine Ext.trans ?_ (Ext.drew _) | refine Ext.trans ?_ (by assumption))) hb); clear hb)
            go_ret
            exact ⟨rfl, HX3.out.trans hW⟩
      · rw [hf] at hf2; cases hf2
    · have hm0 : m = [] := by have := unpack_err_nil (b := l) (by rw [hpu]; exact he2); rwa [hpu] at this
      have hm64 : m.length ≤ 64 := by rw [hm0]; simp
      have hW3 := hW2
      have hchm := hch2
      clear hpu hch2 hW2 hm0
      go_wp2_with fail
      simp only [show (e2 == 0) = false by simpa using he2]
      have HX3 := hide hW3
      have HC3 := hide hchm
      have hx0 := Ext.refl w2
      clear hW3 hchm
      go_loopw [65] (fun i wr => ∃ j : Nat, j ≤ m.length ∧ i = .int .i64 (j : Int) ∧ Ext w2 wr) (fun i _ => m.length - (intOf i).toNat)
      case atStart => exact ⟨0, by omega, rfl, hx0⟩
      case round =>
        clear hx0
        obtain ⟨j, hj, rfl, hW0⟩ := hrel
        by_cases hlt : j < m.length
        · have tl : (m.take (j + 1)).length = j + 1 := by rw [List.length_take]; omega
          have hN := fun w h => nests_any (w := w) (A := A2) (l := m) c2 h hm64 hle2
          have hD := fun w (h : Ch w A2 m) obj => depth_any (w := w) (A := A2) (l := m.take (j + 1)) c2 obj (h.take (j + 1)) (by omega) (by omega)
          have hge := fun p => nests_depth (l := m) (p := p) (i := j + 1)
          rw [tl] at hD
          have HCW := hide (HC3.out.ext hW0)
          obtain ⟨b1, o1, rfl, r1⟩ := HCW.out.at_ hlt
          generalize m[j] = x at *
          obtain ⟨k, o, a⟩ := x
          have q2 := fun w' (x : Ext wr w') => (r1 w' x).2.1
          have hD := fun w h => hD w h o
          have hge := hge o
          generalize depO (m.take (j + 1)) o = d at *
          generalize nestO m [] = nb at *
          have HW := hide hW0
          clear r1 tl hW0
          have hW := Ext.refl wr
          have hjc : j + 1 ≤ c2 := by omega
          have hwj : IntKind.i64.wrap ((j : Int) + 1) = (j : Int) + 1 := by rw [IntKind.wrap_i64]; omega
          have hsl := fun w => slice_to (some ⟨b1, o1, none⟩) m.length c2 j hjc w
          have hji : (j : Int) < (m.length : Int) := by omega
          cases nb with
          | true =>
            have hneg : decide (d < 0) = false := decide_eq_false (by have := hge rfl; omega)
            clear hge
            go_wp2_with fail
            refine wp_region_ext (by kernel_rfl) (by kernel_rfl) ?_
            repeat
              with_reducible refine wpQuiet_step (fun K hK => ?_)
              go_simp
              first
              | (refine hK _ ?_; clear hK K)
              | (apply Exists.intro
                 refine ⟨fun w1 h1 => ?_, hK _ ?_⟩
                 (have hW := Ext.trans2 hW (by repeat (first | exact Ext.refl _ | exact Ext.alloc _ _ | exact Ext.drewN _ _ | assumption | refine Ext.trans ?_ (Ext.alloc _ _) | refine Ext.trans ?_ (Ext.drew _) | refine Ext.trans ?_ (by assumption))) h1; (try have hV := Ext.trans2 hV (by repeat (first | exact Ext.refl _ | exact Ext.alloc _ _ | exact Ext.drewN _ _ | assumption | refine Ext.trans ?_ (Ext.alloc _ _) | refine Ext.trans ?_ (Ext.drew _) | refine Ext.trans ?_ (by assumption))) h1); (first | rfl | (go_simp; done) | (go_simp; rfl) | first | (go_at_call 17; (with_reducible refine (hN _ (HCW.out.ext hW)).mono ?_); rintro e w2 ⟨rfl, hb⟩; exact ⟨rfl, h1.trans hb⟩) | (go_at_call 18; (with_reducible refine (hD _ (HCW.out.ext hW)).mono ?_); rintro e w2 ⟨rfl, hb⟩; exact ⟨rfl, h1.trans hb⟩)))
                 clear hK K)
            refine wpQuiet_nil (fun w' hw' => ?_)
            have hW := Ext.trans2 hW (by repeat (first | exact Ext.refl _ | exact Ext.alloc _ _ | exact Ext.drewN _ _ | assumption | refine Ext.trans ?_ (Ext.alloc _ _) | refine Ext.trans ?_ (Ext.drew _) | refine Ext.trans ?_ (by assumption))) hw'
            try have hV := Ext.trans2 hV (by repeat (first | exact Ext.refl _ | exact Ext.alloc _ _ | exact Ext.drewN _ _ | assumption | refine Ext.trans ?_ (Ext.alloc _ _) | refine Ext.trans ?_ (Ext.drew _) | refine Ext.trans ?_ (by assumption))) hw'
            clear hw'
            go_wp2_with fail
            go_roundw
            case rel => exact ⟨j + 1, by omega, by simp, HW.out.trans hW⟩
            case measure => simp [intOf]; omega
          | false =>
            clear hge
            go_wp2_with fail
            refine wp_region_ext (by kernel_rfl) (by kernel_rfl) ?_
            repeat
              with_reducible refine wpQuiet_step (fun K hK => ?_)
              go_simp
              first
              | (refine hK _ ?_; clear hK K)
              | (apply Exists.intro
                 refine ⟨fun w1 h1 => ?_, hK _ ?_⟩
                 (have hW := Ext.trans2 hW (by repeat (first | exact Ext.refl _ | exact Ext.alloc _ _ | exact Ext.drewN _ _ | assumption | refine Ext.trans ?_ (Ext.alloc _ _) | refine Ext.trans ?_ (Ext.drew _) | refine Ext.trans ?_ (by assumption))) h1; (try have hV := Ext.trans2 hV (by repeat (first | exact Ext.refl _ | exact Ext.alloc _ _ | exact Ext.drewN _ _ | assumption | refine Ext.trans ?_ (Ext.alloc _ _) | refine Ext.trans ?_ (Ext.drew _) | refine Ext.trans ?_ (by assumption))) h1); (first | rfl | (go_simp; done) | (go_simp; rfl) | first | (go_at_call 17; (with_reducible refine (hN _ (HCW.out.ext hW)).mono ?_); rintro e w2 ⟨rfl, hb⟩; exact ⟨rfl, h1.trans hb⟩) | (go_at_call 18; (with_reducible refine (hD _ (HCW.out.ext hW)).mono ?_); rintro e w2 ⟨rfl, hb⟩; exact ⟨rfl, h1.trans hb⟩)))
                 clear hK K)
            refine wpQuiet_nil (fun w' hw' => ?_)
            have hW := Ext.trans2 hW (by repeat (first | exact Ext.refl _ | exact Ext.alloc _ _ | exact Ext.drewN _ _ | assumption | refine Ext.trans ?_ (Ext.alloc _ _) | refine Ext.trans ?_ (Ext.drew _) | refine Ext.trans ?_ (by assumption))) hw'
            try have hV := Ext.trans2 hV (by repeat (first | exact Ext.refl _ | exact Ext.alloc _ _ | exact Ext.drewN _ _ | assumption | refine Ext.trans ?_ (Ext.alloc _ _) | refine Ext.trans ?_ (Ext.drew _) | refine Ext.trans ?_ (by assumption))) hw'
            clear hw'
            go_wp2_with fail
            go_roundw
            case rel => exact ⟨j + 1, by omega, by simp, HW.out.trans hW⟩
            case measure => simp [intOf]; omega
        · obtain rfl : j = m.length := by omega
          have h3 : ¬ (m.length : Int) < (m.length : Int) := by omega
          have hW := hW0
          go_wp2_with (go_at_call 7; (with_reducible refine (alive_any _ (HG.out.ext (HX3.out.trans hW))).mono ?_); rintro e w' ⟨rfl, hb⟩; have hW := Ext.trans2 hW (by repeat (first | exact Ext.refl _ | exact Ext.alloc _ _ | exact Ext.drewN _ _ | assumption | refine Ext.trans ?_ (Ext.alloc _ _) | refine Ext.trans ?_ (Ext.drew _) | refine Ext.trans ?_ (by assumption))) hb; (try have hV := Ext.trans2 hV (by repeat (first | exact Ext.refl _ | exact Ext.alloc _ _ | exact Ext.drewN _ _ | assumption | refine Ext.trans ?_ (Ext.alloc _ _) | refine Ext.trans ?_ (Ext.drew _) | refine Ext.trans ?_ (by assumption))) hb); clear hb)
          go_ret
          exact ⟨rfl, HX3.out.trans hW⟩
  · clear hle1 hch1 hps
    go_wp2_with fail
    refine (HUA.out _ (HB.out.ext hW1)).mono ?_
    rintro e w2 ⟨⟨A2, c2, rfl, hle2, hch2⟩, hb2⟩
    have hW2 := hW1.trans hb2
    clear hW1 hb2
    cases hpu : unpackO l with
    | mk m e2 =>
    rw [hpu] at hle2 hch2
    by_cases he2 : e2 = 0
    · subst he2
      obtain ⟨hw2, hf2, hbm⟩ := bytes_unpack hpu
      have hm64 := wrong_len hw2
      have hpk := pack_ok c2 hch2 hw2
      clear hpu
      go_wp2_with fail
      refine hpk.mono ?_
      rintro e w3 ⟨hpr, hb3⟩
      have hW3 := hW2.trans hb3
      have hchm := hch2.ext hb3
      unfold PackR at hpr
      rw [hbm] at hpr
      clear hpk hW2 hch2 hb3 hbm
      rcases hpr with ⟨_, A3, c3, rfl, _, _, hby⟩ | ⟨hf, _⟩
      · have hcv1 := conv_by c3 hby
        have hcv2 := conv_by c (HB.out.ext hW3)
        clear hby
        go_wp2_with fail
        clear hcv1 hcv2
        have HX3 := hide hW3
        have HC3 := hide hchm
        have hx0 := Ext.refl w3
        clear hW3 hchm
        go_loopw [65] (fun i wr => ∃ j : Nat, j ≤ m.length ∧ i = .int .i64 (j : Int) ∧ Ext w3 wr) (fun i _ => m.length - (intOf i).toNat)
        case atStart => exact ⟨0, by omega, rfl, hx0⟩
        case round =>
          clear hx0
          obtain ⟨j, hj, rfl, hW0⟩ := hrel
          by_cases hlt : j < m.length
          · have tl : (m.take (j + 1)).length = j + 1 := by rw [List.length_take]; omega
            have hN := fun w h => nests_any (w := w) (A := A2) (l := m) c2 h hm64 hle2
            have hD := fun w (h : Ch w A2 m) obj => depth_any (w := w) (A := A2) (l := m.take (j + 1)) c2 obj (h.take (j + 1)) (by omega) (by omega)
            have hge := fun p => nests_depth (l := m) (p := p) (i := j + 1)
            rw [tl] at hD
            have HCW := hide (HC3.out.ext hW0)
            obtain ⟨b1, o1, rfl, r1⟩ := HCW.out.at_ hlt
            generalize m[j] = x at *
            obtain ⟨k, o, a⟩ := x
            have q2 := fun w' (x : Ext wr w') => (r1 w' x).2.1
            have hD := fun w h => hD w h o
            have hge := hge o
            generalize depO (m.take (j + 1)) o = d at *
            generalize nestO m [] = nb at *
            have HW := hide hW0
            clear r1 tl hW0
            have hW := Ext.refl wr
            have hjc : j + 1 ≤ c2 := by omega
            have hwj : IntKind.i64.wrap ((j : Int) + 1) = (j : Int) + 1 := by rw [IntKind.wrap_i64]; omega
            have hsl := fun w => slice_to (some ⟨b1, o1, none⟩) m.length c2 j hjc w
            have hji : (j : Int) < (m.length : Int) := by omega
            cases nb with
            | true =>
              have hneg : decide (d < 0) = false := decide_eq_false (by have := hge rfl; omega)
              clear hge
              go_wp2_with fail
              refine wp_region_ext (by kernel_rfl) (by kernel_rfl) ?_
              repeat
                with_reducible refine wpQuiet_step (fun K hK => ?_)
                go_simp
                first
                | (refine hK _ ?_; clear hK K)
                | (apply Exists.intro
                   refine ⟨fun w1 h1 => ?_, hK _ ?_⟩
                   (have hW := Ext.trans2 hW (by repeat (first | exact Ext.refl _ | exact Ext.alloc _ _ | exact Ext.drewN _ _ | assumption | refine Ext.trans ?_ (Ext.alloc _ _) | refine Ext.trans ?_ (Ext.drew _) | refine Ext.trans ?_ (by assumption))) h1; (try have hV := Ext.trans2 hV (by repeat (first | exact Ext.refl _ | exact Ext.alloc _ _ | exact Ext.drewN _ _ | assumption | refine Ext.trans ?_ (Ext.alloc _ _) | refine Ext.trans ?_ (Ext.drew _) | refine Ext.trans ?_ (by assumption))) h1); (first | rfl | (go_simp; done) | (go_simp; rfl) | first | (go_at_call 17; (with_reducible refine (hN _ (HCW.out.ext hW)).mono ?_); rintro e w2 ⟨rfl, hb⟩; exact ⟨rfl, h1.trans hb⟩) | (go_at_call 18; (with_reducible refine (hD _ (HCW.out.ext hW)).mono ?_); rintro e w2 ⟨rfl, hb⟩; exact ⟨rfl, h1.trans hb⟩)))
                   clear hK K)
              refine wpQuiet_nil (fun w' hw' => ?_)
              have hW := Ext.trans2 hW (by repeat (first | exact Ext.refl _ | exact Ext.alloc _ _ | exact Ext.drewN _ _ | assumption | refine Ext.trans ?_ (Ext.alloc _ _) | refine Ext.trans ?_ (Ext.drew _) | refine Ext.trans ?_ (by assumption))) hw'
              try have hV := Ext.trans2 hV (by repeat (first | exact Ext.refl _ | exact Ext.alloc _ _ | exact Ext.drewN _ _ | assumption | refine Ext.trans ?_ (Ext.alloc _ _) | refine Ext.trans ?_ (Ext.drew _) | refine Ext.trans ?_ (by assumption))) hw'
              clear hw'
              go_wp2_with fail
              go_roundw
              case rel => exact ⟨j + 1, by omega, by simp, HW.out.trans hW⟩
              case measure => simp [intOf]; omega
            | false =>
              clear hge
              go_wp2_with fail
              refine wp_region_ext (by kernel_rfl) (by kernel_rfl) ?_
              repeat
                with_reducible refine wpQuiet_step (fun K hK => ?_)
                go_simp
                first
                | (refine hK _ ?_; clear hK K)
                | (apply Exists.intro
                   refine ⟨fun w1 h1 => ?_, hK _ ?_⟩
                   (have hW := Ext.trans2 hW (by repeat (first | exact Ext.refl _ | exact Ext.alloc _ _ | exact Ext.drewN _ _ | assumption | refine Ext.trans ?_ (Ext.alloc _ _) | refine Ext.trans ?_ (Ext.drew _) | refine Ext.trans ?_ (by assumption))) h1; (try have hV := Ext.trans2 hV (by repeat (first | exact Ext.refl _ | exact Ext.alloc _ _ | exact Ext.drewN _ _ | assumption | refine Ext.trans ?_ (Ext.alloc _ _) | refine Ext.trans ?_ (Ext.drew _) | refine Ext.trans ?_ (by assumption))) h1); (first | rfl | (go_simp; done) | (go_simp; rfl) | first | (go_at_call 17; (with_reducible refine (hN _ (HCW.out.ext hW)).mono ?_); rintro e w2 ⟨rfl, hb⟩; exact ⟨rfl, h1.trans hb⟩) | (go_at_call 18; (with_reducible refine (hD _ (HCW.out.ext hW)).mono ?_); rintro e w2 ⟨rfl, hb⟩; exact ⟨rfl, h1.trans hb⟩)))
                   clear hK K)
              refine wpQuiet_nil (fun w' hw' => ?_)
              have hW := Ext.trans2 hW (by repeat (first | exact Ext.refl _ | exact Ext.alloc _ _ | exact Ext.drewN _ _ | assumption | refine Ext.trans ?_ (Ext.alloc _ _) | refine Ext.trans ?_ (Ext.drew _) | refine Ext.trans ?_ (by assumption))) hw'
              try have hV := Ext.trans2 hV (by repeat (first | exact Ext.refl _ | exact Ext.alloc _ _ | exact Ext.drewN _ _ | assumption | refine Ext.trans ?_ (Ext.alloc _ _) | refine Ext.trans ?_ (Ext.drew _) | refine Ext.trans ?_ (by assumption))) hw'
              clear hw'
              go_wp2_with fail
              go_roundw
              case rel => exact ⟨j + 1, by omega, by simp, HW.out.trans hW⟩
              case measure => simp [intOf]; omega
          · obtain rfl : j = m.length := by omega
            have h3 : ¬ (m.length : Int) < (m.length : Int) := by omega
            have hW := hW0
            go_wp2_with (go_at_call 7; (with_reducible refine (alive_any _ (HG.out.ext (HX3.out.trans hW))).mono ?_); rintro e w' ⟨rfl, hb⟩; have hW := Ext.trans2 hW (by repeat (first | exact Ext.refl _ | exact Ext.alloc _ _ | exact Ext.drewN _ _ | assumption | refine Ext.trans ?_ (Ext.alloc _ _) | refine Ext.trans ?_ (Ext.drew _) | refine Ext.trans ?_ (by assumption))) hb; (try have hV := Ext.trans2 hV (by repeat (first | exact Ext.refl _ | exact Ext.alloc _ _ | exact Ext.drewN _ _ | assumption | refine Ext.trans ?_ (Ext.alloc _ _) | refine Ext.trans ?_ (Ext.drew _) | refine Ext.trans ?_ (by assumption))) hb); clear hb)
            go_ret
            exact ⟨rfl, HX3.out.trans hW⟩
      · rw [hf] at hf2; cases hf2
    · have hm0 : m = [] := by have := unpack_err_nil (b := l) (by rw [hpu]; exact he2); rwa [hpu] at this
      have hm64 : m.length ≤ 64 := by rw [hm0]; simp
      have hW3 := hW2
      have hchm := hch2
      clear hpu hch2 hW2 hm0
      go_wp2_with fail
      simp only [show (e2 == 0) = false by simpa using he2]
      have HX3 := hide hW3
      have HC3 := hide hchm
      have hx0 := Ext.refl w2
      clear hW3 hchm
      go_loopw [65] (fun i wr => ∃ j : Nat, j ≤ m.length ∧ i = .int .i64 (j : Int) ∧ Ext w2 wr) (fun i _ => m.length - (intOf i).toNat)
      case atStart => exact ⟨0, by omega, rfl, hx0⟩
      case round =>
        clear hx0
        obtain ⟨j, hj, rfl, hW0⟩ := hrel
        by_cases hlt : j < m.length
        · have tl : (m.take (j + 1)).length = j + 1 := by rw [List.length_take]; omega
          have hN := fun w h => nests_any (w := w) (A := A2) (l := m) c2 h hm64 hle2
          have hD := fun w (h : Ch w A2 m) obj => depth_any (w := w) (A := A2) (l := m.take (j + 1)) c2 obj (h.take (j + 1)) (by omega) (by omega)
          have hge := fun p => nests_depth (l := m) (p := p) (i := j + 1)
          rw [tl] at hD
          have HCW := hide (HC3.out.ext hW0)
          obtain ⟨b1, o1, rfl, r1⟩ := HCW.out.at_ hlt
          generalize m[j] = x at *
          obtain ⟨k, o, a⟩ := x
          have q2 := fun w' (x : Ext wr w') => (r1 w' x).2.1
          have hD := fun w h => hD w h o
          have hge := hge o
          generalize depO (m.take (j + 1)) o = d at *
          generalize nestO m [] = nb at *
          have HW := hide hW0
          clear r1 tl hW0
          have hW := Ext.refl wr
          have hjc : j + 1 ≤ c2 := by omega
          have hwj : IntKind.i64.wrap ((j : Int) + 1) = (j : Int) + 1 := by rw [IntKind.wrap_i64]; omega
          have hsl := fun w => slice_to (some ⟨b1, o1, none⟩) m.length c2 j hjc w
          have hji : (j : Int) < (m.length : Int) := by omega
          cases nb with
          | true =>
            have hneg : decide (d < 0) = false := decide_eq_false (by have := hge rfl; omega)
            clear hge
            go_wp2_with fail
            refine wp_region_ext (by kernel_rfl) (by kernel_rfl) ?_
            repeat
              with_reducible refine wpQuiet_step (fun K hK => ?_)
              go_simp
              first
              | (refine hK _ ?_; clear hK K)
              | (apply Exists.intro
                 refine ⟨fun w1 h1 => ?_, hK _ ?_⟩
                 (have hW := Ext.trans2 hW (by repeat (first | exact Ext.refl _ | exact Ext.alloc _ _ | exact Ext.drewN _ _ | assumption | refine Ext.trans ?_ (Ext.alloc _ _) | refine Ext.trans ?_ (Ext.drew _) | refine Ext.trans ?_ (by assumption))) h1; (try have hV := Ext.trans2 hV (by repeat (first | exact Ext.refl _ | exact Ext.alloc _ _ | exact Ext.drewN _ _ | assumption | refine Ext.trans ?_ (Ext.alloc _ _) | refine Ext.trans ?_ (Ext.drew _) | refine Ext.trans ?_ (by assumption))) h1); (first | rfl | (go_simp; done) | (go_simp; rfl) | first | (go_at_call 17; (with_reducible refine (hN _ (HCW.out.ext hW)).mono ?_); rintro e w2 ⟨rfl, hb⟩; exact ⟨rfl, h1.trans hb⟩) | (go_at_call 18; (with_reducible refine (hD _ (HCW.out.ext hW)).mono ?_); rintro e w2 ⟨rfl, hb⟩; exact ⟨rfl, h1.trans hb⟩)))
                 clear hK K)
            refine wpQuiet_nil (fun w' hw' => ?_)
            have hW := Ext.trans2 hW (by repeat (first | exact Ext.refl _ | exact Ext.alloc _ _ | exact Ext.drewN _ _ | assumption | refine Ext.trans ?_ (Ext.alloc _ _) | refine Ext.trans ?_ (Ext.drew _) | refine Ext.trans ?_ (by assumption))) hw'
            try have hV := Ext.trans2 hV (by repeat (first | exact Ext.refl _ | exact Ext.alloc _ _ | exact Ext.drewN _ _ | assumption | refine Ext.trans ?_ (Ext.alloc _ _) | refine Ext.trans ?_ (Ext.drew _) | refine Ext.trans ?_ (by assumption))) hw'
            clear hw'
            go_wp2_with fail
            go_roundw
            case rel => exact ⟨j + 1, by omega, by simp, HW.out.trans hW⟩
            case measure => simp [intOf]; omega
          | false =>
            clear hge
            go_wp2_with fail
            refine wp_region_ext (by kernel_rfl) (by kernel_rfl) ?_
            repeat
              with_reducible refine wpQuiet_step (fun K hK => ?_)
              go_simp
              first
              | (refine hK _ ?_; clear hK K)
              | (apply Exists.intro
                 refine ⟨fun w1 h1 => ?_, hK _ ?_⟩
                 (have hW := Ext.trans2 hW (by repeat (first | exact Ext.refl _ | exact Ext.alloc _ _ | exact Ext.drewN _ _ | assumption | refine Ext.trans ?_ (Ext.alloc _ _) | refine Ext.trans ?_ (Ext.drew _) | refine Ext.trans ?_ (by assumption))) h1; (try have hV := Ext.trans2 hV (by repeat (first | exact Ext.refl _ | exact Ext.alloc _ _ | exact Ext.drewN _ _ | assumption | refine Ext.trans ?_ (Ext.alloc _ _) | refine Ext.trans ?_ (Ext.drew _) | refine Ext.trans ?_ (by assumption))) h1); (first | rfl | (go_simp; done) | (go_simp; rfl) | first | (go_at_call 17; (with_reducible refine (hN _ (HCW.out.ext hW)).mono ?_); rintro e w2 ⟨rfl, hb⟩; exact ⟨rfl, h1.trans hb⟩) | (go_at_call 18; (with_reducible refine (hD _ (HCW.out.ext hW)).mono ?_); rintro e w2 ⟨rfl, hb⟩; exact ⟨rfl, h1.trans hb⟩)))
                 clear hK K)
            refine wpQuiet_nil (fun w' hw' => ?_)
            have hW := Ext.trans2 hW (by repeat (first | exact Ext.refl _ | exact Ext.alloc _ _ | exact Ext.drewN _ _ | assumption | refine Ext.trans ?_ (Ext.alloc _ _) | refine Ext.trans ?_ (Ext.drew _) | refine Ext.trans ?_ (by assumption))) hw'
            try have hV := Ext.trans2 hV (by repeat (first | exact Ext.refl _ | exact Ext.alloc _ _ | exact Ext.drewN _ _ | assumption | refine Ext.trans ?_ (Ext.alloc _ _) | refine Ext.trans ?_ (Ext.drew _) | refine Ext.trans ?_ (by assumption))) hw'
            clear hw'
            go_wp2_with fail
            go_roundw
            case rel => exact ⟨j + 1, by omega, by simp, HW.out.trans hW⟩
            case measure => simp [intOf]; omega
        · obtain rfl : j = m.length := by omega
          have h3 : ¬ (m.length : Int) < (m.length : Int) := by omega
          have hW := hW0
          go_wp2_with (go_at_call 7; (with_reducible refine (alive_any _ (HG.out.ext (HX3.out.trans hW))).mono ?_); rintro e w' ⟨rfl, hb⟩; have hW := Ext.trans2 hW (by repeat (first | exact Ext.refl _ | exact Ext.alloc _ _ | exact Ext.drewN _ _ | assumption | refine Ext.trans ?_ (Ext.alloc _ _) | refine Ext.trans ?_ (Ext.drew _) | refine Ext.trans ?_ (by assumption))) hb; (try have hV := Ext.trans2 hV (by repeat (first | exact Ext.refl _ | exact Ext.alloc _ _ | exact Ext.drewN _ _ | assumption | refine Ext.trans ?_ (Ext.alloc _ _) | refine Ext.trans ?_ (Ext.drew _) | refine Ext.trans ?_ (by assumption))) hb); clear hb)
          go_ret
          exact ⟨rfl, HX3.out.trans hW⟩
end Go.Proofs.YtapalbokfbobhaaDoor
