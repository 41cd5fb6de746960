/-
  Two laws of layer 1 hold of every input: FieldJoins, FieldBack. No condition.
-/
import Derived.Test.YtcofnmkemnmhaaaM2
import Derived.Test.YtcofnmkemnmhaaaOpens
namespace Go.Proofs.Ytcofnmkemnmhaaa
open Go.ChangeShapes Go.WideShapes Go.ChangeAt Go.RowKit Go.Deep
set_option linter.unusedVariables false

theorem theirs_sl (A : Option Addr) (c : Nat) (l : Fl) (w : World) (B : Nat) (hB : B ≤ w.heap.size) (hs : Sl w B 2 A l.length (fcells l)) (h40 : l.length ≤ 40) :
    Calls Try.prog 25 #[.slice A l.length c] w fun e w' => ∃ A' c', e = .returned (.slice A' l.length c') ∧ Sl w' w'.heap.size 2 A' l.length (fcells l) ∧ Ext w w' :=
  (theirs_any A c l w B hB hs h40).mono fun e w' ⟨v, he, ho, hx⟩ => by
    obtain ⟨A', c', rfl, h⟩ := Sl.of_own ho
    exact ⟨A', c', he, h, hx⟩
theorem split_sl (A : Option Addr) (c : Nat) (l : Fl) (u : Int) (w : World) (B : Nat) (hB : B ≤ w.heap.size) (hs : Sl w B 2 A l.length (fcells l)) (hl : Okf l) (h40 : l.length ≤ 40) :
    Calls Try.prog 27 #[.slice A l.length c, .int .u64 u] w fun e w' => ∃ A' c', e = .returned (.slice A' l.length c') ∧ Sl w' w'.heap.size 1 A' l.length (ucells (getsI l u)) ∧ Ext w w' :=
  (split_any A c l u w B hB hs hl h40).mono fun e w' ⟨v, he, ho, hx⟩ => by
    obtain ⟨A', c', rfl, h⟩ := Sl.of_own ho
    exact ⟨A', c', he, h, hx⟩
theorem rsplit_sl (A : Option Addr) (c : Nat) (l : Fl) (u : Int) (w : World) (B : Nat) (hB : B ≤ w.heap.size) (hs : Sl w B 2 A l.length (fcells l)) (hl : Okf l) (h40 : l.length ≤ 40) (hu : InW u) :
    Calls Try.prog 28 #[.slice A l.length c, .int .u64 u] w fun e w' => ∃ A' c', e = .returned (.slice A' l.length c') ∧ Sl w' w'.heap.size 1 A' l.length (ucells (getsI l u)) ∧ Ext w w' :=
  (rsplit_any A c l u w B hB hs hl h40 hu).mono fun e w' ⟨v, he, ho, hx⟩ => by
    obtain ⟨A', c', rfl, h⟩ := Sl.of_own ho
    exact ⟨A', c', he, h, hx⟩
theorem far_any (A : Option Addr) (c n : Nat) (w : World) : Calls Try.prog 23 #[.slice A n c] w fun e w' => e = .returned (.bool (decide ((40 : Int) < n))) ∧ Ext w w' := by
  go_enter Try.func23, Try.ntmps23
  go_wp2
  go_ret
  exact ⟨rfl, Ext.refl w⟩
theorem gets_length (l : Fl) (u : Int) : (getsI l u).length = l.length := by simp [getsI]

/-- The list of words of a length that is told otherwise. -/
theorem Sl.words {w : World} {B n : Nat} {A : Option Addr} {vs : List Int} (h : Sl w B 1 A n (ucells vs)) (hn : n = vs.length) {k : Nat} (hk : k < n) :
    ∃ b off, A = some ⟨b, off, none⟩ ∧ b < B ∧ w.cell? ⟨b, off + k, none⟩ = some (.int .u64 (vs.getD k 0)) := by
  subst hn
  obtain ⟨b, off, ha, hb, hc⟩ := h.word hk
  exact ⟨b, off, ha, hb, by rw [hc]; simp [List.getD, hk]⟩
theorem Sl.ruleD {w : World} {B b off n : Nat} {vs : List Int} (h : Sl w B 1 (some ⟨b, off, none⟩) n (ucells vs)) (hn : n = vs.length) (hB : B ≤ w.heap.size) :
    ∀ w', Ext w w' → ∀ k, k < n → w'.cell? ⟨b, off + k, none⟩ = some (.int .u64 (vs.getD k 0)) := fun w' e k hk => by
  obtain ⟨b', off', e', _, c0⟩ := (h.ext e hB).words hn hk
  cases e'
  exact c0

set_option maxHeartbeats 1000000 in
theorem ljoins_any (A : Option Addr) (c : Nat) (l : Fl) (A2 : Option Addr) (c2 : Nat) (vs : List Int) (u : Int) (w : World) (hs : Sl w w.heap.size 2 A l.length (fcells l)) (hl : Okf l)
    (hs2 : Sl w w.heap.size 1 A2 vs.length (ucells vs)) (hv : Okv vs) (hu : InW u) :
    Calls Try.prog 5 #[.slice A l.length c, .slice A2 vs.length c2, .int .u64 u] w fun e w' => e = .returned (.bool true) ∧ Ext w w' := by
  have hX0 := Ext.refl w
  have hW := Ext.refl w
  by_cases h1 : (40 : Int) < l.length
  · go_enter Try.func5, Try.ntmps5
    go_wp2_with (first | (go_at_call 23; refine (far_any _ _ _ _).mono ?_; rintro e w' ⟨rfl, hb⟩; have hW := Ext.trans2 hW (by repeat (first | exact Ext.refl _ | exact Ext.alloc _ _ | exact Ext.drewN _ _ | assumption | refine Ext.trans ?_ (Ext.alloc _ _) | refine Ext.trans ?_ (Ext.drew _) | refine Ext.trans ?_ (by assumption))) hb; (try have hV := Ext.trans2 hV (by repeat (first | exact Ext.refl _ | exact Ext.alloc _ _ | exact Ext.drewN _ _ | assumption | refine Ext.trans ?_ (Ext.alloc _ _) | refine Ext.trans ?_ (Ext.drew _) | refine Ext.trans ?_ (by assumption))) hb); clear hb) | (go_at_call 20; refine (alive_any _).mono ?_; rintro e w' ⟨rfl, hb⟩; have hW := Ext.trans2 hW (by repeat (first | exact Ext.refl _ | exact Ext.alloc _ _ | exact Ext.drewN _ _ | assumption | refine Ext.trans ?_ (Ext.alloc _ _) | refine Ext.trans ?_ (Ext.drew _) | refine Ext.trans ?_ (by assumption))) hb; (try have hV := Ext.trans2 hV (by repeat (first | exact Ext.refl _ | exact Ext.alloc _ _ | exact Ext.drewN _ _ | assumption | refine Ext.trans ?_ (Ext.alloc _ _) | refine Ext.trans ?_ (Ext.drew _) | refine Ext.trans ?_ (by assumption))) hb); clear hb))
    go_ret
    exact ⟨rfl, (hX0.trans (hW.trans (by repeat (first | exact Ext.refl _ | exact Ext.alloc _ _ | exact Ext.drewN _ _ | assumption | refine Ext.trans ?_ (Ext.alloc _ _) | refine Ext.trans ?_ (Ext.drew _) | refine Ext.trans ?_ (by assumption)))))⟩
  · by_cases h2 : (40 : Int) < vs.length
    · go_enter Try.func5, Try.ntmps5
      go_wp2_with (first | (go_at_call 23; refine (far_any _ _ _ _).mono ?_; rintro e w' ⟨rfl, hb⟩; have hW := Ext.trans2 hW (by repeat (first | exact Ext.refl _ | exact Ext.alloc _ _ | exact Ext.drewN _ _ | assumption | refine Ext.trans ?_ (Ext.alloc _ _) | refine Ext.trans ?_ (Ext.drew _) | refine Ext.trans ?_ (by assumption))) hb; (try have hV := Ext.trans2 hV (by repeat (first | exact Ext.refl _ | exact Ext.alloc _ _ | exact Ext.drewN _ _ | assumption | refine Ext.trans ?_ (Ext.alloc _ _) | refine Ext.trans ?_ (Ext.drew _) | refine Ext.trans ?_ (by assumption))) hb); clear hb) | (go_at_call 20; refine (alive_any _).mono ?_; rintro e w' ⟨rfl, hb⟩; have hW := Ext.trans2 hW (by repeat (first | exact Ext.refl _ | exact Ext.alloc _ _ | exact Ext.drewN _ _ | assumption | refine Ext.trans ?_ (Ext.alloc _ _) | refine Ext.trans ?_ (Ext.drew _) | refine Ext.trans ?_ (by assumption))) hb; (try have hV := Ext.trans2 hV (by repeat (first | exact Ext.refl _ | exact Ext.alloc _ _ | exact Ext.drewN _ _ | assumption | refine Ext.trans ?_ (Ext.alloc _ _) | refine Ext.trans ?_ (Ext.drew _) | refine Ext.trans ?_ (by assumption))) hb); clear hb))
      go_ret
      exact ⟨rfl, (hX0.trans (hW.trans (by repeat (first | exact Ext.refl _ | exact Ext.alloc _ _ | exact Ext.drewN _ _ | assumption | refine Ext.trans ?_ (Ext.alloc _ _) | refine Ext.trans ?_ (Ext.drew _) | refine Ext.trans ?_ (by assumption)))))⟩
    · have h40 : l.length ≤ 40 := by omega
      have h40v : vs.length ≤ 40 := by omega
      have hB := Nat.le_refl w.heap.size
      go_enter Try.func5, Try.ntmps5
      go_wp2_with (go_at_call 23; refine (far_any _ _ _ _).mono ?_; rintro e w' ⟨rfl, hb⟩; have hW := Ext.trans2 hW (by repeat (first | exact Ext.refl _ | exact Ext.alloc _ _ | exact Ext.drewN _ _ | assumption | refine Ext.trans ?_ (Ext.alloc _ _) | refine Ext.trans ?_ (Ext.drew _) | refine Ext.trans ?_ (by assumption))) hb; (try have hV := Ext.trans2 hV (by repeat (first | exact Ext.refl _ | exact Ext.alloc _ _ | exact Ext.drewN _ _ | assumption | refine Ext.trans ?_ (Ext.alloc _ _) | refine Ext.trans ?_ (Ext.drew _) | refine Ext.trans ?_ (by assumption))) hb); clear hb)
      refine (theirs_sl A c l _ _ (Nat.le_trans hB hW.size) (hs.ext hW hB) h40).mono ?_
      rintro e w1 ⟨A1, c1, rfl, s1, hb⟩
      have hW := hW.trans hb; clear hb
      go_wp2_with fail
      refine (join_any A1 c1 l A2 c2 vs _ _ (Nat.le_refl _) s1 hl h40 ((hs2.ext hW hB).more hW.size) hv).mono ?_
      rintro e w2 ⟨rfl, hb⟩
      have hW := hW.trans hb; clear hb
      go_wp2_with fail
      refine (rjoin_any A c l A2 c2 vs _ _ (Nat.le_trans hB hW.size) (hs.ext hW hB) hl h40 (hs2.ext hW hB) hv h40v).mono ?_
      rintro e w3 ⟨rfl, hb⟩
      have hW := hW.trans hb; clear hb
      go_wp2_with fail
      refine (theirs_sl A c l _ _ (Nat.le_trans hB hW.size) (hs.ext hW hB) h40).mono ?_
      rintro e w4 ⟨A4, c4, rfl, s4, hb⟩
      have hW := hW.trans hb; clear hb
      go_wp2_with fail
      refine (split_sl A4 c4 l u _ _ (Nat.le_refl _) s4 hl h40).mono ?_
      rintro e w5 ⟨A5, c5, rfl, s5, hb⟩
      have hW := hW.trans hb; clear hb
      go_wp2_with fail
      refine (rsplit_sl A c l u _ _ (Nat.le_trans hB hW.size) (hs.ext hW hB) hl h40 hu).mono ?_
      rintro e w6 ⟨A6, c6, rfl, s6, hb⟩
      have s5 := (s5.ext hb (Nat.le_refl _)).more hb.size
      have hW := hW.trans hb; clear hb
      go_wp2_with fail
      refine (theirs_sl A c l _ _ (Nat.le_trans hB hW.size) (hs.ext hW hB) h40).mono ?_
      rintro e w7 ⟨A7, c7, rfl, s7, hb⟩
      have s5 := (s5.ext hb (Nat.le_refl _)).more hb.size
      have s6 := (s6.ext hb (Nat.le_refl _)).more hb.size
      have hW := hW.trans hb; clear hb
      go_wp2_with fail
      refine (apart_any A7 c7 l _ _ (Nat.le_refl _) s7 hl h40).mono ?_
      rintro e w8 ⟨rfl, hb⟩
      have s5 := (s5.ext hb (Nat.le_refl _)).more hb.size
      have s6 := (s6.ext hb (Nat.le_refl _)).more hb.size
      have hW := hW.trans hb; clear hb
      go_wp2_with fail
      refine (rapart_any A c l _ _ (Nat.le_trans hB hW.size) (hs.ext hW hB) hl h40).mono ?_
      rintro e w9 ⟨rfl, hb⟩
      have s5 := (s5.ext hb (Nat.le_refl _)).more hb.size
      have s6 := (s6.ext hb (Nat.le_refl _)).more hb.size
      have hW := hW.trans hb; clear hb
      go_wp2_with fail
      go_loopw [67] (fun i wr => ∃ j : Nat, j ≤ l.length ∧ i = .int .i64 j ∧ Ext w9 wr) (fun i _ => l.length - (intOf i).toNat)
      case atStart => exact ⟨0, by omega, rfl, Ext.refl _⟩
      case round =>
        obtain ⟨j, hj, rfl, hV⟩ := hrel
        by_cases hlt : j < l.length
        · obtain ⟨b, off, rfl, hb, _⟩ := s5.words (gets_length l u).symm hlt
          have r0 := s5.ruleD (gets_length l u).symm (Nat.le_refl _)
          obtain ⟨b2, off2, rfl, hb2, _⟩ := s6.words (gets_length l u).symm hlt
          have r2 := s6.ruleD (gets_length l u).symm (Nat.le_refl _)
          have hW := hW.trans hV
          go_wp2_with fail
          refine wp_region_ext (by kernel_rfl) (by kernel_rfl) ?_
          repeat
            refine wpQuiet_step (fun K hK => ?_)
            go_simp
            first
            | (refine hK _ ?_; clear hK K)
            | (apply Exists.intro
               refine ⟨fun w1 h1 => ?_, hK _ ?_⟩
               (have hW := Ext.trans2 hW (by repeat (first | exact Ext.refl _ | exact Ext.alloc _ _ | exact Ext.drewN _ _ | assumption | refine Ext.trans ?_ (Ext.alloc _ _) | refine Ext.trans ?_ (Ext.drew _) | refine Ext.trans ?_ (by assumption))) h1; (try have hV := Ext.trans2 hV (by repeat (first | exact Ext.refl _ | exact Ext.alloc _ _ | exact Ext.drewN _ _ | assumption | refine Ext.trans ?_ (Ext.alloc _ _) | refine Ext.trans ?_ (Ext.drew _) | refine Ext.trans ?_ (by assumption))) h1); (first | rfl | (go_simp; done) | (go_simp; rfl) | fail))
               clear hK K)
          refine wpQuiet_nil (fun w' hw' => ?_)
          have hW := Ext.trans2 hW (by repeat (first | exact Ext.refl _ | exact Ext.alloc _ _ | exact Ext.drewN _ _ | assumption | refine Ext.trans ?_ (Ext.alloc _ _) | refine Ext.trans ?_ (Ext.drew _) | refine Ext.trans ?_ (by assumption))) hw'
          try have hV := Ext.trans2 hV (by repeat (first | exact Ext.refl _ | exact Ext.alloc _ _ | exact Ext.drewN _ _ | assumption | refine Ext.trans ?_ (Ext.alloc _ _) | refine Ext.trans ?_ (Ext.drew _) | refine Ext.trans ?_ (by assumption))) hw'
          clear hw'
          go_wp2
          go_roundw
          case rel => exact ⟨j + 1, by omega, by go_num, hV⟩
          case measure => simp [intOf]; omega
        · have hW := hW.trans hV
          go_wp2_with (go_at_call 20; refine (alive_any _).mono ?_; rintro e w' ⟨rfl, hb⟩; have hW := Ext.trans2 hW (by repeat (first | exact Ext.refl _ | exact Ext.alloc _ _ | exact Ext.drewN _ _ | assumption | refine Ext.trans ?_ (Ext.alloc _ _) | refine Ext.trans ?_ (Ext.drew _) | refine Ext.trans ?_ (by assumption))) hb; (try have hV := Ext.trans2 hV (by repeat (first | exact Ext.refl _ | exact Ext.alloc _ _ | exact Ext.drewN _ _ | assumption | refine Ext.trans ?_ (Ext.alloc _ _) | refine Ext.trans ?_ (Ext.drew _) | refine Ext.trans ?_ (by assumption))) hb); clear hb)
          go_ret
          exact ⟨rfl, (hX0.trans (hW.trans (by repeat (first | exact Ext.refl _ | exact Ext.alloc _ _ | exact Ext.drewN _ _ | assumption | refine Ext.trans ?_ (Ext.alloc _ _) | refine Ext.trans ?_ (Ext.drew _) | refine Ext.trans ?_ (by assumption)))))⟩

set_option maxHeartbeats 1000000 in
theorem lback_any (A : Option Addr) (c : Nat) (l : Fl) (A2 : Option Addr) (c2 : Nat) (vs : List Int) (w : World) (hs : Sl w w.heap.size 2 A l.length (fcells l)) (hl : Okf l)
    (hs2 : Sl w w.heap.size 1 A2 vs.length (ucells vs)) (hv : Okv vs) :
    Calls Try.prog 7 #[.slice A l.length c, .slice A2 vs.length c2] w fun e w' => e = .returned (.bool true) ∧ Ext w w' := by
  have hX0 := Ext.refl w
  have hW := Ext.refl w
  by_cases h1 : (40 : Int) < l.length
  · go_enter Try.func7, Try.ntmps7
    go_wp2_with (first | (go_at_call 23; refine (far_any _ _ _ _).mono ?_; rintro e w' ⟨rfl, hb⟩; have hW := Ext.trans2 hW (by repeat (first | exact Ext.refl _ | exact Ext.alloc _ _ | exact Ext.drewN _ _ | assumption | refine Ext.trans ?_ (Ext.alloc _ _) | refine Ext.trans ?_ (Ext.drew _) | refine Ext.trans ?_ (by assumption))) hb; (try have hV := Ext.trans2 hV (by repeat (first | exact Ext.refl _ | exact Ext.alloc _ _ | exact Ext.drewN _ _ | assumption | refine Ext.trans ?_ (Ext.alloc _ _) | refine Ext.trans ?_ (Ext.drew _) | refine Ext.trans ?_ (by assumption))) hb); clear hb) | (go_at_call 20; refine (alive_any _).mono ?_; rintro e w' ⟨rfl, hb⟩; have hW := Ext.trans2 hW (by repeat (first | exact Ext.refl _ | exact Ext.alloc _ _ | exact Ext.drewN _ _ | assumption | refine Ext.trans ?_ (Ext.alloc _ _) | refine Ext.trans ?_ (Ext.drew _) | refine Ext.trans ?_ (by assumption))) hb; (try have hV := Ext.trans2 hV (by repeat (first | exact Ext.refl _ | exact Ext.alloc _ _ | exact Ext.drewN _ _ | assumption | refine Ext.trans ?_ (Ext.alloc _ _) | refine Ext.trans ?_ (Ext.drew _) | refine Ext.trans ?_ (by assumption))) hb); clear hb))
    go_ret
    exact ⟨rfl, (hX0.trans (hW.trans (by repeat (first | exact Ext.refl _ | exact Ext.alloc _ _ | exact Ext.drewN _ _ | assumption | refine Ext.trans ?_ (Ext.alloc _ _) | refine Ext.trans ?_ (Ext.drew _) | refine Ext.trans ?_ (by assumption)))))⟩
  · by_cases h2 : (40 : Int) < vs.length
    · go_enter Try.func7, Try.ntmps7
      go_wp2_with (first | (go_at_call 23; refine (far_any _ _ _ _).mono ?_; rintro e w' ⟨rfl, hb⟩; have hW := Ext.trans2 hW (by repeat (first | exact Ext.refl _ | exact Ext.alloc _ _ | exact Ext.drewN _ _ | assumption | refine Ext.trans ?_ (Ext.alloc _ _) | refine Ext.trans ?_ (Ext.drew _) | refine Ext.trans ?_ (by assumption))) hb; (try have hV := Ext.trans2 hV (by repeat (first | exact Ext.refl _ | exact Ext.alloc _ _ | exact Ext.drewN _ _ | assumption | refine Ext.trans ?_ (Ext.alloc _ _) | refine Ext.trans ?_ (Ext.drew _) | refine Ext.trans ?_ (by assumption))) hb); clear hb) | (go_at_call 20; refine (alive_any _).mono ?_; rintro e w' ⟨rfl, hb⟩; have hW := Ext.trans2 hW (by repeat (first | exact Ext.refl _ | exact Ext.alloc _ _ | exact Ext.drewN _ _ | assumption | refine Ext.trans ?_ (Ext.alloc _ _) | refine Ext.trans ?_ (Ext.drew _) | refine Ext.trans ?_ (by assumption))) hb; (try have hV := Ext.trans2 hV (by repeat (first | exact Ext.refl _ | exact Ext.alloc _ _ | exact Ext.drewN _ _ | assumption | refine Ext.trans ?_ (Ext.alloc _ _) | refine Ext.trans ?_ (Ext.drew _) | refine Ext.trans ?_ (by assumption))) hb); clear hb))
      go_ret
      exact ⟨rfl, (hX0.trans (hW.trans (by repeat (first | exact Ext.refl _ | exact Ext.alloc _ _ | exact Ext.drewN _ _ | assumption | refine Ext.trans ?_ (Ext.alloc _ _) | refine Ext.trans ?_ (Ext.drew _) | refine Ext.trans ?_ (by assumption)))))⟩
    · have h40 : l.length ≤ 40 := by omega
      have hB := Nat.le_refl w.heap.size
      cases hj : joinB l vs
      · have hz : joinI l vs = 0 := by unfold joinI; rw [if_neg (by rw [hj]; simp)]
        go_enter Try.func7, Try.ntmps7
        go_wp2_with (go_at_call 23; refine (far_any _ _ _ _).mono ?_; rintro e w' ⟨rfl, hb⟩; have hW := Ext.trans2 hW (by repeat (first | exact Ext.refl _ | exact Ext.alloc _ _ | exact Ext.drewN _ _ | assumption | refine Ext.trans ?_ (Ext.alloc _ _) | refine Ext.trans ?_ (Ext.drew _) | refine Ext.trans ?_ (by assumption))) hb; (try have hV := Ext.trans2 hV (by repeat (first | exact Ext.refl _ | exact Ext.alloc _ _ | exact Ext.drewN _ _ | assumption | refine Ext.trans ?_ (Ext.alloc _ _) | refine Ext.trans ?_ (Ext.drew _) | refine Ext.trans ?_ (by assumption))) hb); clear hb)
        refine (theirs_sl A c l _ _ (Nat.le_trans hB hW.size) (hs.ext hW hB) h40).mono ?_
        rintro e w1 ⟨A1, c1, rfl, s1, hb⟩
        have hW := hW.trans hb; clear hb
        go_wp2_with fail
        refine (join_any A1 c1 l A2 c2 vs _ _ (Nat.le_refl _) s1 hl h40 ((hs2.ext hW hB).more hW.size) hv).mono ?_
        rintro e w2 ⟨rfl, hb⟩
        have hW := hW.trans hb; clear hb
        go_wp2_with (go_at_call 20; refine (alive_any _).mono ?_; rintro e w' ⟨rfl, hb⟩; have hW := Ext.trans2 hW (by repeat (first | exact Ext.refl _ | exact Ext.alloc _ _ | exact Ext.drewN _ _ | assumption | refine Ext.trans ?_ (Ext.alloc _ _) | refine Ext.trans ?_ (Ext.drew _) | refine Ext.trans ?_ (by assumption))) hb; (try have hV := Ext.trans2 hV (by repeat (first | exact Ext.refl _ | exact Ext.alloc _ _ | exact Ext.drewN _ _ | assumption | refine Ext.trans ?_ (Ext.alloc _ _) | refine Ext.trans ?_ (Ext.drew _) | refine Ext.trans ?_ (by assumption))) hb); clear hb)
        go_ret
        exact ⟨rfl, (hX0.trans (hW.trans (by repeat (first | exact Ext.refl _ | exact Ext.alloc _ _ | exact Ext.drewN _ _ | assumption | refine Ext.trans ?_ (Ext.alloc _ _) | refine Ext.trans ?_ (Ext.drew _) | refine Ext.trans ?_ (by assumption)))))⟩
      · have hok := joinB_iff.1 hj
        have hlen := hok.1
        have HB := hide (back_all l vs hl hv hok)
        have hne : ((l.length : Int) != (vs.length : Int)) = false := by rw [bne_eq_false_iff_eq]; omega
        have hlt2 : ∀ j, j < l.length → j < vs.length := fun j hj => by omega
        have HL := hide hlen
        clear hlen hok
        have HJ := hide hj
        go_enter Try.func7, Try.ntmps7
        go_wp2_with (go_at_call 23; refine (far_any _ _ _ _).mono ?_; rintro e w' ⟨rfl, hb⟩; have hW := Ext.trans2 hW (by repeat (first | exact Ext.refl _ | exact Ext.alloc _ _ | exact Ext.drewN _ _ | assumption | refine Ext.trans ?_ (Ext.alloc _ _) | refine Ext.trans ?_ (Ext.drew _) | refine Ext.trans ?_ (by assumption))) hb; (try have hV := Ext.trans2 hV (by repeat (first | exact Ext.refl _ | exact Ext.alloc _ _ | exact Ext.drewN _ _ | assumption | refine Ext.trans ?_ (Ext.alloc _ _) | refine Ext.trans ?_ (Ext.drew _) | refine Ext.trans ?_ (by assumption))) hb); clear hb)
        refine (theirs_sl A c l _ _ (Nat.le_trans hB hW.size) (hs.ext hW hB) h40).mono ?_
        rintro e w1 ⟨A1, c1, rfl, s1, hb⟩
        have hW := hW.trans hb; clear hb
        go_wp2_with fail
        refine (join_any A1 c1 l A2 c2 vs _ _ (Nat.le_refl _) s1 hl h40 ((hs2.ext hW hB).more hW.size) hv).mono ?_
        rintro e w2 ⟨rfl, hb⟩
        have hW := hW.trans hb; clear hb
        go_wp2_with fail
        refine (theirs_sl A c l _ _ (Nat.le_trans hB hW.size) (hs.ext hW hB) h40).mono ?_
        rintro e w4 ⟨A4, c4, rfl, s4, hb⟩
        have hW := hW.trans hb; clear hb
        go_wp2_with fail
        refine (split_sl A4 c4 l (joinI l vs) _ _ (Nat.le_refl _) s4 hl h40).mono ?_
        rintro e w5 ⟨A5, c5, rfl, s5, hb⟩
        rw [HB.out] at s5
        have hW := hW.trans hb; clear hb
        go_wp2_with fail
        go_loopw [42] (fun i wr => ∃ j : Nat, j ≤ l.length ∧ i = .int .i64 j ∧ Ext w5 wr) (fun i _ => l.length - (intOf i).toNat)
        case atStart => exact ⟨0, by omega, rfl, Ext.refl _⟩
        case round =>
          obtain ⟨j, hj, rfl, hV⟩ := hrel
          by_cases hlt : j < l.length
          · have hltv := hlt2 j hlt
            obtain ⟨b, off, rfl, hb, _⟩ := s5.words HL.out hlt
            have r0 := s5.ruleD HL.out (Nat.le_refl _)
            obtain ⟨b2, off2, rfl, hb2, _⟩ := hs2.words rfl hltv
            have r2 := hs2.ruleD rfl hB
            have hW := hW.trans hV
            go_wp2_with fail
            refine wp_region_ext (by kernel_rfl) (by kernel_rfl) ?_
            repeat
              refine wpQuiet_step (fun K hK => ?_)
              go_simp
              first
              | (refine hK _ ?_; clear hK K)
              | (apply Exists.intro
                 refine ⟨fun w1 h1 => ?_, hK _ ?_⟩
                 (have hW := Ext.trans2 hW (by repeat (first | exact Ext.refl _ | exact Ext.alloc _ _ | exact Ext.drewN _ _ | assumption | refine Ext.trans ?_ (Ext.alloc _ _) | refine Ext.trans ?_ (Ext.drew _) | refine Ext.trans ?_ (by assumption))) h1; (try have hV := Ext.trans2 hV (by repeat (first | exact Ext.refl _ | exact Ext.alloc _ _ | exact Ext.drewN _ _ | assumption | refine Ext.trans ?_ (Ext.alloc _ _) | refine Ext.trans ?_ (Ext.drew _) | refine Ext.trans ?_ (by assumption))) h1); (first | rfl | (go_simp; done) | (go_simp; rfl) | fail))
                 clear hK K)
            refine wpQuiet_nil (fun w' hw' => ?_)
            have hW := Ext.trans2 hW (by repeat (first | exact Ext.refl _ | exact Ext.alloc _ _ | exact Ext.drewN _ _ | assumption | refine Ext.trans ?_ (Ext.alloc _ _) | refine Ext.trans ?_ (Ext.drew _) | refine Ext.trans ?_ (by assumption))) hw'
            try have hV := Ext.trans2 hV (by repeat (first | exact Ext.refl _ | exact Ext.alloc _ _ | exact Ext.drewN _ _ | assumption | refine Ext.trans ?_ (Ext.alloc _ _) | refine Ext.trans ?_ (Ext.drew _) | refine Ext.trans ?_ (by assumption))) hw'
            clear hw'
            go_wp2
            go_roundw
            case rel => exact ⟨j + 1, by omega, by go_num, hV⟩
            case measure => simp [intOf]; omega
          · have hW := hW.trans hV
            go_wp2_with (go_at_call 20; refine (alive_any _).mono ?_; rintro e w' ⟨rfl, hb⟩; have hW := Ext.trans2 hW (by repeat (first | exact Ext.refl _ | exact Ext.alloc _ _ | exact Ext.drewN _ _ | assumption | refine Ext.trans ?_ (Ext.alloc _ _) | refine Ext.trans ?_ (Ext.drew _) | refine Ext.trans ?_ (by assumption))) hb; (try have hV := Ext.trans2 hV (by repeat (first | exact Ext.refl _ | exact Ext.alloc _ _ | exact Ext.drewN _ _ | assumption | refine Ext.trans ?_ (Ext.alloc _ _) | refine Ext.trans ?_ (Ext.drew _) | refine Ext.trans ?_ (by assumption))) hb); clear hb)
            go_ret
            exact ⟨rfl, (hX0.trans (hW.trans (by repeat (first | exact Ext.refl _ | exact Ext.alloc _ _ | exact Ext.drewN _ _ | assumption | refine Ext.trans ?_ (Ext.alloc _ _) | refine Ext.trans ?_ (Ext.drew _) | refine Ext.trans ?_ (by assumption)))))⟩

section
variable {H : Type} {enc : TypeId × Value → H} {W : World} {base : Nat}
theorem in_u8 {x : Int} (h : (Lit.int .u8 x).wf = true) : 0 ≤ x ∧ x ≤ 255 := by have := bounds_u8 h; omega
theorem in_u64 {x : Int} (h : (Lit.int .u64 x).wf = true) : InW x := by have := bounds_u64 h; unfold InW two64; omega
theorem open_words {v : Value} {d : DataW H} {p : List MemPlace} (hv : Value.okWide Try.prog W .any base 40 v) (h : DataW.Trod enc Try.prog W 0 (fun _ => true) true 40 v d p) :
    ∃ (A : Option Addr) (c : Nat) (vs : List Int), v = .slice A vs.length c ∧ Sl W W.heap.size 1 A vs.length (ucells vs) ∧ Okv vs := by
  obtain ⟨A, n, c, xs, rfl, _, _, hs, hel⟩ := open_elems Try.underlying40 (sz := 1) (by kernel_rfl) (by omega) hv h
  have h1 : ∀ i, i < n → ∃ q : Int, xs[i]? = some (.int .u64 q) ∧ InW q := by
    intro i hi
    obtain ⟨m, y, ht⟩ := hel i hi
    obtain ⟨q, e, _, wf⟩ := DataW.trod_int Try.underlying24 ht
    refine ⟨q, ?_, in_u64 wf⟩
    have := congrArg (·[0]?) e
    simpa using this
  obtain ⟨f, hf⟩ := choose_lt h1
  have e : (List.range n).length = n := by simp
  refine ⟨A, c, (List.range n).map f, by simp, ?_, ?_⟩
  · have ex : xs = ucells ((List.range n).map f) := by
      apply List.ext_getElem?
      intro i
      by_cases hi : i < n
      · rw [(hf i hi).1]; simp [ucells, hi]
      · rw [List.getElem?_eq_none (by rw [hs.1]; omega)]; simp [ucells, hi]
    rw [← ex]; simpa using hs
  · intro v hv
    obtain ⟨i, hi, rfl⟩ := List.mem_map.1 hv
    exact (hf i (by simpa using hi)).2
theorem open_fields {v : Value} {d : DataW H} {p : List MemPlace} (hv : Value.okWide Try.prog W .any base 39 v) (h : DataW.Trod enc Try.prog W 0 (fun _ => true) true 39 v d p) :
    ∃ (A : Option Addr) (c : Nat) (l : Fl), v = .slice A l.length c ∧ Sl W W.heap.size 2 A l.length (fcells l) ∧ Okf l := by
  obtain ⟨A, n, c, xs, rfl, _, _, hs, hel⟩ := open_elems Try.underlying39 (sz := 2) (by kernel_rfl) (by omega) hv h
  have h1 : ∀ i, i < n → ∃ q : Int × Int, (xs[i * 2]? = some (.int .u8 q.1) ∧ xs[i * 2 + 1]? = some (.int .u8 q.2)) ∧ 0 ≤ q.1 ∧ q.1 ≤ 255 ∧ 0 ≤ q.2 ∧ q.2 ≤ 255 := by
    intro i hi
    obtain ⟨m, y, ht⟩ := hel i hi
    obtain ⟨y0, y1, k, _, _, t0, t1⟩ := trod_struct2 Try.underlying23 ht
    obtain ⟨a, e0, _, w0⟩ := DataW.trod_int Try.underlying5 t0
    obtain ⟨b, e1, _, w1⟩ := DataW.trod_int Try.underlying5 t1
    refine ⟨(a, b), ⟨?_, ?_⟩, (in_u8 w0).1, (in_u8 w0).2, (in_u8 w1).1, (in_u8 w1).2⟩
    · have := congrArg (·[0]?) e0
      simpa [show Try.prog.cellsOf 5 = 1 from by kernel_rfl] using this
    · have := congrArg (·[0]?) e1
      simpa [show Try.prog.cellsOf 5 = 1 from by kernel_rfl] using this
  obtain ⟨f, hf⟩ := choose_lt h1
  have hl : ((List.range n).map f).length = n := by simp
  refine ⟨A, c, (List.range n).map f, by simp, ?_, ?_⟩
  · have ex : xs = fcells ((List.range n).map f) := by
      apply List.ext_getElem?
      intro j
      by_cases hj : j < n * 2
      · have hk : j / 2 < ((List.range n).map f).length := by rw [hl]; omega
        obtain ⟨c0, c1⟩ := fcells_at ((List.range n).map f) (j / 2) hk
        have hff := hf (j / 2) (by omega)
        rcases Nat.mod_two_eq_zero_or_one j with h0 | h0
        · have e : j = j / 2 * 2 := by omega
          rw [e, c0, hff.1.1]; simp
        · have e : j = j / 2 * 2 + 1 := by omega
          rw [e, c1, hff.1.2]; simp
      · rw [List.getElem?_eq_none (by rw [hs.1]; omega), List.getElem?_eq_none (by rw [fcells_length, hl]; omega)]
    rw [← ex, hl]; exact hs
  · intro q hq
    obtain ⟨i, hi, rfl⟩ := List.mem_map.1 hq
    exact (hf i (by simpa using hi)).2
end

theorem fieldJoins_walk {H : Type} {enc : TypeId × Value → H} (W : World) (base : Nat) (args : Array Value) (ds : List (DataW H)) (p : List MemPlace)
    (hval0 : ∀ (j : Nat) t v, Try.f5.params[j]? = some t → args[j]? = some v → Value.okWide Try.prog W .any base t v)
    (hA0 : DataW.TrodAll enc Try.prog W 0 (fun _ => true) true Try.f5.params.toList args.toList ds p) (_hlt : ∀ x ∈ p, x.block < W.heap.size) :
    Calls Try.prog 5 args W fun e W' => e = .returned (.bool true) ∧ Ext W W' := by
  have hval := hval0
  have hA := hA0
  rw [Try.params5] at hA hval
  clear hval0 hA0
  obtain ⟨v0, v1, v2, d0, d1, d2, p0, p1, p2, hargs, rfl, rfl, h0, h1, h2⟩ := trodAll_three hA
  obtain rfl : args = #[v0, v1, v2] := by cases args; simp_all
  obtain ⟨A, c, l, rfl, hs, hl⟩ := open_fields (hval 0 39 v0 rfl rfl) h0
  obtain ⟨A2, c2, vs, rfl, hs2, hv⟩ := open_words (hval 1 40 v1 rfl rfl) h1
  obtain ⟨y, rfl, rfl, rfl, wy⟩ := open_int Try.underlying24 (hval 2 24 v2 rfl rfl) h2
  exact ljoins_any A c l A2 c2 vs y W hs hl hs2 hv (in_u64 wy)
set_option maxRecDepth 100000 in
theorem fieldJoins_lifted (os : Os) (started : os.Started) (H : Type) (enc : TypeId × Value → H) :
    ReturnsInHanded {} Try.checked os 5 .any (Rows.fieldJoinsSpec.pre6 enc Try.prog Try.f5 Rows.fieldJoinsRow.domain false) (Rows.fieldJoinsSpec.post enc Try.prog Try.f5 false true false false) :=
  law_lifted (fn := Try.f5) 4 os started (by kernel_rfl) Try.func5 rfl rfl Try.underlying4 (hread_of (by kernel_rfl))
    (fun l hl => by
      have hl2 : l.length = 3 := hl
      clear hl
      match l, hl2 with
      | [_, _, _], _ => rfl)
    (ChangeSpec.witness6 (enc := enc) (C := Try.checked) false ⟨#[], #[.slice none 0 0, .slice none 0 0, .int .u64 0], []⟩ 8 (by kernel_rfl) (by kernel_rfl) (by kernel_rfl) (by kernel_rfl))
    (fun W base args ds p hval hA hlt => fieldJoins_walk W base args ds p hval hA hlt)
theorem fieldJoins_holds : Rows.FieldJoinsSaid :=
  OpenClaim.holds_of_wide 5 Try.f5 rfl rfl rfl rfl rfl rfl rfl ⟨rfl, rfl, rfl, rfl, rfl⟩ rfl rfl rfl rfl rfl (by kernel_rfl) Try.func5 (by kernel_rfl)
    (of_decide_eq_true (by kernel_rfl)) (by unfold Func.isWrapper; rw [if_neg (of_decide_eq_false (by kernel_rfl))]; exact ⟨rfl, rfl⟩)
    (fun os started H enc _ => fieldJoins_lifted os started H enc)

theorem fieldBack_walk {H : Type} {enc : TypeId × Value → H} (W : World) (base : Nat) (args : Array Value) (ds : List (DataW H)) (p : List MemPlace)
    (hval0 : ∀ (j : Nat) t v, Try.f7.params[j]? = some t → args[j]? = some v → Value.okWide Try.prog W .any base t v)
    (hA0 : DataW.TrodAll enc Try.prog W 0 (fun _ => true) true Try.f7.params.toList args.toList ds p) (_hlt : ∀ x ∈ p, x.block < W.heap.size) :
    Calls Try.prog 7 args W fun e W' => e = .returned (.bool true) ∧ Ext W W' := by
  have hval := hval0
  have hA := hA0
  rw [Try.params7] at hA hval
  clear hval0 hA0
  obtain ⟨v0, v1, d0, d1, p0, p1, hargs, rfl, rfl, h0, h1⟩ := trodAll_two hA
  obtain rfl : args = #[v0, v1] := by cases args; simp_all
  obtain ⟨A, c, l, rfl, hs, hl⟩ := open_fields (hval 0 39 v0 rfl rfl) h0
  obtain ⟨A2, c2, vs, rfl, hs2, hv⟩ := open_words (hval 1 40 v1 rfl rfl) h1
  exact lback_any A c l A2 c2 vs W hs hl hs2 hv
set_option maxRecDepth 100000 in
theorem fieldBack_lifted (os : Os) (started : os.Started) (H : Type) (enc : TypeId × Value → H) :
    ReturnsInHanded {} Try.checked os 7 .any (Rows.fieldBackSpec.pre6 enc Try.prog Try.f7 Rows.fieldBackRow.domain false) (Rows.fieldBackSpec.post enc Try.prog Try.f7 false true false false) :=
  law_lifted (fn := Try.f7) 4 os started (by kernel_rfl) Try.func7 rfl rfl Try.underlying4 (hread_of (by kernel_rfl))
    (fun l hl => by
      have hl2 : l.length = 2 := hl
      clear hl
      match l, hl2 with
      | [_, _], _ => rfl)
    (ChangeSpec.witness6 (enc := enc) (C := Try.checked) false ⟨#[], #[.slice none 0 0, .slice none 0 0], []⟩ 8 (by kernel_rfl) (by kernel_rfl) (by kernel_rfl) (by kernel_rfl))
    (fun W base args ds p hval hA hlt => fieldBack_walk W base args ds p hval hA hlt)
theorem fieldBack_holds : Rows.FieldBackSaid :=
  OpenClaim.holds_of_wide 7 Try.f7 rfl rfl rfl rfl rfl rfl rfl ⟨rfl, rfl, rfl, rfl, rfl⟩ rfl rfl rfl rfl rfl (by kernel_rfl) Try.func7 (by kernel_rfl)
    (of_decide_eq_true (by kernel_rfl)) (by unfold Func.isWrapper; rw [if_neg (of_decide_eq_false (by kernel_rfl))]; exact ⟨rfl, rfl⟩)
    (fun os started H enc _ => fieldBack_lifted os started H enc)
end Go.Proofs.Ytcofnmkemnmhaaa
