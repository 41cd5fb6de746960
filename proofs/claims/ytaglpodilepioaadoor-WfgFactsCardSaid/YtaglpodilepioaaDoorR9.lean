/- The document's Ring. -/
import Derived.Test.YtaglpodilepioaaDoorR8
namespace Go.Proofs.YtaglpodilepioaaDoor
open Go.RowKit
set_option linter.unusedSimpArgs false
set_option linter.unusedVariables false
set_option maxRecDepth 100000
set_option maxHeartbeats 8000000


theorem longer_any {R : Nat} {L : EL} {s z : Nat} (hl : L.length < 1000) (hz : z ≤ 64) : ∀ f, LgC R L s z f
  | 0 => longer_0 hl hz
  | f + 1 => longer_s hl hz (longer_any hl hz f)
/-- What the document's Ring tells. -/
def RngA (E : Gr) (many : Nat) (w : World) (v : Value) : Prop := ∃ Q B, w.ownsRow B 3 1 v Q.length (Q.map enN) ∧ RefRing E many Q
theorem rring_any {R : Nat} {L : EL} (w : World) (h : RG w R 0 L) (hl : L.length < 1000) : Calls Tryd.prog 22 #[.pointer (some ⟨R, 0, none⟩)] w fun e w' =>
    ∃ v, e = .returned v ∧ RngA (eg L) (min 64 L.length) w' v ∧ Ext w w' := by
  obtain ⟨A, c, hb, ho, hrow⟩ := h.open
  obtain ⟨n, hn⟩ : ∃ n, L.length = n := ⟨_, rfl⟩
  have HN := hide hn
  rw [hn] at hb
  have hc : ∀ wx, Ext w wx → wx.cell? ⟨R, 0, none⟩ = some (.slice A n c) := fun wx hx => (hb.ext hx).cell 0
  have HC := hide hc
  have HG := hide h
  rw [hn]
  have HLC := hide (fun s z (hz : z ≤ 64) f => longer_any (R := R) (s := s) hl hz f)
  rw [hn] at hl
  clear hrow h hb hn ho hc
  go_enter Tryd.func22, Tryd.ntmps22
  go_wp2_with fail
  go_loopw [3] (fun y wr => ∃ z : Nat, 1 ≤ z ∧ z ≤ 65 ∧ y = .int .i64 (z : Int) ∧ (∀ z', 1 ≤ z' → z' < z → ∀ s', s' < 64 → lgr (eg L) s' (z' - 1) [] = none) ∧ Ext w wr) (fun y _ => 70 - (intOf y).toNat)
  case atStart => exact ⟨1, by omega, by omega, rfl, fun z' h1 h2 => by omega, Ext.refl _⟩
  case round =>
    obtain ⟨z, hz1, hz2, rfl, hno, hX⟩ := hrel
    have HK := hide hno
    have HX := hide hX
    clear hno hX
    have c0 := HC.out _ HX.out
    have g1 : (z : Int) ≤ 65 := by omega
    by_cases h1 : z ≤ 64
    · have h1' : (z : Int) ≤ 64 := by omega
      by_cases h2 : z ≤ n
      · have h2' : (z : Int) ≤ (n : Int) := by omega
        go_wp2_with fail
        go_loopw [4] (fun y wr => ∃ k : Nat, k ≤ 64 ∧ y = .int .i64 (k : Int) ∧ (∀ s', s' < k → lgr (eg L) s' (z - 1) [] = none) ∧ Ext w wr) (fun y _ => 64 - (intOf y).toNat)
        case atStart => exact ⟨0, by omega, rfl, fun s' h => by omega, HX.out⟩
        case round =>
          clear HX c0
          obtain ⟨k, hk, rfl, hno, hX⟩ := hrel
          have HX := hide hX
          have HS := hide hno
          clear hno hX
          by_cases hlt : k < 64
          · have hN := Blk.new wr #[.int .i64 (k : Int)] 3
            have hrow : (wr.alloc (.cells #[.int .i64 (k : Int)] 3)).ownsRow 0 3 1 (.slice (some ⟨wr.heap.size, 0, none⟩) 1 1) 1 ((k :: []).map enN) := own_one hN (Nat.zero_le _)
            have HL := hide (HLC.out k z h1 (z - 1) 0 1 [] _ _ rfl (by omega) hrow (HG.out.ext (HX.out.trans (Ext.alloc _ _))))
            clear hN hrow
            go_wp2_with fail
            refine (HL.out).mono ?_
            rintro e w1 ⟨v1, b1, rfl, hA, hy⟩
            have HX2 := hide (HX.out.trans ((Ext.alloc _ _).trans hy))
            obtain ⟨q1, q2⟩ := hA
            have HQ2 := hide q2
            cases b1 with
            | true =>
              have hr := Option.isSome_iff_exists.1 q1.symm
              have HR := hide hr
              clear q1 q2 hr
              go_wp2_with fail
              go_ret
              obtain ⟨r, hr⟩ := HR.out
              obtain ⟨B, hB⟩ := HQ2.out r hr
              exact ⟨_, rfl, ⟨r, B, hB, .inr ⟨z, k, hz1, by omega, hlt, hr, HK.out, HS.out⟩⟩, HX2.out⟩
            | false =>
              have HR := hide (show lgr (eg L) k (z - 1) [] = none by simpa using q1.symm)
              clear q1 q2
              go_wp2_with fail
              go_roundw
              case rel => exact ⟨k + 1, by omega, by go_num, fun s' hs' => by
                by_cases e : s' = k
                · subst e; exact HR.out
                · exact HS.out s' (by omega), HX2.out⟩
              case measure => simp [intOf]; omega
          · obtain rfl : k = 64 := by omega
            go_wp2_with fail
            go_roundw
            case rel => exact ⟨z + 1, by omega, by omega, by go_num, fun z' h1 h2 s' hs' => by
              by_cases e : z' = z
              · subst e; exact HS.out s' hs'
              · exact HK.out z' h1 (by omega) s' hs', HX.out⟩
            case measure => simp [intOf]; omega
      · have h2' : ¬ (z : Int) ≤ (n : Int) := by omega
        go_wp2_with fail
        go_ret
        exact ⟨_, rfl, ⟨[], 0, own_nil _ _ _ _, .inl ⟨rfl, fun z' h1 h2 s' hs' => HK.out z' h1 (by omega) s' hs'⟩⟩, HX.out⟩
    · have h1' : ¬ (z : Int) ≤ 64 := by omega
      go_wp2_with fail
      go_ret
      exact ⟨_, rfl, ⟨[], 0, own_nil _ _ _ _, .inl ⟨rfl, fun z' h1 h2 s' hs' => HK.out z' h1 (by omega) s' hs'⟩⟩, HX.out⟩
end Go.Proofs.YtaglpodilepioaaDoor
