/- The document's all and Order. -/
import Derived.Test.YtaglpodilepioaaDoorR4
import Derived.Test.YtaglpodilepioaaDoorP8
namespace Go.Proofs.YtaglpodilepioaaDoor
open Go.RowKit
set_option linter.unusedSimpArgs false
set_option linter.unusedVariables false
set_option maxRecDepth 100000
set_option maxHeartbeats 4000000


def tk (L : EL) (k i : Nat) : Bool := (L.take i).any fun p => decide (p.1 = k) || decide (p.2 = k)
theorem tk_step {L : EL} {k i : Nat} {p : Nat × Nat} (h : L[i]? = some p) : tk L k (i + 1) = (tk L k i || (decide (p.1 = k) || decide (p.2 = k))) := by
  unfold tk
  rw [List.take_add_one, h]
  simp [List.any_append]
theorem tk_fin {L : EL} (hL : LOk L) {k : Nat} (hk : k < 64) : tk L k L.length = tch (eg L) k := by
  unfold tk
  rw [List.take_length, Bool.eq_iff_iff, tch_iff, List.any_eq_true]
  constructor
  · rintro ⟨p, hp, h⟩
    simp only [Bool.or_eq_true, decide_eq_true_eq] at h
    have := hL.2 p hp
    rcases h with rfl | rfl
    · exact ⟨p.2, this.2, .inl (by simp [eg, hp])⟩
    · exact ⟨p.1, this.1, .inr (by simp [eg, hp])⟩
  · rintro ⟨j, hj, h | h⟩
    · exact ⟨(k, j), by simpa [eg] using h, by simp⟩
    · exact ⟨(j, k), by simpa [eg] using h, by simp⟩
theorem rall_any {R : Nat} {L : EL} (w : World) (h : RG w R 0 L) (hL : LOk L) (hl : L.length < 1000) : Calls Tryd.prog 29 #[.pointer (some ⟨R, 0, none⟩)] w fun e w' =>
    ∃ v, e = .returned v ∧ Row w' w.heap.size v (setL (tch (eg L))) ∧ Ext w w' := by
  obtain ⟨A, c, hb, ho, hrow⟩ := h.open
  obtain ⟨n, hn⟩ : ∃ n, L.length = n := ⟨_, rfl⟩
  have HN := hide hn
  rw [hn] at hb hl
  have HR := hide hrow
  have hc : ∀ wx, Ext w wx → wx.cell? ⟨R, 0, none⟩ = some (.slice A n c) := fun wx hx => (hb.ext hx).cell 0
  have HC := hide hc
  have HLO := hide hL
  have HE := hide (show setL (fun k => tk L k n) = setL (tch (eg L)) from List.filter_congr fun k hk => by rw [← HN.out]; exact tk_fin HLO.out (List.mem_range.1 hk))
  clear hrow h hb hn ho hc hL
  go_enter Tryd.func29, Tryd.ntmps29
  go_wp2_with fail
  go_loopw [3, 4] (fun v y wr => ∃ k : Nat, k ≤ 64 ∧ y = .int .i64 (k : Int) ∧ Row wr w.heap.size v (low (fun k => tk L k n) k) ∧ Ext w wr) (fun _ y _ => 64 - (intOf y).toNat)
  case atStart => exact ⟨0, by omega, rfl, own_nil _ _ _ _, Ext.refl _⟩
  case round =>
    obtain ⟨k, hk, rfl, hO, hX⟩ := hrel
    have HO := hide hO
    have HX := hide hX
    have hll := low_len (fun k => tk L k n) k
    obtain ⟨A5, c5, rfl⟩ := own_sl hO
    clear hO hX
    by_cases hlt : k < 64
    · obtain ⟨l, hlow⟩ : ∃ l, l = low (fun k => tk L k n) k := ⟨_, rfl⟩
      rw [← hlow] at HO hll ⊢
      have HLW := hide hlow
      clear hlow
      have c0 := HC.out _ HX.out
      go_wp2_with fail
      go_loopw [5, 6] (fun x y wr2 => wr2 = wr ∧ ∃ q : Nat, q ≤ n ∧ y = .int .i64 (q : Int) ∧ x = .bool (tk L k q)) (fun _ y _ => n - (intOf y).toNat)
      case atStart => exact ⟨rfl, 0, by omega, rfl, rfl⟩
      case round =>
        obtain ⟨rfl, q, hq, rfl, rfl⟩ := hrel
        by_cases hlq : q < n
        · obtain ⟨p, hp⟩ : ∃ p, L[q]? = some p := ⟨_, List.getElem?_eq_getElem (by rw [HN.out]; exact hlq)⟩
          obtain ⟨b, off, rfl, hcc⟩ := HR.out q p hp
          obtain ⟨d1, d2⟩ := hcc _ HX.out
          have HS := hide (tk_step (k := k) hp)
          clear hcc hp
          generalize tk L k q = t at *
          by_cases h0 : t = true
          · subst h0
            go_wp2_with fail
            go_roundw
            case rel => exact ⟨by first | rfl | trivial, q + 1, by omega, by go_num, by rw [HS.out]; simp⟩
            case measure => simp [intOf]; omega
          · have h0 : t = false := by simpa using h0
            subst h0
            by_cases h1 : p.1 = k
            · have E1 : ((p.1 : Int) == (k : Int)) = true := by simp [h1]
              have HS2 := hide (show tk L k (q + 1) = true by rw [HS.out]; simp [h1])
              clear h1
              go_wp2_with fail
              go_roundw
              case rel => exact ⟨by first | rfl | trivial, q + 1, by omega, by go_num, by rw [HS2.out]⟩
              case measure => simp [intOf]; omega
            · have E1 : ((p.1 : Int) == (k : Int)) = false := by simp; omega
              by_cases h2 : p.2 = k
              · have E2 : ((p.2 : Int) == (k : Int)) = true := by simp [h2]
                have HS2 := hide (show tk L k (q + 1) = true by rw [HS.out]; simp [h2])
                clear h1 h2
                go_wp2_with fail
                go_roundw
                case rel => exact ⟨by first | rfl | trivial, q + 1, by omega, by go_num, by rw [HS2.out]⟩
                case measure => simp [intOf]; omega
              · have E2 : ((p.2 : Int) == (k : Int)) = false := by simp; omega
                have HS2 := hide (show tk L k (q + 1) = false by rw [HS.out]; simp [h1, h2])
                clear h1 h2
                go_wp2_with fail
                go_roundw
                case rel => exact ⟨by first | rfl | trivial, q + 1, by omega, by go_num, by rw [HS2.out]⟩
                case measure => simp [intOf]; omega
        · obtain rfl : q = n := by omega
          by_cases hf : tk L k q = true
          · have HY := hide (low_yes (f := fun k => tk L k q) hf)
            rw [← HLW.out] at HY
            rw [hf]
            clear hf
            go_wp2_with (at_builtin; refine wpList_app1 (W0 := w) (n := l.length) (xs := l.map enN) rfl rfl Tryd.underlying38 inf_int rfl (by omega) rfl HO.out HX.out rfl rfl rfl (by simp [Value.oneCell']) (by unfold maxLen; omega) (by omega) ?_; intro v' w3 hown' hW3; go_frame)
            go_roundw
            case rel => exact ⟨k + 1, by omega, by go_num, by rw [HY.out]; exact row_snoc hown', hW3⟩
            case measure => simp [intOf]; omega
          · have hf : tk L k q = false := by simpa using hf
            have HY := hide (low_no (f := fun k => tk L k q) hf)
            rw [← HLW.out] at HY
            rw [hf]
            clear hf
            go_wp2_with fail
            go_roundw
            case rel => exact ⟨k + 1, by omega, by go_num, by rw [HY.out]; exact HO.out, HX.out⟩
            case measure => simp [intOf]; omega
    · obtain rfl : k = 64 := by omega
      go_wp2_with fail
      go_ret
      exact ⟨_, rfl, by rw [← HE.out]; exact HO.out, HX.out⟩
end Go.Proofs.YtaglpodilepioaaDoor
