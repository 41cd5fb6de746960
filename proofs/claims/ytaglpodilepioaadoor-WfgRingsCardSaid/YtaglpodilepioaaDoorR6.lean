/- The document's Order. -/
import Derived.Test.YtaglpodilepioaaDoorR5
namespace Go.Proofs.YtaglpodilepioaaDoor
open Go.RowKit
set_option linter.unusedSimpArgs false
set_option linter.unusedVariables false
set_option maxRecDepth 100000
set_option maxHeartbeats 8000000


theorem ord_none2 {E : Gr} {o : List Nat} (h : stp E o.length = some o) (hc : cand E o = none) (hl : o.length < (setL (tch E)).length) : ordR E = none := by
  unfold ordR
  rw [show (setL (tch E)).length = (o.length + 1) + ((setL (tch E)).length - (o.length + 1)) by omega]
  refine stp_none _ ?_
  rw [stp, h, Option.bind_some, hc]; rfl
/-- Whether the first of a list are all in another one. -/
def upI (o l : List Nat) (k : Nat) : Bool := (l.take k).all fun x => o.contains x
theorem upI_step {o l : List Nat} {k x : Nat} (h : l[k]? = some x) : upI o l (k + 1) = (upI o l k && o.contains x) := by
  unfold upI
  rw [List.take_add_one, h]
  simp [List.all_append]
theorem upI_fin {E : Gr} {o : List Nat} {x : Nat} : (!o.contains x && upI o (setL (E x)) (setL (E x)).length) = okN E o x := by
  unfold upI okN
  rw [List.take_length]
theorem rorder_any {R : Nat} {L : EL} (w : World) (h : RG w R 0 L) (hL : LOk L) (hl : L.length < 1000) : Calls Tryd.prog 20 #[.pointer (some ⟨R, 0, none⟩)] w fun e w' =>
    ∃ v b, e = .returned (.tuple #[v, .bool b]) ∧ OrdA (eg L) w' w.heap.size v b ∧ Ext w w' := by
  have HG := hide h
  have HLO := hide hL
  clear h hL
  go_enter Tryd.func20, Tryd.ntmps20
  go_wp2_with (go_at_call 29; (with_reducible refine (rall_any _ HG.out HLO.out hl).mono ?_); rintro e1 w1 ⟨v1, rfl, hr1, hx1⟩; obtain ⟨A1, c1, rfl⟩ := own_sl hr1; go_frame)
  have HL1 := hide hr1
  have HX1 := hide hx1
  clear hr1 hx1
  have hNl := setL_len (tch (eg L))
  have HO2 := hide (fun o (h : stp (eg L) o.length = some o) (hc : cand (eg L) o = none) hl => ord_none2 h hc hl)
  have HCD := hide (fun o => (show (setL (tch (eg L))).find? (okN (eg L) o) = cand (eg L) o from rfl))
  have HOR := hide (show ordR (eg L) = stp (eg L) (setL (tch (eg L))).length from rfl)
  have hNm : ∀ x, x ∈ setL (tch (eg L)) → x < 64 := fun x hx => (mem_setL.1 hx).1
  generalize setL (tch (eg L)) = N at *
  go_loopw [5, 6] (fun v y wr => ∃ o : List Nat, y = .int .i64 (o.length : Int) ∧ o.length ≤ N.length ∧ Row wr w1.heap.size v o ∧ stp (eg L) o.length = some o ∧ Ext w1 wr) (fun _ y _ => N.length - (intOf y).toNat)
  case atStart => exact ⟨[], rfl, Nat.zero_le _, own_nil _ _ _ _, rfl, Ext.refl _⟩
  case round =>
    obtain ⟨o, rfl, hon, hO, hs, hX⟩ := hrel
    obtain ⟨A, c, rfl⟩ := own_sl hO
    obtain ⟨Wo, hWo⟩ : ∃ W, W = wr := ⟨_, rfl⟩
    subst hWo
    have HO := hide hO
    have HX := hide hX
    have HS := hide hs
    clear hO hX hs
    by_cases hlt : o.length < N.length
    · have HNO := hide (fun hc => HO2.out o HS.out hc hlt)
      obtain ⟨n, hn⟩ : ∃ n, o.length = n := ⟨_, rfl⟩
      have HN := hide hn
      unfold Row at HO
      rw [hn] at hon hlt HO
      rw [hn]
      clear hn
      go_wp2_with fail
      go_loopw [7, 8] (fun x y wr2 => ∃ i : Nat, i ≤ N.length ∧ y = .int .i64 (i : Int) ∧ ((x = .int .i64 (-1) ∧ ∀ j, j < i → ∀ z, N[j]? = some z → okN (eg L) o z = false) ∨ ∃ z : Nat, x = .int .i64 (z : Int) ∧ N.find? (okN (eg L) o) = some z) ∧ Ext Wo wr2) (fun _ y _ => N.length - (intOf y).toNat)
      case atStart => exact ⟨0, by omega, rfl, .inl ⟨rfl, fun j hj => by omega⟩, Ext.refl _⟩
      case round =>
        obtain ⟨i, hi, rfl, hb, hX2⟩ := hrel
        have HX2 := hide hX2
        clear hX2
        rcases hb with ⟨rfl, hno⟩ | ⟨z, rfl, hz⟩
        · have HK := hide hno
          clear hno
          by_cases hlq : i < N.length
          · obtain ⟨x, hx⟩ : ∃ x, N[i]? = some x := ⟨_, List.getElem?_eq_getElem hlq⟩
            have hx64 := hNm x (List.mem_of_getElem? hx)
            obtain ⟨b2, off2, c2, he2, _, hc2⟩ := row_at HL1.out hx
            simp only [Value.slice.injEq] at he2
            obtain ⟨rfl, -, rfl⟩ := he2
            have d1 := hc2 _ (HX.out.trans HX2.out)
            have HXX := hide hx
            clear hx hc2
            have HO3 := hide (own_ext HO.out HX2.out)
            have HHL := hide (fun (_ : Unit) => hasl_any x wr HO3.out (by omega))
            have HNX := hide (rnext_any (x : Int) wr (HG.out.ext (HX1.out.trans (HX.out.trans HX2.out))) hl)
            rw [nxI_nat] at HNX
            have HNX := hide (fun (_ : Unit) => HNX.out)
            have HUF := hide (upI_fin (E := eg L) (o := o) (x := x))
            generalize o.contains x = cx at *
            have hMl := setL_len (eg L x)
            generalize setL (eg L x) = M at *
            go_wp2_with (first | (go_at_call 30; (with_reducible refine (HHL.out ()).mono ?_); rintro e9 w9 ⟨rfl, rfl⟩; go_frame) | (go_at_call 13; (with_reducible refine (HNX.out ()).mono ?_); rintro e5 w5 ⟨vN, rfl, hr, hx⟩; obtain ⟨A5, c5, rfl⟩ := own_sl hr; go_frame))
            have HR := hide hr
            have HX2 := hide (HX2.out.trans hx)
            have HO3 := hide (own_ext HO3.out hx)
            clear hr hx HHL HNX d1
            go_loopw [9, 11] (fun z y wr3 => wr3 = w5 ∧ ∃ q : Nat, q ≤ M.length ∧ y = .int .i64 (q : Int) ∧ z = .bool (!cx && upI o M q)) (fun _ y _ => M.length - (intOf y).toNat)
            case atStart => exact ⟨rfl, 0, by omega, rfl, by simp [upI]⟩
            case round =>
              obtain ⟨rfl, q, hq, rfl, rfl⟩ := hrel
              by_cases hlm : q < M.length
              · obtain ⟨y, hy⟩ : ∃ y, M[q]? = some y := ⟨_, List.getElem?_eq_getElem hlm⟩
                obtain ⟨b3, off3, c3, he3, _, hc3⟩ := row_at HR.out hy
                simp only [Value.slice.injEq] at he3
                obtain ⟨rfl, -, rfl⟩ := he3
                have d3 := hc3 _ (Ext.refl _)
                have HS3 := hide (upI_step (o := o) hy)
                have HHL := hide (fun (_ : Unit) => hasl_any y wr HO3.out (by omega))
                clear hy hc3
                generalize o.contains y = cy at *
                obtain ⟨b, hb⟩ : ∃ b, (!cx && upI o M q) = b := ⟨_, rfl⟩
                have HB := hide hb
                rw [hb]
                clear hb
                cases b with
                | true =>
                  go_wp2_with (go_at_call 30; (with_reducible refine (HHL.out ()).mono ?_); rintro e9 w9 ⟨rfl, rfl⟩; go_frame)
                  go_roundw
                  case rel => exact ⟨by first | rfl | trivial, q + 1, by omega, by go_num, by rw [HS3.out, ← Bool.and_assoc, HB.out, Bool.true_and]⟩
                  case measure => simp [intOf]; omega
                | false =>
                  go_wp2_with fail
                  go_roundw
                  case rel => exact ⟨by first | rfl | trivial, q + 1, by omega, by go_num, by rw [HS3.out, ← Bool.and_assoc, HB.out, Bool.false_and]⟩
                  case measure => simp [intOf]; omega
              · obtain rfl : q = M.length := by omega
                have hu := HUF.out
                have d4 := HL1.out
                obtain ⟨b4, off4, c4, he4, _, hc4⟩ := row_at HL1.out HXX.out
                simp only [Value.slice.injEq] at he4
                obtain ⟨q1, -, q2⟩ := he4
                simp only [Option.some.injEq, Addr.mk.injEq, and_true] at q1
                obtain ⟨rfl, rfl⟩ := q1
                have d5 := hc4 _ (HX.out.trans HX2.out)
                clear d4 hc4
                rw [hu]
                clear hu
                by_cases hok : okN (eg L) o x = true
                · have HF := hide (find_at (p := okN (eg L) o) N HK.out HXX.out hok)
                  rw [hok]
                  clear hok
                  go_wp2_with fail
                  go_roundw
                  case rel => exact ⟨i + 1, by omega, by go_num, .inr ⟨x, rfl, HF.out⟩, HX2.out⟩
                  case measure => simp [intOf]; omega
                · have hok : okN (eg L) o x = false := by simpa using hok
                  have HOK := hide hok
                  rw [hok]
                  clear hok
                  go_wp2_with fail
                  go_roundw
                  case rel => exact ⟨i + 1, by omega, by go_num, .inl ⟨rfl, fun j hj z hz => by
                    by_cases e : j = i
                    · subst e
                      rw [HXX.out] at hz
                      obtain rfl := Option.some.inj hz
                      exact HOK.out
                    · exact HK.out j (by omega) z hz⟩, HX2.out⟩
                  case measure => simp [intOf]; omega
          · obtain rfl : i = N.length := by omega
            have hcand := find_no (p := okN (eg L) o) N HK.out
            rw [HCD.out] at hcand
            have HQ := hide (HNO.out hcand)
            clear hcand
            go_wp2_with fail
            go_ret2
            exact ⟨_, _, rfl, ⟨by rw [HQ.out]; rfl, by rw [HQ.out]; exact own_nil _ _ _ _⟩, HX1.out.trans (HX.out.trans HX2.out)⟩
        · have hcand := hz
          rw [HCD.out] at hcand
          have HM := hide (stp_more HS.out hcand)
          have hlen : (o ++ [z]).length ≤ 64 := ord_len HM.out
          have hlen : n + 1 ≤ 64 := by rw [List.length_append, HN.out] at hlen; simpa using hlen
          clear hcand hz
          have E1 : ¬ (z : Int) < 0 := by omega
          have HO3 := hide (own_ext HO.out HX2.out)
          have HX3 := hide (HX.out.trans HX2.out)
          go_wp2_with (at_builtin; refine wpList_app2 (base := w1.heap.size) (n := n) (xs := o.map enN) rfl rfl Tryd.underlying38 inf_int rfl (by omega) rfl HO3.out HX3.out.size rfl rfl rfl (by simp [Value.oneCell']) (by unfold maxLen; omega) (by omega) ?_; intro v' w3 hown' hg3; go_frame)
          all_goals refine ⟨⟨o ++ [z], by rw [List.length_append, HN.out]; go_num, by rw [List.length_append, HN.out]; simp; omega, by rw [← HN.out] at hown'; exact row_snoc hown', HM.out, Ext.grown (HX3.out.trans (Ext.alloc _ _)) hg3 (own_row HO3.out)⟩, ?_⟩
          all_goals (simp [intOf]; omega)
    · have hon : o.length = N.length := by omega
      have hq := HS.out
      rw [hon, ← HOR.out] at hq
      have HQ := hide hq
      clear hq hlt
      have HO5 := HO.out
      unfold Row at HO5
      rw [show (Value.slice A o.length c) = Value.slice A N.length c by rw [hon]] at HO5
      have HO5 := hide HO5
      rw [hon]
      go_wp2_with fail
      go_ret2
      exact ⟨_, _, rfl, ⟨by rw [HQ.out]; rfl, by rw [HQ.out]; exact own_base HO5.out HX1.out.size⟩, HX1.out.trans HX.out⟩
end Go.Proofs.YtaglpodilepioaaDoor
