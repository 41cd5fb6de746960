/- The reference's clock: Tick, walked. -/
import Derived.Test.YtgfhpgbklcjooaaR3
namespace Go.Proofs.Ytgfhpgbklcjooaa
open Go.RowKit Go.Maps
set_option linter.unusedSimpArgs false
set_option linter.unusedVariables false

set_option maxHeartbeats 1000000 in
set_option maxRecDepth 100000 in
theorem rtick_any {w : World} {R : Nat} {T : Int} {f : Al} {n : Int} (h : RefT w R T f) (ok : OkA f) (T0 : 0 ≤ T) (T1 : T ≤ TM) (hn : (ky n).wf = true) :
    Calls Try.prog 13 #[.pointer (some ⟨R, 0, none⟩), .int .i64 n] w fun e w' => ∃ v l, e = .returned v ∧ DueL f (tkT T n) l ∧ w'.ownsRow w.heap.size 3 1 v l.length (l.map enI) ∧ RefT w' R (tkT T n) (rest f (tkT T n)) ∧ Chg [R] w w' := by
  have bk := bounds_i64 hn
  unfold TM at T1
  have hRl := Blk.lt h
  have W1 : IntKind.i64.wrap (1099511627776 - T) = 1099511627776 - T := wrapI (by omega) (by omega)
  have ct := h.t
  have f1 := Blk.free h 0
  have H := hide h
  by_cases hn0 : n ≤ 0
  · obtain ⟨T', hT'⟩ : ∃ T', T' = T := ⟨_, rfl⟩
    have HT : Hid (tkT T n = T') := by unfold Hid tkT tkN latI TM; rw [show max n 0 = 0 by omega, if_pos (by omega), hT']; omega
    have HS : Hid (RefT w R T' f) := by rw [hT']; exact h
    have HC := hide (Chg.refl [R] w)
    have T0' : 0 ≤ T' := by omega
    have hgt : ¬ 1099511627776 - T < n := by omega
    clear hT' h
    go_enter Try.func13, Try.ntmps13
    go_wp2_with fail
    clear ct f1 W1 hgt
    go_loopw [5, 6] (fun v i wr => ∃ (k : Nat) (o : List Nat), k ≤ 256 ∧ i = .int .i64 k ∧ k ≤ o.length ∧ OutR f T' o ∧ wr.ownsRow w.heap.size 3 1 v o.length (o.map enI) ∧ RefT wr R T' (gone f o) ∧ Chg [R] w wr) (fun _ i _ => 256 - (intOf i).toNat)
    case atStart => exact ⟨0, [], by omega, rfl, by omega, OutR.nil _ _, own_nil _ _ _ _, by rw [gone_nil]; exact HS.out, HC.out⟩
    case round =>
      obtain ⟨k, o, hk, rfl, hko, hO, hrow, hr, hc⟩ := hrel
      have HO := hide hO
      have HR := hide hr
      have HW := hide hrow
      have ol := hO.len ok
      have DN : Hid (∀ wx v, DueL f T' o → RefT wx R T' (gone f o) → Chg [R] w wx → wx.ownsRow w.heap.size 3 1 v o.length (o.map enI) → ∃ v1 l, (Ending.returned v = .returned v1) ∧ DueL f (tkT T n) l ∧ wx.ownsRow w.heap.size 3 1 v1 l.length (l.map enI) ∧ RefT wx R (tkT T n) (rest f (tkT T n)) ∧ Chg [R] w wx) := fun wx v hd h1 h2 h3 =>
        ⟨v, o, rfl, by rw [HT.out]; exact hd, h3, by rw [HT.out, ← gone_due hd T0']; exact h1, h2⟩
      have HCC := hide hc
      clear hO hr hrow hc
      by_cases hlt : k < 256
      · go_wp2_with fail
        refine (rnext_any HR.out (ok.gone o)).mono ?_
        rintro e w3 ⟨a, rfl, hN, rfl⟩
        have HN := hide hN
        clear hN
        have ct := HR.out.t
        by_cases ha : a = 0
        · have hb : nz a = false := by rw [ha]; rfl
          have HF := hide (HO.out.fin HN.out (.inl ha))
          go_wp2_with fail
          go_ret
          exact DN.out _ _ HF.out HR.out HCC.out HW.out
        · have hb : nz a = true := by simpa [nz] using ha
          by_cases haT : T' < a
          · have HF := hide (HO.out.fin HN.out (.inr haT))
            go_wp2_with fail
            go_ret
            exact DN.out _ _ HF.out HR.out HCC.out HW.out
          · obtain ⟨hs1, hs2⟩ := HO.out.step ok HN.out ha (by omega)
            have HS1 := hide hs1
            have HS2 := hide hs2
            clear hs1 hs2
            go_wp2_with fail
            clear ct
            go_loopw [5, 9] (fun v i wq => ∃ (t : Nat), t ≤ 256 ∧ i = .int .i64 t ∧ wq.ownsRow w.heap.size 3 1 v (o ++ sel (gone f o) a t).length ((o ++ sel (gone f o) a t).map enI) ∧ RefT wq R T' (gone f (o ++ sel (gone f o) a t)) ∧ Chg [R] w wq) (fun _ i _ => 256 - (intOf i).toNat)
            case atStart => exact ⟨0, by omega, rfl, by rw [show sel (gone f o) a 0 = [] from rfl, List.append_nil]; exact HW.out, by rw [show sel (gone f o) a 0 = [] from rfl, List.append_nil]; exact HR.out, HCC.out⟩
            case round =>
              obtain ⟨t, ht, rfl, hrow, hr, hc⟩ := hrel
              have HRq := hide hr
              have HWq := hide hrow
              have HCq := hide hc
              have sl := sel_len (gone f o) a t
              have ln : (o ++ sel (gone f o) a t).length ≤ 512 := by rw [List.length_append]; omega
              clear sl hr
              by_cases htl : t < 256
              · have c1 := HRq.out.l htl
                rw [gone_sel] at c1
                by_cases he : (gone f o) t = a
                · rw [he] at c1
                  have Y := hide (sel_yes (g := (gone f o)) he)
                  have hbw := hc.size
                  clear hc
                  go_wp2_with (first
                    | (at_builtin; refine wpList_app2 rfl rfl Try.underlying33 inf_int rfl (by omega) rfl hrow hbw rfl rfl rfl (by simp [Value.oneCell']) (by unfold maxLen; omega) (by omega) ?_; intro v' w4 hown' hg4; have HG := hide hg4; have HO4 := hide hown'; have hr4 := Blk.row (Blk.ext HRq.out (Ext.alloc _ _)) hg4 (fun e => by have := own_row HWq.out R e.symm; omega); have HR4 := hide (show RefT w4 R T' (gone f (o ++ sel (gone f o) a t)) from hr4); have f4 := Blk.free hr4 (1 + t); have c4 := RefT.l HR4.out htl; clear hr4 hown' hg4; go_frame)
                    | go_in)
                  have hfin := HR4.out.set htl 0
                  rw [show upd (gone f (o ++ sel (gone f o) a t)) t 0 = gone f (o ++ sel (gone f o) a t ++ [t]) from gone_snoc f (o ++ sel (gone f o) a t) t] at hfin
                  have hc4 := (HCq.out.trans (Chg.alloc _ _ _)).of_row HG.out (own_row HWq.out)
                  have hc5 := hc4.set (p := ⟨R, 1 + t, none⟩) (.inl (by simp)) (.int .i64 0)
                  have hc6 := (Chg.refl [R] w4).set (p := ⟨R, 1 + t, none⟩) (.inl (by simp)) (.int .i64 0)
                  have ho5 := own_chg HO4.out hc6 (by simp; omega)
                  clear f4 c4
                  go_roundw
                  case rel => exact ⟨t + 1, by omega, by go_num, by rw [Y.out, ← List.append_assoc, List.length_append, List.map_append]; exact ho5, by rw [Y.out, ← List.append_assoc]; exact hfin, hc5⟩
                  case measure => simp [intOf]; omega
                · have Y := hide (sel_no (g := (gone f o)) he)
                  go_wp2_with fail
                  go_roundw
                  case rel => exact ⟨t + 1, by omega, by go_num, by rw [Y.out]; exact HWq.out, by rw [Y.out]; exact HRq.out, HCq.out⟩
                  case measure => simp [intOf]; omega
              · obtain rfl : t = 256 := by omega
                go_wp2_with fail
                go_roundw
                case rel => exact ⟨k + 1, _, by omega, by go_num, by have := HS2.out; omega, HS1.out, HWq.out, HRq.out, HCq.out⟩
                case measure => simp [intOf]; omega
      · have HF := hide (HO.out.full ok (by omega))
        go_wp2_with fail
        go_ret
        exact DN.out _ _ HF.out HR.out HCC.out HW.out
  · have hn1 : 0 < n := by omega
    by_cases hgt : 1099511627776 - T < n
    · by_cases hTM : T = 1099511627776
      · obtain ⟨T', hT'⟩ : ∃ T', T' = T := ⟨_, rfl⟩
        have HT : Hid (tkT T n = T') := by unfold Hid tkT tkN latI TM; rw [show max n 0 = n by omega, if_neg (by omega), hT', hTM]
        have HS : Hid (RefT w R T' f) := by rw [hT']; exact h
        have HC := hide (Chg.refl [R] w)
        have T0' : 0 ≤ T' := by omega
        have W2 : 1099511627776 - T = 0 := by omega
        clear hT' h hTM
        go_enter Try.func13, Try.ntmps13
        go_wp2_with fail
        clear ct f1 W1 hgt W2
        go_loopw [5, 6] (fun v i wr => ∃ (k : Nat) (o : List Nat), k ≤ 256 ∧ i = .int .i64 k ∧ k ≤ o.length ∧ OutR f T' o ∧ wr.ownsRow w.heap.size 3 1 v o.length (o.map enI) ∧ RefT wr R T' (gone f o) ∧ Chg [R] w wr) (fun _ i _ => 256 - (intOf i).toNat)
        case atStart => exact ⟨0, [], by omega, rfl, by omega, OutR.nil _ _, own_nil _ _ _ _, by rw [gone_nil]; exact HS.out, HC.out⟩
        case round =>
          obtain ⟨k, o, hk, rfl, hko, hO, hrow, hr, hc⟩ := hrel
          have HO := hide hO
          have HR := hide hr
          have HW := hide hrow
          have ol := hO.len ok
          have DN : Hid (∀ wx v, DueL f T' o → RefT wx R T' (gone f o) → Chg [R] w wx → wx.ownsRow w.heap.size 3 1 v o.length (o.map enI) → ∃ v1 l, (Ending.returned v = .returned v1) ∧ DueL f (tkT T n) l ∧ wx.ownsRow w.heap.size 3 1 v1 l.length (l.map enI) ∧ RefT wx R (tkT T n) (rest f (tkT T n)) ∧ Chg [R] w wx) := fun wx v hd h1 h2 h3 =>
            ⟨v, o, rfl, by rw [HT.out]; exact hd, h3, by rw [HT.out, ← gone_due hd T0']; exact h1, h2⟩
          have HCC := hide hc
          clear hO hr hrow hc
          by_cases hlt : k < 256
          · go_wp2_with fail
            refine (rnext_any HR.out (ok.gone o)).mono ?_
            rintro e w3 ⟨a, rfl, hN, rfl⟩
            have HN := hide hN
            clear hN
            have ct := HR.out.t
            by_cases ha : a = 0
            · have hb : nz a = false := by rw [ha]; rfl
              have HF := hide (HO.out.fin HN.out (.inl ha))
              go_wp2_with fail
              go_ret
              exact DN.out _ _ HF.out HR.out HCC.out HW.out
            · have hb : nz a = true := by simpa [nz] using ha
              by_cases haT : T' < a
              · have HF := hide (HO.out.fin HN.out (.inr haT))
                go_wp2_with fail
                go_ret
                exact DN.out _ _ HF.out HR.out HCC.out HW.out
              · obtain ⟨hs1, hs2⟩ := HO.out.step ok HN.out ha (by omega)
                have HS1 := hide hs1
                have HS2 := hide hs2
                clear hs1 hs2
                go_wp2_with fail
                clear ct
                go_loopw [5, 9] (fun v i wq => ∃ (t : Nat), t ≤ 256 ∧ i = .int .i64 t ∧ wq.ownsRow w.heap.size 3 1 v (o ++ sel (gone f o) a t).length ((o ++ sel (gone f o) a t).map enI) ∧ RefT wq R T' (gone f (o ++ sel (gone f o) a t)) ∧ Chg [R] w wq) (fun _ i _ => 256 - (intOf i).toNat)
                case atStart => exact ⟨0, by omega, rfl, by rw [show sel (gone f o) a 0 = [] from rfl, List.append_nil]; exact HW.out, by rw [show sel (gone f o) a 0 = [] from rfl, List.append_nil]; exact HR.out, HCC.out⟩
                case round =>
                  obtain ⟨t, ht, rfl, hrow, hr, hc⟩ := hrel
                  have HRq := hide hr
                  have HWq := hide hrow
                  have HCq := hide hc
                  have sl := sel_len (gone f o) a t
                  have ln : (o ++ sel (gone f o) a t).length ≤ 512 := by rw [List.length_append]; omega
                  clear sl hr
                  by_cases htl : t < 256
                  · have c1 := HRq.out.l htl
                    rw [gone_sel] at c1
                    by_cases he : (gone f o) t = a
                    · rw [he] at c1
                      have Y := hide (sel_yes (g := (gone f o)) he)
                      have hbw := hc.size
                      clear hc
                      go_wp2_with (first
                        | (at_builtin; refine wpList_app2 rfl rfl Try.underlying33 inf_int rfl (by omega) rfl hrow hbw rfl rfl rfl (by simp [Value.oneCell']) (by unfold maxLen; omega) (by omega) ?_; intro v' w4 hown' hg4; have HG := hide hg4; have HO4 := hide hown'; have hr4 := Blk.row (Blk.ext HRq.out (Ext.alloc _ _)) hg4 (fun e => by have := own_row HWq.out R e.symm; omega); have HR4 := hide (show RefT w4 R T' (gone f (o ++ sel (gone f o) a t)) from hr4); have f4 := Blk.free hr4 (1 + t); have c4 := RefT.l HR4.out htl; clear hr4 hown' hg4; go_frame)
                        | go_in)
                      have hfin := HR4.out.set htl 0
                      rw [show upd (gone f (o ++ sel (gone f o) a t)) t 0 = gone f (o ++ sel (gone f o) a t ++ [t]) from gone_snoc f (o ++ sel (gone f o) a t) t] at hfin
                      have hc4 := (HCq.out.trans (Chg.alloc _ _ _)).of_row HG.out (own_row HWq.out)
                      have hc5 := hc4.set (p := ⟨R, 1 + t, none⟩) (.inl (by simp)) (.int .i64 0)
                      have hc6 := (Chg.refl [R] w4).set (p := ⟨R, 1 + t, none⟩) (.inl (by simp)) (.int .i64 0)
                      have ho5 := own_chg HO4.out hc6 (by simp; omega)
                      clear f4 c4
                      go_roundw
                      case rel => exact ⟨t + 1, by omega, by go_num, by rw [Y.out, ← List.append_assoc, List.length_append, List.map_append]; exact ho5, by rw [Y.out, ← List.append_assoc]; exact hfin, hc5⟩
                      case measure => simp [intOf]; omega
                    · have Y := hide (sel_no (g := (gone f o)) he)
                      go_wp2_with fail
                      go_roundw
                      case rel => exact ⟨t + 1, by omega, by go_num, by rw [Y.out]; exact HWq.out, by rw [Y.out]; exact HRq.out, HCq.out⟩
                      case measure => simp [intOf]; omega
                  · obtain rfl : t = 256 := by omega
                    go_wp2_with fail
                    go_roundw
                    case rel => exact ⟨k + 1, _, by omega, by go_num, by have := HS2.out; omega, HS1.out, HWq.out, HRq.out, HCq.out⟩
                    case measure => simp [intOf]; omega
          · have HF := hide (HO.out.full ok (by omega))
            go_wp2_with fail
            go_ret
            exact DN.out _ _ HF.out HR.out HCC.out HW.out
      · obtain ⟨T', hT'⟩ : ∃ T' : Int, T' = 1099511627776 := ⟨_, rfl⟩
        have HT : Hid (tkT T n = T') := by unfold Hid tkT tkN latI TM; rw [show max n 0 = n by omega, if_neg (by omega), hT']
        have HS := hide (h.at T')
        have HC := hide ((Chg.refl [R] w).set (p := ⟨R, 0, none⟩) (.inl (by simp)) (.int .i64 T'))
        have T0' : 0 ≤ T' := by omega
        have W2 : IntKind.i64.wrap (T + (1099511627776 - T)) = T' := by rw [show T + (1099511627776 - T) = 1099511627776 by omega, hT']; rfl
        have W3 : 0 < 1099511627776 - T := by omega
        clear hT' h hTM
        go_enter Try.func13, Try.ntmps13
        go_wp2_with fail
        clear ct f1 W1 hgt W2 W3
        go_loopw [5, 6] (fun v i wr => ∃ (k : Nat) (o : List Nat), k ≤ 256 ∧ i = .int .i64 k ∧ k ≤ o.length ∧ OutR f T' o ∧ wr.ownsRow w.heap.size 3 1 v o.length (o.map enI) ∧ RefT wr R T' (gone f o) ∧ Chg [R] w wr) (fun _ i _ => 256 - (intOf i).toNat)
        case atStart => exact ⟨0, [], by omega, rfl, by omega, OutR.nil _ _, own_nil _ _ _ _, by rw [gone_nil]; exact HS.out, HC.out⟩
        case round =>
          obtain ⟨k, o, hk, rfl, hko, hO, hrow, hr, hc⟩ := hrel
          have HO := hide hO
          have HR := hide hr
          have HW := hide hrow
          have ol := hO.len ok
          have DN : Hid (∀ wx v, DueL f T' o → RefT wx R T' (gone f o) → Chg [R] w wx → wx.ownsRow w.heap.size 3 1 v o.length (o.map enI) → ∃ v1 l, (Ending.returned v = .returned v1) ∧ DueL f (tkT T n) l ∧ wx.ownsRow w.heap.size 3 1 v1 l.length (l.map enI) ∧ RefT wx R (tkT T n) (rest f (tkT T n)) ∧ Chg [R] w wx) := fun wx v hd h1 h2 h3 =>
            ⟨v, o, rfl, by rw [HT.out]; exact hd, h3, by rw [HT.out, ← gone_due hd T0']; exact h1, h2⟩
          have HCC := hide hc
          clear hO hr hrow hc
          by_cases hlt : k < 256
          · go_wp2_with fail
            refine (rnext_any HR.out (ok.gone o)).mono ?_
            rintro e w3 ⟨a, rfl, hN, rfl⟩
            have HN := hide hN
            clear hN
            have ct := HR.out.t
            by_cases ha : a = 0
            · have hb : nz a = false := by rw [ha]; rfl
              have HF := hide (HO.out.fin HN.out (.inl ha))
              go_wp2_with fail
              go_ret
              exact DN.out _ _ HF.out HR.out HCC.out HW.out
            · have hb : nz a = true := by simpa [nz] using ha
              by_cases haT : T' < a
              · have HF := hide (HO.out.fin HN.out (.inr haT))
                go_wp2_with fail
                go_ret
                exact DN.out _ _ HF.out HR.out HCC.out HW.out
              · obtain ⟨hs1, hs2⟩ := HO.out.step ok HN.out ha (by omega)
                have HS1 := hide hs1
                have HS2 := hide hs2
                clear hs1 hs2
                go_wp2_with fail
                clear ct
                go_loopw [5, 9] (fun v i wq => ∃ (t : Nat), t ≤ 256 ∧ i = .int .i64 t ∧ wq.ownsRow w.heap.size 3 1 v (o ++ sel (gone f o) a t).length ((o ++ sel (gone f o) a t).map enI) ∧ RefT wq R T' (gone f (o ++ sel (gone f o) a t)) ∧ Chg [R] w wq) (fun _ i _ => 256 - (intOf i).toNat)
                case atStart => exact ⟨0, by omega, rfl, by rw [show sel (gone f o) a 0 = [] from rfl, List.append_nil]; exact HW.out, by rw [show sel (gone f o) a 0 = [] from rfl, List.append_nil]; exact HR.out, HCC.out⟩
                case round =>
                  obtain ⟨t, ht, rfl, hrow, hr, hc⟩ := hrel
                  have HRq := hide hr
                  have HWq := hide hrow
                  have HCq := hide hc
                  have sl := sel_len (gone f o) a t
                  have ln : (o ++ sel (gone f o) a t).length ≤ 512 := by rw [List.length_append]; omega
                  clear sl hr
                  by_cases htl : t < 256
                  · have c1 := HRq.out.l htl
                    rw [gone_sel] at c1
                    by_cases he : (gone f o) t = a
                    · rw [he] at c1
                      have Y := hide (sel_yes (g := (gone f o)) he)
                      have hbw := hc.size
                      clear hc
                      go_wp2_with (first
                        | (at_builtin; refine wpList_app2 rfl rfl Try.underlying33 inf_int rfl (by omega) rfl hrow hbw rfl rfl rfl (by simp [Value.oneCell']) (by unfold maxLen; omega) (by omega) ?_; intro v' w4 hown' hg4; have HG := hide hg4; have HO4 := hide hown'; have hr4 := Blk.row (Blk.ext HRq.out (Ext.alloc _ _)) hg4 (fun e => by have := own_row HWq.out R e.symm; omega); have HR4 := hide (show RefT w4 R T' (gone f (o ++ sel (gone f o) a t)) from hr4); have f4 := Blk.free hr4 (1 + t); have c4 := RefT.l HR4.out htl; clear hr4 hown' hg4; go_frame)
                        | go_in)
                      have hfin := HR4.out.set htl 0
                      rw [show upd (gone f (o ++ sel (gone f o) a t)) t 0 = gone f (o ++ sel (gone f o) a t ++ [t]) from gone_snoc f (o ++ sel (gone f o) a t) t] at hfin
                      have hc4 := (HCq.out.trans (Chg.alloc _ _ _)).of_row HG.out (own_row HWq.out)
                      have hc5 := hc4.set (p := ⟨R, 1 + t, none⟩) (.inl (by simp)) (.int .i64 0)
                      have hc6 := (Chg.refl [R] w4).set (p := ⟨R, 1 + t, none⟩) (.inl (by simp)) (.int .i64 0)
                      have ho5 := own_chg HO4.out hc6 (by simp; omega)
                      clear f4 c4
                      go_roundw
                      case rel => exact ⟨t + 1, by omega, by go_num, by rw [Y.out, ← List.append_assoc, List.length_append, List.map_append]; exact ho5, by rw [Y.out, ← List.append_assoc]; exact hfin, hc5⟩
                      case measure => simp [intOf]; omega
                    · have Y := hide (sel_no (g := (gone f o)) he)
                      go_wp2_with fail
                      go_roundw
                      case rel => exact ⟨t + 1, by omega, by go_num, by rw [Y.out]; exact HWq.out, by rw [Y.out]; exact HRq.out, HCq.out⟩
                      case measure => simp [intOf]; omega
                  · obtain rfl : t = 256 := by omega
                    go_wp2_with fail
                    go_roundw
                    case rel => exact ⟨k + 1, _, by omega, by go_num, by have := HS2.out; omega, HS1.out, HWq.out, HRq.out, HCq.out⟩
                    case measure => simp [intOf]; omega
          · have HF := hide (HO.out.full ok (by omega))
            go_wp2_with fail
            go_ret
            exact DN.out _ _ HF.out HR.out HCC.out HW.out
    · obtain ⟨T', hT'⟩ : ∃ T' : Int, T' = T + n := ⟨_, rfl⟩
      have HT : Hid (tkT T n = T') := by unfold Hid tkT tkN latI TM; rw [show max n 0 = n by omega, if_pos (by omega), hT']
      have HS := hide (h.at T')
      have HC := hide ((Chg.refl [R] w).set (p := ⟨R, 0, none⟩) (.inl (by simp)) (.int .i64 T'))
      have T0' : 0 ≤ T' := by omega
      have W2 : IntKind.i64.wrap (T + n) = T' := by rw [hT']; exact wrapI (by omega) (by omega)
      clear hT' h
      go_enter Try.func13, Try.ntmps13
      go_wp2_with fail
      clear ct f1 W1 hgt W2
      go_loopw [5, 6] (fun v i wr => ∃ (k : Nat) (o : List Nat), k ≤ 256 ∧ i = .int .i64 k ∧ k ≤ o.length ∧ OutR f T' o ∧ wr.ownsRow w.heap.size 3 1 v o.length (o.map enI) ∧ RefT wr R T' (gone f o) ∧ Chg [R] w wr) (fun _ i _ => 256 - (intOf i).toNat)
      case atStart => exact ⟨0, [], by omega, rfl, by omega, OutR.nil _ _, own_nil _ _ _ _, by rw [gone_nil]; exact HS.out, HC.out⟩
      case round =>
        obtain ⟨k, o, hk, rfl, hko, hO, hrow, hr, hc⟩ := hrel
        have HO := hide hO
        have HR := hide hr
        have HW := hide hrow
        have ol := hO.len ok
        have DN : Hid (∀ wx v, DueL f T' o → RefT wx R T' (gone f o) → Chg [R] w wx → wx.ownsRow w.heap.size 3 1 v o.length (o.map enI) → ∃ v1 l, (Ending.returned v = .returned v1) ∧ DueL f (tkT T n) l ∧ wx.ownsRow w.heap.size 3 1 v1 l.length (l.map enI) ∧ RefT wx R (tkT T n) (rest f (tkT T n)) ∧ Chg [R] w wx) := fun wx v hd h1 h2 h3 =>
          ⟨v, o, rfl, by rw [HT.out]; exact hd, h3, by rw [HT.out, ← gone_due hd T0']; exact h1, h2⟩
        have HCC := hide hc
        clear hO hr hrow hc
        by_cases hlt : k < 256
        · go_wp2_with fail
          refine (rnext_any HR.out (ok.gone o)).mono ?_
          rintro e w3 ⟨a, rfl, hN, rfl⟩
          have HN := hide hN
          clear hN
          have ct := HR.out.t
          by_cases ha : a = 0
          · have hb : nz a = false := by rw [ha]; rfl
            have HF := hide (HO.out.fin HN.out (.inl ha))
            go_wp2_with fail
            go_ret
            exact DN.out _ _ HF.out HR.out HCC.out HW.out
          · have hb : nz a = true := by simpa [nz] using ha
            by_cases haT : T' < a
            · have HF := hide (HO.out.fin HN.out (.inr haT))
              go_wp2_with fail
              go_ret
              exact DN.out _ _ HF.out HR.out HCC.out HW.out
            · obtain ⟨hs1, hs2⟩ := HO.out.step ok HN.out ha (by omega)
              have HS1 := hide hs1
              have HS2 := hide hs2
              clear hs1 hs2
              go_wp2_with fail
              clear ct
              go_loopw [5, 9] (fun v i wq => ∃ (t : Nat), t ≤ 256 ∧ i = .int .i64 t ∧ wq.ownsRow w.heap.size 3 1 v (o ++ sel (gone f o) a t).length ((o ++ sel (gone f o) a t).map enI) ∧ RefT wq R T' (gone f (o ++ sel (gone f o) a t)) ∧ Chg [R] w wq) (fun _ i _ => 256 - (intOf i).toNat)
              case atStart => exact ⟨0, by omega, rfl, by rw [show sel (gone f o) a 0 = [] from rfl, List.append_nil]; exact HW.out, by rw [show sel (gone f o) a 0 = [] from rfl, List.append_nil]; exact HR.out, HCC.out⟩
              case round =>
                obtain ⟨t, ht, rfl, hrow, hr, hc⟩ := hrel
                have HRq := hide hr
                have HWq := hide hrow
                have HCq := hide hc
                have sl := sel_len (gone f o) a t
                have ln : (o ++ sel (gone f o) a t).length ≤ 512 := by rw [List.length_append]; omega
                clear sl hr
                by_cases htl : t < 256
                · have c1 := HRq.out.l htl
                  rw [gone_sel] at c1
                  by_cases he : (gone f o) t = a
                  · rw [he] at c1
                    have Y := hide (sel_yes (g := (gone f o)) he)
                    have hbw := hc.size
                    clear hc
                    go_wp2_with (first
                      | (at_builtin; refine wpList_app2 rfl rfl Try.underlying33 inf_int rfl (by omega) rfl hrow hbw rfl rfl rfl (by simp [Value.oneCell']) (by unfold maxLen; omega) (by omega) ?_; intro v' w4 hown' hg4; have HG := hide hg4; have HO4 := hide hown'; have hr4 := Blk.row (Blk.ext HRq.out (Ext.alloc _ _)) hg4 (fun e => by have := own_row HWq.out R e.symm; omega); have HR4 := hide (show RefT w4 R T' (gone f (o ++ sel (gone f o) a t)) from hr4); have f4 := Blk.free hr4 (1 + t); have c4 := RefT.l HR4.out htl; clear hr4 hown' hg4; go_frame)
                      | go_in)
                    have hfin := HR4.out.set htl 0
                    rw [show upd (gone f (o ++ sel (gone f o) a t)) t 0 = gone f (o ++ sel (gone f o) a t ++ [t]) from gone_snoc f (o ++ sel (gone f o) a t) t] at hfin
                    have hc4 := (HCq.out.trans (Chg.alloc _ _ _)).of_row HG.out (own_row HWq.out)
                    have hc5 := hc4.set (p := ⟨R, 1 + t, none⟩) (.inl (by simp)) (.int .i64 0)
                    have hc6 := (Chg.refl [R] w4).set (p := ⟨R, 1 + t, none⟩) (.inl (by simp)) (.int .i64 0)
                    have ho5 := own_chg HO4.out hc6 (by simp; omega)
                    clear f4 c4
                    go_roundw
                    case rel => exact ⟨t + 1, by omega, by go_num, by rw [Y.out, ← List.append_assoc, List.length_append, List.map_append]; exact ho5, by rw [Y.out, ← List.append_assoc]; exact hfin, hc5⟩
                    case measure => simp [intOf]; omega
                  · have Y := hide (sel_no (g := (gone f o)) he)
                    go_wp2_with fail
                    go_roundw
                    case rel => exact ⟨t + 1, by omega, by go_num, by rw [Y.out]; exact HWq.out, by rw [Y.out]; exact HRq.out, HCq.out⟩
                    case measure => simp [intOf]; omega
                · obtain rfl : t = 256 := by omega
                  go_wp2_with fail
                  go_roundw
                  case rel => exact ⟨k + 1, _, by omega, by go_num, by have := HS2.out; omega, HS1.out, HWq.out, HRq.out, HCq.out⟩
                  case measure => simp [intOf]; omega
        · have HF := hide (HO.out.full ok (by omega))
          go_wp2_with fail
          go_ret
          exact DN.out _ _ HF.out HR.out HCC.out HW.out
end Go.Proofs.Ytgfhpgbklcjooaa
