/- A clone of classes; the same objects, the same classes; too many. -/
import Derived.Test.YtecopjehmpjniaaDoorC4
namespace Go.Proofs.YtecopjehmpjniaaDoor
open Go.RowKit
set_option linter.unusedSimpArgs false
set_option linter.unusedVariables false
set_option maxRecDepth 100000


theorem fl_one_kc (l : List Kl) : ∀ u ∈ fl kc l, u.oneCell' = true := by
  intro u hu
  obtain ⟨x, _, hx⟩ := List.mem_flatMap.1 hu
  simp [kc] at hx
  rcases hx with rfl | rfl | rfl <;> rfl
theorem own_emptyK (w : World) (base : Nat) (hb : base ≤ w.heap.size) : (w.alloc (.cells #[] 51)).ownsRow base 51 3 (.slice (some ⟨w.heap.size, 0, none⟩) 0 0) 0 [] :=
  ⟨by simp, .inr ⟨w.heap.size, 0, #[], rfl, hb, heap_alloc_new w _, Nat.le_refl _, by unfold maxLen; omega, by simp, by simp⟩⟩
theorem run_nil1 (w : World) : Sem.run Tryd.prog (binOp .eql 42 (.slice none 0 0) (.slice none 0 0)) w = .ok (.bool true) w := by kernel_rfl
theorem run_nil2 (b : Addr) (n c : Nat) (w : World) : Sem.run Tryd.prog (binOp .eql 42 (.slice (some b) n c) (.slice none 0 0)) w = .ok (.bool false) w := by kernel_rfl
theorem clone_any {w : World} {base : Nat} {v : Value} {l : List Kl} (h : w.ownsRow base 51 3 v l.length (fl kc l)) (hl : l.length ≤ 70000) :
    Calls Tryd.prog 31 #[v] w fun e w' => ∃ v', e = .returned v' ∧ w'.ownsRow w.heap.size 51 3 v' l.length (fl kc l) ∧ Ext w w' := by
  have hx := h.2
  rcases hx with ⟨rfl, h0⟩ | ⟨g, cap, cur, rfl, hb, hh, h3, h4, h5, h6⟩
  · have e0 : l = [] := List.eq_nil_of_length_eq_zero h0
    subst e0
    clear h
    have RN := run_nil1
    go_enter Tryd.func31, Tryd.ntmps31
    go_wp2_with fail
    go_ret
    exact ⟨_, rfl, own_nil _ _ _ _, Ext.refl _⟩
  · obtain ⟨i, hi, hz, hsize, hb2⟩ := info_parts inf_cls
    have HC := hide ((own_ext h (Ext.alloc w (.cells #[] 51))).cells rfl)
    have H1 := hide (fl_one_kc l)
    have HL := hide (fl_len kc_size l)
    clear h hh h3 h4 h5 h6 hb
    have RN := run_nil2
    go_enter Tryd.func31, Tryd.ntmps31
    go_wp2_with (first
      | (at_builtin; refine wpList_append_own _ rfl _ _ 42 rfl w.heap.size 51 i (.agg #[.bool false, .int .u8 0, .int .i64 0]) 3 16 Tryd.underlying42 hi hz hsize hb2 rfl (by omega) _ 0 [] rfl (own_emptyK w w.heap.size (Nat.le_refl _)) ⟨g, 0, none⟩ l.length cap (fl kc l) rfl HL.out HC.out H1.out (by unfold maxLen; omega) (by omega) (by simp) ?_; intro v' w2 hown hg _; go_frame)
      | go_in)
    go_ret
    rw [Nat.zero_add, List.nil_append] at hown
    exact ⟨v', by simp, hown, Ext.grown (Ext.alloc _ _) hg (by intro k hk; cases hk; exact Nat.le_refl _)⟩
set_option maxHeartbeats 400000 in
theorem theirK_any (A : Option Addr) (c : Nat) (l : List Kl) (w : World) (B : Nat) (hB : B ≤ w.heap.size) (hs : Sl w B 3 A l.length (fl kc l)) (h40 : l.length ≤ 600) :
    Calls Tryd.prog 15 #[.slice A l.length c] w fun e w' => ∃ v, e = .returned v ∧ w'.ownsRow w.heap.size 51 3 v l.length (fl kc l) ∧ Ext w w' := by
  have hX0 := Ext.refl w
  have hW := Ext.refl w
  go_enter Tryd.func15, Tryd.ntmps15
  go_wp2_with fail
  go_loopw [3, 8] (fun v i wr => ∃ j : Nat, j ≤ l.length ∧ i = .int .i64 j ∧ wr.ownsRow w.heap.size 51 3 v j (fl kc (l.take j)) ∧ Ext w wr) (fun _ i _ => l.length - (intOf i).toNat)
  case atStart => exact ⟨0, by omega, rfl, own_nil _ _ _ _, hW⟩
  case round =>
    clear hW
    obtain ⟨j, hj, rfl, hown, hW⟩ := hrel
    by_cases hlt : j < l.length
    · have HT := hide (fl_take (enc := kc) l j hlt)
      obtain ⟨b, off, rfl, hb, r0, r1, r2⟩ := sl_cls hs rfl hB hlt
      generalize l[j] = y at *
      obtain ⟨y0, y1, y2⟩ := y
      simp only [kc] at HT
      go_wp2_with (at_builtin; refine wpList_app1 rfl rfl Tryd.underlying42 inf_cls rfl (by omega) rfl (own_ext hown (Ext.alloc _ _)) (hW.trans (Ext.alloc _ _)) rfl (by simp) rfl (by simp [Value.oneCell']) (by unfold maxLen; omega) (by omega) ?_; intro v' w2 hown hW)
      go_roundw
      case rel => exact ⟨j + 1, by omega, by go_num, by rw [HT.out]; exact hown, hW⟩
      case measure => simp [intOf]; omega
    · have e : l.take j = l := List.take_of_length_le (by omega)
      rw [e] at hown
      have e2 : j = l.length := by omega
      rw [e2] at hown
      clear e e2
      go_wp2
      go_ret
      exact ⟨_, rfl, hown, (hX0.trans (hW.trans (by repeat (first | exact Ext.refl _ | exact Ext.alloc _ _ | exact Ext.drewN _ _ | assumption | refine Ext.trans ?_ (Ext.alloc _ _) | refine Ext.trans ?_ (Ext.drew _) | refine Ext.trans ?_ (by assumption)))))⟩
set_option maxHeartbeats 400000 in
theorem theirs_any (A : Option Addr) (c : Nat) (l : List Ob) (w : World) (B : Nat) (hB : B ≤ w.heap.size) (hs : Sl w B 3 A l.length (fl sc l)) (h40 : l.length ≤ 600) :
    Calls Tryd.prog 14 #[.slice A l.length c] w fun e w' => ∃ v, e = .returned v ∧ w'.ownsRow w.heap.size 31 3 v l.length (fl sc l) ∧ Ext w w' := by
  have hX0 := Ext.refl w
  have hW := Ext.refl w
  go_enter Tryd.func14, Tryd.ntmps14
  go_wp2_with fail
  go_loopw [3, 8] (fun v i wr => ∃ j : Nat, j ≤ l.length ∧ i = .int .i64 j ∧ wr.ownsRow w.heap.size 31 3 v j (fl sc (l.take j)) ∧ Ext w wr) (fun _ i _ => l.length - (intOf i).toNat)
  case atStart => exact ⟨0, by omega, rfl, own_nil _ _ _ _, hW⟩
  case round =>
    clear hW
    obtain ⟨j, hj, rfl, hown, hW⟩ := hrel
    by_cases hlt : j < l.length
    · have HT := hide (fl_take (enc := sc) l j hlt)
      obtain ⟨b, off, rfl, hb, r0, r1, r2⟩ := sl_obj hs rfl hB hlt
      generalize l[j] = y at *
      obtain ⟨y0, y1, y2, y3, y4⟩ := y
      simp only [sc] at HT
      go_wp2_with (at_builtin; refine wpList_app1 rfl rfl Tryd.underlying47 inf_obj rfl (by omega) rfl (own_ext hown (Ext.alloc _ _)) (hW.trans (Ext.alloc _ _)) rfl (by simp) rfl (by simp [Value.oneCell']) (by unfold maxLen; omega) (by omega) ?_; intro v' w2 hown hW)
      go_roundw
      case rel => exact ⟨j + 1, by omega, by go_num, by rw [HT.out]; exact hown, hW⟩
      case measure => simp [intOf]; omega
    · have e : l.take j = l := List.take_of_length_le (by omega)
      rw [e] at hown
      have e2 : j = l.length := by omega
      rw [e2] at hown
      clear e e2
      go_wp2
      go_ret
      exact ⟨_, rfl, hown, (hX0.trans (hW.trans (by repeat (first | exact Ext.refl _ | exact Ext.alloc _ _ | exact Ext.drewN _ _ | assumption | refine Ext.trans ?_ (Ext.alloc _ _) | refine Ext.trans ?_ (Ext.drew _) | refine Ext.trans ?_ (by assumption)))))⟩
def farN (f : Nat → Nat) : Nat → Nat
  | 0 => 0
  | k + 1 => farN f k + min (f k) 1000
theorem farN_le (f : Nat → Nat) (k : Nat) : farN f k ≤ 1000 * k := by
  induction k with
  | zero => simp [farN]
  | succ k ih => simp only [farN]; omega
def FarR (n m : Nat) (e : Ending) : Prop := ∃ b : Bool, e = .returned (.bool b) ∧ (b = false → n ≤ 600 ∧ m ≤ 600)
set_option maxHeartbeats 1000000 in
theorem far_any {w : World} {B : Nat} {A A2 : Option Addr} {c c2 m : Nat} {l : List Ob} (hs : Sl w B 3 A l.length (fl sc l)) (hB : B ≤ w.heap.size) (hx : ∀ x, x ∈ l → OkO w x) (hn : l.length ≤ c) (hc : c ≤ maxLen) (hm : m ≤ maxLen) :
    Calls Tryd.prog 12 #[.slice A l.length c, .slice A2 m c2] w fun e w' => FarR l.length m e ∧ Ext w w' := by
  have HX0 := hide hx
  have hX := Ext.refl w
  have HS := hide hs
  unfold maxLen at hc hm
  clear hx hs
  obtain ⟨f, HF⟩ : ∃ f : Nat → Nat, Hid (∀ j (h : j < l.length), farN f (j + 1) = farN f j + min (l[j]).l.length 1000) :=
    ⟨fun j => ((l[j]?).getD default).l.length, fun j h => by simp [farN, h]⟩
  by_cases q : (l.length : Int) ≤ 300
  · go_enter Tryd.func12, Tryd.ntmps12
    go_wp2_with fail
    go_loopw [5, 14] (fun v i wr => ∃ j : Nat, j ≤ l.length ∧ v = .int .i64 (farN f j : Int) ∧ i = .int .i64 (j : Int) ∧ Ext w wr) (fun _ i _ => l.length - (intOf i).toNat)
    case atStart => exact ⟨0, by omega, rfl, rfl, hX⟩
    case round =>
      clear hX
      obtain ⟨j, hj, rfl, rfl, hX⟩ := hrel
      by_cases hlt : j < l.length
      · have hj2 : j < l.length := by omega
        obtain ⟨b, off, rfl, hb, r0, r1, r2⟩ := sl_obj HS.out rfl hB hj2
        have ok := HX0.out l[j] (List.getElem_mem hj2)
        have hF := farN_le f j
        have hlen := ok.len
        have hcap := ok.cap
        unfold maxLen at hcap
        have E := hide (HF.out j hj2)
        obtain ⟨x, hx⟩ : ∃ x, x = l[j] := ⟨_, rfl⟩
        rw [← hx] at r0 r1 r2 E hlen hcap
        clear ok hx
        have r0 := r0 wr hX
        have r1 := r1 wr hX
        have r2 := r2 wr hX
        have HX := hide hX
        clear hX
        by_cases hb : (x.l.length : Int) ≤ 1000
        · have EM := hide (show min x.l.length 1000 = x.l.length by omega)
          go_wp2_with fail
          go_roundw
          case rel => exact ⟨j + 1, by omega, by rw [E.out, EM.out]; go_num, by go_num, HX.out.trans (Ext.alloc _ _)⟩
          case measure => simp [intOf]; omega
        · have EM := hide (show min x.l.length 1000 = 1000 by omega)
          go_wp2_with fail
          go_roundw
          case rel => exact ⟨j + 1, by omega, by rw [E.out, EM.out]; go_num, by go_num, HX.out.trans (Ext.alloc _ _)⟩
          case measure => simp [intOf]; omega
      · obtain rfl : j = l.length := by omega
        have hF := farN_le f (l.length)
        generalize farN f (l.length) = N at *
        by_cases c3 : 600 < (m : Int)
        · by_cases c1 : 60 < (l.length : Int)
          · by_cases c2 : (l.length : Int) ≤ 256
            · go_wp2_with fail
              go_ret
              exact ⟨⟨_, rfl, by simp <;> omega⟩, hX⟩
            · go_wp2_with fail
              go_ret
              exact ⟨⟨_, rfl, by simp <;> omega⟩, hX⟩
          · go_wp2_with fail
            go_ret
            exact ⟨⟨_, rfl, by simp <;> omega⟩, hX⟩
        · by_cases c1 : 60 < (l.length : Int)
          · by_cases c2 : (l.length : Int) ≤ 256
            · go_wp2_with fail
              go_ret
              exact ⟨⟨_, rfl, by simp <;> omega⟩, hX⟩
            · by_cases c5 : 600 < (l.length : Int)
              · go_wp2_with fail
                go_ret
                exact ⟨⟨_, rfl, by simp <;> omega⟩, hX⟩
              · by_cases c4 : 2000 < (N : Int)
                · go_wp2_with fail
                  go_ret
                  exact ⟨⟨_, rfl, by simp <;> omega⟩, hX⟩
                · go_wp2_with fail
                  go_ret
                  exact ⟨⟨_, rfl, by simp <;> omega⟩, hX⟩
          · have c5 : ¬ 600 < (l.length : Int) := by omega
            by_cases c4 : 2000 < (N : Int)
            · go_wp2_with fail
              go_ret
              exact ⟨⟨_, rfl, by simp <;> omega⟩, hX⟩
            · go_wp2_with fail
              go_ret
              exact ⟨⟨_, rfl, by simp <;> omega⟩, hX⟩
  · have q2 : (300 : Int) < l.length := by omega
    have q3 : 300 ≤ c := by omega
    go_enter Tryd.func12, Tryd.ntmps12
    go_wp2_with fail
    go_loopw [5, 14] (fun v i wr => ∃ j : Nat, j ≤ 300 ∧ v = .int .i64 (farN f j : Int) ∧ i = .int .i64 (j : Int) ∧ Ext w wr) (fun _ i _ => 300 - (intOf i).toNat)
    case atStart => exact ⟨0, by omega, rfl, rfl, hX⟩
    case round =>
      clear hX
      obtain ⟨j, hj, rfl, rfl, hX⟩ := hrel
      by_cases hlt : j < 300
      · have hj2 : j < l.length := by omega
        obtain ⟨b, off, rfl, hb, r0, r1, r2⟩ := sl_obj HS.out rfl hB hj2
        have ok := HX0.out l[j] (List.getElem_mem hj2)
        have hF := farN_le f j
        have hlen := ok.len
        have hcap := ok.cap
        unfold maxLen at hcap
        have E := hide (HF.out j hj2)
        obtain ⟨x, hx⟩ : ∃ x, x = l[j] := ⟨_, rfl⟩
        rw [← hx] at r0 r1 r2 E hlen hcap
        clear ok hx
        have r0 := r0 wr hX
        have r1 := r1 wr hX
        have r2 := r2 wr hX
        have HX := hide hX
        clear hX
        by_cases hb : (x.l.length : Int) ≤ 1000
        · have EM := hide (show min x.l.length 1000 = x.l.length by omega)
          go_wp2_with fail
          go_roundw
          case rel => exact ⟨j + 1, by omega, by rw [E.out, EM.out]; go_num, by go_num, HX.out.trans (Ext.alloc _ _)⟩
          case measure => simp [intOf]; omega
        · have EM := hide (show min x.l.length 1000 = 1000 by omega)
          go_wp2_with fail
          go_roundw
          case rel => exact ⟨j + 1, by omega, by rw [E.out, EM.out]; go_num, by go_num, HX.out.trans (Ext.alloc _ _)⟩
          case measure => simp [intOf]; omega
      · obtain rfl : j = 300 := by omega
        have hF := farN_le f (300)
        generalize farN f (300) = N at *
        by_cases c3 : 600 < (m : Int)
        · by_cases c1 : 60 < (l.length : Int)
          · by_cases c2 : (l.length : Int) ≤ 256
            · go_wp2_with fail
              go_ret
              exact ⟨⟨_, rfl, by simp <;> omega⟩, hX⟩
            · go_wp2_with fail
              go_ret
              exact ⟨⟨_, rfl, by simp <;> omega⟩, hX⟩
          · go_wp2_with fail
            go_ret
            exact ⟨⟨_, rfl, by simp <;> omega⟩, hX⟩
        · by_cases c1 : 60 < (l.length : Int)
          · by_cases c2 : (l.length : Int) ≤ 256
            · go_wp2_with fail
              go_ret
              exact ⟨⟨_, rfl, by simp <;> omega⟩, hX⟩
            · by_cases c5 : 600 < (l.length : Int)
              · go_wp2_with fail
                go_ret
                exact ⟨⟨_, rfl, by simp <;> omega⟩, hX⟩
              · by_cases c4 : 2000 < (N : Int)
                · go_wp2_with fail
                  go_ret
                  exact ⟨⟨_, rfl, by simp <;> omega⟩, hX⟩
                · go_wp2_with fail
                  go_ret
                  exact ⟨⟨_, rfl, by simp <;> omega⟩, hX⟩
          · have c5 : ¬ 600 < (l.length : Int) := by omega
            by_cases c4 : 2000 < (N : Int)
            · go_wp2_with fail
              go_ret
              exact ⟨⟨_, rfl, by simp <;> omega⟩, hX⟩
            · go_wp2_with fail
              go_ret
              exact ⟨⟨_, rfl, by simp <;> omega⟩, hX⟩
end Go.Proofs.YtecopjehmpjniaaDoor
