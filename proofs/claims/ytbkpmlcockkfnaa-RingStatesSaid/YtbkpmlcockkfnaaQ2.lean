/- The library's IndexFunc, ContainsFunc, Grow, Concat; All. -/
import Derived.Test.YtbkpmlcockkfnaaQ1
import Derived.Laws.AppendOwnNone
namespace Go.Proofs.Ytbkpmlcockkfnaa
open Go.RowKit
set_option linter.unusedSimpArgs false
set_option linter.unusedVariables false
set_option maxRecDepth 100000

theorem indexF_any {w : World} {A : Option Addr} {c : Nat} {l : List Wt} (t k : Int) (h : Ch w A l) (hl : l.length ≤ 70000) : Calls Try.prog 23 #[.slice A l.length c, (Value.func (.func 24) #[(Value.agg #[.int .i64 t, .int .i64 k])] #[])] w fun e w' => e = .returned (.int .i64 (ixI l t)) ∧ Ext w w' := by
  have H := hide h
  have hX0 := Ext.refl w
  clear h
  go_enter Try.func23, Try.ntmps23
  go_wp2_with fail
  go_loopw [8] (fun i wr => ∃ j : Nat, j ≤ l.length ∧ i = .int .i64 (j : Int) ∧ (∀ i (hi : i < j) (h : i < l.length), (l[i]).1 ≠ t) ∧ Ext w wr) (fun i _ => l.length - (intOf i).toNat)
  case atStart => exact ⟨0, by omega, rfl, fun i hi => by omega, hX0⟩
  case round =>
    clear hX0
    obtain ⟨j, hj, rfl, hb, hX⟩ := hrel
    by_cases hlt : j < l.length
    · obtain ⟨b, off, rfl, r⟩ := (H.out.ext hX).at_ hlt
      obtain ⟨r0, r1⟩ := r wr (Ext.refl _)
      have hcall := sameT_any t k (l[j]).1 (l[j]).2 wr
      clear r
      by_cases e : (l[j]).1 = t
      · have E := hide (show ixI l t = (j : Int) by
          unfold ixI
          rw [if_pos (hasT_mem hlt e), ix_first l hlt (fun i hi => hb i hi (by omega)) e])
        rw [show ((l[j]).1 == t) = true by simp [e]] at hcall
        clear hb
        generalize l[j] = x at *
        clear e
        go_wp2_with fail
        refine hcall.mono ?_
        rintro e w1 ⟨rfl, hx⟩
        go_wp2_with fail
        go_ret
        exact ⟨by rw [E.out]; simp, hX.trans hx⟩
      · rw [show ((l[j]).1 == t) = false by simp [e]] at hcall
        have HB := hide hb
        have HE := hide e
        have HX := hide hX
        clear hb e hX
        go_wp2_with fail
        refine hcall.mono ?_
        rintro e w1 ⟨rfl, hx⟩
        go_wp2_with fail
        go_roundw
        case rel => exact ⟨j + 1, by omega, by go_num, fun i hi h => by
          by_cases q : i = j
          · subst q; exact HE.out
          · exact HB.out i (by omega) h, HX.out.trans hx⟩
        case measure => simp [intOf]; omega
    · have E := hide (show ixI l t = -1 by
        unfold ixI
        rw [if_neg]
        intro hm
        exact hb (ixN l t) (by have := ix_lt hm; omega) (ix_lt hm) (ix_at hm))
      obtain rfl : j = l.length := by omega
      clear hb
      go_wp2_with fail
      go_ret
      exact ⟨by rw [E.out]; simp, hX⟩
theorem contF_any {w : World} {A : Option Addr} {c : Nat} {l : List Wt} (t k : Int) (h : Ch w A l) (hl : l.length ≤ 70000) : Calls Try.prog 27 #[.slice A l.length c, (Value.func (.func 24) #[(Value.agg #[.int .i64 t, .int .i64 k])] #[])] w fun e w' => e = .returned (.bool (hasT l t)) ∧ Ext w w' := by
  have hc := indexF_any (c := c) t k h hl
  unfold ixI at hc
  cases e : hasT l t with
  | true =>
    rw [if_pos e] at hc
    generalize ixN l t = q at *
    clear e
    go_enter Try.func27, Try.ntmps27
    go_wp2_with fail
    refine hc.mono ?_
    rintro e w1 ⟨rfl, hx⟩
    go_wp2_with fail
    go_ret
    exact ⟨by simp, hx⟩
  | false =>
    rw [if_neg (by rw [e]; decide)] at hc
    clear e
    go_enter Try.func27, Try.ntmps27
    go_wp2_with fail
    refine hc.mono ?_
    rintro e w1 ⟨rfl, hx⟩
    go_wp2_with fail
    go_ret
    exact ⟨by simp, hx⟩
theorem zero_pairs (m : Nat) : (Builtin.zeroCells (Value.agg #[.int .i64 0, .int .i64 0]).cells m).toList = rcells (List.replicate m (0, 0)) := by
  apply List.ext_getElem?
  intro j
  by_cases hj : j < m * 2
  · have hc : (Value.agg #[Value.int .i64 0, Value.int .i64 0]).cells = #[.int .i64 0, .int .i64 0] := rfl
    rw [hc]
    unfold Builtin.zeroCells
    rw [Array.getElem?_toList, Array.getElem?_map, Array.getElem?_range]
    simp only [List.size_toArray, List.length_cons, List.length_nil]
    rw [if_pos (by omega)]
    have h1 := rcells_at (List.replicate m ((0 : Int), (0 : Int))) (j / 2) (by simp; omega)
    rcases Nat.mod_two_eq_zero_or_one j with h | h
    · rw [show j = j / 2 * 2 by omega, h1.1]
      simp
    · rw [show j = j / 2 * 2 + 1 by omega, h1.2]
      simp
  · rw [List.getElem?_eq_none (by rw [cells_length_aux]; simp [Value.cells]; omega), List.getElem?_eq_none (by rw [rcells_length]; simp; omega)]
theorem own_zero {w : World} {base n size c : Nat} {e : TypeId} {A : Option Addr} {xs : List Value} (h : w.ownsRow base e size (.slice A n c) n xs) (hn : 0 < n) : w.ownsRow base e size (.slice A 0 c) 0 [] := by
  obtain ⟨hl, h | ⟨g, cap, cur, hv, hb, hh, h3, h4, h5, h6⟩⟩ := h
  · have := h.2; omega
  · simp only [Value.slice.injEq] at hv
    obtain ⟨rfl, _, rfl⟩ := hv
    exact ⟨by simp, .inr ⟨g, c, cur, rfl, hb, hh, by omega, h4, h5, by simp⟩⟩
theorem own_some {w : World} {base n size c : Nat} {e : TypeId} {A : Option Addr} {xs : List Value} (h : w.ownsRow base e size (.slice A n c) n xs) (hn : 0 < n) : ∃ g, A = some ⟨g, 0, none⟩ ∧ n ≤ c ∧ c ≤ maxLen := by
  obtain ⟨hl, h | ⟨g, cap, cur, hv, hb, hh, h3, h4, h5, h6⟩⟩ := h
  · have := h.2; omega
  · simp only [Value.slice.injEq] at hv
    obtain ⟨rfl, _, rfl⟩ := hv
    exact ⟨g, rfl, h3, h4⟩
theorem grow_any (n : Nat) (w : World) (hn : n ≤ 200000) : Calls Try.prog 28 #[.slice none 0 0, .int .i64 (n : Int)] w fun e w' => ∃ v, e = .returned v ∧ w'.ownsRow w.heap.size 32 2 v 0 [] ∧ Ext w w' := by
  by_cases h0 : n = 0
  · subst h0
    go_enter Try.func28, Try.ntmps28
    go_wp2_with fail
    go_ret
    exact ⟨_, rfl, own_nil _ _ _ _, Ext.refl _⟩
  · have h1 : 0 < n := by omega
    have HZ := hide (rcells_one (List.replicate n (0, 0)))
    go_enter Try.func28, Try.ntmps28
    go_wp2_with (first
      | (at_builtin; refine wpList_zeros (base := w.heap.size) (m := n) (n := 0) (xs := []) rfl rfl Try.underlying23 Try.underlying3 inf_wt rfl (by omega) (by rw [zero_pairs]; exact HZ.out) rfl (own_nil _ _ _ _) (Nat.le_refl _) rfl (by omega) (by unfold maxLen; omega) (by omega) ?_; intro v4 w4 hown4 hg4 hk4; obtain ⟨A4, c4, rfl⟩ := own_sl hown4; obtain ⟨g4, rfl, l4, m4⟩ := own_some hown4 (by omega); unfold maxLen at m4; have HO := hide hown4; have HG := hide hg4; clear hown4 hg4 hk4; go_frame)
      | go_in)
    go_ret
    exact ⟨_, rfl, own_zero HO.out (by omega), Ext.grown (Ext.refl _) HG.out (by intro k hk; cases hk)⟩
/-- 'append(v, x..)' to a row of one's own. -/
theorem wpList_src {w W0 : World} {ops : Array Oper} {rest : List Oper} {o : Oper} {a : Act} {Q : Exit → Act → World → Prop} (hgd : o.guard = none) (s x : Operand) {t E : TypeId}
    (ho : o.op = .call { callee := .builtin .append, args := #[s, x], argTypes := #[t, t] }) (ht : Try.prog.underlying t = some (.slice E))
    (hinf : (Try.prog.info? E).map (fun i => (i.zero, i.size, i.bytes)) = some (some (.agg #[.int .i64 0, .int .i64 0]), 2, 16))
    {v : Value} {n : Nat} {xs : List Value} (hs : a.eval s = v) (hown : w.ownsRow W0.heap.size E 2 v n xs) (hW : Ext W0 w)
    {A : Option Addr} {m c : Nat} {l : List Wt} (hx : a.eval x = .slice A m c) (hl : l.length = m) (hA : A = none → m = 0 ∧ c = 0) (hc : Ch w A l) (hn : n + m ≤ 200000)
    (h : ∀ v' w', w'.ownsRow W0.heap.size E 2 v' (n + m) (xs ++ rcells l) → Ext W0 w' → wpList Try.prog ops Q rest (a.put o.dst v') w') : wpList Try.prog ops Q (o :: rest) a w := by
  subst hl
  obtain ⟨i, hi, hz, hsize, hb⟩ := info_parts hinf
  cases A with
  | none =>
    obtain ⟨h1, rfl⟩ := hA rfl
    have e0 : l = [] := List.eq_nil_of_length_eq_zero h1
    subst e0
    refine wpList_append_own_none hgd s x t ho W0.heap.size E i 2 ht hi v n xs hs hown hx (h _ _ (by simpa [rcells] using hown) hW)
  | some b =>
    refine wpList_append_own w hgd s x t ho W0.heap.size E i (.agg #[.int .i64 0, .int .i64 0]) 2 16 ht hi hz hsize hb rfl (by omega) v n xs hs hown b l.length c (rcells l) hx (rcells_length l) (hc.cells w (Ext.refl w)) (rcells_one l) (by unfold maxLen; omega) (by omega) hW.size ?_
    intro v' w' h2 hg _
    exact h v' w' h2 (Ext.grown hW hg (own_row hown))
def lK (l1 l2 : List Wt) : Nat → List Wt
  | 0 => []
  | 1 => l1
  | _ => l1 ++ l2
theorem concat_any {w : World} {X c1 c2 : Nat} {A1 A2 : Option Addr} {l1 l2 : List Wt} (hb : Blk w X #[.slice A1 l1.length c1, .slice A2 l2.length c2] 23)
    (s1 : A1 = none → l1.length = 0 ∧ c1 = 0) (h1 : Ch w A1 l1) (s2 : A2 = none → l2.length = 0 ∧ c2 = 0) (h2 : Ch w A2 l2) (hl : l1.length + l2.length ≤ 70000) :
    Calls Try.prog 22 #[.slice (some ⟨X, 0, none⟩) 2 2] w fun e w' => ∃ v, e = .returned v ∧ w'.ownsRow w.heap.size 32 2 v (l1 ++ l2).length (rcells (l1 ++ l2)) ∧ Ext w w' := by
  have hX0 := Ext.refl w
  have HB := hide hb.rule
  have H1 := hide h1
  have H2 := hide h2
  obtain ⟨n1, hn1⟩ : ∃ n, n = l1.length := ⟨_, rfl⟩
  obtain ⟨n2, hn2⟩ : ∃ n, n = l2.length := ⟨_, rfl⟩
  rw [← hn1] at HB s1 hl
  rw [← hn2] at HB s2 hl
  have N1 := hide hn1
  have N2 := hide hn2
  have NL := hide (show (l1 ++ l2).length = n1 + n2 by rw [List.length_append, N1.out, N2.out])
  clear hb h1 h2 hn1 hn2
  have r0 := HB.out w (Ext.refl w) 0
  go_enter Try.func22, Try.ntmps22
  go_wp2_with fail
  go_loopw [3, 11] (fun s i wr => ∃ j : Nat, j ≤ 2 ∧ s = .int .i64 (((if j = 0 then 0 else if j = 1 then n1 else n1 + n2) : Nat) : Int) ∧ i = .int .i64 (j : Int) ∧ w = wr) (fun _ i _ => 2 - (intOf i).toNat)
  case atStart => exact ⟨0, by omega, rfl, rfl, rfl⟩
  case round =>
    obtain ⟨j, hj, rfl, rfl, rfl⟩ := hrel
    by_cases j0 : j = 0
    · subst j0
      have r := HB.out w (Ext.refl w) 0
      go_wp2_with fail
      go_roundw
      case rel => exact ⟨1, by omega, by go_num, by go_num, trivial⟩
      case measure => simp [intOf]
    · by_cases j1 : j = 1
      · subst j1
        have r := HB.out w (Ext.refl w) 1
        go_wp2_with fail
        go_roundw
        case rel => exact ⟨2, by omega, by go_num, by go_num, trivial⟩
        case measure => simp [intOf]
      · obtain rfl : j = 2 := by omega
        go_wp2_with fail
        refine (grow_any (n1 + n2) w (by omega)).mono ?_
        rintro e w1 ⟨v, rfl, hown, hx⟩
        go_wp2_with fail
        go_loopw [6, 27] (fun v i wr => ∃ j : Nat, j ≤ 2 ∧ i = .int .i64 (j : Int) ∧ wr.ownsRow w.heap.size 32 2 v (if j = 0 then 0 else if j = 1 then n1 else n1 + n2) (rcells (lK l1 l2 j)) ∧ Ext w wr) (fun _ i _ => 2 - (intOf i).toNat)
        case atStart => exact ⟨0, by omega, rfl, hown, hx⟩
        case round =>
          clear hown hx
          obtain ⟨j, hj, rfl, hown, hX⟩ := hrel
          by_cases j0 : j = 0
          · subst j0
            have r := HB.out wr hX 0
            have H1' := hide (H1.out.ext hX)
            have N1' := hide N1.out.symm
            have HX := hide hX
            have HO := hide hown
            clear hX hown
            go_wp2_with (first
              | (at_builtin; refine wpList_src (W0 := w) (n := 0) (xs := []) (l := l1) rfl _ _ rfl Try.underlying23 inf_wt rfl HO.out HX.out rfl N1'.out s1 H1'.out (by omega) ?_; intro v4 w4 hown4 hX4; have HO4 := hide hown4; have HX4 := hide hX4; clear hown4 hX4; go_frame)
              | go_in)
            go_roundw
            case rel => exact ⟨1, by omega, by go_num, by have := HO4.out; simpa [lK] using this, HX4.out⟩
            case measure => simp [intOf]
          · by_cases j1 : j = 1
            · subst j1
              have r := HB.out wr hX 1
              have H2' := hide (H2.out.ext hX)
              have N2' := hide N2.out.symm
              have HX := hide hX
              have HO := hide hown
              clear hX hown
              go_wp2_with (first
                | (at_builtin; refine wpList_src (W0 := w) (n := n1) (xs := rcells l1) (l := l2) rfl _ _ rfl Try.underlying23 inf_wt rfl HO.out HX.out rfl N2'.out s2 H2'.out (by omega) ?_; intro v4 w4 hown4 hX4; have HO4 := hide hown4; have HX4 := hide hX4; clear hown4 hX4; go_frame)
                | go_in)
              go_roundw
              case rel => exact ⟨2, by omega, by go_num, by have := HO4.out; simpa [lK, rcells_append] using this, HX4.out⟩
              case measure => simp [intOf]
            · obtain rfl : j = 2 := by omega
              have HO := hide hown
              have HX := hide hX
              clear hown hX
              go_wp2_with fail
              go_ret
              exact ⟨_, rfl, by rw [NL.out]; simpa [lK] using HO.out, HX.out⟩
theorem concat_n {w : World} {X c1 c2 n1 n2 : Nat} {A1 A2 : Option Addr} {l1 l2 l : List Wt} (hb : Blk w X #[.slice A1 n1 c1, .slice A2 n2 c2] 23) (e1 : l1.length = n1) (e2 : l2.length = n2) (el : l1 ++ l2 = l)
    (s1 : A1 = none → n1 = 0 ∧ c1 = 0) (h1 : Ch w A1 l1) (s2 : A2 = none → n2 = 0 ∧ c2 = 0) (h2 : Ch w A2 l2) (hl : n1 + n2 ≤ 70000) :
    Calls Try.prog 22 #[.slice (some ⟨X, 0, none⟩) 2 2] w fun e w' => ∃ A' c', e = .returned (.slice A' (n1 + n2) c') ∧ w'.ownsRow w.heap.size 32 2 (.slice A' (n1 + n2) c') (n1 + n2) (rcells l) ∧ Ext w w' := by
  subst e1 e2 el
  refine (concat_any hb s1 h1 s2 h2 hl).mono ?_
  rintro e w' ⟨v, rfl, h, hx⟩
  rw [List.length_append] at h
  obtain ⟨A', c', rfl⟩ := own_sl h
  exact ⟨A', c', rfl, h, hx⟩
theorem all_any {w : World} {A : Option Addr} {n c p : Nat} {l : List Wt} (h : Rg w A n c p l) (hl : n ≤ 65535) :
    Calls Try.prog 14 #[(Value.agg #[.slice A n c, .int .i64 (p : Int)])] w fun e w' => ∃ A' c', e = .returned (.slice A' n c') ∧ w'.ownsRow w.heap.size 32 2 (.slice A' n c') n (rcells l) ∧ Ext w w' := by
  obtain ⟨m, hr, hp, rfl⟩ := h
  have hm := hr.1
  have hnc := hr.2.1
  have hcm := hr.2.2.1
  unfold maxLen at hcm
  have hpn : p ≤ n := by omega
  have hpc : p ≤ c := by omega
  obtain ⟨A1, hA1, hc1, hs1⟩ : ∃ A1, (if c = p then A else A.map (fun a => a.add (p * 2))) = A1 ∧ Ch w A1 (m.drop p) ∧ (A1 = none → n - p = 0 ∧ c - p = 0) := by
    refine ⟨_, rfl, ?_, ?_⟩
    · by_cases e : c = p
      · rw [if_pos e]
        exact .inl (by rw [List.length_drop]; omega)
      · rw [if_neg e]
        by_cases q : p < m.length
        · obtain ⟨b, off, rfl, _⟩ := hr.ch.at_ q
          rw [Option.map_some, Addr.add_lit]
          exact hr.ch.drop q
        · exact .inl (by rw [List.length_drop]; omega)
    · intro e
      cases A with
      | none => obtain ⟨h1, h2, h3⟩ := hr.noA; omega
      | some a => split at e <;> simp at e
  have hc2 := hr.ch.take p
  have hs2 : A = none → p = 0 ∧ c = 0 := fun e => by have := hr.none0 e; omega
  have e1 : (m.drop p).length = n - p := by rw [List.length_drop]; omega
  have e2 : (m.take p).length = p := by rw [List.length_take]; omega
  have HCC := hide (fun (w2 : World) (X : Nat) (hb : Blk w2 X #[.slice A1 (n - p) (c - p), .slice A p c] 23) (hx : Ext w w2) => concat_n (l := tuK m p) hb e1 e2 rfl hs1 (hc1.ext hx) hs2 (hc2.ext hx) (by omega))
  have hB := Blk.new w #[.slice A n c, .int .i64 (p : Int)] 25
  have r := hB.cell
  have hX0 := Ext.alloc w (Obj.cells #[.slice A n c, .int .i64 (p : Int)] 25)
  have EN := hide (show n - p + p = n by omega)
  have HS : Hid (∀ w', Ext (w.alloc (Obj.cells #[.slice A n c, .int .i64 (p : Int)] 25)) w' → w'.cell? ⟨w.heap.size, 0, none⟩ = some (.slice A n c) ∧ w'.cell? ⟨w.heap.size, 1, none⟩ = some (.int .i64 (p : Int))) := fun w' x => ⟨hB.rule w' x 0, hB.rule w' x 1⟩
  have ha0 : (0 : Int) ≤ (p : Int) := by omega
  obtain ⟨-, -, -, ⟨rfl, rfl⟩ | ⟨b, off, cs, rfl, -, -⟩⟩ := hr
  · obtain rfl : p = 0 := by omega
    obtain rfl : n = 0 := by omega
    simp only [Option.map_none, ite_self] at hA1
    subst hA1
    clear e1 e2 hc1 hc2 hs1 hs2 hm
    go_enter Try.func14, Try.ntmps14
    go_wp2_with fail
    generalize w.alloc (Obj.cells #[.slice none 0 0, .int .i64 (((0 : Nat) : Int) : Int)] 25) = w1 at *
    have hk := Ext.drew w1
    clear r hB
    go_region_held3 (fun w' => w'.cell? ⟨w.heap.size, 0, none⟩ = some (.slice none 0 0) ∧ w'.cell? ⟨w.heap.size, 1, none⟩ = some (.int .i64 ((0 : Nat) : Int))) (exact HS.out _ (by first | exact hk | exact hk.trans (Ext.drew _) | exact Ext.drew _ | exact Ext.refl _ | exact (Ext.alloc _ _).trans (Ext.drew _) | exact Ext.alloc _ _))
      ((go_at_call 22; refine (HCC.out _ _ ((Blk.new w1 _ _).ext (Ext.drew _)) (hX0.trans ((Ext.alloc w1 _).trans (Ext.drew _)))).mono ?_; rintro e w6 ⟨A6, c6, rfl, hown, hx⟩; have hown := own_low hown (Nat.le_trans hX0.size (Nat.le_trans (Ext.alloc w1 _).size (Ext.drew _).size)); have HO := hide hown; have hk := ((Ext.alloc w1 _).trans (Ext.drew _)).trans hx; have HX := hide (hX0.trans hk); clear hown hx))
    go_wp2_with fail
    go_ret
    exact ⟨_, _, rfl, HO.out, HX.out⟩
  · clear e1 e2 hc1 hc2 hs1 hs2 hm
    simp only [Option.map_some, Addr.add_lit] at hA1
    go_enter Try.func14, Try.ntmps14
    go_wp2_with fail
    generalize w.alloc (Obj.cells #[.slice (some ⟨b, off, none⟩) n c, .int .i64 (p : Int)] 25) = w1 at *
    have hk := Ext.drew w1
    clear r hB
    go_region_held3 (fun w' => w'.cell? ⟨w.heap.size, 0, none⟩ = some (.slice (some ⟨b, off, none⟩) n c) ∧ w'.cell? ⟨w.heap.size, 1, none⟩ = some (.int .i64 (p : Int))) (exact HS.out _ (by first | exact hk | exact hk.trans (Ext.drew _) | exact Ext.drew _ | exact Ext.refl _ | exact (Ext.alloc _ _).trans (Ext.drew _) | exact Ext.alloc _ _))
      ((go_at_call 22; refine (HCC.out _ _ ((Blk.new w1 _ _).ext (Ext.drew _)) (hX0.trans ((Ext.alloc w1 _).trans (Ext.drew _)))).mono ?_; rintro e w6 ⟨A6, c6, rfl, hown, hx⟩; have hown := own_low hown (Nat.le_trans hX0.size (Nat.le_trans (Ext.alloc w1 _).size (Ext.drew _).size)); have HO := hide hown; have hk := ((Ext.alloc w1 _).trans (Ext.drew _)).trans hx; have HX := hide (hX0.trans hk); clear hown hx))
    rw [EN.out] at HO
    go_wp2_with fail
    go_ret
    exact ⟨_, _, rfl, HO.out, HX.out⟩
end Go.Proofs.Ytbkpmlcockkfnaa
