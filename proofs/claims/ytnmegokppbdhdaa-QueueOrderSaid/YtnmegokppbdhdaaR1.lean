/- The reference's Has, Append, Remove, Drain. -/
import Derived.Test.YtnmegokppbdhdaaQ4
import Derived.Laws.AppendOwnNone
namespace Go.Proofs.Ytnmegokppbdhdaa
open Go.RowKit
set_option linter.unusedSimpArgs false
set_option linter.unusedVariables false
set_option maxRecDepth 100000

theorem rhas_any {w : World} {A : Option Addr} {c : Nat} {l : List Int} (t : Int) (h : Ch w A l) (hl : l.length ≤ 70000) : Calls Try.prog 21 #[.slice A l.length c, .int .i64 t] w fun e w' => e = .returned (.bool (hasQ l t)) ∧ w = w' := by
  have H := hide h
  clear h
  go_enter Try.func21, Try.ntmps21
  go_wp2_with fail
  go_loopw [5] (fun i wr => ∃ j : Nat, j ≤ l.length ∧ i = .int .i64 (j : Int) ∧ (∀ i (hi : i < j) (h : i < l.length), l[i] ≠ t) ∧ w = wr) (fun i _ => l.length - (intOf i).toNat)
  case atStart => exact ⟨0, by omega, rfl, fun i hi => by omega, rfl⟩
  case round =>
    obtain ⟨j, hj, rfl, hb, rfl⟩ := hrel
    by_cases hlt : j < l.length
    · obtain ⟨b, off, rfl, r⟩ := H.out.at_ hlt
      have r0 := r w (Ext.refl _)
      clear r
      by_cases e : l[j] = t
      · have E := hide (show hasQ l t = true from decide_eq_true (e ▸ List.getElem_mem hlt))
        rw [e] at r0
        clear hb
        go_wp2_with fail
        go_ret
        exact ⟨by rw [E.out]; simp, rfl⟩
      · have HB := hide hb
        clear hb
        go_wp2_with fail
        go_roundw
        case rel => exact ⟨j + 1, by omega, by go_num, fun i hi h => by
          by_cases q : i = j
          · subst q; exact e
          · exact HB.out i (by omega) h, trivial⟩
        case measure => simp [intOf]; omega
    · have E := hide (show hasQ l t = false from decide_eq_false (by
        intro hm
        obtain ⟨i, hi, he⟩ := List.getElem_of_mem hm
        exact hb i (by omega) hi he))
      obtain rfl : j = l.length := by omega
      clear hb
      go_wp2_with fail
      go_ret
      exact ⟨by rw [E.out]; simp, rfl⟩
theorem rappend_no {w : World} {A : Option Addr} {c : Nat} {l : List Int} {t : Int} (h : Row w A l.length c l) (ok : OkQ l) (ht : apB l t = false) :
    Calls Try.prog 11 #[.slice A l.length c, .int .i64 t] w fun e w' => e = .returned (.tuple #[.slice A l.length c, .bool false]) ∧ w = w' := by
  have hl := ok.len
  have hh := rhas_any t h.ch (c := c) (by omega)
  by_cases a0 : t < 0
  · go_enter Try.func11, Try.ntmps11
    go_wp2_with fail
    go_ret2
    exact ⟨by simp, rfl⟩
  · by_cases a1 : 65534 < t
    · go_enter Try.func11, Try.ntmps11
      go_wp2_with fail
      go_ret2
      exact ⟨by simp, rfl⟩
    · have e2 : hasQ l t = true := by
        unfold apB at ht
        rw [show thr t = true from decide_eq_true ⟨by omega, by omega⟩] at ht
        simpa using ht
      rw [e2] at hh
      go_enter Try.func11, Try.ntmps11
      go_wp2_with fail
      refine hh.mono ?_
      rintro e w1 ⟨rfl, rfl⟩
      go_wp2_with fail
      go_ret2
      exact ⟨by simp, rfl⟩
/-- 'append(nil, v..)'. -/
theorem wpList_cl {w W0 : World} {ops : Array Oper} {rest : List Oper} {o : Oper} {a : Act} {Q : Exit → Act → World → Prop} (hgd : o.guard = none) (s x : Operand)
    (ho : o.op = .call { callee := .builtin .append, args := #[s, x], argTypes := #[25, 25] })
    {A : Option Addr} {n c : Nat} {l : List Int} (hs : a.eval s = .slice none 0 0) (hx : a.eval x = .slice A n c) (hl : l.length = n) (hA : A = none → n = 0 ∧ c = 0) (hc : Ch w A l) (hW : Ext W0 w) (hn : n ≤ 200000)
    (h : ∀ v' w', w'.ownsRow W0.heap.size 3 1 v' n (l.map enJ) → Ext W0 w' → wpList Try.prog ops Q rest (a.put o.dst v') w') : wpList Try.prog ops Q (o :: rest) a w := by
  subst hl
  obtain ⟨i, hi, hz, hsize, hb⟩ := info_parts inf_int
  cases A with
  | none =>
    obtain ⟨h1, rfl⟩ := hA rfl
    have e0 : l = [] := List.eq_nil_of_length_eq_zero h1
    subst e0
    exact wpList_append_own_none hgd s x 25 ho W0.heap.size 3 i 1 Try.underlying25 hi (.slice none 0 0) 0 [] hs (own_nil _ _ _ _) hx (h _ _ (own_nil _ _ _ _) hW)
  | some b =>
    refine wpList_append_own w hgd s x 25 ho W0.heap.size 3 i (.int .i64 0) 1 8 Try.underlying25 hi hz hsize hb rfl (by omega) (.slice none 0 0) 0 [] hs (own_nil _ _ _ _) b l.length c (l.map enJ) hx (by simp) (hc.olds w (Ext.refl w)) (enJ_one l) (by unfold maxLen; omega) (by omega) hW.size ?_
    intro v' w' h2 hg _
    rw [Nat.zero_add, List.nil_append] at h2
    exact h v' w' h2 (Ext.grown hW hg (by intro k hk; cases hk))
theorem rappend_yes {w : World} {A : Option Addr} {c : Nat} {l : List Int} {t : Int} (h : Row w A l.length c l) (ok : OkQ l) (ht : apB l t = true) :
    Calls Try.prog 11 #[.slice A l.length c, .int .i64 t] w fun e w' => ∃ A' c', e = .returned (.tuple #[.slice A' (l.length + 1) c', .bool true]) ∧ Row w' A' (l.length + 1) c' (l ++ [t]) ∧ Ext w w' := by
  have hl := ok.len
  have hh := rhas_any t h.ch (c := c) (by omega)
  obtain ⟨b0, b1, b2⟩ := apB_of ht
  rw [show hasQ l t = false from decide_eq_false b2] at hh
  have hA : A = none → l.length = 0 ∧ c = 0 := fun e => by subst e; have := h.noA; exact ⟨this.1, this.2.1⟩
  have HC := hide h.ch
  have hX := Ext.refl w
  clear h
  have c0 : ¬ t < 0 := by omega
  have c1 : ¬ 65534 < t := by omega
  go_enter Try.func11, Try.ntmps11
  go_wp2_with fail
  refine hh.mono ?_
  rintro e w1 ⟨rfl, rfl⟩
  go_wp2_with (first
    | (at_builtin; refine wpList_cl (W0 := w) rfl _ _ rfl rfl rfl rfl hA HC.out hX (by omega) ?_; intro v1 w1 hown1 hX1; obtain ⟨A1, c1, rfl⟩ := own_sl hown1; have HO1 := hide hown1; have HX1 := hide hX1; clear hown1 hX1; go_frame)
    | (at_builtin; refine wpList_app1 (W0 := w) rfl rfl Try.underlying25 inf_int rfl (by omega) rfl HO1.out HX1.out rfl rfl rfl (by simp [Value.oneCell']) (by unfold maxLen; omega) (by omega) ?_; intro v2 w2 hown2 hX2; obtain ⟨A2, c2, rfl⟩ := own_sl hown2; have HO3 := hide hown2; have HX3 := hide hX2; clear hown2 hX2; go_frame)
    | go_in)
  go_ret2
  have hown3 := HO3.out
  rw [show ([Value.int .i64 t] : List Value) = [t].map enJ from rfl, ← List.map_append] at hown3
  obtain ⟨A', c', e, hr⟩ := Row.of_own hown3
  cases e
  exact ⟨_, _, by simp, hr, HX3.out⟩
theorem rmL_snoc {l : List Int} {t : Int} {q : Nat} (hq : q < l.length) : rmL (l.take (q + 1)) t = rmL (l.take q) t ++ (if l[q] = t then [] else [l[q]]) := by
  unfold rmL
  rw [List.take_succ_eq_append_getElem hq, List.filter_append]
  by_cases e : l[q] = t
  · simp [e]
  · simp [e]
theorem rremove_any {w : World} {A : Option Addr} {c : Nat} {l : List Int} {t : Int} (h : Row w A l.length c l) (ok : OkQ l) :
    Calls Try.prog 16 #[.slice A l.length c, .int .i64 t] w fun e w' => ∃ A' c', e = .returned (.tuple #[.slice A' (rmL l t).length c', .bool (decide (t ∈ l))]) ∧ Row w' A' (rmL l t).length c' (rmL l t) ∧ Ext w w' := by
  have hl := ok.len
  have H := hide h.ch
  have hX := Ext.refl w
  have EB := hide (rmL_lt (t := t) ok.nd)
  clear h ok
  go_enter Try.func16, Try.ntmps16
  go_wp2_with fail
  go_loopw [6, 7] (fun v i wr => ∃ (j : Nat), j ≤ l.length ∧ i = .int .i64 (j : Int) ∧ wr.ownsRow w.heap.size 3 1 v (rmL (l.take j) t).length ((rmL (l.take j) t).map enJ) ∧ Ext w wr) (fun _ i _ => l.length - (intOf i).toNat)
  case atStart => exact ⟨0, by omega, rfl, own_nil _ _ _ _, hX⟩
  case round =>
    clear hX
    obtain ⟨j, hj, rfl, hown, hX⟩ := hrel
    by_cases hlt : j < l.length
    · obtain ⟨b, off, rfl, r⟩ := (H.out.ext hX).at_ hlt
      have E := hide (rmL_snoc (t := t) hlt)
      have hxl : (rmL (l.take j) t).length ≤ l.length := Nat.le_trans (List.length_filter_le _ _) (List.length_take_le' _ _)
      have r0 := r wr (Ext.refl _)
      have r1 := r _ (Ext.alloc wr (.cells #[.int .i64 l[j]] 3))
      clear r
      by_cases e : l[j] = t
      · rw [if_pos e, List.append_nil] at E
        rw [← E.out] at hown
        have HO := hide hown
        have HX := hide hX
        rw [e] at r0 r1
        clear hown hX
        go_wp2_with fail
        go_roundw
        case rel => exact ⟨j + 1, by omega, by go_num, HO.out, HX.out⟩
        case measure => simp [intOf]; omega
      · rw [if_neg e] at E
        have HO := hide hown
        have HX := hide hX
        obtain ⟨A1, c1, rfl⟩ := own_sl hown
        obtain ⟨xs, hxs⟩ : ∃ xs, xs = rmL (l.take j) t := ⟨_, rfl⟩
        have e0 : ¬ t = l[j] := fun q => e q.symm
        rw [← hxs] at HO hxl E ⊢
        clear hown hX hxs
        go_wp2_with (first
          | (at_builtin; refine wpList_app1 (W0 := w) rfl rfl Try.underlying25 inf_int rfl (by omega) rfl HO.out HX.out rfl rfl rfl (by simp [Value.oneCell']) (by unfold maxLen; omega) (by omega) ?_; intro v2 w2 hown2 hX2; obtain ⟨A2, c2, rfl⟩ := own_sl hown2; have HO3 := hide hown2; have HX3 := hide hX2; clear hown2 hX2; go_frame)
          | go_in)
        go_roundw
        case rel =>
          have hown3 := HO3.out
          rw [show ([Value.int .i64 l[j]] : List Value) = [l[j]].map enJ from rfl, ← List.map_append, ← E.out] at hown3
          have e3 : xs.length + 1 = (rmL (l.take (j + 1)) t).length := by rw [E.out]; simp
          rw [e3] at hown3 ⊢
          exact ⟨j + 1, by omega, by go_num, hown3, HX3.out⟩
        case measure => simp [intOf]; omega
    · obtain rfl : j = l.length := by omega
      rw [List.take_length] at hown
      obtain ⟨A1, c1, rfl, hr⟩ := Row.of_own hown
      have HR := hide hr
      have e4 : ((rmL l t).length : Int) < (l.length : Int) ↔ (rmL l t).length < l.length := by omega
      clear hown hr
      go_wp2_with fail
      go_ret2
      exact ⟨A1, c1, by rw [← EB.out]; simp, HR.out, hX⟩
theorem rdrain_any {w : World} {A C : Option Addr} {c c2 : Nat} {l ch : List Int} (h : Row w A l.length c l) (ok : OkQ l) (hc : Ch w C ch) (hl2 : ch.length ≤ 1000) :
    Calls Try.prog 13 #[.slice A l.length c, .slice C ch.length c2] w fun e w' => ∃ A' c', e = .returned (.tuple #[.slice A' (drL l ch).length c', .int .i64 (drN l ch : Int)]) ∧ Row w' A' (drL l ch).length c' (drL l ch) ∧ Ext w w' := by
  have hl := ok.len
  have H := hide hc
  have OK := hide ok
  have hX := Ext.refl w
  have h0 := h
  rw [← drK_zero l ch] at h0
  clear hc ok h
  go_enter Try.func13, Try.ntmps13
  go_wp2_with fail
  go_loopw [0, 6, 7] (fun v n i wr => ∃ (k : Nat) (A' : Option Addr) (c' : Nat), k ≤ ch.length ∧ v = .slice A' (drK l ch k).length c' ∧ Row wr A' (drK l ch k).length c' (drK l ch k) ∧ n = .int .i64 (((drK l ch k).length : Int) - (l.length : Int)) ∧ i = .int .i64 ((ch.length : Int) - 1 - (k : Int)) ∧ Ext w wr) (fun _ _ i _ => (intOf i + 1).toNat)
  case atStart => exact ⟨0, A, c, by omega, by rw [drK_zero], h0, by rw [drK_zero]; simp, by simp, hX⟩
  case round =>
    clear hX h0
    obtain ⟨k, A1, c1, hk, rfl, hr, rfl, rfl, hX⟩ := hrel
    by_cases hlt : k < ch.length
    · obtain ⟨m, hm⟩ : ∃ m, m = ch.length - 1 - k := ⟨_, rfl⟩
      have hm2 : m < ch.length := by omega
      have em : (ch.length : Int) - 1 - (k : Int) = (m : Int) := by omega
      rw [em]
      have E : drK l ch (k + 1) = apL (drK l ch k) (ch[m]'hm2) := by
        have q := drK_succ l ch hlt
        simp only [← hm] at q
        exact q
      have ok := OK.out.dr ch k
      have hxl := (drK_len l ch k).1
      have hxl2 := ok.len
      have EM := hide em
      obtain ⟨b, off, rfl, r⟩ := (H.out.ext hX).at_ hm2
      have r0 := r wr (Ext.refl _)
      have HX := hide hX
      have HLT := hide hlt
      have HM := hide hm
      clear r hX hlt em hm hk
      generalize drK l ch k = xs at *
      generalize ch[m] = x at *
      cases ea : apB xs x
      · rw [apL_no ea] at E
        have HE := hide E
        have HR := hide hr
        clear E
        have hq := rappend_no hr ok ea
        clear hr
        go_wp2_with fail
        refine hq.mono ?_
        rintro e w1 ⟨rfl, rfl⟩
        clear hq
        go_wp2_with fail
        go_roundw
        case rel =>
          have e1 := HLT.out
          have e2 := HM.out
          have e3 := HE.out
          rw [← e3]
          exact ⟨k + 1, A1, c1, by omega, rfl, e3 ▸ HR.out, rfl, by congr 1; omega, HX.out⟩
        case measure => simp [intOf]
      · rw [apL_yes ea] at E
        have HE := hide E
        clear E
        have hq := rappend_yes hr ok ea
        clear hr
        go_wp2_with fail
        refine hq.mono ?_
        rintro e w1 ⟨A2, c2, rfl, hr, hX2⟩
        have HR := hide hr
        have HX2 := hide hX2
        clear hq hr hX2
        go_wp2_with fail
        go_roundw
        case rel =>
          have e1 := HLT.out
          have e2 := HM.out
          have e3 : (drK l ch (k + 1)).length = xs.length + 1 := by rw [HE.out]; simp
          exact ⟨k + 1, A2, c2, by omega, by rw [e3], by rw [e3, HE.out]; exact HR.out, by rw [e3]; congr 1; omega, by congr 1; omega, HX.out.trans HX2.out⟩
        case measure => simp [intOf]
    · obtain rfl : k = ch.length := by omega
      have E := drN_eq l ch
      unfold drL at E
      have HR := hide hr
      have e5 : ((drK l ch ch.length).length : Int) - (l.length : Int) = (drN l ch : Int) := by omega
      have e6 : ¬ (0 : Int) ≤ (ch.length : Int) - 1 - (ch.length : Int) := by omega
      rw [e5]
      have HE := hide e5
      clear hr e5 E
      go_wp2_with fail
      go_ret2
      exact ⟨A1, c1, by unfold drL; simp, HR.out, hX⟩
end Go.Proofs.Ytnmegokppbdhdaa
