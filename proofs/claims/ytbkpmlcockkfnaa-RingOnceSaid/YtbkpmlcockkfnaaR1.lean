/- The reference's Add, Remove, Turn; Goes, of both. -/
import Derived.Test.YtbkpmlcockkfnaaQ4
namespace Go.Proofs.Ytbkpmlcockkfnaa
open Go.RowKit
set_option linter.unusedSimpArgs false
set_option linter.unusedVariables false
set_option maxRecDepth 100000


def goB (a b : Int) : Bool := if a = 0 then b == 1 else if a = 1 then (if b = 2 then true else if b = 3 then true else b == 4) else if a = 2 then b == 0 else if a = 3 then b == 0 else if a = 4 then b == 0 else false
theorem goes_any (a b : Int) (w : World) : Calls Try.prog 17 #[.int .u64 a, .int .u64 b] w fun e w' => e = .returned (.bool (goB a b)) ∧ w = w' := by
  by_cases a0 : a = 0
  · subst a0
    go_enter Try.func17, Try.ntmps17
    go_wp2
    go_ret
    exact ⟨by simp [goB], rfl⟩
  · by_cases a1 : a = 1
    · subst a1
      by_cases b2 : b = 2
      · subst b2
        go_enter Try.func17, Try.ntmps17
        go_wp2
        go_ret
        exact ⟨by simp [goB], rfl⟩
      · by_cases b3 : b = 3
        · subst b3
          go_enter Try.func17, Try.ntmps17
          go_wp2
          go_ret
          exact ⟨by simp [goB], rfl⟩
        · go_enter Try.func17, Try.ntmps17
          go_wp2
          go_ret
          exact ⟨by simp [goB, b2, b3], rfl⟩
    · by_cases a2 : a = 2
      · subst a2
        go_enter Try.func17, Try.ntmps17
        go_wp2
        go_ret
        exact ⟨by simp [goB], rfl⟩
      · by_cases a3 : a = 3
        · subst a3
          go_enter Try.func17, Try.ntmps17
          go_wp2
          go_ret
          exact ⟨by simp [goB], rfl⟩
        · by_cases a4 : a = 4
          · subst a4
            go_enter Try.func17, Try.ntmps17
            go_wp2
            go_ret
            exact ⟨by simp [goB], rfl⟩
          · go_enter Try.func17, Try.ntmps17
            go_wp2
            go_ret
            exact ⟨by simp [goB, a0, a1, a2, a3, a4], rfl⟩
theorem rgoes_any (a b : Int) (w : World) : Calls Try.prog 18 #[.int .u64 a, .int .u64 b] w fun e w' => e = .returned (.bool (goB a b)) ∧ w = w' := by
  by_cases a0 : a = 0
  · subst a0
    go_enter Try.func18, Try.ntmps18
    go_wp2
    go_ret
    exact ⟨by simp [goB], rfl⟩
  · by_cases a1 : a = 1
    · subst a1
      by_cases b2 : b = 2
      · subst b2
        go_enter Try.func18, Try.ntmps18
        go_wp2
        go_ret
        exact ⟨by simp [goB], rfl⟩
      · by_cases b3 : b = 3
        · subst b3
          go_enter Try.func18, Try.ntmps18
          go_wp2
          go_ret
          exact ⟨by simp [goB], rfl⟩
        · go_enter Try.func18, Try.ntmps18
          go_wp2
          go_ret
          exact ⟨by simp [goB, b2, b3], rfl⟩
    · by_cases a2 : a = 2
      · subst a2
        go_enter Try.func18, Try.ntmps18
        go_wp2
        go_ret
        exact ⟨by simp [goB], rfl⟩
      · by_cases a3 : a = 3
        · subst a3
          go_enter Try.func18, Try.ntmps18
          go_wp2
          go_ret
          exact ⟨by simp [goB], rfl⟩
        · by_cases a4 : a = 4
          · subst a4
            go_enter Try.func18, Try.ntmps18
            go_wp2
            go_ret
            exact ⟨by simp [goB], rfl⟩
          · go_enter Try.func18, Try.ntmps18
            go_wp2
            go_ret
            exact ⟨by simp [goB, a0, a1, a2, a3, a4], rfl⟩
theorem radd_no {w : World} {A : Option Addr} {n c : Nat} {l : List Wt} {a b : Int} (h : Row 29 w A n c l) (hl : n ≤ 65535) (ht : adB l (a, b) = false) :
    Calls Try.prog 11 #[.slice A n c, (Value.agg #[.int .i64 a, .int .i64 b])] w fun e w' => e = .returned (.tuple #[.slice A n c, .bool false]) ∧ Ext w w' := by
  by_cases a0 : a < 0
  · go_enter Try.func11, Try.ntmps11
    go_wp2_with fail
    go_ret2
    exact ⟨by simp, Ext.alloc _ _⟩
  · by_cases a1 : 65534 < a
    · go_enter Try.func11, Try.ntmps11
      go_wp2_with fail
      go_ret2
      exact ⟨by simp, Ext.alloc _ _⟩
    · by_cases a2 : b < 1
      · go_enter Try.func11, Try.ntmps11
        go_wp2_with fail
        go_ret2
        exact ⟨by simp, Ext.alloc _ _⟩
      · by_cases a3 : 65535 < b
        · go_enter Try.func11, Try.ntmps11
          go_wp2_with fail
          go_ret2
          exact ⟨by simp, Ext.alloc _ _⟩
        · have e2 : hasT l a = true := by
            unfold adB at ht
            rw [show inW (a, b) = true from decide_eq_true ⟨by simp only; omega, by simp only; omega, by simp only; omega, by simp only; omega⟩] at ht
            simpa using ht
          have hm := h.1
          have H := hide h.ch
          have HB := hide (Blk.new w #[Value.int .i64 a, .int .i64 b] 29)
          have hX0 := Ext.alloc w (Obj.cells #[.int .i64 a, .int .i64 b] 29)
          have HT := hide (show ∀ i (hi : i < l.length), (∀ j (hj : j < l.length), j < i + 1 → (l[j]).1 ≠ a) → i + 1 < l.length from fun i hi hq => by
            have := ix_lt e2
            have h9 := ix_at e2
            by_cases q : ixN l a < i + 1
            · exact absurd h9 (hq _ _ q)
            · omega)
          have HZ := hide (show 0 < l.length from by have := ix_lt e2; omega)
          clear h ht e2
          go_enter Try.func11, Try.ntmps11
          go_wp2_with fail
          generalize w.alloc (Obj.cells #[.int .i64 a, .int .i64 b] 29) = w1 at *
          have hx0 := Ext.refl w1
          go_loopw [6] (fun i wr => ∃ j : Nat, j < l.length ∧ i = .int .i64 (j : Int) ∧ (∀ i (h : i < l.length), i < j → (l[i]).1 ≠ a) ∧ Ext w1 wr) (fun i _ => l.length - (intOf i).toNat)
          case atStart => exact ⟨0, HZ.out, rfl, fun i hi => by omega, hx0⟩
          case round =>
            clear hx0
            obtain ⟨j, hj, rfl, hb, hX⟩ := hrel
            obtain ⟨b', off, rfl, r⟩ := (H.out.ext (hX0.trans hX)).at_ hj
            have r0 := fun w' x => (r w' x).1
            have r1 := fun w' x => (r w' x).2
            have hjn : j < n := by omega
            have q0 := fun w' (x : Ext wr w') => (HB.out.ext (hX.trans x)).cell
            have hW := Ext.refl wr
            clear r
            by_cases e : (l[j]).1 = a
            · rw [e] at r0
              clear hb
              go_wp2_with fail
              refine wp_region_ext (by kernel_rfl) (by kernel_rfl) ?_
              repeat
                with_reducible refine wpQuiet_step (fun K hK => ?_)
                go_simp
                first
                | (refine hK _ ?_; clear hK K)
                | (apply Exists.intro
                   refine ⟨fun w1 h1 => ?_, hK _ ?_⟩
                   (have hW := Ext.trans2 hW (by repeat (first | exact Ext.refl _ | exact Ext.alloc _ _ | exact Ext.drewN _ _ | assumption | refine Ext.trans ?_ (Ext.alloc _ _) | refine Ext.trans ?_ (Ext.drew _) | refine Ext.trans ?_ (by assumption))) h1; (try have hV := Ext.trans2 hV (by repeat (first | exact Ext.refl _ | exact Ext.alloc _ _ | exact Ext.drewN _ _ | assumption | refine Ext.trans ?_ (Ext.alloc _ _) | refine Ext.trans ?_ (Ext.drew _) | refine Ext.trans ?_ (by assumption))) h1); (first | rfl | (go_simp; done) | (go_simp; rfl) | fail))
                   clear hK K)
              refine wpQuiet_nil (fun w' hw' => ?_)
              have hW := Ext.trans2 hW (by repeat (first | exact Ext.refl _ | exact Ext.alloc _ _ | exact Ext.drewN _ _ | assumption | refine Ext.trans ?_ (Ext.alloc _ _) | refine Ext.trans ?_ (Ext.drew _) | refine Ext.trans ?_ (by assumption))) hw'
              try have hV := Ext.trans2 hV (by repeat (first | exact Ext.refl _ | exact Ext.alloc _ _ | exact Ext.drewN _ _ | assumption | refine Ext.trans ?_ (Ext.alloc _ _) | refine Ext.trans ?_ (Ext.drew _) | refine Ext.trans ?_ (by assumption))) hw'
              clear hw'
              go_wp2_with fail
              go_ret2
              exact ⟨by simp; omega, (hX0.trans hX).trans hW⟩
            · have E := hide e
              have HB' := hide hb
              have HX := hide hX
              have HJ := hide (HT.out j hj (fun i hi q => by
                by_cases q2 : i = j
                · subst q2; exact E.out
                · exact hb i hi (by omega)))
              clear hb hX
              go_wp2_with fail
              refine wp_region_ext (by kernel_rfl) (by kernel_rfl) ?_
              repeat
                with_reducible refine wpQuiet_step (fun K hK => ?_)
                go_simp
                first
                | (refine hK _ ?_; clear hK K)
                | (apply Exists.intro
                   refine ⟨fun w1 h1 => ?_, hK _ ?_⟩
                   (have hW := Ext.trans2 hW (by repeat (first | exact Ext.refl _ | exact Ext.alloc _ _ | exact Ext.drewN _ _ | assumption | refine Ext.trans ?_ (Ext.alloc _ _) | refine Ext.trans ?_ (Ext.drew _) | refine Ext.trans ?_ (by assumption))) h1; (try have hV := Ext.trans2 hV (by repeat (first | exact Ext.refl _ | exact Ext.alloc _ _ | exact Ext.drewN _ _ | assumption | refine Ext.trans ?_ (Ext.alloc _ _) | refine Ext.trans ?_ (Ext.drew _) | refine Ext.trans ?_ (by assumption))) h1); (first | rfl | (go_simp; done) | (go_simp; rfl) | fail))
                   clear hK K)
              refine wpQuiet_nil (fun w' hw' => ?_)
              have hW := Ext.trans2 hW (by repeat (first | exact Ext.refl _ | exact Ext.alloc _ _ | exact Ext.drewN _ _ | assumption | refine Ext.trans ?_ (Ext.alloc _ _) | refine Ext.trans ?_ (Ext.drew _) | refine Ext.trans ?_ (by assumption))) hw'
              try have hV := Ext.trans2 hV (by repeat (first | exact Ext.refl _ | exact Ext.alloc _ _ | exact Ext.drewN _ _ | assumption | refine Ext.trans ?_ (Ext.alloc _ _) | refine Ext.trans ?_ (Ext.drew _) | refine Ext.trans ?_ (by assumption))) hw'
              clear hw'
              go_wp2_with fail
              go_roundw
              case rel => exact ⟨j + 1, HJ.out, by go_num, fun i hi h => by
                by_cases q : i = j
                · subst q; exact E.out
                · exact HB'.out i hi (by omega), HX.out.trans hW⟩
              case measure => simp [intOf]; omega
theorem src_run {w W0 : World} (t ty : TypeId) {E : TypeId} (ht : Try.prog.underlying t = some (.slice E))
    (hinf : (Try.prog.info? E).map (fun i => (i.zero, i.size, i.bytes)) = some (some (.agg #[.int .i64 0, .int .i64 0]), 2, 16))
    {v : Value} {n : Nat} {xs : List Value} (hown : w.ownsRow W0.heap.size E 2 v n xs) (hW : Ext W0 w)
    {A : Option Addr} {m c : Nat} {l : List Wt} (hl : l.length = m) (hA : A = none → m = 0 ∧ c = 0) (hc : Ch w A l) (hn : n + m ≤ 200000) :
    ∃ v' w', (Builtin.append_ #[t, t] ty #[v, .slice A m c]).run Try.prog w = .ok v' w' ∧ w'.ownsRow W0.heap.size E 2 v' (n + m) (xs ++ rcells l) ∧ Ext W0 w' := by
  subst hl
  obtain ⟨i, hi, hz, hsize, hb⟩ := info_parts hinf
  cases A with
  | none =>
    obtain ⟨h1, rfl⟩ := hA rfl
    have e0 : l = [] := List.eq_nil_of_length_eq_zero h1
    subst e0
    exact ⟨v, w, run_append_owned_none (P := Try.prog) w W0.heap.size t ty E i 2 ht hi v n xs hown, by simpa [rcells] using hown, hW⟩
  | some b =>
    obtain ⟨v', w', h1, h2, h3, _⟩ := run_append_own (P := Try.prog) w W0.heap.size t ty E i (.agg #[.int .i64 0, .int .i64 0]) 2 16 ht hi hz hsize hb rfl (by omega) v n xs hown b l.length c (rcells l) (rcells_length l) (hc.cells w (Ext.refl w)) (rcells_one l) (by unfold maxLen; omega) (by omega) hW.size
    exact ⟨v', w', h1, h2, Ext.grown hW h3 (own_row hown)⟩
/-- 'append(v, x..)' to a row of one's own, as a step of a region that draws its order. -/
theorem step_src {w W0 : World} {ops : Array Oper} {o : Oper} {a : Act} {K : Act → World → Prop} {Q : Exit → Act → World → Prop} {F : Prop} (hg : o.guard = none) (s x : Operand) {t E : TypeId}
    (ho : o.op = .call { callee := .builtin .append, args := #[s, x], argTypes := #[t, t] }) (ht : Try.prog.underlying t = some (.slice E))
    (hinf : (Try.prog.info? E).map (fun i => (i.zero, i.size, i.bytes)) = some (some (.agg #[.int .i64 0, .int .i64 0]), 2, 16))
    {v : Value} {n : Nat} {xs : List Value} (hs : a.eval s = v) (hown : w.ownsRow W0.heap.size E 2 v n xs) (hW : Ext W0 w)
    {A : Option Addr} {m c : Nat} {l : List Wt} (hx : a.eval x = .slice A m c) (hl : l.length = m) (hA : A = none → m = 0 ∧ c = 0) (hc : Ch w A l) (hn : n + m ≤ 200000) {nn : Nat} {ys : List Value} (hnn : n + m = nn) (hys : xs ++ rcells l = ys)
    (h : ∀ A' c' w', w'.ownsRow W0.heap.size E 2 (.slice A' nn c') nn ys → Ext W0 w' → K (a.put o.dst (.slice A' nn c')) w') :
    if Region.wanted o (yielded ops a.tmps) = true then Oper.wp Try.prog o a w K Q else F := by
  subst hnn hys
  have hw : Region.wanted o (yielded ops a.tmps) = true := by simp [Region.wanted, hg]
  rw [if_pos hw]
  obtain ⟨v', w', hr, h2, h3⟩ := src_run (w := w) (W0 := W0) t o.type ht hinf hown hW hl hA hc hn
  obtain ⟨A', c', rfl⟩ := own_sl h2
  unfold Oper.wp execOp
  simp only [ho, resolve, invoke, builtin, Sem.run_bind, Sem.run_pure, Result.andThen_ok, List.map_toArray, List.map_cons, List.map_nil, hs, hx, hr]
  exact h A' c' w' h2 h3
theorem radd_yes {w : World} {A : Option Addr} {n c : Nat} {l : List Wt} {a b : Int} (h : Row 29 w A n c l) (hl : n ≤ 65535) (ht : adB l (a, b) = true) :
    Calls Try.prog 11 #[.slice A n c, (Value.agg #[.int .i64 a, .int .i64 b])] w fun e w' => ∃ A' c', e = .returned (.tuple #[.slice A' (n + 1) c', .bool true]) ∧ Row 29 w' A' (n + 1) c' (l ++ [(a, b)]) ∧ Ext w w' := by
  obtain ⟨e1, e2⟩ := adB_of ht
  obtain ⟨b0, b1, b2, b3⟩ := inW_of e1
  simp only at b0 b1 b2 b3 e2
  have hm := h.1
  have H := hide h.ch
  have HA := hide h.none0
  have HB := hide (Blk.new w #[Value.int .i64 a, .int .i64 b] 29)
  have hX0 := Ext.alloc w (Obj.cells #[.int .i64 a, .int .i64 b] 29)
  have HT := hide (hasT_no e2)
  have c0 : ¬ a < 0 := by omega
  have c1 : ¬ 65534 < a := by omega
  have c2 : ¬ b < 1 := by omega
  have c3 : ¬ 65535 < b := by omega
  have HM := hide hm
  clear h ht e2 e1 hm
  go_enter Try.func11, Try.ntmps11
  go_wp2_with fail
  generalize w.alloc (Obj.cells #[.int .i64 a, .int .i64 b] 29) = w1 at *
  have hx0 := Ext.refl w1
  go_loopw [6] (fun i wr => ∃ j : Nat, j ≤ n ∧ i = .int .i64 (j : Int) ∧ Ext w1 wr) (fun i _ => n - (intOf i).toNat)
  case atStart => exact ⟨0, by omega, rfl, hx0⟩
  case round =>
    clear hx0
    obtain ⟨j, hj, rfl, hX⟩ := hrel
    by_cases hlt : j < n
    · have hjn : j < l.length := by have := HM.out; omega
      obtain ⟨b', off, rfl, r⟩ := (H.out.ext (hX0.trans hX)).at_ hjn
      have r0 := fun w' x => (r w' x).1
      have r1 := fun w' x => (r w' x).2
      have q0 := fun w' (x : Ext wr w') => (HB.out.ext (hX.trans x)).cell
      have hW := Ext.refl wr
      have E := hide (HT.out _ (List.getElem_mem hjn))
      have e3 := E.out
      generalize l[j] = x at *
      have HX := hide hX
      clear r hX
      go_wp2_with fail
      refine wp_region_ext (by kernel_rfl) (by kernel_rfl) ?_
      repeat
        with_reducible refine wpQuiet_step (fun K hK => ?_)
        go_simp
        first
        | (refine hK _ ?_; clear hK K)
        | (apply Exists.intro
           refine ⟨fun w1 h1 => ?_, hK _ ?_⟩
           (have hW := Ext.trans2 hW (by repeat (first | exact Ext.refl _ | exact Ext.alloc _ _ | exact Ext.drewN _ _ | assumption | refine Ext.trans ?_ (Ext.alloc _ _) | refine Ext.trans ?_ (Ext.drew _) | refine Ext.trans ?_ (by assumption))) h1; (try have hV := Ext.trans2 hV (by repeat (first | exact Ext.refl _ | exact Ext.alloc _ _ | exact Ext.drewN _ _ | assumption | refine Ext.trans ?_ (Ext.alloc _ _) | refine Ext.trans ?_ (Ext.drew _) | refine Ext.trans ?_ (by assumption))) h1); (first | rfl | (go_simp; done) | (go_simp; rfl) | fail))
           clear hK K)
      refine wpQuiet_nil (fun w' hw' => ?_)
      have hW := Ext.trans2 hW (by repeat (first | exact Ext.refl _ | exact Ext.alloc _ _ | exact Ext.drewN _ _ | assumption | refine Ext.trans ?_ (Ext.alloc _ _) | refine Ext.trans ?_ (Ext.drew _) | refine Ext.trans ?_ (by assumption))) hw'
      try have hV := Ext.trans2 hV (by repeat (first | exact Ext.refl _ | exact Ext.alloc _ _ | exact Ext.drewN _ _ | assumption | refine Ext.trans ?_ (Ext.alloc _ _) | refine Ext.trans ?_ (Ext.drew _) | refine Ext.trans ?_ (by assumption))) hw'
      clear hw'
      go_wp2_with fail
      go_roundw
      case rel => exact ⟨j + 1, by omega, by go_num, HX.out.trans hW⟩
      case measure => simp [intOf]; omega
    · obtain rfl : j = n := by omega
      have HX := hide (hX0.trans hX)
      have HB' := hide (HB.out.ext hX)
      have HC := hide (fun w' (x : Ext wr w') => H.out.ext (HX.out.trans x))
      clear hX
      go_wp2_with fail
      have hk := Ext.drew wr
      have d0 := own_nil wr.drew wr.heap.size 29 2
      go_region_held3 (fun w' => w'.cell? ⟨w.heap.size, 0, none⟩ = some (.int .i64 a) ∧ w'.cell? ⟨w.heap.size, 1, none⟩ = some (.int .i64 b)) (exact two2 (HB'.out.ext (by first | exact hk | exact hk.trans (Ext.drew _) | exact hk.trans (Ext.alloc _ _) | exact hk.trans ((Ext.alloc _ _).trans (Ext.drew _)) | exact hk.trans ((Ext.drew _).trans (Ext.alloc _ _)) | exact Ext.drew _ | exact Ext.refl _ | exact (Ext.alloc _ _).trans (Ext.drew _) | exact Ext.alloc _ _)))
        (first
          | (refine step_src (n := 0) (xs := []) rfl _ (.tmp 41) rfl Try.underlying26 inf_rw rfl (own_nil _ _ _ _) (Ext.refl _) rfl HM.out.symm HA.out (HC.out _ (by repeat (first | exact Ext.refl _ | assumption | exact Ext.alloc _ _ | exact Ext.drew _ | refine Ext.trans ?_ (Ext.alloc _ _) | refine Ext.trans ?_ (Ext.drew _)))) (by omega) (Nat.zero_add _) (List.nil_append _) ?_; intro A4 c4 w4 hown4 hX4; obtain ⟨hs4, hk, q3, p1, p2⟩ := over hX4 (W := wr) (by repeat (first | exact Ext.refl _ | assumption | exact Ext.alloc _ _ | exact Ext.drew _ | refine Ext.trans ?_ (Ext.alloc _ _) | refine Ext.trans ?_ (Ext.drew _))); have hown4 := own_low hown4 hs4; have HO4 := hide (fun w' (x : Ext w4 w') => own_ext hown4 x); clear hown4)
          | (refine step_own (W0 := wr) rfl (.tmp 42) (.tmp 44) 26 rfl Try.underlying26 inf_rw rfl (by omega) rfl (HO4.out _ (by repeat (first | exact Ext.refl _ | assumption | exact Ext.alloc _ _ | exact Ext.drew _ | refine Ext.trans ?_ (Ext.alloc _ _) | refine Ext.trans ?_ (Ext.drew _)))) (by repeat (first | exact Ext.refl _ | assumption | exact Ext.alloc _ _ | exact Ext.drew _ | refine Ext.trans ?_ (Ext.alloc _ _) | refine Ext.trans ?_ (Ext.drew _))) (m := 1) (news := rcells [(a, b)]) rfl rfl (news_two (by go_simp) (by go_simp)) (rcells_one _) (by unfold maxLen; omega) (by omega) ?_; intro A5 c5 w5 hown5 hX5; have hk := hX5))
      all_goals
        rw [← rcells_append] at hown5
        obtain ⟨A6, c6, e6, hr6, hne6⟩ := Row.of_own hown5
        cases e6
        have HR := hide hr6
        clear hr6 hne6 hown5
        go_wp2_with fail
        go_ret2
        exact ⟨A5, c5, by simp, HR.out, HX.out.trans hX5⟩
theorem radd_any {w : World} {A : Option Addr} {n c : Nat} {l : List Wt} (a b : Int) (h : Row 29 w A n c l) (hl : n ≤ 65535) :
    Calls Try.prog 11 #[.slice A n c, (Value.agg #[.int .i64 a, .int .i64 b])] w fun e w' => ∃ A' n' c', e = .returned (.tuple #[.slice A' n' c', .bool (adB l (a, b))]) ∧ Row 29 w' A' n' c' (adL l (a, b)) ∧ Ext w w' := by
  cases e : adB l (a, b) with
  | false =>
    rw [adL_no e]
    exact (radd_no h hl e).mono fun e w' ⟨h1, h2⟩ => ⟨A, n, c, h1, h.ext h2, h2⟩
  | true =>
    rw [adL_yes e]
    exact (radd_yes h hl e).mono fun e w' ⟨A', c', h1, h2, h3⟩ => ⟨A', n + 1, c', h1, h2, h3⟩
theorem rmL_snoc {l : List Wt} {t : Int} {q : Nat} (hq : q < l.length) : rmL (l.take (q + 1)) t = rmL (l.take q) t ++ (if (l[q]).1 = t then [] else [l[q]]) := by
  unfold rmL
  rw [List.take_succ_eq_append_getElem hq, List.filter_append]
  by_cases e : (l[q]).1 = t
  · simp [e]
  · simp [e]
end Go.Proofs.Ytbkpmlcockkfnaa
