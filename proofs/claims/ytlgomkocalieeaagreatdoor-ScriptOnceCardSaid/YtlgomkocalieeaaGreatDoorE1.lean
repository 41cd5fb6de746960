/- Whether two scripts are the same. -/
import Derived.Test.YtlgomkocalieeaaGreatDoorSA
namespace Go.Proofs.YtlgomkocalieeaaGreatDoor
open Go.RowKit
set_option linter.unusedSimpArgs false
set_option linter.unusedVariables false
set_option maxRecDepth 100000
set_option maxHeartbeats 8000000

theorem run_neq3 (a b c x y z : Int) (w : World) : Sem.run Tryz.prog (binOp .neq 53 (.agg #[.int .i64 a, .int .i64 b, .int .i64 c]) (.agg #[.int .i64 x, .int .i64 y, .int .i64 z])) w = .ok (.bool (!decide (a = x ∧ b = y ∧ c = z))) w := by
  go_simp
  by_cases h1 : a = x
  · by_cases h2 : b = y
    · by_cases h3 : c = z <;> simp [h1, h2, h3]
    · simp [h1, h2]
  · simp [h1]
theorem run_neq2 (a b x y : Int) (w : World) : Sem.run Tryz.prog (binOp .neq 55 (.agg #[.int .i64 a, .int .i64 b]) (.agg #[.int .i64 x, .int .i64 y])) w = .ok (.bool (!decide (a = x ∧ b = y))) w := by
  go_simp
  by_cases h1 : a = x
  · by_cases h2 : b = y <;> simp [h1, h2]
  · simp [h1]
theorem take_eq_succ {α : Type} {l m : List α} {j : Nat} (hl : j < l.length) (hm : j < m.length) (h : l.take j = m.take j) (he : l[j] = m[j]) : l.take (j + 1) = m.take (j + 1) := by
  rw [List.take_add_one, List.take_add_one, List.getElem?_eq_getElem hl, List.getElem?_eq_getElem hm, h, he]
theorem eqO_any {w : World} {A B : Option Addr} {p q : List Op3} (c d : Nat) (h1 : Ch w A p) (h2 : Ch w B q) (hp : p.length ≤ 1000000000000000) :
    Calls Tryz.prog 30 #[.slice A p.length c, .slice B q.length d] w fun e w' => e = .returned (.bool (decide (p = q))) ∧ Ext w w' := by
  by_cases hl : p.length = q.length
  · have hli : (p.length : Int) = (q.length : Int) := by omega
    obtain ⟨r, hr⟩ : ∃ r, decide (p = q) = r := ⟨_, rfl⟩
    rw [hr]
    have HR := hide hr
    have H1 := hide h1
    have H2 := hide h2
    have HL := hide hl
    clear hr h1 h2 hl
    go_enter Tryz.func30, Tryz.ntmps30
    go_wp2_with fail
    clear hli
    go_loopw [13] (fun i wr => ∃ j : Nat, j ≤ p.length ∧ i = .int .i64 (j : Int) ∧ Ext w wr ∧ p.take j = q.take j) (fun i _ => p.length - (intOf i).toNat)
    case atStart => exact ⟨0, by omega, rfl, Ext.refl _, by simp⟩
    case round =>
      obtain ⟨j, hj, rfl, hx, htk⟩ := hrel
      have HX := hide hx
      have HTK := hide htk
      by_cases hlt : j < p.length
      · have hltq : j < q.length := by have := HL.out; omega
        obtain ⟨b1, o1, rfl, r1⟩ := (H1.out.ext hx).at_ hlt
        obtain ⟨b2, o2, rfl, r2⟩ := (H2.out.ext hx).at_ hltq
        have HN := hide (fun (hne : p[j] ≠ q[j]) => (show ¬ p = q from fun e => hne (by subst e; rfl)))
        have HY := hide (fun (he : p[j] = q[j]) => take_eq_succ hlt hltq htk he)
        generalize p[j] = x at *
        generalize q[j] = y at *
        obtain ⟨k, o, a⟩ := x
        obtain ⟨k2, o2', a2⟩ := y
        obtain ⟨x0, x1, x2⟩ := r1 wr (Ext.refl _)
        obtain ⟨y0, y1, y2⟩ := r2 wr (Ext.refl _)
        have hne3 := run_neq3 k o a k2 o2' a2
        have hltI : (j : Int) < (p.length : Int) := by omega
        have hltQ : (j : Int) < (q.length : Int) := by omega
        clear hx htk r1 r2
        by_cases he : k = k2 ∧ o = o2' ∧ a = a2
        · obtain ⟨rfl, rfl, rfl⟩ := he
          have hne4 : ∀ w, Sem.run Tryz.prog (binOp .neq 53 (.agg #[.int .i64 k, .int .i64 o, .int .i64 a]) (.agg #[.int .i64 k, .int .i64 o, .int .i64 a])) w = .ok (.bool false) w := fun w => by rw [hne3]; simp
          clear hne3
          go_wp2_with fail
          go_region
          go_wp2_with fail
          go_roundw
          case rel =>
            exact ⟨j + 1, by omega, by go_num, HX.out.trans (Ext.drew _), HY.out trivial⟩
          case measure => simp [intOf]; omega
        · have hne4 : ∀ w, Sem.run Tryz.prog (binOp .neq 53 (.agg #[.int .i64 k, .int .i64 o, .int .i64 a]) (.agg #[.int .i64 k2, .int .i64 o2', .int .i64 a2])) w = .ok (.bool true) w := fun w => by rw [hne3, decide_eq_false he]; rfl
          have hne5 : ¬ p = q := HN.out (fun e => he (by simp only [Prod.mk.injEq] at e; exact e))
          have hrf : r = false := by rw [← HR.out]; exact decide_eq_false hne5
          subst hrf
          clear hne3 he hne5
          go_wp2_with fail
          go_region
          go_wp2_with fail
          go_ret
          exact ⟨by simp, HX.out.trans (Ext.drew _)⟩
      · have hje : j = p.length := by omega
        have hpq : p = q := by
          have := htk
          rw [hje, List.take_length, HL.out, List.take_length] at this
          exact this
        have hrt : r = true := by rw [← HR.out]; exact decide_eq_true hpq
        subst hrt
        have h3 : ¬ (j : Int) < (p.length : Int) := by omega
        have h3q : ¬ (j : Int) < (q.length : Int) := by have := HL.out; omega
        clear hx htk hpq hje
        go_wp2_with fail
        go_ret
        exact ⟨by simp, HX.out⟩
  · have hli : ¬ (p.length : Int) = (q.length : Int) := by omega
    rw [decide_eq_false (show ¬ p = q from fun e => hl (by rw [e]))]
    go_enter Tryz.func30, Tryz.ntmps30
    go_wp2_with fail
    go_ret
    exact ⟨by simp, Ext.refl _⟩
theorem eqT_any {w : World} {A B : Option Addr} {p q : List Tr} (c d : Nat) (h1 : Tn w A p) (h2 : Tn w B q) (hp : p.length ≤ 1000000000000000) :
    Calls Tryz.prog 31 #[.slice A p.length c, .slice B q.length d] w fun e w' => e = .returned (.bool (decide (p = q))) ∧ Ext w w' := by
  by_cases hl : p.length = q.length
  · have hli : (p.length : Int) = (q.length : Int) := by omega
    obtain ⟨r, hr⟩ : ∃ r, decide (p = q) = r := ⟨_, rfl⟩
    rw [hr]
    have HR := hide hr
    have H1 := hide h1
    have H2 := hide h2
    have HL := hide hl
    clear hr h1 h2 hl
    go_enter Tryz.func31, Tryz.ntmps31
    go_wp2_with fail
    clear hli
    go_loopw [13] (fun i wr => ∃ j : Nat, j ≤ p.length ∧ i = .int .i64 (j : Int) ∧ Ext w wr ∧ p.take j = q.take j) (fun i _ => p.length - (intOf i).toNat)
    case atStart => exact ⟨0, by omega, rfl, Ext.refl _, by simp⟩
    case round =>
      obtain ⟨j, hj, rfl, hx, htk⟩ := hrel
      have HX := hide hx
      have HTK := hide htk
      by_cases hlt : j < p.length
      · have hltq : j < q.length := by have := HL.out; omega
        obtain ⟨b1, o1, rfl, _, x0, x1⟩ := (H1.out.ext hx).at_ hlt
        obtain ⟨b2, o2, rfl, _, y0, y1⟩ := (H2.out.ext hx).at_ hltq
        have HN := hide (fun (hne : p[j] ≠ q[j]) => (show ¬ p = q from fun e => hne (by subst e; rfl)))
        have HY := hide (fun (he : p[j] = q[j]) => take_eq_succ hlt hltq htk he)
        generalize p[j] = x at *
        generalize q[j] = y at *
        obtain ⟨k, o⟩ := x
        obtain ⟨k2, o2'⟩ := y
        have hne3 := run_neq2 k o k2 o2'
        have hltI : (j : Int) < (p.length : Int) := by omega
        have hltQ : (j : Int) < (q.length : Int) := by omega
        clear hx htk
        by_cases he : k = k2 ∧ o = o2'
        · obtain ⟨rfl, rfl⟩ := he
          have hne4 : ∀ w, Sem.run Tryz.prog (binOp .neq 55 (.agg #[.int .i64 k, .int .i64 o]) (.agg #[.int .i64 k, .int .i64 o])) w = .ok (.bool false) w := fun w => by rw [hne3]; simp
          clear hne3
          go_wp2_with fail
          go_region
          go_wp2_with fail
          go_roundw
          case rel =>
            exact ⟨j + 1, by omega, by go_num, HX.out.trans (Ext.drew _), HY.out trivial⟩
          case measure => simp [intOf]; omega
        · have hne4 : ∀ w, Sem.run Tryz.prog (binOp .neq 55 (.agg #[.int .i64 k, .int .i64 o]) (.agg #[.int .i64 k2, .int .i64 o2'])) w = .ok (.bool true) w := fun w => by rw [hne3, decide_eq_false he]; rfl
          have hne5 : ¬ p = q := HN.out (fun e => he (by simp only [Prod.mk.injEq] at e; exact e))
          have hrf : r = false := by rw [← HR.out]; exact decide_eq_false hne5
          subst hrf
          clear hne3 he hne5
          go_wp2_with fail
          go_region
          go_wp2_with fail
          go_ret
          exact ⟨by simp, HX.out.trans (Ext.drew _)⟩
      · have hje : j = p.length := by omega
        have hpq : p = q := by
          have := htk
          rw [hje, List.take_length, HL.out, List.take_length] at this
          exact this
        have hrt : r = true := by rw [← HR.out]; exact decide_eq_true hpq
        subst hrt
        have h3 : ¬ (j : Int) < (p.length : Int) := by omega
        have h3q : ¬ (j : Int) < (q.length : Int) := by have := HL.out; omega
        clear hx htk hpq hje
        go_wp2_with fail
        go_ret
        exact ⟨by simp, HX.out⟩
  · have hli : ¬ (p.length : Int) = (q.length : Int) := by omega
    rw [decide_eq_false (show ¬ p = q from fun e => hl (by rw [e]))]
    go_enter Tryz.func31, Tryz.ntmps31
    go_wp2_with fail
    go_ret
    exact ⟨by simp, Ext.refl _⟩
theorem eqP_any {w : World} {A B : Option Addr} {p q : List (List Op3)} (c d : Nat) (h1 : Pr w A p) (h2 : Pr w B q) (hp : p.length ≤ 1000000000000000) :
    Calls Tryz.prog 29 #[.slice A p.length c, .slice B q.length d, .func (.func 30) #[] #[]] w fun e w' => e = .returned (.bool (decide (p = q))) ∧ Ext w w' := by
  by_cases hl : p.length = q.length
  · have hli : (p.length : Int) = (q.length : Int) := by omega
    obtain ⟨r, hr⟩ : ∃ r, decide (p = q) = r := ⟨_, rfl⟩
    rw [hr]
    have HR := hide hr
    have H1 := hide h1
    have H2 := hide h2
    have HL := hide hl
    clear hr h1 h2 hl
    go_enter Tryz.func29, Tryz.ntmps29
    go_wp2_with fail
    clear hli
    go_loopw [17] (fun i wr => ∃ j : Nat, j ≤ p.length ∧ i = .int .i64 (j : Int) ∧ Ext w wr ∧ p.take j = q.take j) (fun i _ => p.length - (intOf i).toNat)
    case atStart => exact ⟨0, by omega, rfl, Ext.refl _, by simp⟩
    case round =>
      obtain ⟨j, hj, rfl, hx, htk⟩ := hrel
      have HX := hide hx
      have HTK := hide htk
      by_cases hlt : j < p.length
      · have hltq : j < q.length := by have := HL.out; omega
        have hltI : (j : Int) < (p.length : Int) := by omega
        have hltQ : (j : Int) < (q.length : Int) := by omega
        obtain ⟨b1, o1, A1, c1, rfl, _, x0, xl, xc⟩ := (H1.out.ext hx).at_ hlt
        obtain ⟨b2, o2, A2, c2, rfl, _, y0, yl, yc⟩ := (H2.out.ext hx).at_ hltq
        have HN := hide (fun (hne : p[j] ≠ q[j]) => (show ¬ p = q from fun e => hne (by subst e; rfl)))
        have HY := hide (fun (he : p[j] = q[j]) => take_eq_succ hlt hltq htk he)
        generalize p[j] = x at *
        generalize q[j] = y at *
        have hcall := eqO_any c1 c2 xc yc xl
        clear hx htk xc yc
        by_cases he : x = y
        · have HE := hide he
          rw [decide_eq_true he] at hcall
          clear he
          go_wp2_with fail
          refine hcall.mono ?_
          rintro e w2 ⟨rfl, hx2⟩
          go_wp2_with fail
          go_roundw
          case rel => exact ⟨j + 1, by omega, by go_num, HX.out.trans hx2, HY.out HE.out⟩
          case measure => simp [intOf]; omega
        · rw [decide_eq_false he] at hcall
          have hne5 : ¬ p = q := HN.out he
          have hrf : r = false := by rw [← HR.out]; exact decide_eq_false hne5
          subst hrf
          clear he hne5
          go_wp2_with fail
          refine hcall.mono ?_
          rintro e w2 ⟨rfl, hx2⟩
          go_wp2_with fail
          go_ret
          exact ⟨by simp, HX.out.trans hx2⟩
      · have hje : j = p.length := by omega
        have hpq : p = q := by
          have := htk
          rw [hje, List.take_length, HL.out, List.take_length] at this
          exact this
        have hrt : r = true := by rw [← HR.out]; exact decide_eq_true hpq
        subst hrt
        have h3 : ¬ (j : Int) < (p.length : Int) := by omega
        have h3q : ¬ (j : Int) < (q.length : Int) := by have := HL.out; omega
        clear hx htk hpq hje
        go_wp2_with fail
        go_ret
        exact ⟨by simp, HX.out⟩
  · have hli : ¬ (p.length : Int) = (q.length : Int) := by omega
    rw [decide_eq_false (show ¬ p = q from fun e => hl (by rw [e]))]
    go_enter Tryz.func29, Tryz.ntmps29
    go_wp2_with fail
    go_ret
    exact ⟨by simp, Ext.refl _⟩
theorem run_eqC (x y : Cf) (w : World) : Sem.run Tryz.prog (binOp .eql 24 (.agg #[.int .i64 x.t, .int .i64 x.o, .int .i64 x.c, .int .i64 x.s, .int .i64 x.p, .int .i64 x.n, .int .u8 x.b, .int .i64 x.r, .int .i64 x.v, .int .u64 x.d]) (.agg #[.int .i64 y.t, .int .i64 y.o, .int .i64 y.c, .int .i64 y.s, .int .i64 y.p, .int .i64 y.n, .int .u8 y.b, .int .i64 y.r, .int .i64 y.v, .int .u64 y.d])) w = .ok (.bool (decide (x = y))) w := by
  obtain ⟨t, o, c, s, p, n, b, r, v, d⟩ := x
  obtain ⟨t', o', c', s', p', n', b', r', v', d'⟩ := y
  go_simp
  by_cases h1 : t = t'
  · by_cases h2 : o = o'
    · by_cases h3 : c = c'
      · by_cases h4 : s = s'
        · by_cases h5 : p = p'
          · by_cases h6 : n = n'
            · by_cases h7 : b = b'
              · by_cases h8 : r = r'
                · by_cases h9 : v = v'
                  · by_cases h10 : d = d' <;> simp [h1, h2, h3, h4, h5, h6, h7, h8, h9, h10]
                  · simp [h1, h2, h3, h4, h5, h6, h7, h8, h9]
                · simp [h1, h2, h3, h4, h5, h6, h7, h8]
              · simp [h1, h2, h3, h4, h5, h6, h7]
            · simp [h1, h2, h3, h4, h5, h6]
          · simp [h1, h2, h3, h4, h5]
        · simp [h1, h2, h3, h4]
      · simp [h1, h2, h3]
    · simp [h1, h2]
  · simp [h1]
theorem same_any {w : World} {A B A2 B2 : Option Addr} {ps ps2 : List (List Op3)} {ts ts2 : List Tr} (c d c2 d2 : Nat) (x x2 : Cf) (h : Scr w A B ps ts) (h2 : Scr w A2 B2 ps2 ts2) :
    Calls Tryz.prog 13 #[.agg #[.int .i64 x.t, .int .i64 x.o, .int .i64 x.c, .int .i64 x.s, .int .i64 x.p, .int .i64 x.n, .int .u8 x.b, .int .i64 x.r, .int .i64 x.v, .int .u64 x.d, .slice A ps.length c, .slice B ts.length d], .agg #[.int .i64 x2.t, .int .i64 x2.o, .int .i64 x2.c, .int .i64 x2.s, .int .i64 x2.p, .int .i64 x2.n, .int .u8 x2.b, .int .i64 x2.r, .int .i64 x2.v, .int .u64 x2.d, .slice A2 ps2.length c2, .slice B2 ts2.length d2]] w
      fun e w' => e = .returned (.bool (decide (x = x2) && (decide (ps = ps2) && decide (ts = ts2)))) ∧ Ext w w' := by
  have hX1 := Ext.alloc w (.cells #[.int .i64 x.t, .int .i64 x.o, .int .i64 x.c, .int .i64 x.s, .int .i64 x.p, .int .i64 x.n, .int .u8 x.b, .int .i64 x.r, .int .i64 x.v, .int .u64 x.d, .slice A ps.length c, .slice B ts.length d] 37)
  have hX2 := Ext.alloc (w.alloc (.cells #[.int .i64 x.t, .int .i64 x.o, .int .i64 x.c, .int .i64 x.s, .int .i64 x.p, .int .i64 x.n, .int .u8 x.b, .int .i64 x.r, .int .i64 x.v, .int .u64 x.d, .slice A ps.length c, .slice B ts.length d] 37)) (.cells #[.int .i64 x2.t, .int .i64 x2.o, .int .i64 x2.c, .int .i64 x2.s, .int .i64 x2.p, .int .i64 x2.n, .int .u8 x2.b, .int .i64 x2.r, .int .i64 x2.v, .int .u64 x2.d, .slice A2 ps2.length c2, .slice B2 ts2.length d2] 37)
  have hb1 := (Blk.new w #[.int .i64 x.t, .int .i64 x.o, .int .i64 x.c, .int .i64 x.s, .int .i64 x.p, .int .i64 x.n, .int .u8 x.b, .int .i64 x.r, .int .i64 x.v, .int .u64 x.d, .slice A ps.length c, .slice B ts.length d] 37).ext hX2
  have hb2 := Blk.new (w.alloc (.cells #[.int .i64 x.t, .int .i64 x.o, .int .i64 x.c, .int .i64 x.s, .int .i64 x.p, .int .i64 x.n, .int .u8 x.b, .int .i64 x.r, .int .i64 x.v, .int .u64 x.d, .slice A ps.length c, .slice B ts.length d] 37)) #[.int .i64 x2.t, .int .i64 x2.o, .int .i64 x2.c, .int .i64 x2.s, .int .i64 x2.p, .int .i64 x2.n, .int .u8 x2.b, .int .i64 x2.r, .int .i64 x2.v, .int .u64 x2.d, .slice A2 ps2.length c2, .slice B2 ts2.length d2] 37
  simp only [World.size_alloc] at hb2
  have hX := hX1.trans hX2
  have hrc := run_eqC x x2
  have H := hide (h.ext hX)
  have H2 := hide (h2.ext hX)
  have HX := hide hX
  clear h h2 hX1 hX2 hX
  by_cases hx : x = x2
  · have hrc1 : ∀ w, Sem.run Tryz.prog (binOp .eql 24 (.agg #[.int .i64 x.t, .int .i64 x.o, .int .i64 x.c, .int .i64 x.s, .int .i64 x.p, .int .i64 x.n, .int .u8 x.b, .int .i64 x.r, .int .i64 x.v, .int .u64 x.d]) (.agg #[.int .i64 x2.t, .int .i64 x2.o, .int .i64 x2.c, .int .i64 x2.s, .int .i64 x2.p, .int .i64 x2.n, .int .u8 x2.b, .int .i64 x2.r, .int .i64 x2.v, .int .u64 x2.d])) w = .ok (.bool true) w := fun w => by rw [hrc, decide_eq_true hx]
    rw [decide_eq_true hx]
    have hep := eqP_any c c2 H.out.p H2.out.p H.out.pl
    clear hrc hx
    by_cases hp : ps = ps2
    · rw [decide_eq_true hp] at hep ⊢
      have HP := hide hp
      clear hp
      have q1 := hb1.cell
      have q2 := hb2.cell
      go_enter Tryz.func13, Tryz.ntmps13
      go_wp2_with fail
      refine hep.mono ?_
      rintro e w1 ⟨rfl, hx1⟩
      have q3 := (hb1.ext hx1).cell
      have q4 := (hb2.ext hx1).cell
      have het := eqT_any d d2 (H.out.t.ext hx1) (H2.out.t.ext hx1) H.out.tl
      have HX1 := hide hx1
      clear q1 q2 hep hb1 hb2 hx1
      go_wp2_with fail
      refine het.mono ?_
      rintro e w2 ⟨rfl, hx2⟩
      go_wp2_with fail
      go_ret
      exact ⟨by simp, (HX.out.trans HX1.out).trans hx2⟩
    · rw [decide_eq_false hp] at hep ⊢
      have HP := hide hp
      clear hp
      have q1 := hb1.cell
      have q2 := hb2.cell
      go_enter Tryz.func13, Tryz.ntmps13
      go_wp2_with fail
      refine hep.mono ?_
      rintro e w1 ⟨rfl, hx1⟩
      go_wp2_with fail
      go_ret
      exact ⟨by simp, HX.out.trans hx1⟩
  · have hrc1 : ∀ w, Sem.run Tryz.prog (binOp .eql 24 (.agg #[.int .i64 x.t, .int .i64 x.o, .int .i64 x.c, .int .i64 x.s, .int .i64 x.p, .int .i64 x.n, .int .u8 x.b, .int .i64 x.r, .int .i64 x.v, .int .u64 x.d]) (.agg #[.int .i64 x2.t, .int .i64 x2.o, .int .i64 x2.c, .int .i64 x2.s, .int .i64 x2.p, .int .i64 x2.n, .int .u8 x2.b, .int .i64 x2.r, .int .i64 x2.v, .int .u64 x2.d])) w = .ok (.bool false) w := fun w => by rw [hrc, decide_eq_false hx]
    rw [decide_eq_false hx]
    clear hrc hx
    go_enter Tryz.func13, Tryz.ntmps13
    go_wp2_with fail
    go_ret
    exact ⟨by simp, HX.out⟩
end Go.Proofs.YtlgomkocalieeaaGreatDoor
