/- Whether two scripts are the same. -/
import Derived.Test.YtlgomkocalieeaaGreatDoorSA
import Derived.Test.YtlgomkocalieeaaGreatDoorSS
namespace Go.Proofs.YtlgomkocalieeaaGreatDoor
open Go.RowKit
set_option linter.unusedSimpArgs false
set_option linter.unusedVariables false
set_option maxRecDepth 100000
set_option maxHeartbeats 8000000

theorem run_neq3 (a b c x y z : Int) (w : World) : Sem.run Tryz.prog (binOp .neq 53 (.agg #[.int .i64 a, .int .i64 b, .int .i64 c]) (.agg #[.int .i64 x, .int .i64 y, .int .i64 z])) w = .ok (.bool (!decide (a = x ∧ b = y ∧ c = z))) w := by
  go_simp
  by_cases h1 : a = x
  · by_cases h2 : b = y
    · by_cases h3 : c = z <;> simp [h1, h2, h3]
    · simp [h1, h2]
  · simp [h1]
theorem run_neq2 (a b x y : Int) (w : World) : Sem.run Tryz.prog (binOp .neq 55 (.agg #[.int .i64 a, .int .i64 b]) (.agg #[.int .i64 x, .int .i64 y])) w = .ok (.bool (!decide (a = x ∧ b = y))) w := by
  go_simp
  by_cases h1 : a = x
  · by_cases h2 : b = y <;> simp [h1, h2]
  · simp [h1]
theorem take_eq_succ {α : Type} {l m : List α} {j : Nat} (hl : j < l.length) (hm : j < m.length) (h : l.take j = m.take j) (he : l[j] = m[j]) : l.take (j + 1) = m.take (j + 1) := by
  rw [List.take_add_one, List.take_add_one, List.getElem?_eq_getElem hl, List.getElem?_eq_getElem hm, h, he]
theorem eqO_any {w : World} {A B : Option Addr} {p q : List Op3} (c d : Nat) (h1 : Ch w A p) (h2 : Ch w B q) (hp : p.length ≤ 9223372036854775807) :
    Calls Tryz.prog 30 #[.slice A p.length c, .slice B q.length d] w fun e w' => e = .returned (.bool (decide (p = q))) ∧ Ext w w' := by
  by_cases hl : p.length = q.length
  · have hli : (p.length : Int) = (q.length : Int) := by omega
    obtain ⟨r, hr⟩ : ∃ r, decide (p = q) = r := ⟨_, rfl⟩
    rw [hr]
    have HR := hide hr
    have H1 := hide h1
    have H2 := hide h2
    have HL := hide hl
    clear hr h1 h2 hl
    go_enter Tryz.func30, Tryz.ntmps30
    go_wp2_with fail
    clear hli
    go_loopw [13] (fun i wr => ∃ j : Nat, j ≤ p.length ∧ i = .int .i64 (j : Int) ∧ Ext w wr ∧ p.take j = q.take j) (fun i _ => p.length - (intOf i).toNat)
    case atStart => exact ⟨0, by omega, rfl, Ext.refl _, by simp⟩
    case round =>
      obtain ⟨j, hj, rfl, hx, htk⟩ := hrel
      have HX := hide hx
      have HTK := hide htk
      by_cases hlt : j < p.length
      · have hltq : j < q.length := by have := HL.out; omega
        obtain ⟨b1, o1, rfl, r1⟩ := (H1.out.ext hx).at_ hlt
        obtain ⟨b2, o2, rfl, r2⟩ := (H2.out.ext hx).at_ hltq
        have HN := hide (fun (hne : p[j] ≠ q[j]) => (show ¬ p = q from fun e => hne (by subst e; rfl)))
        have HY := hide (fun (he : p[j] = q[j]) => take_eq_succ hlt hltq htk he)
        generalize p[j] = x at *
        generalize q[j] = y at *
        obtain ⟨k, o, a⟩ := x
        obtain ⟨k2, o2', a2⟩ := y
        obtain ⟨x0, x1, x2⟩ := r1 wr (Ext.refl _)
        obtain ⟨y0, y1, y2⟩ := r2 wr (Ext.refl _)
        have hne3 := run_neq3 k o a k2 o2' a2
        have hltI : (j : Int) < (p.length : Int) := by omega
        have hltQ : (j : Int) < (q.length : Int) := by omega
        clear hx htk r1 r2
        by_cases he : k = k2 ∧ o = o2' ∧ a = a2
        · obtain ⟨rfl, rfl, rfl⟩ := he
          have hne4 : ∀ w, Sem.run Tryz.prog (binOp .neq 53 (.agg #[.int .i64 k, .int .i64 o, .int .i64 a]) (.agg #[.int .i64 k, .int .i64 o, .int .i64 a])) w = .ok (.bool false) w := fun w => by rw [hne3]; simp
          clear hne3
          go_wp2_with fail
          go_region
          go_wp2_with fail
          go_roundw
          case rel =>
            exact ⟨j + 1, by omega, by go_num, HX.out.trans (Ext.drew _), HY.out trivial⟩
          case measure => simp [intOf]; omega
        · have hne4 : ∀ w, Sem.run Tryz.prog (binOp .neq 53 (.agg #[.int .i64 k, .int .i64 o, .int .i64 a]) (.agg #[.int .i64 k2, .int .i64 o2', .int .i64 a2])) w = .ok (.bool true) w := fun w => by rw [hne3, decide_eq_false he]; rfl
          have hne5 : ¬ p = q := HN.out (fun e => he (by simp only [Prod.mk.injEq] at e; exact e))
          have hrf : r = false := by rw [← HR.out]; exact decide_eq_false hne5
          subst hrf
          clear hne3 he hne5
          go_wp2_with fail
          go_region
          go_wp2_with fail
          go_ret
          exact ⟨by simp, HX.out.trans (Ext.drew _)⟩
      · have hje : j = p.length := by omega
        have hpq : p = q := by
          have := htk
          rw [hje, List.take_length, HL.out, List.take_length] at this
          exact this
        have hrt : r = true := by rw [← HR.out]; exact decide_eq_true hpq
        subst hrt
        have h3 : ¬ (j : Int) < (p.length : Int) := by omega
        have h3q : ¬ (j : Int) < (q.length : Int) := by have := HL.out; omega
        clear hx htk hpq hje
        go_wp2_with fail
        go_ret
        exact ⟨by simp, HX.out⟩
  · have hli : ¬ (p.length : Int) = (q.length : Int) := by omega
    rw [decide_eq_false (show ¬ p = q from fun e => hl (by rw [e]))]
    go_enter Tryz.func30, Tryz.ntmps30
    go_wp2_with fail
    go_ret
    exact ⟨by simp, Ext.refl _⟩
theorem eqT_any {w : World} {A B : Option Addr} {p q : List Tr} (c d : Nat) (h1 : Tn w A p) (h2 : Tn w B q) (hp : p.length ≤ 9223372036854775807) :
    Calls Tryz.prog 31 #[.slice A p.length c, .slice B q.length d] w fun e w' => e = .returned (.bool (decide (p = q))) ∧ Ext w w' := by
  by_cases hl : p.length = q.length
  · have hli : (p.length : Int) = (q.length : Int) := by omega
    obtain ⟨r, hr⟩ : ∃ r, decide (p = q) = r := ⟨_, rfl⟩
    rw [hr]
    have HR := hide hr
    have H1 := hide h1
    have H2 := hide h2
    have HL := hide hl
    clear hr h1 h2 hl
    go_enter Tryz.func31, Tryz.ntmps31
    go_wp2_with fail
    clear hli
    go_loopw [13] (fun i wr => ∃ j : Nat, j ≤ p.length ∧ i = .int .i64 (j : Int) ∧ Ext w wr ∧ p.take j = q.take j) (fun i _ => p.length - (intOf i).toNat)
    case atStart => exact ⟨0, by omega, rfl, Ext.refl _, by simp⟩
    case round =>
      obtain ⟨j, hj, rfl, hx, htk⟩ := hrel
      have HX := hide hx
      have HTK := hide htk
      by_cases hlt : j < p.length
      · have hltq : j < q.length := by have := HL.out; omega
        obtain ⟨b1, o1, rfl, _, x0, x1⟩ := (H1.out.ext hx).at_ hlt
        obtain ⟨b2, o2, rfl, _, y0, y1⟩ := (H2.out.ext hx).at_ hltq
        have HN := hide (fun (hne : p[j] ≠ q[j]) => (show ¬ p = q from fun e => hne (by subst e; rfl)))
        have HY := hide (fun (he : p[j] = q[j]) => take_eq_succ hlt hltq htk he)
        generalize p[j] = x at *
        generalize q[j] = y at *
        obtain ⟨k, o⟩ := x
        obtain ⟨k2, o2'⟩ := y
        have hne3 := run_neq2 k o k2 o2'
        have hltI : (j : Int) < (p.length : Int) := by omega
        have hltQ : (j : Int) < (q.length : Int) := by omega
        clear hx htk
        by_cases he : k = k2 ∧ o = o2'
        · obtain ⟨rfl, rfl⟩ := he
          have hne4 : ∀ w, Sem.run Tryz.prog (binOp .neq 55 (.agg #[.int .i64 k, .int .i64 o]) (.agg #[.int .i64 k, .int .i64 o])) w = .ok (.bool false) w := fun w => by rw [hne3]; simp
          clear hne3
          go_wp2_with fail
          go_region
          go_wp2_with fail
          go_roundw
          case rel =>
            exact ⟨j + 1, by omega, by go_num, HX.out.trans (Ext.drew _), HY.out trivial⟩
          case measure => simp [intOf]; omega
        · have hne4 : ∀ w, Sem.run Tryz.prog (binOp .neq 55 (.agg #[.int .i64 k, .int .i64 o]) (.agg #[.int .i64 k2, .int .i64 o2'])) w = .ok (.bool true) w := fun w => by rw [hne3, decide_eq_false he]; rfl
          have hne5 : ¬ p = q := HN.out (fun e => he (by simp only [Prod.mk.injEq] at e; exact e))
          have hrf : r = false := by rw [← HR.out]; exact decide_eq_false hne5
          subst hrf
          clear hne3 he hne5
          go_wp2_with fail
          go_region
          go_wp2_with fail
          go_ret
          exact ⟨by simp, HX.out.trans (Ext.drew _)⟩
      · have hje : j = p.length := by omega
        have hpq : p = q := by
          have := htk
          rw [hje, List.take_length, HL.out, List.take_length] at this
          exact this
        have hrt : r = true := by rw [← HR.out]; exact decide_eq_true hpq
        subst hrt
        have h3 : ¬ (j : Int) < (p.length : Int) := by omega
        have h3q : ¬ (j : Int) < (q.length : Int) := by have := HL.out; omega
        clear hx htk hpq hje
        go_wp2_with fail
        go_ret
        exact ⟨by simp, HX.out⟩
  · have hli : ¬ (p.length : Int) = (q.length : Int) := by omega
    rw [decide_eq_false (show ¬ p = q from fun e => hl (by rw [e]))]
    go_enter Tryz.func31, Tryz.ntmps31
    go_wp2_with fail
    go_ret
    exact ⟨by simp, Ext.refl _⟩
theorem eqP_any {w : World} {A B : Option Addr} {p q : List (List Op3)} (c d : Nat) (h1 : Pr w A p) (h2 : Pr w B q) (hp : p.length ≤ 9223372036854775807) :
    Calls Tryz.prog 29 #[.slice A p.length c, .slice B q.length d, .func (.func 30) #[] #[]] w fun e w' => e = .returned (.bool (decide (p = q))) ∧ Ext w w' := by
  by_cases hl : p.length = q.length
  · have hli : (p.length : Int) = (q.length : Int) := by omega
    obtain ⟨r, hr⟩ : ∃ r, decide (p = q) = r := ⟨_, rfl⟩
    rw [hr]
    have HR := hide hr
    have H1 := hide h1
    have H2 := hide h2
    have HL := hide hl
    clear hr h1 h2 hl
    go_enter Tryz.func29, Tryz.ntmps29
    go_wp2_with fail
    clear hli
    go_loopw [17] (fun i wr => ∃ j : Nat, j ≤ p.length ∧ i = .int .i64 (j : Int) ∧ Ext w wr ∧ p.take j = q.take j) (fun i _ => p.length - (intOf i).toNat)
    case atStart => exact ⟨0, by omega, rfl, Ext.refl _, by simp⟩
    case round =>
      obtain ⟨j, hj, rfl, hx, htk⟩ := hrel
      have HX := hide hx
      have HTK := hide htk
      by_cases hlt : j < p.length
      · have hltq : j < q.length := by have := HL.out; omega
        have hltI : (j : Int) < (p.length : Int) := by omega
        have hltQ : (j : Int) < (q.length : Int) := by omega
        obtain ⟨b1, o1, A1, c1, rfl, _, x0, xl, xc⟩ := (H1.out.ext hx).at_ hlt
        obtain ⟨b2, o2, A2, c2, rfl, _, y0, yl, yc⟩ := (H2.out.ext hx).at_ hltq
        have HN := hide (fun (hne : p[j] ≠ q[j]) => (show ¬ p = q from fun e => hne (by subst e; rfl)))
        have HY := hide (fun (he : p[j] = q[j]) => take_eq_succ hlt hltq htk he)
        generalize p[j] = x at *
        generalize q[j] = y at *
        have hcall := eqO_any c1 c2 xc yc xl
        clear hx htk xc yc
        by_cases he : x = y
        · have HE := hide he
          rw [decide_eq_true he] at hcall
          clear he
          go_wp2_with fail
          refine hcall.mono ?_
          rintro e w2 ⟨rfl, hx2⟩
          go_wp2_with fail
          go_roundw
          case rel => exact ⟨j + 1, by omega, by go_num, HX.out.trans hx2, HY.out HE.out⟩
          case measure => simp [intOf]; omega
        · rw [decide_eq_false he] at hcall
          have hne5 : ¬ p = q := HN.out he
          have hrf : r = false := by rw [← HR.out]; exact decide_eq_false hne5
          subst hrf
          clear he hne5
          go_wp2_with fail
          refine hcall.mono ?_
          rintro e w2 ⟨rfl, hx2⟩
          go_wp2_with fail
          go_ret
          exact ⟨by simp, HX.out.trans hx2⟩
      · have hje : j = p.length := by omega
        have hpq : p = q := by
          have := htk
          rw [hje, List.take_length, HL.out, List.take_length] at this
          exact this
        have hrt : r = true := by rw [← HR.out]; exact decide_eq_true hpq
        subst hrt
        have h3 : ¬ (j : Int) < (p.length : Int) := by omega
        have h3q : ¬ (j : Int) < (q.length : Int) := by have := HL.out; omega
        clear hx htk hpq hje
        go_wp2_with fail
        go_ret
        exact ⟨by simp, HX.out⟩
  · have hli : ¬ (p.length : Int) = (q.length : Int) := by omega
    rw [decide_eq_false (show ¬ p = q from fun e => hl (by rw [e]))]
    go_enter Tryz.func29, Tryz.ntmps29
    go_wp2_with fail
    go_ret
    exact ⟨by simp, Ext.refl _⟩
theorem run_eqC (x y : Cf) (w : World) : Sem.run Tryz.prog (binOp .eql 24 (.agg #[.int .i64 x.t, .int .i64 x.o, .int .i64 x.c, .int .i64 x.s, .int .i64 x.p, .int .i64 x.n, .int .u8 x.b, .int .i64 x.r, .int .i64 x.v, .int .u64 x.d]) (.agg #[.int .i64 y.t, .int .i64 y.o, .int .i64 y.c, .int .i64 y.s, .int .i64 y.p, .int .i64 y.n, .int .u8 y.b, .int .i64 y.r, .int .i64 y.v, .int .u64 y.d])) w = .ok (.bool (decide (x = y))) w := by
  obtain ⟨t, o, c, s, p, n, b, r, v, d⟩ := x
  obtain ⟨t', o', c', s', p', n', b', r', v', d'⟩ := y
  go_simp
  by_cases h1 : t = t'
  · by_cases h2 : o = o'
    · by_cases h3 : c = c'
      · by_cases h4 : s = s'
        · by_cases h5 : p = p'
          · by_cases h6 : n = n'
            · by_cases h7 : b = b'
              · by_cases h8 : r = r'
                · by_cases h9 : v = v'
                  · by_cases h10 : d = d' <;> simp [h1, h2, h3, h4, h5, h6, h7, h8, h9, h10]
                  · simp [h1, h2, h3, h4, h5, h6, h7, h8, h9]
                · simp [h1, h2, h3, h4, h5, h6, h7, h8]
              · simp [h1, h2, h3, h4, h5, h6, h7]
            · simp [h1, h2, h3, h4, h5, h6]
          · simp [h1, h2, h3, h4, h5]
        · simp [h1, h2, h3, h4]
      · simp [h1, h2, h3]
    · simp [h1, h2]
  · simp [h1]
theorem same_any {w : World} {A B A2 B2 : Option Addr} {ps ps2 : List (List Op3)} {ts ts2 : List Tr} (c d c2 d2 : Nat) (x x2 : Cf) (h : Scr w A B ps ts) (h2 : Scr w A2 B2 ps2 ts2) :
    Calls Tryz.prog 13 #[.agg #[.int .i64 x.t, .int .i64 x.o, .int .i64 x.c, .int .i64 x.s, .int .i64 x.p, .int .i64 x.n, .int .u8 x.b, .int .i64 x.r, .int .i64 x.v, .int .u64 x.d, .slice A ps.length c, .slice B ts.length d], .agg #[.int .i64 x2.t, .int .i64 x2.o, .int .i64 x2.c, .int .i64 x2.s, .int .i64 x2.p, .int .i64 x2.n, .int .u8 x2.b, .int .i64 x2.r, .int .i64 x2.v, .int .u64 x2.d, .slice A2 ps2.length c2, .slice B2 ts2.length d2]] w
      fun e w' => e = .returned (.bool (decide (x = x2) && (decide (ps = ps2) && decide (ts = ts2)))) ∧ Ext w w' := by
  have hX1 := Ext.alloc w (.cells #[.int .i64 x.t, .int .i64 x.o, .int .i64 x.c, .int .i64 x.s, .int .i64 x.p, .int .i64 x.n, .int .u8 x.b, .int .i64 x.r, .int .i64 x.v, .int .u64 x.d, .slice A ps.length c, .slice B ts.length d] 37)
  have hX2 := Ext.alloc (w.alloc (.cells #[.int .i64 x.t, .int .i64 x.o, .int .i64 x.c, .int .i64 x.s, .int .i64 x.p, .int .i64 x.n, .int .u8 x.b, .int .i64 x.r, .int .i64 x.v, .int .u64 x.d, .slice A ps.length c, .slice B ts.length d] 37)) (.cells #[.int .i64 x2.t, .int .i64 x2.o, .int .i64 x2.c, .int .i64 x2.s, .int .i64 x2.p, .int .i64 x2.n, .int .u8 x2.b, .int .i64 x2.r, .int .i64 x2.v, .int .u64 x2.d, .slice A2 ps2.length c2, .slice B2 ts2.length d2] 37)
  have hb1 := (Blk.new w #[.int .i64 x.t, .int .i64 x.o, .int .i64 x.c, .int .i64 x.s, .int .i64 x.p, .int .i64 x.n, .int .u8 x.b, .int .i64 x.r, .int .i64 x.v, .int .u64 x.d, .slice A ps.length c, .slice B ts.length d] 37).ext hX2
  have hb2 := Blk.new (w.alloc (.cells #[.int .i64 x.t, .int .i64 x.o, .int .i64 x.c, .int .i64 x.s, .int .i64 x.p, .int .i64 x.n, .int .u8 x.b, .int .i64 x.r, .int .i64 x.v, .int .u64 x.d, .slice A ps.length c, .slice B ts.length d] 37)) #[.int .i64 x2.t, .int .i64 x2.o, .int .i64 x2.c, .int .i64 x2.s, .int .i64 x2.p, .int .i64 x2.n, .int .u8 x2.b, .int .i64 x2.r, .int .i64 x2.v, .int .u64 x2.d, .slice A2 ps2.length c2, .slice B2 ts2.length d2] 37
  simp only [World.size_alloc] at hb2
  have hX := hX1.trans hX2
  have hrc := run_eqC x x2
  have H := hide (h.ext hX)
  have H2 := hide (h2.ext hX)
  have HX := hide hX
  clear h h2 hX1 hX2 hX
  by_cases hx : x = x2
  · have hrc1 : ∀ w, Sem.run Tryz.prog (binOp .eql 24 (.agg #[.int .i64 x.t, .int .i64 x.o, .int .i64 x.c, .int .i64 x.s, .int .i64 x.p, .int .i64 x.n, .int .u8 x.b, .int .i64 x.r, .int .i64 x.v, .int .u64 x.d]) (.agg #[.int .i64 x2.t, .int .i64 x2.o, .int .i64 x2.c, .int .i64 x2.s, .int .i64 x2.p, .int .i64 x2.n, .int .u8 x2.b, .int .i64 x2.r, .int .i64 x2.v, .int .u64 x2.d])) w = .ok (.bool true) w := fun w => by rw [hrc, decide_eq_true hx]
    rw [decide_eq_true hx]
    have hep := eqP_any c c2 H.out.p H2.out.p H.out.pl
    clear hrc hx
    by_cases hp : ps = ps2
    · rw [decide_eq_true hp] at hep ⊢
      have HP := hide hp
      clear hp
      have q1 := hb1.cell
      have q2 := hb2.cell
      go_enter Tryz.func13, Tryz.ntmps13
      go_wp2_with fail
      refine hep.mono ?_
      rintro e w1 ⟨rfl, hx1⟩
      have q3 := (hb1.ext hx1).cell
      have q4 := (hb2.ext hx1).cell
      have het := eqT_any d d2 (H.out.t.ext hx1) (H2.out.t.ext hx1) H.out.tl
      have HX1 := hide hx1
      clear q1 q2 hep hb1 hb2 hx1
      go_wp2_with fail
      refine het.mono ?_
      rintro e w2 ⟨rfl, hx2⟩
      go_wp2_with fail
      go_ret
      exact ⟨by simp, (HX.out.trans HX1.out).trans hx2⟩
    · rw [decide_eq_false hp] at hep ⊢
      have HP := hide hp
      clear hp
      have q1 := hb1.cell
      have q2 := hb2.cell
      go_enter Tryz.func13, Tryz.ntmps13
      go_wp2_with fail
      refine hep.mono ?_
      rintro e w1 ⟨rfl, hx1⟩
      go_wp2_with fail
      go_ret
      exact ⟨by simp, HX.out.trans hx1⟩
  · have hrc1 : ∀ w, Sem.run Tryz.prog (binOp .eql 24 (.agg #[.int .i64 x.t, .int .i64 x.o, .int .i64 x.c, .int .i64 x.s, .int .i64 x.p, .int .i64 x.n, .int .u8 x.b, .int .i64 x.r, .int .i64 x.v, .int .u64 x.d]) (.agg #[.int .i64 x2.t, .int .i64 x2.o, .int .i64 x2.c, .int .i64 x2.s, .int .i64 x2.p, .int .i64 x2.n, .int .u8 x2.b, .int .i64 x2.r, .int .i64 x2.v, .int .u64 x2.d])) w = .ok (.bool false) w := fun w => by rw [hrc, decide_eq_false hx]
    rw [decide_eq_false hx]
    clear hrc hx
    go_enter Tryz.func13, Tryz.ntmps13
    go_wp2_with fail
    go_ret
    exact ⟨by simp, HX.out⟩
end Go.Proofs.YtlgomkocalieeaaGreatDoor

namespace Go.Proofs.YtlgomkocalieeaaGreatDoor
open Go.RowKit
set_option linter.unusedSimpArgs false
set_option linter.unusedVariables false
set_option maxRecDepth 100000
set_option maxHeartbeats 4000000
theorem u8_bN (b : UInt8) : u8 (b.toNat : Int) = b := by
  unfold u8
  rw [Int.toNat_natCast]
  simp
theorem u8_nat {n : Int} (h0 : 0 ≤ n) (h1 : n < 256) : ((u8 n).toNat : Int) = n := u8_val h0 h1
/-- An operation's bytes are the operation. -/
theorem opB_pb {x : Op3} (h : mayO x = true) (hf : fitO x = true) : opsB (pbO x) = [x] := by
  obtain ⟨h1, h2, h3, h4, h5, _⟩ := may_out h
  have hf : x.2.2 ≤ 65535 := of_decide_eq_true hf
  obtain ⟨k, o, a⟩ := x
  simp only at h1 h2 h3 h4 h5 hf
  have e : ∀ n : Int, 0 ≤ n → n < 256 → ((UInt8.ofNat n.toNat).toNat : Int) = n := fun n q1 q2 => u8_val q1 q2
  simp only [pbO, opsB, opB]
  rw [e _ (by omega) (by omega), e _ (by omega) (by omega), e _ (by omega) (by omega)]
  congr 2
  · omega
  · congr 1
    · omega
    · omega
theorem opsB_cons3 (a b c : UInt8) (r : List UInt8) : opsB (a :: b :: c :: r) = opB a b c :: opsB r := rfl
theorem ops_bytes {l : List Op3} (h : l.all mayO = true) (hf : fits l = true) : opsB (bytesO l) = l := by
  induction l with
  | nil => rfl
  | cons x l ih =>
    simp only [List.all_cons, Bool.and_eq_true] at h
    have hf2 : fitO x = true ∧ fits l = true := by simpa [fits] using hf
    have h1 := opB_pb h.1 hf2.1
    have e : bytesO (x :: l) = pbO x ++ bytesO l := rfl
    rw [e]
    simp only [pbO, List.cons_append, List.nil_append, opsB_cons3] at h1 ⊢
    rw [ih h.2 hf2.2]
    simp only [opsB] at h1
    have := List.head_eq_of_cons_eq h1
    rw [this]
theorem prog_lay {p : List Op3} (hw : wrongO p = 0) (hf : fits p = true) (r : List UInt8) : progP (pB p ++ r) = some (p, 0, r) := by
  obtain ⟨h64, hall⟩ := wrong_out hw
  have hl := bytesO_length p
  have hn : (u8 ((3 * p.length : Nat) : Int)).toNat = 3 * p.length := by
    have := u8_val (n := ((3 * p.length : Nat) : Int)) (by omega) (by omega)
    omega
  have ht : (bytesO p ++ r).take (3 * p.length) = bytesO p := by rw [show 3 * p.length = (bytesO p).length by omega, List.take_left]
  have hd : (bytesO p ++ r).drop (3 * p.length) = r := by rw [show 3 * p.length = (bytesO p).length by omega, List.drop_left]
  have hu : unpackO (bytesO p) = (p, 0) := by
    unfold unpackO
    rw [if_pos (by omega), if_neg (by omega), ops_bytes hall hf, if_pos hall]
  simp only [pB, List.cons_append, progP, hn]
  rw [if_neg (by rw [List.length_append]; omega), ht, hd, hu]
theorem progs_lay {t o : Int} (ps : List (List Op3)) (h : ∀ p, p ∈ ps → wrongO p = 0 ∧ fits p = true ∧ p.any (isNo t o) = false) (r : List UInt8) : progsP t o ps.length (ps.flatMap pB ++ r) = .ok (ps, r) := by
  induction ps with
  | nil => rfl
  | cons p ps ih =>
    obtain ⟨h1, h2, h3⟩ := h p (List.mem_cons_self ..)
    have ih := ih (fun q hq => h q (List.mem_cons_of_mem _ hq))
    rw [List.flatMap_cons, List.append_assoc, List.length_cons]
    simp only [progsP, prog_lay h1 h2, h3]
    rw [if_neg (by decide), if_neg (by decide), ih]
    rfl
theorem turn_lay {t : Int} (ht : t ≤ 8) {x : Tr} (h : isT t x = true) (r : List UInt8) : ∃ b q, tB x ++ r = b :: q ∧ turnP b q = .ok (x, r) := by
  obtain ⟨k, n⟩ := x
  unfold isT at h
  simp only at h
  split at h
  · subst_vars
    have h := of_decide_eq_true h
    have hv := u8_val (n := n) (by omega) (by omega)
    refine ⟨u8 n, r, rfl, ?_⟩
    unfold turnP
    rw [if_pos (by omega), hv]
  · split at h
    · subst_vars
      have h := of_decide_eq_true h
      have hv := u8_val (n := n) (by omega) (by omega)
      refine ⟨100, u8 n :: r, rfl, ?_⟩
      unfold turnP
      rw [if_neg (by decide), if_pos rfl]
      simp only [hv]
    · split at h
      · subst_vars
        have h : n = 0 := by simpa using h
        subst h
        exact ⟨101, r, rfl, rfl⟩
      · cases h
theorem turns_lay {t : Int} (ht : t ≤ 8) (ts : List Tr) (h : ∀ y, y ∈ ts → isT t y = true) : ∀ m, ts.length ≤ m → turnsP t m (ts.flatMap tB) = .ok ts := by
  induction ts with
  | nil => intro m _; cases m <;> rfl
  | cons x ts ih =>
    intro m hm
    obtain ⟨b, q, e, hq⟩ := turn_lay ht (h x (List.mem_cons_self ..)) (ts.flatMap tB)
    rw [List.flatMap_cons, e]
    match m, hm with
    | m + 1, hm =>
      rw [turns_cons hq (h x (List.mem_cons_self ..)), ih (fun y hy => h y (List.mem_cons_of_mem _ hy)) m (by simpa using hm)]
      rfl
end Go.Proofs.YtlgomkocalieeaaGreatDoor

namespace Go.Proofs.YtlgomkocalieeaaGreatDoor
open Go.RowKit
set_option linter.unusedSimpArgs false
set_option linter.unusedVariables false
set_option maxRecDepth 100000
set_option maxHeartbeats 4000000
theorem nB_at (x : Cf) {j : Nat} (hj : j < 9) : (nB x)[j]? = some (u8 (cfN x j)) := by
  unfold nB
  rw [List.getElem?_map, List.getElem?_range hj]; rfl
theorem dB_at (x : Cf) {j : Nat} (hj : j < 8) : (dB x)[j]? = some (u8 (sB x.d j)) := by
  unfold dB
  rw [List.getElem?_map, List.getElem?_range hj]; rfl
theorem nB_len (x : Cf) : (nB x).length = 9 := by simp [nB]
theorem dB_len (x : Cf) : (dB x).length = 8 := by simp [dB]
theorem sd_lay (l : List UInt8) (n : Nat) (h : ∀ j, j < 8 → bN l (9 + j) = sB (n : Int) j) : ∀ k, k ≤ 8 → sdN l k = ((n % 2 ^ (8 * k) : Nat) : Int)
  | 0, _ => by simp [sdN, Nat.mod_one]
  | k + 1, hk => by
    have ih := sd_lay l n h k (by omega)
    have e1 : 2 ^ (8 * (k + 1)) = 2 ^ (8 * k) * 256 := by rw [show 8 * (k + 1) = 8 * k + 8 by omega, Nat.pow_add]
    simp only [sdN, ih, h k (by omega), sB]
    rw [e1, Nat.mod_mul]
    have e2 : ((n : Int) / 2 ^ (8 * k) % 256) = ((n / 2 ^ (8 * k) % 256 : Nat) : Int) := by simp
    rw [e2]
    have e3 : ((2 : Int) ^ (8 * k)) = ((2 ^ (8 * k) : Nat) : Int) := by simp
    rw [e3, Int.natCast_add, Int.natCast_mul, Int.mul_comm]
theorem conf_lay {x : Cf} (hm : mayC x = true) (hb0 : 0 ≤ x.b) (hb1 : x.b < 256) (hd0 : 0 ≤ x.d) (hd1 : x.d < 18446744073709551616) (r : List UInt8) : confC (nB x ++ dB x ++ r) = x := by
  have hn : ∀ j, j < 9 → bN (nB x ++ dB x ++ r) j = cfN x j := by
    intro j hj
    obtain ⟨y0, y1⟩ := cfN_bd hm hb0 hb1 j
    unfold bN
    have e : (nB x ++ dB x ++ r)[j]? = some (u8 (cfN x j)) := by
      rw [List.append_assoc, List.getElem?_append_left (by rw [nB_len]; exact hj)]
      exact nB_at x hj
    rw [List.getD, e]
    exact u8_val y0 y1
  have hd : ∀ j, j < 8 → bN (nB x ++ dB x ++ r) (9 + j) = sB x.d j := by
    intro j hj
    obtain ⟨y0, y1⟩ := sB_bd hd0 (j := j)
    unfold bN
    have e : (nB x ++ dB x ++ r)[9 + j]? = some (u8 (sB x.d j)) := by
      rw [List.append_assoc, List.getElem?_append_right (by rw [nB_len]; omega), nB_len, show 9 + j - 9 = j by omega, List.getElem?_append_left (by rw [dB_len]; exact hj)]
      exact dB_at x hj
    rw [List.getD, e]
    exact u8_val y0 y1
  obtain ⟨t, o, c, s, p, n, b, rr, v, d⟩ := x
  simp only at hd0 hd1
  obtain ⟨dn, rfl⟩ := Int.eq_ofNat_of_zero_le hd0
  have hs := sd_lay _ dn hd 8 (Nat.le_refl _)
  have hs2 : sdN (nB ⟨t, o, c, s, p, n, b, rr, v, (dn : Int)⟩ ++ dB ⟨t, o, c, s, p, n, b, rr, v, (dn : Int)⟩ ++ r) 8 = (dn : Int) := by
    rw [hs, show 8 * 8 = 64 from rfl, Nat.mod_eq_of_lt (by omega)]
  have e0 := hn 0 (by omega)
  have e1 := hn 1 (by omega)
  have e2 := hn 2 (by omega)
  have e3 := hn 3 (by omega)
  have e4 := hn 4 (by omega)
  have e5 := hn 5 (by omega)
  have e6 := hn 6 (by omega)
  have e7 := hn 7 (by omega)
  have e8 := hn 8 (by omega)
  unfold confC
  rw [e0, e1, e2, e3, e4, e5, e6, e7, e8, hs2]
  rfl
/-- What is laid is read. -/
theorem read_lay {x : Cf} {ps : List (List Op3)} {ts : List Tr} (h : mayS x ps ts = 0) (hb0 : 0 ≤ x.b) (hb1 : x.b < 256) (hd0 : 0 ≤ x.d) (hd1 : x.d < 18446744073709551616) : readS (scB x ps ts) = .ok (x, ps, ts) := by
  have hok := may_ok h
  have hmn := may_n hok.c
  have e : scB x ps ts = 77 :: (nB x ++ dB x ++ (ps.flatMap pB ++ ts.flatMap tB)) := by simp [scB, hB]
  have hl : (nB x ++ dB x ++ (ps.flatMap pB ++ ts.flatMap tB)).length = 17 + (ps.flatMap pB ++ ts.flatMap tB).length := by rw [List.length_append, List.length_append, nB_len, dB_len]
  have hdr : (nB x ++ dB x ++ (ps.flatMap pB ++ ts.flatMap tB)).drop 17 = ps.flatMap pB ++ ts.flatMap tB := by
    have : (nB x ++ dB x).length = 17 := by rw [List.length_append, nB_len, dB_len]
    rw [← this, List.drop_left]
  have hc := conf_lay hok.c hb0 hb1 hd0 hd1 (ps.flatMap pB ++ ts.flatMap tB)
  rw [e]
  simp only [readS, if_true]
  rw [if_neg (by omega), hc, if_pos hok.c, hdr, show x.t.toNat = ps.length by have := hok.n; omega, progs_lay ps hok.p]
  simp only [turns_lay (by omega) ts hok.y 4096 hok.t]
end Go.Proofs.YtlgomkocalieeaaGreatDoor

namespace Go.Proofs.YtlgomkocalieeaaGreatDoor
open Go.RowKit
set_option linter.unusedSimpArgs false
set_option linter.unusedVariables false
set_option maxRecDepth 100000
set_option maxHeartbeats 4000000
theorem pb_opB (a b c : UInt8) : pbO (opB a b c) = [a, b, c] ∧ fitO (opB a b c) = true := by
  have ha := a.toNat_lt
  have hb := b.toNat_lt
  have hc := c.toNat_lt
  have e1 : ((a.toNat : Int) % 16 + 16 * ((a.toNat : Int) / 16)).toNat = a.toNat := by omega
  have e2 : (((b.toNat : Int) + 256 * (c.toNat : Int)) % 256).toNat = b.toNat := by omega
  have e3 : (((b.toNat : Int) + 256 * (c.toNat : Int)) / 256).toNat = c.toNat := by omega
  refine ⟨?_, ?_⟩
  · simp only [pbO, opB, e1, e2, e3]
    simp
  · unfold fitO
    refine decide_eq_true ?_
    show (b.toNat : Int) + 256 * (c.toNat : Int) ≤ 65535
    omega
theorem bytes_ops : ∀ l : List UInt8, l.length % 3 = 0 → bytesO (opsB l) = l ∧ fits (opsB l) = true
  | [], _ => ⟨rfl, rfl⟩
  | [_], h => by simp at h
  | [_, _], h => by simp at h
  | a :: b :: c :: r, h => by
    obtain ⟨h1, h2⟩ := bytes_ops r (by simp at h; omega)
    obtain ⟨h3, h4⟩ := pb_opB a b c
    rw [opsB_cons3]
    refine ⟨?_, ?_⟩
    · show pbO (opB a b c) ++ bytesO (opsB r) = _
      rw [h1, h3]; rfl
    · show (fitO (opB a b c) && fits (opsB r)) = true
      rw [h2, h4]; rfl
theorem opsB_len3 : ∀ l : List UInt8, l.length % 3 = 0 → (opsB l).length * 3 = l.length
  | [], _ => rfl
  | [_], h => by simp at h
  | [_, _], h => by simp at h
  | a :: b :: c :: r, h => by
    have := opsB_len3 r (by simp at h; omega)
    rw [opsB_cons3]
    simp only [List.length_cons]
    omega
theorem u8_self (b : UInt8) {n : Int} (h : n = (b.toNat : Int)) : u8 n = b := by subst h; exact u8_bN b
theorem prog_read {l : List UInt8} {p : List Op3} {r : List UInt8} (h : progP l = some (p, 0, r)) : pB p ++ r = l ∧ wrongO p = 0 ∧ fits p = true := by
  cases l with
  | nil => cases h
  | cons n q =>
    simp only [progP] at h
    split at h
    · cases h
    · rename_i hq
      simp only [Option.some.injEq, Prod.mk.injEq] at h
      obtain ⟨h1, h2, h3⟩ := h
      have hn := n.toNat_lt
      have hl : (q.take n.toNat).length = n.toNat := by rw [List.length_take]; omega
      unfold unpackO at h1 h2
      split at h2
      · rename_i h5
        rw [if_pos h5] at h1
        split at h2
        · cases h2
        · rename_i h6
          rw [if_neg h6] at h1
          split at h2
          · rename_i h7
            rw [if_pos h7] at h1
            simp only at h1
            obtain ⟨b1, b2⟩ := bytes_ops _ h5
            have b3 := opsB_len3 _ h5
            rw [h1] at b1 b2 b3 h7
            have hpl : p.length ≤ 64 := by omega
            refine ⟨?_, ?_, b2⟩
            · have e : u8 ((3 * p.length : Nat) : Int) = n := u8_self n (by omega)
              simp only [pB, e, b1, List.cons_append, ← h3, List.take_append_drop]
            · unfold wrongO
              rw [if_neg (by omega), if_pos h7]
          · cases h2
      · cases h2
theorem progs_read {t o : Int} : ∀ (k : Nat) {l q : List UInt8} {ps : List (List Op3)}, progsP t o k l = .ok (ps, q) → ps.length = k ∧ ps.flatMap pB ++ q = l ∧ ∀ p, p ∈ ps → wrongO p = 0 ∧ fits p = true ∧ p.any (isNo t o) = false
  | 0, l, q, ps, h => by
    simp only [progsP, Except.ok.injEq, Prod.mk.injEq] at h
    obtain ⟨rfl, rfl⟩ := h
    exact ⟨rfl, rfl, fun p hp => by cases hp⟩
  | k + 1, l, q, ps, h => by
    simp only [progsP] at h
    cases hp : progP l with
    | none => rw [hp] at h; cases h
    | some y =>
      obtain ⟨p, er, r⟩ := y
      rw [hp] at h
      simp only at h
      split at h
      · cases h
      · rename_i h1
        have he : er = 0 := by simpa using h1
        subst he
        split at h
        · cases h
        · rename_i h2
          cases hr : progsP t o k r with
          | error e => rw [hr] at h; cases h
          | ok z =>
            obtain ⟨ps2, q2⟩ := z
            rw [hr] at h
            simp only [preP, Except.ok.injEq, Prod.mk.injEq] at h
            obtain ⟨rfl, rfl⟩ := h
            obtain ⟨a1, a2, a3⟩ := progs_read k hr
            obtain ⟨b1, b2, b3⟩ := prog_read hp
            refine ⟨by simp; exact a1, ?_, fun p' hp' => ?_⟩
            · simp only [List.cons_append, List.nil_append, List.flatMap_cons, List.append_assoc]
              rw [a2, b1]
            · simp only [List.cons_append, List.nil_append, List.mem_cons] at hp'
              rcases hp' with rfl | hp'
              · exact ⟨b2, b3, by simpa using h2⟩
              · exact a3 p' hp'
theorem turn_read {b : UInt8} {r r' : List UInt8} {x : Tr} (h : turnP b r = .ok (x, r')) : tB x ++ r' = b :: r := by
  unfold turnP at h
  split at h
  · simp only [Except.ok.injEq, Prod.mk.injEq] at h
    obtain ⟨rfl, rfl⟩ := h
    show [u8 (b.toNat : Int)] ++ r = _
    rw [u8_bN]; rfl
  · split at h
    · subst_vars
      cases r with
      | nil => cases h
      | cons n r =>
        simp only [Except.ok.injEq, Prod.mk.injEq] at h
        obtain ⟨rfl, rfl⟩ := h
        show [100, u8 (n.toNat : Int)] ++ r = _
        rw [u8_bN]; rfl
    · split at h
      · subst_vars
        simp only [Except.ok.injEq, Prod.mk.injEq] at h
        obtain ⟨rfl, rfl⟩ := h
        rfl
      · cases h
theorem turns_read {t : Int} : ∀ (m : Nat) {l : List UInt8} {ts : List Tr}, turnsP t m l = .ok ts → ts.flatMap tB = l ∧ ts.length ≤ m ∧ ∀ y, y ∈ ts → isT t y = true
  | m, [], ts, h => by
    rw [turns_nil] at h
    cases h
    exact ⟨rfl, by simp, fun y hy => by cases hy⟩
  | 0, _ :: _, ts, h => by cases h
  | m + 1, b :: r, ts, h => by
    cases hq : turnP b r with
    | error e => simp only [turnsP, hq] at h; cases h
    | ok z =>
      obtain ⟨x, r2⟩ := z
      cases hx : isT t x with
      | false => simp only [turnsP, hq, hx] at h; cases h
      | true =>
        rw [turns_cons hq hx] at h
        cases hr : turnsP t m r2 with
        | error e => rw [hr] at h; cases h
        | ok ts2 =>
          rw [hr] at h
          simp only [preT, Except.ok.injEq] at h
          subst h
          obtain ⟨a1, a2, a3⟩ := turns_read m hr
          refine ⟨?_, by simp; omega, fun y hy => ?_⟩
          · simp only [List.cons_append, List.nil_append, List.flatMap_cons, a1]
            exact turn_read hq
          · simp only [List.cons_append, List.nil_append, List.mem_cons] at hy
            rcases hy with rfl | hy
            · exact hx
            · exact a3 y hy
theorem bN_get {l : List UInt8} {j : Nat} (h : j < l.length) : bN l j = ((l[j]).toNat : Int) := by unfold bN; simp [List.getD, List.getElem?_eq_getElem h]
theorem sB_sd (l : List UInt8) (j : Nat) (hj : j < 8) : sB (sdN l 8) j = bN l (9 + j) := by
  have b0 := bN_bd l (9 + 0)
  have b1 := bN_bd l (9 + 1)
  have b2 := bN_bd l (9 + 2)
  have b3 := bN_bd l (9 + 3)
  have b4 := bN_bd l (9 + 4)
  have b5 := bN_bd l (9 + 5)
  have b6 := bN_bd l (9 + 6)
  have b7 := bN_bd l (9 + 7)
  have e : sdN l 8 = bN l (9 + 0) + bN l (9 + 1) * 256 + bN l (9 + 2) * 65536 + bN l (9 + 3) * 16777216 + bN l (9 + 4) * 4294967296 + bN l (9 + 5) * 1099511627776 + bN l (9 + 6) * 281474976710656 + bN l (9 + 7) * 72057594037927936 := by
    simp [sdN]
  unfold sB
  rw [e]
  match j, hj with
  | 0, _ => show _ / 1 % 256 = bN l (9 + 0); omega
  | 1, _ => show _ / 256 % 256 = _; omega
  | 2, _ => show _ / 65536 % 256 = _; omega
  | 3, _ => show _ / 16777216 % 256 = _; omega
  | 4, _ => show _ / 4294967296 % 256 = _; omega
  | 5, _ => show _ / 1099511627776 % 256 = _; omega
  | 6, _ => show _ / 281474976710656 % 256 = _; omega
  | 7, _ => show _ / 72057594037927936 % 256 = _; omega
theorem conf_read {r : List UInt8} (h : 17 ≤ r.length) : nB (confC r) ++ dB (confC r) = r.take 17 := by
  have hn : ∀ j, j < 9 → cfN (confC r) j = bN r j := by
    intro j hj
    match j, hj with
    | 0, _ => rfl
    | 1, _ => rfl
    | 2, _ => rfl
    | 3, _ => rfl
    | 4, _ => rfl
    | 5, _ => rfl
    | 6, _ => rfl
    | 7, _ => rfl
    | 8, _ => rfl
  apply List.ext_getElem?
  intro j
  rcases Nat.lt_or_ge j 9 with q | q
  · rw [List.getElem?_append_left (by simp [nB]; exact q), List.getElem?_take_of_lt (by omega)]
    unfold nB
    rw [List.getElem?_map, List.getElem?_range q, List.getElem?_eq_getElem (by omega)]
    simp only [Option.map_some, Option.some.injEq]
    exact u8_self _ ((hn j q).trans (bN_get (by omega)))
  · rcases Nat.lt_or_ge j 17 with q2 | q2
    · rw [List.getElem?_append_right (by simp [nB]; exact q), List.getElem?_take_of_lt q2]
      have hl : (nB (confC r)).length = 9 := by simp [nB]
      rw [hl]
      unfold dB
      rw [List.getElem?_map, List.getElem?_range (by omega), List.getElem?_eq_getElem (by omega)]
      simp only [Option.map_some, Option.some.injEq]
      refine u8_self _ ?_
      show sB (sdN r 8) (j - 9) = _
      rw [sB_sd r (j - 9) (by omega), bN_get (by omega)]
      congr 3
      omega
    · rw [List.getElem?_eq_none (by simp [nB, dB]; omega), List.getElem?_eq_none (by rw [List.length_take]; omega)]
/-- What is read may be, and is laid as the same bytes. -/
theorem lay_read {l : List UInt8} {x : Cf} {ps : List (List Op3)} {ts : List Tr} (h : readS l = .ok (x, ps, ts)) :
    mayS x ps ts = 0 ∧ scB x ps ts = l ∧ (0 ≤ x.b ∧ x.b < 256) ∧ (0 ≤ x.d ∧ x.d < 18446744073709551616) := by
  cases l with
  | nil => cases h
  | cons b r =>
    simp only [readS] at h
    split at h
    · rename_i h77
      split at h
      · cases h
      · rename_i h17
        split at h
        · rename_i hm
          cases hp : progsP (confC r).t (confC r).o (confC r).t.toNat (r.drop 17) with
          | error e => rw [hp] at h; cases h
          | ok z =>
            obtain ⟨ps2, q⟩ := z
            rw [hp] at h
            simp only at h
            cases hts : turnsP (confC r).t 4096 q with
            | error e => rw [hts] at h; cases h
            | ok ts2 =>
              rw [hts] at h
              simp only [Except.ok.injEq, Prod.mk.injEq] at h
              obtain ⟨rfl, rfl, rfl⟩ := h
              obtain ⟨p1, p2, p3⟩ := progs_read _ hp
              obtain ⟨t1, t2, t3⟩ := turns_read _ hts
              have hmn := may_n hm
              have hN : newE (confC r) ps2 = 0 := by
                unfold newE
                rw [if_pos ⟨hm, by omega⟩, if_neg]
                intro q2
                obtain ⟨p, hp2, hw⟩ := List.any_eq_true.1 q2
                obtain ⟨w1, _, w3⟩ := p3 p hp2
                have := (wrong_out w1).1
                simp only [wrongP, w3, Bool.or_false, decide_eq_true_eq] at hw
                omega
              have hNB : ps2.any noB = false := by
                rw [Bool.eq_false_iff]
                intro q2
                obtain ⟨p, hp2, hw⟩ := List.any_eq_true.1 q2
                obtain ⟨w1, w2, _⟩ := p3 p hp2
                simp [noB, packE, w1, w2] at hw
              have hT : ts2.any (notT (confC r).t) = false := by
                rw [Bool.eq_false_iff]
                intro q2
                obtain ⟨y, hy, hw⟩ := List.any_eq_true.1 q2
                simp [notT, t3 y hy] at hw
              refine ⟨?_, ?_, bN_bd r 6, ?_⟩
              · unfold mayS
                rw [if_neg (by rw [hN]; simp), if_neg (by rw [hNB]; simp), if_neg (by omega), if_neg (by rw [hT]; simp)]
              · unfold scB hB
                rw [conf_read (by omega), List.append_assoc, t1, p2, h77]
                simp only [List.cons_append, List.take_append_drop]
              · have := sd_bd r 8
                exact ⟨this.1, by have := this.2; simpa [confC] using this⟩
        · cases h
    · cases h
end Go.Proofs.YtlgomkocalieeaaGreatDoor
