/- What may be done by the kinds that have an Arg or none. -/
import Derived.Test.YtpielknodjppgaaP5
import Derived.Test.YtpielknodjppgaaP5b
import Derived.Test.YtpielknodjppgaaP5c
import Derived.Test.YtpielknodjppgaaP6
import Derived.Test.YtpielknodjppgaaP6b
import Derived.Test.YtpielknodjppgaaP6c
namespace Go.Proofs.Ytpielknodjppgaa
open Go.RowKit Go.Maps
set_option linter.unusedSimpArgs false
set_option linter.unusedVariables false
set_option maxRecDepth 100000
set_option maxHeartbeats 4000000


theorem mwo_any {w : World} {B W L : Nat} {S : St} (h : ModT w B W L S) (k : Int) {t o : Nat} (a r : Int) (ht : t < S.N) (ho : o < S.M) :
    Calls Try.prog 46 #[.pointer (some ⟨B, 0, none⟩), (Value.agg #[.int .i64 k, .int .i64 (t : Int), .int .i64 (o : Int), .int .i64 a, .int .i64 r])] w fun e w' => e = .returned (.bool (mwoB S k t o r)) ∧ Ext w w' := by
  by_cases hk : k = 1 ∨ k = 2 ∨ k = 3 ∨ k = 4 ∨ k = 9
  · rcases hk with rfl | rfl | rfl | rfl | rfl
    · exact mwo_1 h a r ht ho
    · exact mwo_2 h a r ht ho
    · exact mwo_3 h a r ht ho
    · exact mwo_4 h a r ht ho
    · exact mwo_9 h a r ht ho
  · exact mwo_o h k a r ht ho hk
theorem mwi_any {w : World} {B W L : Nat} {S : St} (h : ModT w B W L S) (k : Int) {t o : Nat} (a r : Int) (ht : t < S.N) (ho : o < S.M) (wa : wfI a) :
    Calls Try.prog 47 #[.pointer (some ⟨B, 0, none⟩), (Value.agg #[.int .i64 k, .int .i64 (t : Int), .int .i64 (o : Int), .int .i64 a, .int .i64 r])] w fun e w' => e = .returned (.bool (mwiB S k t o a r)) ∧ Ext w w' := by
  by_cases hk : k = 7 ∨ k = 8 ∨ k = 10 ∨ k = 11 ∨ k = 12
  · rcases hk with rfl | rfl | rfl | rfl | rfl
    · exact mwi_7 h a r ht ho wa
    · exact mwi_8 h a r ht ho
    · exact mwi_10 h a r ht ho
    · exact mwi_11 h a r ht ho
    · exact mwi_12 h a r ht ho
  · exact mwi_o h k a r ht ho hk
theorem may_5 {w : World} {B W L : Nat} {S : St} (h : ModT w B W L S) {t o : Nat} (a r : Int) (ht : t < S.N) (ho : o < S.M) :
    Calls Try.prog 32 #[.pointer (some ⟨B, 0, none⟩), (Value.agg #[.int .i64 5, .int .i64 (t : Int), .int .i64 (o : Int), .int .i64 a, .int .i64 r])] w fun e w' => e = .returned (.bool (mayB S 5 t o a r)) ∧ Ext w w' := by
  have E := hide (show mayB S 5 t o a r = (a == 0 && mcbB S 5 t o r) from rfl)
  rw [E.out]
  have x1 := Ext.alloc w (.cells #[Value.int .i64 5, .int .i64 (t : Int), .int .i64 (o : Int), .int .i64 a, .int .i64 r] 36)
  have c := mcb_any (h.ext x1) 5 a r ht ho
  generalize mcbB S 5 t o r = res at *
  clear E h
  cases q : (a == 0)
  · go_enter Try.func32, Try.ntmps32
    go_wp2_with fail
    go_ret
    exact ⟨by simp, x1⟩
  · go_enter Try.func32, Try.ntmps32
    go_wp2_with fail
    refine c.mono ?_
    rintro e w1 ⟨rfl, hx⟩
    go_wp2_with fail
    go_ret
    exact ⟨by simp, x1.trans hx⟩
theorem may_6 {w : World} {B W L : Nat} {S : St} (h : ModT w B W L S) {t o : Nat} (a r : Int) (ht : t < S.N) (ho : o < S.M) :
    Calls Try.prog 32 #[.pointer (some ⟨B, 0, none⟩), (Value.agg #[.int .i64 6, .int .i64 (t : Int), .int .i64 (o : Int), .int .i64 a, .int .i64 r])] w fun e w' => e = .returned (.bool (mayB S 6 t o a r)) ∧ Ext w w' := by
  have E := hide (show mayB S 6 t o a r = (a == 0 && mcbB S 6 t o r) from rfl)
  rw [E.out]
  have x1 := Ext.alloc w (.cells #[Value.int .i64 6, .int .i64 (t : Int), .int .i64 (o : Int), .int .i64 a, .int .i64 r] 36)
  have c := mcb_any (h.ext x1) 6 a r ht ho
  generalize mcbB S 6 t o r = res at *
  clear E h
  cases q : (a == 0)
  · go_enter Try.func32, Try.ntmps32
    go_wp2_with fail
    go_ret
    exact ⟨by simp, x1⟩
  · go_enter Try.func32, Try.ntmps32
    go_wp2_with fail
    refine c.mono ?_
    rintro e w1 ⟨rfl, hx⟩
    go_wp2_with fail
    go_ret
    exact ⟨by simp, x1.trans hx⟩
theorem may_1 {w : World} {B W L : Nat} {S : St} (h : ModT w B W L S) {t o : Nat} (a r : Int) (ht : t < S.N) (ho : o < S.M) :
    Calls Try.prog 32 #[.pointer (some ⟨B, 0, none⟩), (Value.agg #[.int .i64 1, .int .i64 (t : Int), .int .i64 (o : Int), .int .i64 a, .int .i64 r])] w fun e w' => e = .returned (.bool (mayB S 1 t o a r)) ∧ Ext w w' := by
  have E := hide (show mayB S 1 t o a r = (if awB S t = true then false else (a == 0 && mwoB S 1 t o r)) from rfl)
  rw [E.out]
  have x1 := Ext.alloc w (.cells #[Value.int .i64 1, .int .i64 (t : Int), .int .i64 (o : Int), .int .i64 a, .int .i64 r] 36)
  have ca := away_any (h.ext x1) ht
  have c := fun w' (x : Ext w w') => mwo_any (h.ext x) 1 a r ht ho
  generalize mwoB S 1 t o r = res at *
  clear E h
  cases q0 : awB S t
  · rw [q0] at ca
    cases q : (a == 0)
    · go_enter Try.func32, Try.ntmps32
      go_wp2_with fail
      refine ca.mono ?_
      rintro e w1 ⟨rfl, hx⟩
      have hbc := hx.boxCell
      go_wp2_with fail
      go_ret
      exact ⟨by simp, x1.trans hx⟩
    · go_enter Try.func32, Try.ntmps32
      go_wp2_with fail
      refine ca.mono ?_
      rintro e w1 ⟨rfl, hx⟩
      have hbc := hx.boxCell
      go_wp2_with fail
      refine (c _ (x1.trans hx)).mono ?_
      rintro e w2 ⟨rfl, hx2⟩
      go_wp2_with fail
      go_ret
      exact ⟨by simp, (x1.trans hx).trans hx2⟩
  · rw [q0] at ca
    go_enter Try.func32, Try.ntmps32
    go_wp2_with fail
    refine ca.mono ?_
    rintro e w1 ⟨rfl, hx⟩
    go_wp2_with fail
    go_ret
    exact ⟨by simp, x1.trans hx⟩
theorem may_2 {w : World} {B W L : Nat} {S : St} (h : ModT w B W L S) {t o : Nat} (a r : Int) (ht : t < S.N) (ho : o < S.M) :
    Calls Try.prog 32 #[.pointer (some ⟨B, 0, none⟩), (Value.agg #[.int .i64 2, .int .i64 (t : Int), .int .i64 (o : Int), .int .i64 a, .int .i64 r])] w fun e w' => e = .returned (.bool (mayB S 2 t o a r)) ∧ Ext w w' := by
  have E := hide (show mayB S 2 t o a r = (if awB S t = true then false else (a == 0 && mwoB S 2 t o r)) from rfl)
  rw [E.out]
  have x1 := Ext.alloc w (.cells #[Value.int .i64 2, .int .i64 (t : Int), .int .i64 (o : Int), .int .i64 a, .int .i64 r] 36)
  have ca := away_any (h.ext x1) ht
  have c := fun w' (x : Ext w w') => mwo_any (h.ext x) 2 a r ht ho
  generalize mwoB S 2 t o r = res at *
  clear E h
  cases q0 : awB S t
  · rw [q0] at ca
    cases q : (a == 0)
    · go_enter Try.func32, Try.ntmps32
      go_wp2_with fail
      refine ca.mono ?_
      rintro e w1 ⟨rfl, hx⟩
      have hbc := hx.boxCell
      go_wp2_with fail
      go_ret
      exact ⟨by simp, x1.trans hx⟩
    · go_enter Try.func32, Try.ntmps32
      go_wp2_with fail
      refine ca.mono ?_
      rintro e w1 ⟨rfl, hx⟩
      have hbc := hx.boxCell
      go_wp2_with fail
      refine (c _ (x1.trans hx)).mono ?_
      rintro e w2 ⟨rfl, hx2⟩
      go_wp2_with fail
      go_ret
      exact ⟨by simp, (x1.trans hx).trans hx2⟩
  · rw [q0] at ca
    go_enter Try.func32, Try.ntmps32
    go_wp2_with fail
    refine ca.mono ?_
    rintro e w1 ⟨rfl, hx⟩
    go_wp2_with fail
    go_ret
    exact ⟨by simp, x1.trans hx⟩
theorem may_3 {w : World} {B W L : Nat} {S : St} (h : ModT w B W L S) {t o : Nat} (a r : Int) (ht : t < S.N) (ho : o < S.M) :
    Calls Try.prog 32 #[.pointer (some ⟨B, 0, none⟩), (Value.agg #[.int .i64 3, .int .i64 (t : Int), .int .i64 (o : Int), .int .i64 a, .int .i64 r])] w fun e w' => e = .returned (.bool (mayB S 3 t o a r)) ∧ Ext w w' := by
  have E := hide (show mayB S 3 t o a r = (if awB S t = true then false else (a == 0 && mwoB S 3 t o r)) from rfl)
  rw [E.out]
  have x1 := Ext.alloc w (.cells #[Value.int .i64 3, .int .i64 (t : Int), .int .i64 (o : Int), .int .i64 a, .int .i64 r] 36)
  have ca := away_any (h.ext x1) ht
  have c := fun w' (x : Ext w w') => mwo_any (h.ext x) 3 a r ht ho
  generalize mwoB S 3 t o r = res at *
  clear E h
  cases q0 : awB S t
  · rw [q0] at ca
    cases q : (a == 0)
    · go_enter Try.func32, Try.ntmps32
      go_wp2_with fail
      refine ca.mono ?_
      rintro e w1 ⟨rfl, hx⟩
      have hbc := hx.boxCell
      go_wp2_with fail
      go_ret
      exact ⟨by simp, x1.trans hx⟩
    · go_enter Try.func32, Try.ntmps32
      go_wp2_with fail
      refine ca.mono ?_
      rintro e w1 ⟨rfl, hx⟩
      have hbc := hx.boxCell
      go_wp2_with fail
      refine (c _ (x1.trans hx)).mono ?_
      rintro e w2 ⟨rfl, hx2⟩
      go_wp2_with fail
      go_ret
      exact ⟨by simp, (x1.trans hx).trans hx2⟩
  · rw [q0] at ca
    go_enter Try.func32, Try.ntmps32
    go_wp2_with fail
    refine ca.mono ?_
    rintro e w1 ⟨rfl, hx⟩
    go_wp2_with fail
    go_ret
    exact ⟨by simp, x1.trans hx⟩
theorem may_4 {w : World} {B W L : Nat} {S : St} (h : ModT w B W L S) {t o : Nat} (a r : Int) (ht : t < S.N) (ho : o < S.M) :
    Calls Try.prog 32 #[.pointer (some ⟨B, 0, none⟩), (Value.agg #[.int .i64 4, .int .i64 (t : Int), .int .i64 (o : Int), .int .i64 a, .int .i64 r])] w fun e w' => e = .returned (.bool (mayB S 4 t o a r)) ∧ Ext w w' := by
  have E := hide (show mayB S 4 t o a r = (if awB S t = true then false else (a == 0 && mwoB S 4 t o r)) from rfl)
  rw [E.out]
  have x1 := Ext.alloc w (.cells #[Value.int .i64 4, .int .i64 (t : Int), .int .i64 (o : Int), .int .i64 a, .int .i64 r] 36)
  have ca := away_any (h.ext x1) ht
  have c := fun w' (x : Ext w w') => mwo_any (h.ext x) 4 a r ht ho
  generalize mwoB S 4 t o r = res at *
  clear E h
  cases q0 : awB S t
  · rw [q0] at ca
    cases q : (a == 0)
    · go_enter Try.func32, Try.ntmps32
      go_wp2_with fail
      refine ca.mono ?_
      rintro e w1 ⟨rfl, hx⟩
      have hbc := hx.boxCell
      go_wp2_with fail
      go_ret
      exact ⟨by simp, x1.trans hx⟩
    · go_enter Try.func32, Try.ntmps32
      go_wp2_with fail
      refine ca.mono ?_
      rintro e w1 ⟨rfl, hx⟩
      have hbc := hx.boxCell
      go_wp2_with fail
      refine (c _ (x1.trans hx)).mono ?_
      rintro e w2 ⟨rfl, hx2⟩
      go_wp2_with fail
      go_ret
      exact ⟨by simp, (x1.trans hx).trans hx2⟩
  · rw [q0] at ca
    go_enter Try.func32, Try.ntmps32
    go_wp2_with fail
    refine ca.mono ?_
    rintro e w1 ⟨rfl, hx⟩
    go_wp2_with fail
    go_ret
    exact ⟨by simp, x1.trans hx⟩
theorem may_9 {w : World} {B W L : Nat} {S : St} (h : ModT w B W L S) {t o : Nat} (a r : Int) (ht : t < S.N) (ho : o < S.M) :
    Calls Try.prog 32 #[.pointer (some ⟨B, 0, none⟩), (Value.agg #[.int .i64 9, .int .i64 (t : Int), .int .i64 (o : Int), .int .i64 a, .int .i64 r])] w fun e w' => e = .returned (.bool (mayB S 9 t o a r)) ∧ Ext w w' := by
  have E := hide (show mayB S 9 t o a r = (if awB S t = true then false else (a == 0 && mwoB S 9 t o r)) from rfl)
  rw [E.out]
  have x1 := Ext.alloc w (.cells #[Value.int .i64 9, .int .i64 (t : Int), .int .i64 (o : Int), .int .i64 a, .int .i64 r] 36)
  have ca := away_any (h.ext x1) ht
  have c := fun w' (x : Ext w w') => mwo_any (h.ext x) 9 a r ht ho
  generalize mwoB S 9 t o r = res at *
  clear E h
  cases q0 : awB S t
  · rw [q0] at ca
    cases q : (a == 0)
    · go_enter Try.func32, Try.ntmps32
      go_wp2_with fail
      refine ca.mono ?_
      rintro e w1 ⟨rfl, hx⟩
      have hbc := hx.boxCell
      go_wp2_with fail
      go_ret
      exact ⟨by simp, x1.trans hx⟩
    · go_enter Try.func32, Try.ntmps32
      go_wp2_with fail
      refine ca.mono ?_
      rintro e w1 ⟨rfl, hx⟩
      have hbc := hx.boxCell
      go_wp2_with fail
      refine (c _ (x1.trans hx)).mono ?_
      rintro e w2 ⟨rfl, hx2⟩
      go_wp2_with fail
      go_ret
      exact ⟨by simp, (x1.trans hx).trans hx2⟩
  · rw [q0] at ca
    go_enter Try.func32, Try.ntmps32
    go_wp2_with fail
    refine ca.mono ?_
    rintro e w1 ⟨rfl, hx⟩
    go_wp2_with fail
    go_ret
    exact ⟨by simp, x1.trans hx⟩
theorem may_o {w : World} {B W L : Nat} {S : St} (h : ModT w B W L S) (k : Int) {t o : Nat} (a r : Int) (ht : t < S.N) (ho : o < S.M) (wa : wfI a) (hk : ¬ (k = 5 ∨ k = 6)) (hk2 : ¬ (k = 1 ∨ k = 2 ∨ k = 3 ∨ k = 4 ∨ k = 9)) :
    Calls Try.prog 32 #[.pointer (some ⟨B, 0, none⟩), (Value.agg #[.int .i64 k, .int .i64 (t : Int), .int .i64 (o : Int), .int .i64 a, .int .i64 r])] w fun e w' => e = .returned (.bool (mayB S k t o a r)) ∧ Ext w w' := by
  have E := hide (show mayB S k t o a r = (if awB S t = true then false else mwiB S k t o a r) by unfold mayB; rw [if_neg hk, if_neg hk2])
  rw [E.out]
  have x1 := Ext.alloc w (.cells #[Value.int .i64 k, .int .i64 (t : Int), .int .i64 (o : Int), .int .i64 a, .int .i64 r] 36)
  have ca := away_any (h.ext x1) ht
  have c := fun w' (x : Ext w w') => mwi_any (h.ext x) k a r ht ho wa
  generalize mwiB S k t o a r = res at *
  have p5 : (k == 5) = false := by simp; omega
  have p6 : (k == 6) = false := by simp; omega
  have p1 : (k == 1) = false := by simp; omega
  have p2 : (k == 2) = false := by simp; omega
  have p3 : (k == 3) = false := by simp; omega
  have p4 : (k == 4) = false := by simp; omega
  have p9 : (k == 9) = false := by simp; omega
  clear E h hk hk2
  cases q0 : awB S t
  · rw [q0] at ca
    go_enter Try.func32, Try.ntmps32
    go_wp2_with fail
    refine ca.mono ?_
    rintro e w1 ⟨rfl, hx⟩
    have hbc := hx.boxCell
    go_wp2_with fail
    refine (c _ (x1.trans hx)).mono ?_
    rintro e w2 ⟨rfl, hx2⟩
    go_wp2_with fail
    go_ret
    exact ⟨by simp, (x1.trans hx).trans hx2⟩
  · rw [q0] at ca
    go_enter Try.func32, Try.ntmps32
    go_wp2_with fail
    refine ca.mono ?_
    rintro e w1 ⟨rfl, hx⟩
    go_wp2_with fail
    go_ret
    exact ⟨by simp, x1.trans hx⟩
theorem may_any {w : World} {B W L : Nat} {S : St} (h : ModT w B W L S) (k : Int) {t o : Nat} (a r : Int) (ht : t < S.N) (ho : o < S.M) (wa : wfI a) :
    Calls Try.prog 32 #[.pointer (some ⟨B, 0, none⟩), (Value.agg #[.int .i64 k, .int .i64 (t : Int), .int .i64 (o : Int), .int .i64 a, .int .i64 r])] w fun e w' => e = .returned (.bool (mayB S k t o a r)) ∧ Ext w w' := by
  by_cases hk : k = 5 ∨ k = 6
  · rcases hk with rfl | rfl
    · exact may_5 h a r ht ho
    · exact may_6 h a r ht ho
  by_cases hk2 : k = 1 ∨ k = 2 ∨ k = 3 ∨ k = 4 ∨ k = 9
  · rcases hk2 with rfl | rfl | rfl | rfl | rfl
    · exact may_1 h a r ht ho
    · exact may_2 h a r ht ho
    · exact may_3 h a r ht ho
    · exact may_4 h a r ht ho
    · exact may_9 h a r ht ho
  exact may_o h k a r ht ho wa hk hk2
end Go.Proofs.Ytpielknodjppgaa
