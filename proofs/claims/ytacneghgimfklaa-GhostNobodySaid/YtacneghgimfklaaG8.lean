/- An entry is taken, or refused. -/
import Derived.Test.YtacneghgimfklaaG5
import Derived.Test.YtacneghgimfklaaG6
import Derived.Test.YtacneghgimfklaaG7
namespace Go.Proofs.Ytacneghgimfklaa
open Go.RowKit Go.Maps
set_option linter.unusedSimpArgs false
set_option linter.unusedVariables false
set_option maxRecDepth 100000
set_option maxHeartbeats 4000000



/-- The walk, whatever the call is. -/
theorem take_no {w : World} {C N : Nat} {kd th nu ok oo oa ek et eo ea er va rr : Int} {b : Bool} (hl : C < w.heap.size) (r : w.cell? ⟨C, 0, none⟩ = some (.int .i64 (N : Int))) (hb : (decide (0 ≤ th) && decide (th < (N : Int))) = b)
    (hk : b = true → (kd == 1) = false ∧ (kd == 2) = false ∧ (kd == 3) = false) :
    Calls Try.prog 20 #[.pointer (some ⟨C, 0, none⟩), .agg #[Value.int .i64 kd, .int .i64 th, .int .i64 nu, .int .i64 ok, .int .i64 oo, .int .i64 oa, .int .i64 ek, .int .i64 et, .int .i64 eo, .int .i64 ea, .int .i64 er, .int .i64 va, .int .i64 rr]] w fun e w' => e = .returned (.bool false) ∧ Ext w w' := by
  have x1 := Ext.alloc w (.cells #[Value.int .i64 kd, .int .i64 th, .int .i64 nu, .int .i64 ok, .int .i64 oo, .int .i64 oa, .int .i64 ek, .int .i64 et, .int .i64 eo, .int .i64 ea, .int .i64 er, .int .i64 va, .int .i64 rr] 36)
  have CH := chast_any ((x1.oldCell C 0 hl).trans r) th
  rw [hb] at CH
  have HX := hide x1
  cases b
  · clear hk hb r x1
    go_enter Try.func20, Try.ntmps20
    go_wp2_with fail
    refine CH.mono ?_
    rintro e w1 ⟨rfl, rfl⟩
    go_wp2_with fail
    go_ret
    exact ⟨by simp, HX.out⟩
  · obtain ⟨k1, k2, k3⟩ := hk rfl
    clear hk hb r x1
    go_enter Try.func20, Try.ntmps20
    go_wp2_with fail
    refine CH.mono ?_
    rintro e w1 ⟨rfl, rfl⟩
    go_wp2_with fail
    go_ret
    exact ⟨by simp, HX.out⟩
theorem take_call {w : World} {C N : Nat} {th nu ok oo oa ek et eo ea er va rr : Int} {b : Bool} (hl : C < w.heap.size) (r : w.cell? ⟨C, 0, none⟩ = some (.int .i64 (N : Int))) (hb : (decide (0 ≤ th) && decide (th < (N : Int))) = true) {Post : Bool → World → Prop}
    (HC : Calls Try.prog 37 #[.pointer (some ⟨C, 0, none⟩), .agg #[Value.int .i64 1, .int .i64 th, .int .i64 nu, .int .i64 ok, .int .i64 oo, .int .i64 oa, .int .i64 ek, .int .i64 et, .int .i64 eo, .int .i64 ea, .int .i64 er, .int .i64 va, .int .i64 rr]] (w.alloc (.cells #[Value.int .i64 1, .int .i64 th, .int .i64 nu, .int .i64 ok, .int .i64 oo, .int .i64 oa, .int .i64 ek, .int .i64 et, .int .i64 eo, .int .i64 ea, .int .i64 er, .int .i64 va, .int .i64 rr] 36)) fun e w' => e = .returned (.bool b) ∧ Post b w') :
    Calls Try.prog 20 #[.pointer (some ⟨C, 0, none⟩), .agg #[Value.int .i64 1, .int .i64 th, .int .i64 nu, .int .i64 ok, .int .i64 oo, .int .i64 oa, .int .i64 ek, .int .i64 et, .int .i64 eo, .int .i64 ea, .int .i64 er, .int .i64 va, .int .i64 rr]] w fun e w' => e = .returned (.bool b) ∧ Post b w' := by
  have x1 := Ext.alloc w (.cells #[Value.int .i64 1, .int .i64 th, .int .i64 nu, .int .i64 ok, .int .i64 oo, .int .i64 oa, .int .i64 ek, .int .i64 et, .int .i64 eo, .int .i64 ea, .int .i64 er, .int .i64 va, .int .i64 rr] 36)
  have CH := chast_any ((x1.oldCell C 0 hl).trans r) th
  rw [hb] at CH
  clear hb r x1
  go_enter Try.func20, Try.ntmps20
  go_wp2_with fail
  refine CH.mono ?_
  rintro e w1 ⟨rfl, rfl⟩
  go_wp2_with fail
  refine HC.mono ?_
  rintro e w2 ⟨rfl, hp⟩
  have HP := hide hp
  clear hp
  go_wp2_with fail
  go_ret
  exact ⟨by simp, HP.out⟩
theorem take_com {w : World} {C N : Nat} {th nu ok oo oa ek et eo ea er va rr : Int} {b : Bool} (hl : C < w.heap.size) (r : w.cell? ⟨C, 0, none⟩ = some (.int .i64 (N : Int))) (hb : (decide (0 ≤ th) && decide (th < (N : Int))) = true) {Post : Bool → World → Prop}
    (HC : Calls Try.prog 38 #[.pointer (some ⟨C, 0, none⟩), .agg #[Value.int .i64 2, .int .i64 th, .int .i64 nu, .int .i64 ok, .int .i64 oo, .int .i64 oa, .int .i64 ek, .int .i64 et, .int .i64 eo, .int .i64 ea, .int .i64 er, .int .i64 va, .int .i64 rr]] (w.alloc (.cells #[Value.int .i64 2, .int .i64 th, .int .i64 nu, .int .i64 ok, .int .i64 oo, .int .i64 oa, .int .i64 ek, .int .i64 et, .int .i64 eo, .int .i64 ea, .int .i64 er, .int .i64 va, .int .i64 rr] 36)) fun e w' => e = .returned (.bool b) ∧ Post b w') :
    Calls Try.prog 20 #[.pointer (some ⟨C, 0, none⟩), .agg #[Value.int .i64 2, .int .i64 th, .int .i64 nu, .int .i64 ok, .int .i64 oo, .int .i64 oa, .int .i64 ek, .int .i64 et, .int .i64 eo, .int .i64 ea, .int .i64 er, .int .i64 va, .int .i64 rr]] w fun e w' => e = .returned (.bool b) ∧ Post b w' := by
  have x1 := Ext.alloc w (.cells #[Value.int .i64 2, .int .i64 th, .int .i64 nu, .int .i64 ok, .int .i64 oo, .int .i64 oa, .int .i64 ek, .int .i64 et, .int .i64 eo, .int .i64 ea, .int .i64 er, .int .i64 va, .int .i64 rr] 36)
  have CH := chast_any ((x1.oldCell C 0 hl).trans r) th
  rw [hb] at CH
  clear hb r x1
  go_enter Try.func20, Try.ntmps20
  go_wp2_with fail
  refine CH.mono ?_
  rintro e w1 ⟨rfl, rfl⟩
  go_wp2_with fail
  refine HC.mono ?_
  rintro e w2 ⟨rfl, hp⟩
  have HP := hide hp
  clear hp
  go_wp2_with fail
  go_ret
  exact ⟨by simp, HP.out⟩
theorem take_back {w : World} {C N : Nat} {th nu ok oo oa ek et eo ea er va rr : Int} {b : Bool} (hl : C < w.heap.size) (r : w.cell? ⟨C, 0, none⟩ = some (.int .i64 (N : Int))) (hb : (decide (0 ≤ th) && decide (th < (N : Int))) = true) {Post : Bool → World → Prop}
    (HC : Calls Try.prog 39 #[.pointer (some ⟨C, 0, none⟩), .agg #[Value.int .i64 3, .int .i64 th, .int .i64 nu, .int .i64 ok, .int .i64 oo, .int .i64 oa, .int .i64 ek, .int .i64 et, .int .i64 eo, .int .i64 ea, .int .i64 er, .int .i64 va, .int .i64 rr]] (w.alloc (.cells #[Value.int .i64 3, .int .i64 th, .int .i64 nu, .int .i64 ok, .int .i64 oo, .int .i64 oa, .int .i64 ek, .int .i64 et, .int .i64 eo, .int .i64 ea, .int .i64 er, .int .i64 va, .int .i64 rr] 36)) fun e w' => e = .returned (.bool b) ∧ Post b w') :
    Calls Try.prog 20 #[.pointer (some ⟨C, 0, none⟩), .agg #[Value.int .i64 3, .int .i64 th, .int .i64 nu, .int .i64 ok, .int .i64 oo, .int .i64 oa, .int .i64 ek, .int .i64 et, .int .i64 eo, .int .i64 ea, .int .i64 er, .int .i64 va, .int .i64 rr]] w fun e w' => e = .returned (.bool b) ∧ Post b w' := by
  have x1 := Ext.alloc w (.cells #[Value.int .i64 3, .int .i64 th, .int .i64 nu, .int .i64 ok, .int .i64 oo, .int .i64 oa, .int .i64 ek, .int .i64 et, .int .i64 eo, .int .i64 ea, .int .i64 er, .int .i64 va, .int .i64 rr] 36)
  have CH := chast_any ((x1.oldCell C 0 hl).trans r) th
  rw [hb] at CH
  clear hb r x1
  go_enter Try.func20, Try.ntmps20
  go_wp2_with fail
  refine CH.mono ?_
  rintro e w1 ⟨rfl, rfl⟩
  go_wp2_with fail
  refine HC.mono ?_
  rintro e w2 ⟨rfl, hp⟩
  have HP := hide hp
  clear hp
  go_wp2_with fail
  go_ret
  exact ⟨by simp, HP.out⟩
theorem take_any {w : World} {C : Nat} {ty : TypeId} {tl : List Value} {MB W L : Nat} {S : St} {D : Nat → Dg} (h : CT w C ty tl MB W L S D) (x : Ent) (hwa : wfI x.ea) {n : Nat} (hb : Bd n D) (hn : n ≤ 1000000000) :
    Calls Try.prog 20 #[.pointer (some ⟨C, 0, none⟩), .agg (ec x)] w fun e w' => e = .returned (.bool (takeB S D x)) ∧ CT w' C ty tl MB W L (takeS S D x) (takeD S D x) ∧ Chg [C, MB, W, L] w w' := by
  obtain ⟨kd, th, nu, ok, oo, oa, ek, et, eo, ea, er, va, rr⟩ := x
  have hx := Ext.alloc w (.cells #[Value.int .i64 kd, .int .i64 th, .int .i64 nu, .int .i64 ok, .int .i64 oo, .int .i64 oa, .int .i64 ek, .int .i64 et, .int .i64 eo, .int .i64 ea, .int .i64 er, .int .i64 va, .int .i64 rr] 36)
  have hC := h.ext hx
  simp only at hwa
  by_cases hno : isT S th = false ∨ (kd ≠ 1 ∧ kd ≠ 2 ∧ kd ≠ 3)
  · have e1 : takeB S D ⟨kd, th, nu, ok, oo, oa, ek, et, eo, ea, er, va, rr⟩ = false := by
      unfold takeB
      rcases hno with q | ⟨q1, q2, q3⟩
      · rw [if_pos q]
      · rw [if_neg q1, if_neg q2, if_neg q3]; simp
    have e2 : takeS S D ⟨kd, th, nu, ok, oo, oa, ek, et, eo, ea, er, va, rr⟩ = S := by unfold takeS; rw [e1]; simp
    have e3 : takeD S D ⟨kd, th, nu, ok, oo, oa, ek, et, eo, ea, er, va, rr⟩ = D := by unfold takeD; rw [e1]; simp
    rw [e1, e2, e3]
    refine (take_no h.lt.1 h.n (b := isT S th) rfl (fun q => ?_)).mono ?_
    · rcases hno with q2 | ⟨q1, q2, q3⟩
      · rw [q] at q2; cases q2
      · simp [q1, q2, q3]
    · rintro e w' ⟨rfl, hx⟩
      exact ⟨rfl, h.ext hx, hx.chg _⟩
  · have qt : isT S th = true := by
      cases q : isT S th
      · exact absurd (.inl q) hno
      · rfl
    have bt := isT_iff.1 qt
    obtain ⟨t, rfl⟩ := Int.eq_ofNat_of_zero_le bt.1
    have ht : t < S.N := by omega
    have bd := (hb t).1
    have bw := (hb t).2
    have hk : kd = 1 ∨ kd = 2 ∨ kd = 3 := by omega
    rcases hk with rfl | rfl | rfl
    · have e1 : takeB S D ⟨1, (t : Int), nu, ok, oo, oa, ek, et, eo, ea, er, va, rr⟩ = calB S (D t) ⟨1, (t : Int), nu, ok, oo, oa, ek, et, eo, ea, er, va, rr⟩ := by unfold takeB; rw [qt, if_neg (by simp), if_pos rfl]; rfl
      have e2 : takeS S D ⟨1, (t : Int), nu, ok, oo, oa, ek, et, eo, ea, er, va, rr⟩ = S := by unfold takeS; rw [if_neg (by simp)]
      have e3 : takeD S D ⟨1, (t : Int), nu, ok, oo, oa, ek, et, eo, ea, er, va, rr⟩ = if calB S (D t) ⟨1, (t : Int), nu, ok, oo, oa, ek, et, eo, ea, er, va, rr⟩ = true then upd D t (begD (D t) ok oo oa) else D := by unfold takeD; rw [e1]; rfl
      rw [e1, e2, e3]
      refine take_call (b := calB S (D t) ⟨1, (t : Int), nu, ok, oo, oa, ek, et, eo, ea, er, va, rr⟩) (Post := fun _ w' => CT w' C ty tl MB W L S _ ∧ Chg [C, MB, W, L] w w') h.lt.1 h.n qt ((ccall_any hC ⟨1, (t : Int), nu, ok, oo, oa, ek, et, eo, ea, er, va, rr⟩ rfl ht).mono ?_)
      rintro e w' ⟨rfl, h', c'⟩
      exact ⟨rfl, h', (hx.chg _).trans (c'.mono (by simp))⟩
    · have e1 : takeB S D ⟨2, (t : Int), nu, ok, oo, oa, ek, et, eo, ea, er, va, rr⟩ = comB S (D t) ⟨2, (t : Int), nu, ok, oo, oa, ek, et, eo, ea, er, va, rr⟩ := by unfold takeB; rw [qt, if_neg (by simp), if_neg (by simp), if_pos rfl]; rfl
      have e2 : takeS S D ⟨2, (t : Int), nu, ok, oo, oa, ek, et, eo, ea, er, va, rr⟩ = if comB S (D t) ⟨2, (t : Int), nu, ok, oo, oa, ek, et, eo, ea, er, va, rr⟩ = true then apS S ek et eo ea er else S := by
        unfold takeS
        rw [e1]
        cases comB S (D t) ⟨2, (t : Int), nu, ok, oo, oa, ek, et, eo, ea, er, va, rr⟩ <;> simp
      have e3 : takeD S D ⟨2, (t : Int), nu, ok, oo, oa, ek, et, eo, ea, er, va, rr⟩ = if comB S (D t) ⟨2, (t : Int), nu, ok, oo, oa, ek, et, eo, ea, er, va, rr⟩ = true then upd D t (goD (D t) ek ea er) else D := by unfold takeD; rw [e1]; rfl
      rw [e1, e2, e3]
      refine take_com (b := comB S (D t) ⟨2, (t : Int), nu, ok, oo, oa, ek, et, eo, ea, er, va, rr⟩) (Post := fun _ w' => CT w' C ty tl MB W L _ _ ∧ Chg [C, MB, W, L] w w') h.lt.1 h.n qt ((ccom_any hC ⟨2, (t : Int), nu, ok, oo, oa, ek, et, eo, ea, er, va, rr⟩ rfl ht hwa (by omega) bw).mono ?_)
      rintro e w' ⟨rfl, h', c'⟩
      exact ⟨rfl, h', (hx.chg _).trans c'⟩
    · have e1 : takeB S D ⟨3, (t : Int), nu, ok, oo, oa, ek, et, eo, ea, er, va, rr⟩ = retB (D t) ⟨3, (t : Int), nu, ok, oo, oa, ek, et, eo, ea, er, va, rr⟩ := by unfold takeB; rw [qt, if_neg (by simp), if_neg (by simp), if_neg (by simp), if_pos rfl]; rfl
      have e2 : takeS S D ⟨3, (t : Int), nu, ok, oo, oa, ek, et, eo, ea, er, va, rr⟩ = S := by unfold takeS; rw [if_neg (by simp)]
      have e3 : takeD S D ⟨3, (t : Int), nu, ok, oo, oa, ek, et, eo, ea, er, va, rr⟩ = if retB (D t) ⟨3, (t : Int), nu, ok, oo, oa, ek, et, eo, ea, er, va, rr⟩ = true then upd D t (endD (D t)) else D := by unfold takeD; rw [e1]; rfl
      rw [e1, e2, e3]
      refine take_back (b := retB (D t) ⟨3, (t : Int), nu, ok, oo, oa, ek, et, eo, ea, er, va, rr⟩) (Post := fun _ w' => CT w' C ty tl MB W L S _ ∧ Chg [C, MB, W, L] w w') h.lt.1 h.n qt ((cback_any hC ⟨3, (t : Int), nu, ok, oo, oa, ek, et, eo, ea, er, va, rr⟩ rfl ht (by omega)).mono ?_)
      rintro e w' ⟨rfl, h', c'⟩
      exact ⟨rfl, h', (hx.chg _).trans (c'.mono (by simp))⟩
end Go.Proofs.Ytacneghgimfklaa
