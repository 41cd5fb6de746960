/- The document's small functions: reply, own, may, bare. -/
import Derived.Test.YtacneghgimfklaaJ2
import Derived.Test.YtacneghgimfklaaP1
import Derived.Test.YtacneghgimfklaaHeld
import Derived.Deep.Cut
import Derived.Deep.MidRow
import Derived.BigRegion
namespace Go.Proofs.Ytacneghgimfklaa
open Go.RowKit Go.Maps
set_option linter.unusedSimpArgs false
set_option linter.unusedVariables false
set_option maxRecDepth 100000
set_option maxHeartbeats 4000000


theorem rite_one (a b : Int) (w : World) : (if a = b then Result.ok (Value.bool true) w else Result.ok (Value.bool false) w) = Result.ok (Value.bool (a == b)) w := by
  by_cases h : a = b <;> simp [h]
theorem rite_two (a b : Int) (p : Bool) (w : World) : (if a = b then Result.ok (Value.bool p) w else Result.ok (Value.bool false) w) = Result.ok (Value.bool (a == b && p)) w := by
  by_cases h : a = b <;> simp [h]
theorem eq_rent (x y : Ent) (w : World) : Sem.run Try.prog (binOp .eql 31 (.agg (ec x)) (.agg (ec y))) w = .ok (.bool (eqE x y)) w := by
  obtain ⟨a0, a1, a2, a3, a4, a5, a6, a7, a8, a9, a10, a11, a12⟩ := x
  obtain ⟨b0, b1, b2, b3, b4, b5, b6, b7, b8, b9, b10, b11, b12⟩ := y
  unfold ec eqE
  simp only
  go_simp
  rw [rite_one]
  iterate 12 rw [rite_two]
theorem reply_any (q k t p a r : Int) (w : World) : Calls Try.prog 47 #[.int .i64 q, (Value.agg #[.int .i64 k, .int .i64 t, .int .i64 p, .int .i64 a, .int .i64 r])] w fun e w' => e = .returned (.int .i64 (if q = 7 ∨ q = 8 then a else 0)) ∧ Ext w w' := by
  by_cases q7 : q = 7
  · subst q7
    go_enter Try.func47, Try.ntmps47
    go_wp2
    go_ret
    exact ⟨by simp, Ext.alloc _ _⟩
  by_cases q8 : q = 8
  · subst q8
    go_enter Try.func47, Try.ntmps47
    go_wp2
    go_ret
    exact ⟨by simp, Ext.alloc _ _⟩
  · have e : ¬ (q = 7 ∨ q = 8) := by omega
    have p7 : (q == 7) = false := by simpa using q7
    rw [if_neg e]
    go_enter Try.func47, Try.ntmps47
    go_wp2
    go_ret
    exact ⟨by simp, Ext.alloc _ _⟩
theorem rown_any {k : Int} (h : 1 ≤ k ∧ k ≤ 9) (w : World) : Calls Try.prog 46 #[.int .i64 k] w fun e w' => e = .returned (.int .i64 (ownI k)) ∧ Ext w w' := by
  rcases (by omega : k = 1 ∨ k = 2 ∨ k = 3 ∨ k = 4 ∨ k = 5 ∨ k = 6 ∨ k = 7 ∨ k = 8 ∨ k = 9) with rfl | rfl | rfl | rfl | rfl | rfl | rfl | rfl | rfl
  all_goals
    go_enter Try.func46, Try.ntmps46
    go_wp2
    go_ret
    exact ⟨by simp [ownI], Ext.alloc _ _⟩
theorem rmay_any (S : St) (k o a : Int) (w : World) : Calls Try.prog 23 #[.agg #[.int .i64 k, .int .i64 o, .int .i64 a], .int .i64 (S.N : Int), .int .i64 (S.M : Int)] w fun e w' => e = .returned (.bool (mayO S k o a)) ∧ Ext w w' := by
  have E : mayO S k o a = if isO S o = false then false else if k = 1 ∨ k = 2 ∨ k = 3 ∨ k = 5 ∨ k = 6 ∨ k = 7 ∨ k = 8 then a == 0 else if k = 4 then decide (0 ≤ a) else if k = 9 then isT S a else false := rfl
  have eT : isT S a = (decide (0 ≤ a) && decide (a < (S.N : Int))) := rfl
  have eO : isO S o = (decide (0 ≤ o) && decide (o < (S.M : Int))) := rfl
  generalize mayO S k o a = res at *
  generalize isT S a = tB at *
  generalize isO S o = oB at *
  generalize (S.M : Int) = mm at *
  generalize (S.N : Int) = nn at *
  by_cases o0 : o < 0
  · have : oB = false := by rw [eO]; simp; omega
    subst this
    rw [if_pos rfl] at E
    subst E
    clear eO eT
    have q := decide_eq_true o0
    cases q1 : decide (k < 1) <;> cases q2 : decide (9 < k)
    all_goals
      go_enter Try.func23, Try.ntmps23
      go_wp2
      go_ret
      exact ⟨by simp, Ext.alloc _ _⟩
  by_cases o1 : mm ≤ o
  · have : oB = false := by rw [eO]; simp; omega
    subst this
    rw [if_pos rfl] at E
    subst E
    clear eO eT
    have q := decide_eq_false o0
    have q' := decide_eq_true o1
    cases q1 : decide (k < 1) <;> cases q2 : decide (9 < k)
    all_goals
      go_enter Try.func23, Try.ntmps23
      go_wp2
      go_ret
      exact ⟨by simp, Ext.alloc _ _⟩
  have : oB = true := by rw [eO]; simp; omega
  subst this
  rw [if_neg (by simp)] at E
  clear eO
  have z1 := decide_eq_false o0
  have z2 := decide_eq_false o1
  by_cases k1 : k < 1
  · rw [if_neg (by omega), if_neg (by omega), if_neg (by omega)] at E
    subst E
    have q1 := decide_eq_true k1
    clear eT
    go_enter Try.func23, Try.ntmps23
    go_wp2
    go_ret
    exact ⟨by simp, Ext.alloc _ _⟩
  by_cases k9 : 9 < k
  · rw [if_neg (by omega), if_neg (by omega), if_neg (by omega)] at E
    subst E
    have q1 := decide_eq_false k1
    have q2 := decide_eq_true k9
    clear eT
    go_enter Try.func23, Try.ntmps23
    go_wp2
    go_ret
    exact ⟨by simp, Ext.alloc _ _⟩
  have q1 := decide_eq_false k1
  have q2 := decide_eq_false k9
  by_cases a0 : a < 0
  · have q3 := decide_eq_true a0
    have : tB = false := by rw [eT]; simp; omega
    subst this
    have : res = false := by
      rw [E]
      split
      · simpa using (by omega : a ≠ 0)
      split
      · simp; omega
      · simp
    subst this
    clear E eT
    go_enter Try.func23, Try.ntmps23
    go_wp2
    go_ret
    exact ⟨by simp, Ext.alloc _ _⟩
  have q3 := decide_eq_false a0
  have q3' : (0 ≤ a) := by omega
  by_cases e9 : k = 9
  · rw [if_neg (by omega), if_neg (by omega), if_pos e9] at E
    subst e9
    have : tB = decide (a < nn) := by rw [eT]; simp [q3']
    subst this
    subst E
    clear eT
    go_enter Try.func23, Try.ntmps23
    go_wp2
    go_ret
    exact ⟨by simp, Ext.alloc _ _⟩
  by_cases e4 : k = 4
  · rw [if_neg (by omega), if_pos e4] at E
    subst e4
    have : res = true := by rw [E]; simp; omega
    subst this
    clear E eT
    go_enter Try.func23, Try.ntmps23
    go_wp2
    go_ret
    exact ⟨by simp, Ext.alloc _ _⟩
  · rw [if_pos (by omega)] at E
    subst E
    have p9 : (k == 9) = false := by simpa using e9
    have p4 : (k == 4) = false := by simpa using e4
    clear eT
    go_enter Try.func23, Try.ntmps23
    go_wp2
    go_ret
    exact ⟨by simp, Ext.alloc _ _⟩
end Go.Proofs.Ytacneghgimfklaa

namespace Go.Proofs.Ytacneghgimfklaa
open Go.RowKit Go.Maps
set_option linter.unusedSimpArgs false
set_option linter.unusedVariables false
set_option maxRecDepth 100000
set_option maxHeartbeats 4000000


theorem rbare_any (x : Ent) (w : World) : Calls Try.prog 22 #[.agg (ec x)] w fun e w' => e = .returned (.bool (bareB x)) ∧ Ext w w' := by
  obtain ⟨kd, th, nu, ok, oo, oa, ek, et, eo, ea, er, va, rr⟩ := x
  by_cases k1 : kd = 1
  · subst k1
    have E : bareB ⟨1, th, nu, ok, oo, oa, ek, et, eo, ea, er, va, rr⟩ = eqE ⟨1, th, nu, ok, oo, oa, 0, 0, 0, 0, 0, 0, 0⟩ ⟨1, th, nu, ok, oo, oa, ek, et, eo, ea, er, va, rr⟩ := rfl
    have Q := fun w' => eq_rent ⟨1, th, nu, ok, oo, oa, 0, 0, 0, 0, 0, 0, 0⟩ ⟨1, th, nu, ok, oo, oa, ek, et, eo, ea, er, va, rr⟩ w'
    rw [← E] at Q
    generalize bareB ⟨1, th, nu, ok, oo, oa, ek, et, eo, ea, er, va, rr⟩ = res at *
    simp only [ec] at Q ⊢
    clear E
    go_enter Try.func22, Try.ntmps22
    go_wp2
    go_ret
    exact ⟨by simp, by (repeat (with_reducible refine Ext.set ?_ (by simp) _)); exact (Ext.alloc _ _).trans (Ext.alloc _ _)⟩
  by_cases k2 : kd = 2
  · subst k2
    have E : bareB ⟨2, th, nu, ok, oo, oa, ek, et, eo, ea, er, va, rr⟩ = eqE ⟨2, et, 0, 0, 0, 0, ek, et, eo, ea, er, 0, 0⟩ ⟨2, th, nu, ok, oo, oa, ek, et, eo, ea, er, va, rr⟩ := rfl
    have Q := fun w' => eq_rent ⟨2, et, 0, 0, 0, 0, ek, et, eo, ea, er, 0, 0⟩ ⟨2, th, nu, ok, oo, oa, ek, et, eo, ea, er, va, rr⟩ w'
    rw [← E] at Q
    generalize bareB ⟨2, th, nu, ok, oo, oa, ek, et, eo, ea, er, va, rr⟩ = res at *
    simp only [ec] at Q ⊢
    clear E
    go_enter Try.func22, Try.ntmps22
    go_wp2
    go_ret
    exact ⟨by simp, by (repeat (with_reducible refine Ext.set ?_ (by simp) _)); exact (Ext.alloc _ _).trans (Ext.alloc _ _)⟩
  by_cases k3 : kd = 3
  · subst k3
    have E : bareB ⟨3, th, nu, ok, oo, oa, ek, et, eo, ea, er, va, rr⟩ = eqE ⟨3, th, nu, 0, 0, 0, 0, 0, 0, 0, 0, va, rr⟩ ⟨3, th, nu, ok, oo, oa, ek, et, eo, ea, er, va, rr⟩ := rfl
    have Q := fun w' => eq_rent ⟨3, th, nu, 0, 0, 0, 0, 0, 0, 0, 0, va, rr⟩ ⟨3, th, nu, ok, oo, oa, ek, et, eo, ea, er, va, rr⟩ w'
    rw [← E] at Q
    generalize bareB ⟨3, th, nu, ok, oo, oa, ek, et, eo, ea, er, va, rr⟩ = res at *
    simp only [ec] at Q ⊢
    clear E
    go_enter Try.func22, Try.ntmps22
    go_wp2
    go_ret
    exact ⟨by simp, by (repeat (with_reducible refine Ext.set ?_ (by simp) _)); exact (Ext.alloc _ _).trans (Ext.alloc _ _)⟩
  have E : bareB ⟨kd, th, nu, ok, oo, oa, ek, et, eo, ea, er, va, rr⟩ = false := by unfold bareB; rw [if_neg k1, if_neg k2, if_neg k3]
  rw [E]
  have p1 : (kd == 1) = false := by simpa using k1
  have p2 : (kd == 2) = false := by simpa using k2
  have p3 : (kd == 3) = false := by simpa using k3
  simp only [ec]
  clear E
  go_enter Try.func22, Try.ntmps22
  go_wp2
  go_ret
  exact ⟨by simp, by (repeat (with_reducible refine Ext.set ?_ (by simp) _)); exact (Ext.alloc _ _).trans (Ext.alloc _ _)⟩
end Go.Proofs.Ytacneghgimfklaa

namespace Go.Proofs.Ytacneghgimfklaa
open Go.RowKit Go.Maps
set_option linter.unusedSimpArgs false
set_option linter.unusedVariables false
set_option maxRecDepth 100000
set_option maxHeartbeats 4000000


/-- The commits of a thread, in memory. -/
def Lw (w : World) (B : Nat) (v : Value) (l : List Ev) : Prop := w.ownsRow B 29 5 v l.length (evl l)
theorem Lw.ext {w w' : World} {B : Nat} {v : Value} {l : List Ev} (h : Lw w B v l) (x : Ext w w') : Lw w' B v l := own_ext h x
/-- The last one. -/
theorem Lw.last {w : World} {B m c : Nat} {A : Option Addr} {l : List Ev} (h : Lw w B (.slice A (m + 1) c) l) (hm : l.length = m + 1) : ∃ g, A = some ⟨g, 0, none⟩ ∧ B ≤ g ∧ g < w.heap.size ∧ ∀ i, i < 5 → w.cell? ⟨g, m * 5 + i, none⟩ = (evc (lst l))[i]? := by
  rcases h.2 with ⟨h1, _⟩ | ⟨g, cap, cur, h1, hb, hh, h3, h4, h5, h6⟩
  · cases h1
  · simp only [Value.slice.injEq] at h1
    obtain ⟨rfl, _, rfl⟩ := h1
    refine ⟨g, rfl, hb, (Array.getElem?_eq_some_iff.1 hh).1, fun i hi => ?_⟩
    have e : (cur.toList.take (l.length * 5))[m * 5 + i]? = (evl l)[m * 5 + i]? := by rw [h6]
    rw [List.getElem?_take_of_lt (by omega), evl_at l (by omega) hi, Array.getElem?_toList] at e
    rw [cell_of_row w g _ cur 29 (0, 0) hh, e]
    have : l[m]'(by omega) = lst l := by
      rw [← lst_at (by omega : 0 < l.length)]
      congr 1; omega
    rw [this]
def tvI (d : Dg) (l : List Ev) : Int := if d.st = 0 ∨ l.length = 0 then 0 else toV d l
def teI (d : Dg) (l : List Ev) : Int := if d.st = 0 ∨ l.length = 0 then 0 else (lst l).r
theorem rtold_any {w : World} {B c : Nat} {A : Option Addr} (cl : Int) (d : Dg) (l : List Ev) (h : Lw w B (.slice A l.length c) l) (hl : l.length ≤ 1000) :
    Calls Try.prog 26 #[.agg #[.int .i64 cl, .bool (d.st != 0), .int .i64 d.kd, .int .i64 d.ob, .int .i64 d.ar, .slice A l.length c]] w fun e w' => e = .returned (.tuple #[.int .i64 (tvI d l), .int .i64 (teI d l), .bool (toB d l)]) ∧ Ext w w' := by
  have E1 : tvI d l = if d.st = 0 ∨ l.length = 0 then 0 else toV d l := rfl
  have E2 : teI d l = if d.st = 0 ∨ l.length = 0 then 0 else (lst l).r := rfl
  have E3 : toB d l = if d.st = 0 ∨ l.length = 0 then false else if d.kd = 4 then (lst l).k == 6 || ((lst l).k == 4 && (lst l).r != 0) else if d.kd = 5 then (lst l).k == 8 else if d.kd = 6 then (lst l).k == 9 else true := rfl
  generalize tvI d l = r1 at *
  generalize teI d l = r2 at *
  generalize toB d l = r3 at *
  by_cases s0 : d.st = 0
  · rw [if_pos (.inl s0)] at E1 E2 E3
    subst E1 E2 E3
    have : (d.st != 0) = false := by rw [s0]; rfl
    rw [this]
    clear h
    go_enter Try.func26, Try.ntmps26
    go_wp2
    go_ret3
    exact ⟨by simp, Ext.alloc _ _⟩
  have so : (d.st != 0) = true := by simpa using s0
  rw [so]
  by_cases l0 : l.length = 0
  · rw [if_pos (.inr l0)] at E1 E2 E3
    subst E1 E2 E3
    rw [l0]
    clear h
    go_enter Try.func26, Try.ntmps26
    go_wp2
    go_ret3
    exact ⟨by simp, Ext.alloc _ _⟩
  obtain ⟨m, hm⟩ : ∃ m, l.length = m + 1 := ⟨l.length - 1, by omega⟩
  rw [if_neg (by omega)] at E1 E2 E3
  have HT : toV d l = if d.kd = 4 then 0 else if d.kd = 5 then (lst l).a else if d.kd = 6 then (l.length : Int) - 1 else if d.kd = 7 ∨ d.kd = 8 then (lst l).a else 0 := rfl
  rw [HT] at E1
  rw [hm] at h E1 ⊢
  obtain ⟨g, rfl, hgB, hgl, hc⟩ := h.last hm
  have mi : (m : Int) ≤ 1000 := by omega
  have e1 : ((m + 1 : Nat) : Int) - 1 = (m : Int) := by omega
  rw [e1] at E1
  have HX := hide (Ext.alloc w (.cells #[.int .i64 cl, .bool true, .int .i64 d.kd, .int .i64 d.ob, .int .i64 d.ar, .slice (some ⟨g, 0, none⟩) (m + 1) c] 50))
  have c0 := (HX.out.oldCell g (m * 5 + 0) hgl).trans (hc 0 (by omega))
  have c1 := (HX.out.oldCell g (m * 5 + 1) hgl).trans (hc 1 (by omega))
  have c2 := (HX.out.oldCell g (m * 5 + 2) hgl).trans (hc 2 (by omega))
  have c3 := (HX.out.oldCell g (m * 5 + 3) hgl).trans (hc 3 (by omega))
  have c4 := (HX.out.oldCell g (m * 5 + 4) hgl).trans (hc 4 (by omega))
  have m1 : (m : Int) < ((m + 1 : Nat) : Int) := by omega
  have p0 : ((m : Int) + 1 == 0) = false := by simp; omega
  clear h hc HT hm l0 s0 so hl
  generalize lst l = x at *
  obtain ⟨xk, xt, xo, xa, xr⟩ := x
  simp only [evc, List.getElem?_toArray, List.getElem?_cons_zero, List.getElem?_cons_succ, Nat.add_zero] at c0 c1 c2 c3 c4
  simp only at E1 E2 E3
  generalize d.kd = kd at *
  by_cases k4 : kd = 4
  · subst k4
    rw [if_pos rfl] at E1 E3
    subst E1 E2
    cases p6 : (xk == 6) <;> cases p4 : (xk == 4)
    all_goals
      rw [p6, p4] at E3
      subst E3
      go_enter Try.func26, Try.ntmps26
      go_wp2
      go_region
      go_wp2
      go_ret3
      exact ⟨by simp, ((Ext.alloc _ _).trans (Ext.alloc _ _)).trans (Ext.drew _)⟩
  rw [if_neg k4] at E1 E3
  by_cases k5 : kd = 5
  · subst k5
    rw [if_pos rfl] at E1 E3
    subst E1 E2 E3
    go_enter Try.func26, Try.ntmps26
    go_wp2
    go_region
    go_wp2
    go_ret3
    exact ⟨by simp, ((Ext.alloc _ _).trans (Ext.alloc _ _)).trans (Ext.drew _)⟩
  rw [if_neg k5] at E1 E3
  by_cases k6 : kd = 6
  · subst k6
    rw [if_pos rfl] at E1 E3
    subst E1 E2 E3
    go_enter Try.func26, Try.ntmps26
    go_wp2
    go_region
    go_wp2
    go_ret3
    exact ⟨by simp, ((Ext.alloc _ _).trans (Ext.alloc _ _)).trans (Ext.drew _)⟩
  rw [if_neg k6] at E1 E3
  subst E2 E3
  have p4 : (kd == 4) = false := by simpa using k4
  have p5 : (kd == 5) = false := by simpa using k5
  have p6 : (kd == 6) = false := by simpa using k6
  have CR := fun w' => reply_any kd xk xt xo xa r2 w'
  rw [← E1] at CR
  clear E1
  go_enter Try.func26, Try.ntmps26
  go_upto_region 12 with fail
  have HBX := hide (((Blk.new w #[.int .i64 cl, .bool true, .int .i64 kd, .int .i64 d.ob, .int .i64 d.ar, .slice (some ⟨g, 0, none⟩) (m + 1) c] 50).ext (Ext.alloc _ (.cells #[.int .i64 xk, .int .i64 xt, .int .i64 xo, .int .i64 xa, .int .i64 r2] 29))).ext (Ext.drew _))
  have hl := Blk.new (w.alloc (.cells #[.int .i64 cl, .bool true, .int .i64 kd, .int .i64 d.ob, .int .i64 d.ar, .slice (some ⟨g, 0, none⟩) (m + 1) c] 50)) #[.int .i64 xk, .int .i64 xt, .int .i64 xo, .int .i64 xa, .int .i64 r2] 29
  rw [World.size_alloc] at hl
  have HL := hide (hl.ext (Ext.drew _))
  have HXX := hide ((HX.out.trans (Ext.alloc _ (.cells #[.int .i64 xk, .int .i64 xt, .int .i64 xo, .int .i64 xa, .int .i64 r2] 29))).trans (Ext.drew _))
  have LS : (Try.prog.info? 29).map (·.size) = some [Value.int .i64 xk, .int .i64 xt, .int .i64 xo, .int .i64 xa, .int .i64 r2].length := by kernel_rfl
  have RG : ∀ w', Blk w' w.heap.size #[.int .i64 cl, .bool true, .int .i64 kd, .int .i64 d.ob, .int .i64 d.ar, .slice (some ⟨g, 0, none⟩) (m + 1) c] 50 → Blk w' (w.heap.size + 1) #[.int .i64 xk, .int .i64 xt, .int .i64 xo, .int .i64 xa, .int .i64 r2] 29 → (w'.cell? ⟨w.heap.size, 2, none⟩ = some (.int .i64 kd) ∧ w'.cell? ⟨w.heap.size + 1, 4, none⟩ = some (.int .i64 r2)) ∧ w'.rangeAt (w.heap.size + 1) 0 [.int .i64 xk, .int .i64 xt, .int .i64 xo, .int .i64 xa, .int .i64 r2] :=
    fun w' h1 h2 => ⟨⟨h1.cell 2, h2.cell 4⟩, fun j v hv => by rw [Nat.zero_add, h2.cell, ← hv]; simp⟩
  refine wp_region_held_drew (S := fun w' => (w'.cell? ⟨w.heap.size, 2, none⟩ = some (.int .i64 kd) ∧ w'.cell? ⟨w.heap.size + 1, 4, none⟩ = some (.int .i64 r2)) ∧ w'.rangeAt (w.heap.size + 1) 0 [.int .i64 xk, .int .i64 xt, .int .i64 xo, .int .i64 xa, .int .i64 r2]) (by kernel_rfl) (by exact RG _ HBX.out HL.out) (fun hHeld => ?_)
  clear hl c0 c1 c2 c3 c4 HX
  generalize ((w.alloc (.cells #[.int .i64 cl, .bool true, .int .i64 kd, .int .i64 d.ob, .int .i64 d.ar, .slice (some ⟨g, 0, none⟩) (m + 1) c] 50)).alloc (.cells #[.int .i64 xk, .int .i64 xt, .int .i64 xo, .int .i64 xa, .int .i64 r2] 29)).drew = W1 at *
  (refine held_take (i := 0) (v := ?_) rfl (by kernel_rfl) (by kernel_rfl) (by kernel_rfl) (fun _ _ _ h => h) (by rfl) ?_ (by assumption) ?_; rotate_left; (intro w hSw; (try dsimp only at hSw); (first | (go_simp; done) | (go_simp; with_reducible rfl))); (try simp only [Act.put, List.setIfInBounds_toArray, List.set_cons_zero, List.set_cons_succ]))
  (refine held_take (i := 1) (v := ?_) rfl (by kernel_rfl) (by kernel_rfl) (by kernel_rfl) (fun _ _ _ h => h) (by rfl) ?_ (by assumption) ?_; rotate_left; (intro w hSw; (try dsimp only at hSw); (first | (go_simp; done) | (go_simp; with_reducible rfl))); (try simp only [Act.put, List.setIfInBounds_toArray, List.set_cons_zero, List.set_cons_succ]))
  (refine held_take (i := 2) (v := ?_) rfl (by kernel_rfl) (by kernel_rfl) (by kernel_rfl) (fun _ _ _ h => h) (by rfl) ?_ (by assumption) ?_; rotate_left; (intro w hSw; (try dsimp only at hSw); (first | (go_simp; done) | (go_simp; with_reducible rfl))); (try simp only [Act.put, List.setIfInBounds_toArray, List.set_cons_zero, List.set_cons_succ]))
  refine wpAnyH_take (i := 3) (at_drop rfl) (by kernel_rfl) (by kernel_rfl) (by kernel_rfl) (fun _ _ _ h => h) (yieldsIf_load_mid (by rfl) 29 _ rfl (w.heap.size + 1) 0 rfl [.int .i64 xk, .int .i64 xt, .int .i64 xo, .int .i64 xa, .int .i64 r2] _ (fun w h => h.2) Try.underlying29 rfl LS) (by assumption) ?_
  (try simp only [Act.put, List.setIfInBounds_toArray, List.set_cons_zero, List.set_cons_succ])
  (refine held_take (i := 5) (v := ?_) rfl (by kernel_rfl) (by kernel_rfl) (by kernel_rfl) (fun _ _ _ h => h) (by rfl) ?_ (by assumption) ?_; rotate_left; (intro w hSw; (try dsimp only at hSw); (first | (go_simp; done) | (go_simp; with_reducible rfl))); (try simp only [Act.put, List.setIfInBounds_toArray, List.set_cons_zero, List.set_cons_succ]))
  (refine held_take (i := 6) (v := ?_) rfl (by kernel_rfl) (by kernel_rfl) (by kernel_rfl) (fun _ _ _ h => h) (by rfl) ?_ (by assumption) ?_; rotate_left; (intro w hSw; (try dsimp only at hSw); (first | (go_simp; done) | (go_simp; with_reducible rfl))); (try simp only [Act.put, List.setIfInBounds_toArray, List.set_cons_zero, List.set_cons_succ]))
  refine wpAnyH_ready (rs := [4]) (by kernel_rfl) (by simp) (held_cons rfl (fun K hK => ?_) AllReadyH.nil)
  rw [if_pos (by rfl)]
  go_simp
  go_at_call 47
  refine (CR _).mono ?_
  rintro e w6 ⟨rfl, hx⟩
  have HBX := hide (HBX.out.ext hx)
  have HL := hide (HL.out.ext hx)
  have HXX := hide (HXX.out.trans hx)
  clear hx
  go_simp
  refine hK.out _ _ (RG _ HBX.out HL.out) (fun hHeld => ?_)
  (try simp only [Act.put, List.setIfInBounds_toArray, List.set_cons_zero, List.set_cons_succ])
  (refine held_take (i := 7) (v := ?_) rfl (by kernel_rfl) (by kernel_rfl) (by kernel_rfl) (fun _ _ _ h => h) (by rfl) ?_ (by assumption) ?_; rotate_left; (intro w hSw; (try dsimp only at hSw); (first | (go_simp; done) | (go_simp; with_reducible rfl))); (try simp only [Act.put, List.setIfInBounds_toArray, List.set_cons_zero, List.set_cons_succ]))
  (refine held_take (i := 8) (v := ?_) rfl (by kernel_rfl) (by kernel_rfl) (by kernel_rfl) (fun _ _ _ h => h) (by rfl) ?_ (by assumption) ?_; rotate_left; (intro w hSw; (try dsimp only at hSw); (first | (go_simp; done) | (go_simp; with_reducible rfl))); (try simp only [Act.put, List.setIfInBounds_toArray, List.set_cons_zero, List.set_cons_succ]))
  (refine held_take (i := 9) (v := ?_) rfl (by kernel_rfl) (by kernel_rfl) (by kernel_rfl) (fun _ _ _ h => h) (by rfl) ?_ (by assumption) ?_; rotate_left; (intro w hSw; (try dsimp only at hSw); (first | (go_simp; done) | (go_simp; with_reducible rfl))); (try simp only [Act.put, List.setIfInBounds_toArray, List.set_cons_zero, List.set_cons_succ]))
  refine wpAnyH_done (by kernel_rfl) ?_ _
  go_wp2_with fail
  go_ret3
  exact ⟨by simp, HXX.out⟩
end Go.Proofs.Ytacneghgimfklaa
