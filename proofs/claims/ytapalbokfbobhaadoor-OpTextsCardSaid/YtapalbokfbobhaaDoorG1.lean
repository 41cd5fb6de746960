/- first, same; Depth and Nests. -/
import Derived.Test.YtapalbokfbobhaaDoorB2
import Derived.Test.YtapalbokfbobhaaDoorGrow
import Derived.BigRegion
namespace Go.Proofs.YtapalbokfbobhaaDoor
open Go.RowKit
set_option linter.unusedSimpArgs false
set_option linter.unusedVariables false
set_option maxRecDepth 100000

theorem first_any (A : Option Addr) (n c : Nat) (w : World) (hn : n ≤ 64) (hc : n ≤ c) : Calls Tryd.prog 29 #[.slice A n c] w fun e w' => e = .returned (.slice A n c) ∧ w = w' := by
  have h1 : (n : Int) ≤ 64 := by omega
  have h2 : (n : Int) ≤ (c : Int) := by omega
  go_enter Tryd.func29, Tryd.ntmps29
  go_wp2_with fail
  go_ret
  exact ⟨rfl, rfl⟩
theorem run_neqO (w : World) (x : Op3) : Sem.run Tryd.prog (binOp .neq 24 (.agg #[.int .i64 x.1, .int .i64 x.2.1, .int .i64 x.2.2]) (.agg #[.int .i64 x.1, .int .i64 x.2.1, .int .i64 x.2.2])) w = .ok (.bool false) w := by
  go_simp
theorem same_any {w : World} {A1 A2 : Option Addr} {c1 c2 : Nat} {l : List Op3} (h1 : Ch w A1 l) (h2 : Ch w A2 l) (hl : l.length ≤ 70000) :
    Calls Tryd.prog 16 #[.slice A1 l.length c1, .slice A2 l.length c2] w fun e w' => e = .returned (.bool true) ∧ Ext w w' := by
  have H1 := hide h1
  have H2 := hide h2
  have hW0 := Ext.refl w
  clear h1 h2
  go_enter Tryd.func16, Tryd.ntmps16
  go_wp2_with fail
  go_loopw [13] (fun i wr => ∃ j : Nat, j ≤ l.length ∧ i = .int .i64 (j : Int) ∧ Ext w wr) (fun i _ => l.length - (intOf i).toNat)
  case atStart => exact ⟨0, by omega, rfl, hW0⟩
  case round =>
    clear hW0
    obtain ⟨j, hj, rfl, hW0⟩ := hrel
    by_cases hlt : j < l.length
    · obtain ⟨b1, o1, rfl, r1⟩ := (H1.out.ext hW0).at_ hlt
      obtain ⟨b2, o2, rfl, r2⟩ := (H2.out.ext hW0).at_ hlt
      generalize l[j] = q at *
      have RN := fun w => run_neqO w q
      obtain ⟨k, o, a⟩ := q
      simp only at RN
      have s0 := fun w' (x : Ext wr w') => (r1 w' x).1
      have s1 := fun w' (x : Ext wr w') => (r1 w' x).2.1
      have s2 := fun w' (x : Ext wr w') => (r1 w' x).2.2
      have t0 := fun w' (x : Ext wr w') => (r2 w' x).1
      have t1 := fun w' (x : Ext wr w') => (r2 w' x).2.1
      have t2 := fun w' (x : Ext wr w') => (r2 w' x).2.2
      have HX := hide hW0
      clear r1 r2 hW0
      have hW := Ext.refl wr
      go_wp2_with fail
      refine wp_region_ext (by kernel_rfl) (by kernel_rfl) ?_
      repeat
        with_reducible refine wpQuiet_step (fun K hK => ?_)
        go_simp
        first
        | (refine hK _ ?_; clear hK K)
        | (apply Exists.intro
           refine ⟨fun w1 h1 => ?_, hK _ ?_⟩
           (have hW := Ext.trans2 hW (by repeat (first | exact Ext.refl _ | exact Ext.alloc _ _ | exact Ext.drewN _ _ | assumption | refine Ext.trans ?_ (Ext.alloc _ _) | refine Ext.trans ?_ (Ext.drew _) | refine Ext.trans ?_ (by assumption))) h1; (try have hV := Ext.trans2 hV (by repeat (first | exact Ext.refl _ | exact Ext.alloc _ _ | exact Ext.drewN _ _ | assumption | refine Ext.trans ?_ (Ext.alloc _ _) | refine Ext.trans ?_ (Ext.drew _) | refine Ext.trans ?_ (by assumption))) h1); (first | rfl | (go_simp; done) | (go_simp; rfl) | fail))
           clear hK K)
      refine wpQuiet_nil (fun w' hw' => ?_)
      have hW := Ext.trans2 hW (by repeat (first | exact Ext.refl _ | exact Ext.alloc _ _ | exact Ext.drewN _ _ | assumption | refine Ext.trans ?_ (Ext.alloc _ _) | refine Ext.trans ?_ (Ext.drew _) | refine Ext.trans ?_ (by assumption))) hw'
      try have hV := Ext.trans2 hV (by repeat (first | exact Ext.refl _ | exact Ext.alloc _ _ | exact Ext.drewN _ _ | assumption | refine Ext.trans ?_ (Ext.alloc _ _) | refine Ext.trans ?_ (Ext.drew _) | refine Ext.trans ?_ (by assumption))) hw'
      clear hw'
      go_wp2_with fail
      go_roundw
      case rel => exact ⟨j + 1, by omega, by simp, HX.out.trans hW⟩
      case measure => simp [intOf]; omega
    · obtain rfl : j = l.length := by omega
      go_wp2_with fail
      go_ret
      exact ⟨rfl, hW0⟩
/-- What an operation makes of the depth in an object. -/
def kd (x : Op3) (obj : Int) : Int := if x.2.1 = obj then (if x.1 = 1 then 1 else if x.1 = 3 then -1 else 0) else 0
def depO : List Op3 → Int → Int
  | [], _ => 0
  | x :: l, o => kd x o + depO l o
theorem depO_app (l m : List Op3) (o : Int) : depO (l ++ m) o = depO l o + depO m o := by
  induction l with
  | nil => simp [depO]
  | cons x l ih => simp only [List.cons_append, depO, ih]; omega
theorem depO_succ (l : List Op3) {j : Nat} (hj : j < l.length) (o : Int) : depO (l.take (j + 1)) o = depO (l.take j) o + kd l[j] o := by
  rw [List.take_add_one, List.getElem?_eq_getElem hj, depO_app]; simp [depO]
theorem kd_le (x : Op3) (o : Int) : -1 ≤ kd x o ∧ kd x o ≤ 1 := by
  unfold kd; split
  · split
    · omega
    · split <;> omega
  · omega
theorem depO_le (l : List Op3) (o : Int) : -(l.length : Int) ≤ depO l o ∧ depO l o ≤ (l.length : Int) := by
  induction l with
  | nil => simp [depO]
  | cons x l ih => have := kd_le x o; simp only [depO, List.length_cons]; omega
theorem depth_any {w : World} {A : Option Addr} {l : List Op3} (c : Nat) (obj : Int) (h1 : Ch w A l) (hl : l.length ≤ 64) (hc : l.length ≤ c) :
    Calls Tryd.prog 18 #[.slice A l.length c, .int .i64 obj] w fun e w' => e = .returned (.int .i64 (depO l obj)) ∧ Ext w w' := by
  have H1 := hide h1
  have hW0 := Ext.refl w
  clear h1
  go_enter Tryd.func18, Tryd.ntmps18
  go_wp2_with (go_at_call 29; refine (first_any _ _ _ _ hl hc).mono ?_; rintro e w' ⟨rfl, rfl⟩)
  go_loopw [5, 11] (fun v i wr => ∃ j : Nat, j ≤ l.length ∧ i = .int .i64 (j : Int) ∧ v = .int .i64 (depO (l.take j) obj) ∧ Ext w wr) (fun _ i _ => l.length - (intOf i).toNat)
  case atStart => exact ⟨0, by omega, rfl, rfl, hW0⟩
  case round =>
    clear hW0
    obtain ⟨j, hj, rfl, rfl, hW0⟩ := hrel
    by_cases hlt : j < l.length
    · have hs := depO_succ l hlt obj
      have hle := depO_le (l.take j) obj
      have hjl : (l.take j).length = j := by rw [List.length_take]; omega
      rw [hjl] at hle
      obtain ⟨b1, o1, rfl, r1⟩ := (H1.out.ext hW0).at_ hlt
      generalize l[j] = x at *
      obtain ⟨k, o, a⟩ := x
      have HS := hide hs
      generalize depO (l.take j) obj = d at *
      have q1 := fun w' (x : Ext wr w') => (r1 w' x).1
      have q2 := fun w' (x : Ext wr w') => (r1 w' x).2.1
      have q3 := fun w' (x : Ext wr w') => (r1 w' x).2.2
      clear r1 hs hjl
      have hx := Ext.refl wr
      have HW := hide hW0
      have d1 : -64 ≤ d := by omega
      have d2 : d ≤ 64 := by omega
      have e1 : IntKind.i64.wrap (d + 1) = d + 1 := by rw [IntKind.wrap_i64]; omega
      have e2 : IntKind.i64.wrap (d - 1) = d - 1 := by rw [IntKind.wrap_i64]; omega
      clear hle hW0
      by_cases ho : o = obj
      · by_cases k1 : k = 1
        · have HE := hide (show kd (k, o, a) obj = 1 by unfold kd; rw [if_pos ho, if_pos k1])
          go_wp2_with fail
          go_roundw
          case rel => exact ⟨j + 1, by omega, by simp, by rw [HS.out, HE.out], HW.out.trans (Ext.alloc _ _)⟩
          case measure => simp [intOf]; omega
        · by_cases k3 : k = 3
          · have HE := hide (show kd (k, o, a) obj = -1 by unfold kd; rw [if_pos ho, if_neg k1, if_pos k3])
            go_wp2_with fail
            go_roundw
            case rel => exact ⟨j + 1, by omega, by simp, by rw [HS.out, HE.out]; rfl, HW.out.trans (Ext.alloc _ _)⟩
            case measure => simp [intOf]; omega
          · have HE := hide (show kd (k, o, a) obj = 0 by unfold kd; rw [if_pos ho, if_neg k1, if_neg k3])
            go_wp2_with fail
            go_roundw
            case rel => exact ⟨j + 1, by omega, by simp, by rw [HS.out, HE.out, Int.add_zero], HW.out.trans (Ext.alloc _ _)⟩
            case measure => simp [intOf]; omega
      · have HE := hide (show kd (k, o, a) obj = 0 by unfold kd; rw [if_neg ho])
        go_wp2_with fail
        go_roundw
        case rel => exact ⟨j + 1, by omega, by simp, by rw [HS.out, HE.out, Int.add_zero], HW.out.trans (Ext.alloc _ _)⟩
        case measure => simp [intOf]; omega
    · obtain rfl : j = l.length := by omega
      rw [List.take_length]
      have h3 : ¬ (l.length : Int) < (l.length : Int) := by omega
      go_wp2_with fail
      go_ret
      exact ⟨rfl, hW0⟩
end Go.Proofs.YtapalbokfbobhaaDoor
