/- What Policy answers, of any count. -/
import Derived.Test.YtecopjehmpjniaaDoorD3
namespace Go.Proofs.YtecopjehmpjniaaDoor
open Go.RowKit
set_option linter.unusedSimpArgs false
set_option linter.unusedVariables false



/-- One revocation more; what is to be done then. -/
def upC (c : Int) : Int := if c < 1000 then c + 1 else c
def polI (b : Bool) (n rb rv : Int) : Int := if b = false then 0 else if rv ≤ n then 2 else if rb < 1 then 1 else if n.tmod rb = 0 then 1 else 0
theorem pol_cases (b : Bool) (n rb rv : Int) : polI b n rb rv = 0 ∨ (polI b n rb rv = 1 ∧ b = true) ∨ (polI b n rb rv = 2 ∧ b = true) := by
  unfold polI
  cases b
  · simp
  · (repeat' split) <;> simp_all

theorem tmod_in {n rb : Int} (h0 : -9223372036854775808 ≤ n) (h1 : n ≤ 9223372036854775807) (m : 1 ≤ rb) : IntKind.i64.wrap (n.tmod rb) = n.tmod rb := by
  rw [IntKind.wrap_i64]
  have h : -9223372036854775808 ≤ n.tmod rb ∧ n.tmod rb ≤ 9223372036854775807 := by
    rcases Int.le_total 0 n with q | q
    · have a := Int.tmod_nonneg rb q
      have b : n.tmod rb ≤ n := by
        rw [Int.tmod_eq_emod_of_nonneg q]
        have := Int.emod_nonneg n (show rb ≠ 0 by omega)
        have e := Int.mul_ediv_add_emod n rb
        have d := Int.ediv_nonneg q (show 0 ≤ rb by omega)
        have : 0 ≤ rb * (n / rb) := Int.mul_nonneg (by omega) d
        omega
      omega
    · have e : n.tmod rb = -((-n).tmod rb) := by rw [Int.neg_tmod]; omega
      have q2 : 0 ≤ -n := by omega
      have a := Int.tmod_nonneg rb q2
      have b : (-n).tmod rb ≤ -n := by
        rw [Int.tmod_eq_emod_of_nonneg q2]
        have e := Int.mul_ediv_add_emod (-n) rb
        have d := Int.ediv_nonneg q2 (show 0 ≤ rb by omega)
        have : 0 ≤ rb * (-n / rb) := Int.mul_nonneg (by omega) d
        omega
      omega
  omega
theorem kpolicy_any (b : Bool) (e c rb rv : Int) (w : World) (c0 : -9223372036854775808 ≤ c) (c1 : c ≤ 9223372036854775807) :
    Calls Tryd.prog 27 #[Value.agg #[.bool (b), .int .u8 (e), .int .i64 (c)], .int .i64 rb, .int .i64 rv] w fun x w' => x = .returned (.tuple #[.int .i64 (polI b (upC c) rb rv), Value.agg #[.bool (b), .int .u8 (e), .int .i64 ((upC c))]]) ∧ Ext w w' := by
  by_cases k : c < 1000
  · have hu : upC c = c + 1 := by simp [upC, k]
    have hw : IntKind.i64.wrap (c + 1) = c + 1 := by rw [IntKind.wrap_i64]; omega
    have hq : 1 ≤ rb → IntKind.i64.wrap ((c + 1).tmod rb) = (c + 1).tmod rb := fun m => tmod_in (by omega) (by omega) m
    rw [hu]
    clear hu
    cases b
    · have hp : polI false (c + 1) rb rv = 0 := rfl
      clear hq
      rw [hp]
      clear hp
      go_enter Tryd.func27, Tryd.ntmps27
      go_wp2_with fail
      go_region
      go_wp2
      refine bodyPost_ret (v := .tuple #[.int .i64 (0), Value.agg #[.bool (false), .int .u8 (e), .int .i64 ((c + 1))]]) (by simp [results, Tryd.results27, go_sem, *]) rfl ⟨rfl, ?_⟩
      refine Ext.trans ?_ (Ext.drew _)
      (repeat (with_reducible refine Ext.set ?_ (by simp) _))
      exact (Ext.alloc _ _).trans (Ext.alloc _ _)
    · by_cases q : rv ≤ c + 1
      · have hp : polI true (c + 1) rb rv = 2 := by simp [polI, q]
        clear hq
        rw [hp]
        clear hp
        go_enter Tryd.func27, Tryd.ntmps27
        go_wp2_with fail
        go_region
        go_wp2
        refine bodyPost_ret (v := .tuple #[.int .i64 (2), Value.agg #[.bool (true), .int .u8 (e), .int .i64 ((c + 1))]]) (by simp [results, Tryd.results27, go_sem, *]) rfl ⟨rfl, ?_⟩
        refine Ext.trans ?_ (Ext.drew _)
        (repeat (with_reducible refine Ext.set ?_ (by simp) _))
        exact (Ext.alloc _ _).trans (Ext.alloc _ _)
      · by_cases m : rb < 1
        · have hp : polI true (c + 1) rb rv = 1 := by simp [polI, q, m]
          have h1 : (c + 1).tmod 1 = 0 := Int.tmod_one _
          clear hq
          rw [hp]
          clear hp
          go_enter Tryd.func27, Tryd.ntmps27
          go_wp2_with fail
          go_region
          go_wp2
          refine bodyPost_ret (v := .tuple #[.int .i64 (1), Value.agg #[.bool (true), .int .u8 (e), .int .i64 ((c + 1))]]) (by simp [results, Tryd.results27, go_sem, *]) rfl ⟨rfl, ?_⟩
          refine Ext.trans ?_ (Ext.drew _)
          (repeat (with_reducible refine Ext.set ?_ (by simp) _))
          exact (Ext.alloc _ _).trans (Ext.alloc _ _)
        · have hz := hq (by omega)
          by_cases z : (c + 1).tmod rb = 0
          · have hp : polI true (c + 1) rb rv = 1 := by simp [polI, q, m, z]
            (try rw [Int.tmod_eq_emod_of_nonneg (by omega)] at z)
            clear hq
            rw [hp]
            clear hp
            go_enter Tryd.func27, Tryd.ntmps27
            go_wp2_with fail
            go_region
            go_wp2
            refine bodyPost_ret (v := .tuple #[.int .i64 (1), Value.agg #[.bool (true), .int .u8 (e), .int .i64 ((c + 1))]]) (by simp [results, Tryd.results27, go_sem, *]) rfl ⟨rfl, ?_⟩
            refine Ext.trans ?_ (Ext.drew _)
            (repeat (with_reducible refine Ext.set ?_ (by simp) _))
            exact (Ext.alloc _ _).trans (Ext.alloc _ _)
          · have hp : polI true (c + 1) rb rv = 0 := by simp [polI, q, m, z]
            (try rw [Int.tmod_eq_emod_of_nonneg (by omega)] at z)
            clear hq
            rw [hp]
            clear hp
            go_enter Tryd.func27, Tryd.ntmps27
            go_wp2_with fail
            go_region
            go_wp2
            refine bodyPost_ret (v := .tuple #[.int .i64 (0), Value.agg #[.bool (true), .int .u8 (e), .int .i64 ((c + 1))]]) (by simp [results, Tryd.results27, go_sem, *]) rfl ⟨rfl, ?_⟩
            refine Ext.trans ?_ (Ext.drew _)
            (repeat (with_reducible refine Ext.set ?_ (by simp) _))
            exact (Ext.alloc _ _).trans (Ext.alloc _ _)
  · have hu : upC c = c := by simp [upC, k]
    have hq : 1 ≤ rb → IntKind.i64.wrap (c.tmod rb) = c.tmod rb := fun m => tmod_in c0 c1 m
    rw [hu]
    clear hu
    cases b
    · have hp : polI false (c) rb rv = 0 := rfl
      clear hq
      rw [hp]
      clear hp
      go_enter Tryd.func27, Tryd.ntmps27
      go_wp2_with fail
      go_region
      go_wp2
      refine bodyPost_ret (v := .tuple #[.int .i64 (0), Value.agg #[.bool (false), .int .u8 (e), .int .i64 ((c))]]) (by simp [results, Tryd.results27, go_sem, *]) rfl ⟨rfl, ?_⟩
      refine Ext.trans ?_ (Ext.drew _)
      (repeat (with_reducible refine Ext.set ?_ (by simp) _))
      exact (Ext.alloc _ _).trans (Ext.alloc _ _)
    · by_cases q : rv ≤ c
      · have hp : polI true (c) rb rv = 2 := by simp [polI, q]
        clear hq
        rw [hp]
        clear hp
        go_enter Tryd.func27, Tryd.ntmps27
        go_wp2_with fail
        go_region
        go_wp2
        refine bodyPost_ret (v := .tuple #[.int .i64 (2), Value.agg #[.bool (true), .int .u8 (e), .int .i64 ((c))]]) (by simp [results, Tryd.results27, go_sem, *]) rfl ⟨rfl, ?_⟩
        refine Ext.trans ?_ (Ext.drew _)
        (repeat (with_reducible refine Ext.set ?_ (by simp) _))
        exact (Ext.alloc _ _).trans (Ext.alloc _ _)
      · by_cases m : rb < 1
        · have hp : polI true (c) rb rv = 1 := by simp [polI, q, m]
          have h1 : (c).tmod 1 = 0 := Int.tmod_one _
          clear hq
          rw [hp]
          clear hp
          go_enter Tryd.func27, Tryd.ntmps27
          go_wp2_with fail
          go_region
          go_wp2
          refine bodyPost_ret (v := .tuple #[.int .i64 (1), Value.agg #[.bool (true), .int .u8 (e), .int .i64 ((c))]]) (by simp [results, Tryd.results27, go_sem, *]) rfl ⟨rfl, ?_⟩
          refine Ext.trans ?_ (Ext.drew _)
          (repeat (with_reducible refine Ext.set ?_ (by simp) _))
          exact (Ext.alloc _ _).trans (Ext.alloc _ _)
        · have hz := hq (by omega)
          by_cases z : (c).tmod rb = 0
          · have hp : polI true (c) rb rv = 1 := by simp [polI, q, m, z]
            (try rw [Int.tmod_eq_emod_of_nonneg (by omega)] at z)
            clear hq
            rw [hp]
            clear hp
            go_enter Tryd.func27, Tryd.ntmps27
            go_wp2_with fail
            go_region
            go_wp2
            refine bodyPost_ret (v := .tuple #[.int .i64 (1), Value.agg #[.bool (true), .int .u8 (e), .int .i64 ((c))]]) (by simp [results, Tryd.results27, go_sem, *]) rfl ⟨rfl, ?_⟩
            refine Ext.trans ?_ (Ext.drew _)
            (repeat (with_reducible refine Ext.set ?_ (by simp) _))
            exact (Ext.alloc _ _).trans (Ext.alloc _ _)
          · have hp : polI true (c) rb rv = 0 := by simp [polI, q, m, z]
            (try rw [Int.tmod_eq_emod_of_nonneg (by omega)] at z)
            clear hq
            rw [hp]
            clear hp
            go_enter Tryd.func27, Tryd.ntmps27
            go_wp2_with fail
            go_region
            go_wp2
            refine bodyPost_ret (v := .tuple #[.int .i64 (0), Value.agg #[.bool (true), .int .u8 (e), .int .i64 ((c))]]) (by simp [results, Tryd.results27, go_sem, *]) rfl ⟨rfl, ?_⟩
            refine Ext.trans ?_ (Ext.drew _)
            (repeat (with_reducible refine Ext.set ?_ (by simp) _))
            exact (Ext.alloc _ _).trans (Ext.alloc _ _)
end Go.Proofs.YtecopjehmpjniaaDoor
