/- What Policy answers, of a count from 0 to 1000. -/
import Derived.Test.YtdooakfdaeockaaDoorK2
namespace Go.Proofs.YtdooakfdaeockaaDoor
open Go.RowKit
set_option linter.unusedSimpArgs false
set_option linter.unusedVariables false



/-- One revocation more; what is to be done then. -/
def upC (c : Int) : Int := if c < 1000 then c + 1 else c
def polI (b : Bool) (n rb rv : Int) : Int := if b = false then 0 else if rv ≤ n then 2 else if rb < 1 then 1 else if n % rb = 0 then 1 else 0

theorem kpolicy_any (b : Bool) (e c rb rv : Int) (w : World) (c0 : 0 ≤ c) (c1 : c ≤ 1000) :
    Calls Tryd.prog 16 #[Value.agg #[.bool (b), .int .u8 (e), .int .i64 (c)], .int .i64 rb, .int .i64 rv] w fun x w' => x = .returned (.tuple #[.int .i64 (polI b (upC c) rb rv), Value.agg #[.bool (b), .int .u8 (e), .int .i64 ((upC c))]]) ∧ Ext w w' := by
  by_cases k : c < 1000
  · have hu : upC c = c + 1 := by simp [upC, k]
    have hw : IntKind.i64.wrap (c + 1) = c + 1 := by rw [IntKind.wrap_i64]; omega
    rw [hu]
    clear hu
    cases b
    · have hp : polI false (c + 1) rb rv = 0 := rfl
      rw [hp]
      clear hp
      go_enter Tryd.func16, Tryd.ntmps16
      go_wp2_with fail
      go_region
      go_wp2
      refine bodyPost_ret (v := .tuple #[.int .i64 (0), Value.agg #[.bool (false), .int .u8 (e), .int .i64 ((c + 1))]]) (by simp [results, Tryd.results16, go_sem, *]) rfl ⟨rfl, ?_⟩
      refine Ext.trans ?_ (Ext.drew _)
      (repeat (with_reducible refine Ext.set ?_ (by simp) _))
      exact (Ext.alloc _ _).trans (Ext.alloc _ _)
    · by_cases q : rv ≤ c + 1
      · have hp : polI true (c + 1) rb rv = 2 := by simp [polI, q]
        rw [hp]
        clear hp
        go_enter Tryd.func16, Tryd.ntmps16
        go_wp2_with fail
        go_region
        go_wp2
        refine bodyPost_ret (v := .tuple #[.int .i64 (2), Value.agg #[.bool (true), .int .u8 (e), .int .i64 ((c + 1))]]) (by simp [results, Tryd.results16, go_sem, *]) rfl ⟨rfl, ?_⟩
        refine Ext.trans ?_ (Ext.drew _)
        (repeat (with_reducible refine Ext.set ?_ (by simp) _))
        exact (Ext.alloc _ _).trans (Ext.alloc _ _)
      · by_cases m : rb < 1
        · have hp : polI true (c + 1) rb rv = 1 := by simp [polI, q, m]
          rw [hp]
          clear hp
          go_enter Tryd.func16, Tryd.ntmps16
          go_wp2_with fail
          go_region
          go_wp2
          refine bodyPost_ret (v := .tuple #[.int .i64 (1), Value.agg #[.bool (true), .int .u8 (e), .int .i64 ((c + 1))]]) (by simp [results, Tryd.results16, go_sem, *]) rfl ⟨rfl, ?_⟩
          refine Ext.trans ?_ (Ext.drew _)
          (repeat (with_reducible refine Ext.set ?_ (by simp) _))
          exact (Ext.alloc _ _).trans (Ext.alloc _ _)
        · by_cases z : (c + 1) % rb = 0
          · have hp : polI true (c + 1) rb rv = 1 := by simp [polI, q, m, z]
            rw [hp]
            clear hp
            go_enter Tryd.func16, Tryd.ntmps16
            go_wp2_with fail
            go_region
            go_wp2
            refine bodyPost_ret (v := .tuple #[.int .i64 (1), Value.agg #[.bool (true), .int .u8 (e), .int .i64 ((c + 1))]]) (by simp [results, Tryd.results16, go_sem, *]) rfl ⟨rfl, ?_⟩
            refine Ext.trans ?_ (Ext.drew _)
            (repeat (with_reducible refine Ext.set ?_ (by simp) _))
            exact (Ext.alloc _ _).trans (Ext.alloc _ _)
          · have hp : polI true (c + 1) rb rv = 0 := by simp [polI, q, m, z]
            rw [hp]
            clear hp
            go_enter Tryd.func16, Tryd.ntmps16
            go_wp2_with fail
            go_region
            go_wp2
            refine bodyPost_ret (v := .tuple #[.int .i64 (0), Value.agg #[.bool (true), .int .u8 (e), .int .i64 ((c + 1))]]) (by simp [results, Tryd.results16, go_sem, *]) rfl ⟨rfl, ?_⟩
            refine Ext.trans ?_ (Ext.drew _)
            (repeat (with_reducible refine Ext.set ?_ (by simp) _))
            exact (Ext.alloc _ _).trans (Ext.alloc _ _)
  · obtain rfl : c = 1000 := by omega
    have hu : upC 1000 = 1000 := by decide
    rw [hu]
    clear hu k
    cases b
    · have hp : polI false (1000) rb rv = 0 := rfl
      rw [hp]
      clear hp
      go_enter Tryd.func16, Tryd.ntmps16
      go_wp2_with fail
      go_region
      go_wp2
      refine bodyPost_ret (v := .tuple #[.int .i64 (0), Value.agg #[.bool (false), .int .u8 (e), .int .i64 ((1000))]]) (by simp [results, Tryd.results16, go_sem, *]) rfl ⟨rfl, ?_⟩
      refine Ext.trans ?_ (Ext.drew _)
      (repeat (with_reducible refine Ext.set ?_ (by simp) _))
      exact (Ext.alloc _ _).trans (Ext.alloc _ _)
    · by_cases q : rv ≤ 1000
      · have hp : polI true (1000) rb rv = 2 := by simp [polI, q]
        rw [hp]
        clear hp
        go_enter Tryd.func16, Tryd.ntmps16
        go_wp2_with fail
        go_region
        go_wp2
        refine bodyPost_ret (v := .tuple #[.int .i64 (2), Value.agg #[.bool (true), .int .u8 (e), .int .i64 ((1000))]]) (by simp [results, Tryd.results16, go_sem, *]) rfl ⟨rfl, ?_⟩
        refine Ext.trans ?_ (Ext.drew _)
        (repeat (with_reducible refine Ext.set ?_ (by simp) _))
        exact (Ext.alloc _ _).trans (Ext.alloc _ _)
      · by_cases m : rb < 1
        · have hp : polI true (1000) rb rv = 1 := by simp [polI, q, m]
          rw [hp]
          clear hp
          go_enter Tryd.func16, Tryd.ntmps16
          go_wp2_with fail
          go_region
          go_wp2
          refine bodyPost_ret (v := .tuple #[.int .i64 (1), Value.agg #[.bool (true), .int .u8 (e), .int .i64 ((1000))]]) (by simp [results, Tryd.results16, go_sem, *]) rfl ⟨rfl, ?_⟩
          refine Ext.trans ?_ (Ext.drew _)
          (repeat (with_reducible refine Ext.set ?_ (by simp) _))
          exact (Ext.alloc _ _).trans (Ext.alloc _ _)
        · by_cases z : (1000) % rb = 0
          · have hp : polI true (1000) rb rv = 1 := by simp [polI, q, m, z]
            rw [hp]
            clear hp
            go_enter Tryd.func16, Tryd.ntmps16
            go_wp2_with fail
            go_region
            go_wp2
            refine bodyPost_ret (v := .tuple #[.int .i64 (1), Value.agg #[.bool (true), .int .u8 (e), .int .i64 ((1000))]]) (by simp [results, Tryd.results16, go_sem, *]) rfl ⟨rfl, ?_⟩
            refine Ext.trans ?_ (Ext.drew _)
            (repeat (with_reducible refine Ext.set ?_ (by simp) _))
            exact (Ext.alloc _ _).trans (Ext.alloc _ _)
          · have hp : polI true (1000) rb rv = 0 := by simp [polI, q, m, z]
            rw [hp]
            clear hp
            go_enter Tryd.func16, Tryd.ntmps16
            go_wp2_with fail
            go_region
            go_wp2
            refine bodyPost_ret (v := .tuple #[.int .i64 (0), Value.agg #[.bool (true), .int .u8 (e), .int .i64 ((1000))]]) (by simp [results, Tryd.results16, go_sem, *]) rfl ⟨rfl, ?_⟩
            refine Ext.trans ?_ (Ext.drew _)
            (repeat (with_reducible refine Ext.set ?_ (by simp) _))
            exact (Ext.alloc _ _).trans (Ext.alloc _ _)
end Go.Proofs.YtdooakfdaeockaaDoor
