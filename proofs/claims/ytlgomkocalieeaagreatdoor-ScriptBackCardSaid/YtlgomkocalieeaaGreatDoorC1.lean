/- Configurations: which may be, of the program and of the document. -/
import Derived.Test.YtlgomkocalieeaaGreatDoorO3
import Derived.Test.YtlgomkocalieeaaGreatDoorTurn
import Derived.BigRegion
namespace Go.Proofs.YtlgomkocalieeaaGreatDoor
open Go.RowKit
set_option linter.unusedSimpArgs false
set_option linter.unusedVariables false
set_option maxRecDepth 100000

/-- A configuration: its nine numbers, its Seed. -/
structure Cf where
  t : Int
  o : Int
  c : Int
  s : Int
  p : Int
  n : Int
  b : Int
  r : Int
  v : Int
  d : Int
  deriving DecidableEq
def win (n a b : Int) : Bool := decide (a ≤ n ∧ n ≤ b)
def mayC (x : Cf) : Bool := win x.t 1 8 && win x.o 1 8 && win x.c 1 4 && win x.s 1 16 && win x.p 0 8 && win x.n 1 60 && win x.r 1 100 && win x.v x.r 100
theorem within_any (n a b : Int) (w : World) : Calls Tryz.prog 53 #[.int .i64 n, .int .i64 a, .int .i64 b] w fun e w' => e = .returned (.bool (win n a b)) ∧ w = w' := by
  go_enter Tryz.func53, Tryz.ntmps53
  go_wp2
  all_goals
    go_ret
    refine ⟨?_, rfl⟩
    congr 2
    unfold win
    simp_all
    try omega
theorem cmay_any (x : Cf) (w : World) : Calls Tryz.prog 36 #[(.agg #[.int .i64 x.t, .int .i64 x.o, .int .i64 x.c, .int .i64 x.s, .int .i64 x.p, .int .i64 x.n, .int .u8 x.b, .int .i64 x.r, .int .i64 x.v, .int .u64 x.d])] w fun e w' => e = .returned (.bool (mayC x)) ∧ Ext w w' := by
  obtain ⟨t, o, c, s, p, n, b, r, v, d⟩ := x
  have HM := hide (show mayC ⟨t, o, c, s, p, n, b, r, v, d⟩ = (win t 1 8 && (win o 1 8 && (win c 1 4 && (win s 1 16 && (win p 0 8 && (win n 1 60 && (win r 1 100 && win v r 100))))))) by simp [mayC, Bool.and_assoc])
  rw [HM.out]
  clear HM
  have h1 := fun w => within_any t 1 8 w
  have h2 := fun w => within_any o 1 8 w
  have h3 := fun w => within_any c 1 4 w
  have h4 := fun w => within_any s 1 16 w
  have h5 := fun w => within_any p 0 8 w
  have h6 := fun w => within_any n 1 60 w
  have h7 := fun w => within_any r 1 100 w
  have h8 := fun w => within_any v r 100 w
  generalize win t 1 8 = b1 at *
  generalize win o 1 8 = b2 at *
  generalize win c 1 4 = b3 at *
  generalize win s 1 16 = b4 at *
  generalize win p 0 8 = b5 at *
  generalize win n 1 60 = b6 at *
  generalize win r 1 100 = b7 at *
  generalize win v r 100 = b8 at *
  go_enter Tryz.func36, Tryz.ntmps36
  go_wp2_with fail
  refine (h1 _).mono ?_
  rintro e w' ⟨rfl, rfl⟩
  cases b1
  · go_wp2_with fail
    go_ret
    exact ⟨by simp, Ext.alloc _ _⟩
  · go_wp2_with fail
    refine (h2 _).mono ?_
    rintro e w' ⟨rfl, rfl⟩
    cases b2
    · go_wp2_with fail
      go_ret
      exact ⟨by simp, Ext.alloc _ _⟩
    · go_wp2_with fail
      refine (h3 _).mono ?_
      rintro e w' ⟨rfl, rfl⟩
      cases b3
      · go_wp2_with fail
        go_ret
        exact ⟨by simp, Ext.alloc _ _⟩
      · go_wp2_with fail
        refine (h4 _).mono ?_
        rintro e w' ⟨rfl, rfl⟩
        cases b4
        · go_wp2_with fail
          go_ret
          exact ⟨by simp, Ext.alloc _ _⟩
        · go_wp2_with fail
          refine (h5 _).mono ?_
          rintro e w' ⟨rfl, rfl⟩
          cases b5
          · go_wp2_with fail
            go_ret
            exact ⟨by simp, Ext.alloc _ _⟩
          · go_wp2_with fail
            refine (h6 _).mono ?_
            rintro e w' ⟨rfl, rfl⟩
            cases b6
            · go_wp2_with fail
              go_ret
              exact ⟨by simp, Ext.alloc _ _⟩
            · go_wp2_with fail
              refine (h7 _).mono ?_
              rintro e w' ⟨rfl, rfl⟩
              cases b7
              · go_wp2_with fail
                go_ret
                exact ⟨by simp, Ext.alloc _ _⟩
              · go_wp2_with fail
                refine (h8 _).mono ?_
                rintro e w' ⟨rfl, rfl⟩
                go_wp2_with fail
                go_ret
                exact ⟨by simp, Ext.alloc _ _⟩
theorem rcmay_any (x : Cf) (w : World) : Calls Tryz.prog 47 #[(.agg #[.int .i64 x.t, .int .i64 x.o, .int .i64 x.c, .int .i64 x.s, .int .i64 x.p, .int .i64 x.n, .int .u8 x.b, .int .i64 x.r, .int .i64 x.v, .int .u64 x.d])] w fun e w' => e = .returned (.bool (mayC x)) ∧ Ext w w' := by
  obtain ⟨t, o, c, s, p, n, b, r, v, d⟩ := x
  go_enter Tryz.func47, Tryz.ntmps47
  go_wp2
  all_goals
    go_ret
    refine ⟨?_, Ext.alloc _ _⟩
    congr 2
    simp_all [mayC, win]
    try omega
end Go.Proofs.YtlgomkocalieeaaGreatDoor
