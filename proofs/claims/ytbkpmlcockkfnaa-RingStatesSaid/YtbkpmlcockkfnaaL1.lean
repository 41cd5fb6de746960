/-
  A law of layer 13 holds of every input: RingStates. No condition.
-/
import Derived.Test.YtbkpmlcockkfnaaS2
namespace Go.Proofs.Ytbkpmlcockkfnaa
open Go.ChangeShapes Go.WideShapes Go.ChangeAt Go.RowKit Go.Deep Go.Joins
set_option linter.unusedVariables false
set_option linter.unusedSimpArgs false
set_option maxRecDepth 100000


theorem goB_cases {a b : Int} (h : goB a b = true) : (a = 0 ∧ b = 1) ∨ (a = 1 ∧ (b = 2 ∨ b = 3 ∨ b = 4)) ∨ ((a = 2 ∨ a = 3 ∨ a = 4) ∧ b = 0) := by
  unfold goB at h
  by_cases a0 : a = 0
  · rw [if_pos a0] at h; exact .inl ⟨a0, by simpa using h⟩
  · rw [if_neg a0] at h
    by_cases a1 : a = 1
    · rw [if_pos a1] at h
      refine .inr (.inl ⟨a1, ?_⟩)
      by_cases b2 : b = 2
      · exact .inl b2
      · rw [if_neg b2] at h
        by_cases b3 : b = 3
        · exact .inr (.inl b3)
        · rw [if_neg b3] at h
          exact .inr (.inr (by simpa using h))
    · rw [if_neg a1] at h
      by_cases a2 : a = 2
      · rw [if_pos a2] at h; exact .inr (.inr ⟨.inl a2, by simpa using h⟩)
      · rw [if_neg a2] at h
        by_cases a3 : a = 3
        · rw [if_pos a3] at h; exact .inr (.inr ⟨.inr (.inl a3), by simpa using h⟩)
        · rw [if_neg a3] at h
          by_cases a4 : a = 4
          · rw [if_pos a4] at h; exact .inr (.inr ⟨.inr (.inr a4), by simpa using h⟩)
          · rw [if_neg a4] at h; cases h
theorem goB_refl (a : Int) : goB a a = false := by
  cases h : goB a a with
  | false => rfl
  | true => rcases goB_cases h with q | q | q <;> omega
theorem goB_next {b c : Int} (h : goB 1 b = true) (k : goB b c = true) : c = 0 := by
  rcases goB_cases h with q | q | q <;> rcases goB_cases k with r | r | r <;> omega
theorem goB_wait {a : Int} (h : goB a 1 = true) : a = 0 := by
  rcases goB_cases h with q | q | q <;> omega
theorem states_any {W : World} {a b c : Int} : Calls Try.prog 4 #[.int .u64 a, .int .u64 b, .int .u64 c] W fun e w' => e = .returned (.bool true) ∧ Ext W w' := by
  have hA := goes_any a b
  have hR := rgoes_any a b
  have hS := goes_any a a
  have hN := goes_any b c
  have hZ := goes_any a 1
  have n1 := @goB_next b c
  have n2 := @goB_wait a
  rw [goB_refl] at hS
  have e1 : a = 1 → goB a b = goB 1 b := fun e => by rw [e]
  have e2 : a = 1 → goB a 1 = false := fun e => by rw [e]; decide
  cases hx : goB a b with
  | false =>
    rw [hx] at hA hR
    cases hz : goB a 1 with
    | false =>
      rw [hz] at hZ
      clear n1 n2 e1 e2 hx hz
      go_enter Try.func4, Try.ntmps4
      go_wp2_with (first
        | (go_at_call 17; with_reducible refine (hA _).mono ?_; rintro e w6 ⟨rfl, rfl⟩)
        | (go_at_call 18; with_reducible refine (hR _).mono ?_; rintro e w6 ⟨rfl, rfl⟩)
        | (go_at_call 17; with_reducible refine (hS _).mono ?_; rintro e w6 ⟨rfl, rfl⟩)
        | (go_at_call 17; with_reducible refine (hN _).mono ?_; rintro e w6 ⟨rfl, rfl⟩)
        | (go_at_call 17; with_reducible refine (hZ _).mono ?_; rintro e w6 ⟨rfl, rfl⟩)
        | (go_at_call 16; refine (alive_any _).mono ?_; rintro e w7 ⟨rfl, hx⟩))
      go_ret
      exact ⟨by simp, hx⟩
    | true =>
      rw [hz] at hZ
      have a0 := n2 hz
      subst a0
      clear n1 n2 e1 e2 hx hz
      go_enter Try.func4, Try.ntmps4
      go_wp2_with (first
        | (go_at_call 17; with_reducible refine (hA _).mono ?_; rintro e w6 ⟨rfl, rfl⟩)
        | (go_at_call 18; with_reducible refine (hR _).mono ?_; rintro e w6 ⟨rfl, rfl⟩)
        | (go_at_call 17; with_reducible refine (hS _).mono ?_; rintro e w6 ⟨rfl, rfl⟩)
        | (go_at_call 17; with_reducible refine (hN _).mono ?_; rintro e w6 ⟨rfl, rfl⟩)
        | (go_at_call 17; with_reducible refine (hZ _).mono ?_; rintro e w6 ⟨rfl, rfl⟩)
        | (go_at_call 16; refine (alive_any _).mono ?_; rintro e w7 ⟨rfl, hx⟩))
      go_ret
      exact ⟨by simp, hx⟩
  | true =>
    rw [hx] at hA hR
    by_cases a1 : a = 1
    · rw [e2 a1] at hZ
      have hx2 := e1 a1
      rw [hx] at hx2
      subst a1
      cases hy : goB b c with
      | false =>
        rw [hy] at hN
        clear n1 n2 e1 e2 hx hy hx2
        go_enter Try.func4, Try.ntmps4
        go_wp2_with (first
          | (go_at_call 17; with_reducible refine (hA _).mono ?_; rintro e w6 ⟨rfl, rfl⟩)
          | (go_at_call 18; with_reducible refine (hR _).mono ?_; rintro e w6 ⟨rfl, rfl⟩)
          | (go_at_call 17; with_reducible refine (hS _).mono ?_; rintro e w6 ⟨rfl, rfl⟩)
          | (go_at_call 17; with_reducible refine (hN _).mono ?_; rintro e w6 ⟨rfl, rfl⟩)
          | (go_at_call 17; with_reducible refine (hZ _).mono ?_; rintro e w6 ⟨rfl, rfl⟩)
          | (go_at_call 16; refine (alive_any _).mono ?_; rintro e w7 ⟨rfl, hx⟩))
        go_ret
        exact ⟨by simp, hx⟩
      | true =>
        rw [hy] at hN
        have c0 := n1 hx2.symm hy
        subst c0
        clear n1 n2 e1 e2 hx hy hx2
        go_enter Try.func4, Try.ntmps4
        go_wp2_with (first
          | (go_at_call 17; with_reducible refine (hA _).mono ?_; rintro e w6 ⟨rfl, rfl⟩)
          | (go_at_call 18; with_reducible refine (hR _).mono ?_; rintro e w6 ⟨rfl, rfl⟩)
          | (go_at_call 17; with_reducible refine (hS _).mono ?_; rintro e w6 ⟨rfl, rfl⟩)
          | (go_at_call 17; with_reducible refine (hN _).mono ?_; rintro e w6 ⟨rfl, rfl⟩)
          | (go_at_call 17; with_reducible refine (hZ _).mono ?_; rintro e w6 ⟨rfl, rfl⟩)
          | (go_at_call 16; refine (alive_any _).mono ?_; rintro e w7 ⟨rfl, hx⟩))
        go_ret
        exact ⟨by simp, hx⟩
    · cases hz : goB a 1 with
      | false =>
        rw [hz] at hZ
        clear n1 n2 e1 e2 hx hz
        go_enter Try.func4, Try.ntmps4
        go_wp2_with (first
          | (go_at_call 17; with_reducible refine (hA _).mono ?_; rintro e w6 ⟨rfl, rfl⟩)
          | (go_at_call 18; with_reducible refine (hR _).mono ?_; rintro e w6 ⟨rfl, rfl⟩)
          | (go_at_call 17; with_reducible refine (hS _).mono ?_; rintro e w6 ⟨rfl, rfl⟩)
          | (go_at_call 17; with_reducible refine (hN _).mono ?_; rintro e w6 ⟨rfl, rfl⟩)
          | (go_at_call 17; with_reducible refine (hZ _).mono ?_; rintro e w6 ⟨rfl, rfl⟩)
          | (go_at_call 16; refine (alive_any _).mono ?_; rintro e w7 ⟨rfl, hx⟩))
        go_ret
        exact ⟨by simp, hx⟩
      | true =>
        rw [hz] at hZ
        have a0 := n2 hz
        subst a0
        clear n1 n2 e1 e2 hx hz
        go_enter Try.func4, Try.ntmps4
        go_wp2_with (first
          | (go_at_call 17; with_reducible refine (hA _).mono ?_; rintro e w6 ⟨rfl, rfl⟩)
          | (go_at_call 18; with_reducible refine (hR _).mono ?_; rintro e w6 ⟨rfl, rfl⟩)
          | (go_at_call 17; with_reducible refine (hS _).mono ?_; rintro e w6 ⟨rfl, rfl⟩)
          | (go_at_call 17; with_reducible refine (hN _).mono ?_; rintro e w6 ⟨rfl, rfl⟩)
          | (go_at_call 17; with_reducible refine (hZ _).mono ?_; rintro e w6 ⟨rfl, rfl⟩)
          | (go_at_call 16; refine (alive_any _).mono ?_; rintro e w7 ⟨rfl, hx⟩))
        go_ret
        exact ⟨by simp, hx⟩
section
variable {H : Type} {enc : TypeId × Value → H} {W : World} {base : Nat}
theorem open_u64 {v : Value} {d : DataW H} {p : List MemPlace} (hv : Value.okWide Try.prog W .any base 47 v) (h : DataW.Trod enc Try.prog W 0 (fun _ => true) true 47 v d p) : ∃ q : Int, v = .int .u64 q := by
  obtain ⟨n, rfl⟩ := okWide_int Try.underlying47 hv
  exact ⟨_, rfl⟩
end
set_option maxRecDepth 100000 in
theorem ringStates_walk {H : Type} {enc : TypeId × Value → H} (W : World) (base : Nat) (args : Array Value) (ds : List (DataW H)) (p : List MemPlace)
    (hval0 : ∀ (j : Nat) t v, Try.f4.params[j]? = some t → args[j]? = some v → Value.okWide Try.prog W .any base t v)
    (hA0 : DataW.TrodAll enc Try.prog W 0 (fun _ => true) true Try.f4.params.toList args.toList ds p) (_hlt : ∀ x ∈ p, x.block < W.heap.size) :
    Calls Try.prog 4 args W fun e W' => e = .returned (.bool true) ∧ Ext W W' := by
  have hval := hval0
  have hA := hA0
  rw [Try.params4] at hA hval
  clear hval0 hA0
  obtain ⟨v0, v1, v2, d0, d1, d2, p0, p1, p2, hargs, rfl, rfl, h0, h1, h2⟩ := trodAll_three hA
  subst hargs
  obtain ⟨a, rfl⟩ := open_u64 (hval 0 47 v0 rfl rfl) h0
  obtain ⟨b, rfl⟩ := open_u64 (hval 1 47 v1 rfl rfl) h1
  obtain ⟨c, rfl⟩ := open_u64 (hval 2 47 v2 rfl rfl) h2
  exact states_any
set_option maxRecDepth 100000 in
theorem ringStates_lifted (os : Os) (started : os.Started) (H : Type) (enc : TypeId × Value → H) :
    ReturnsInHanded {} Try.checked os 4 .any (Rows.ringStatesSpec.pre6 enc Try.prog Try.f4 Rows.ringStatesRow.domain false) (Rows.ringStatesSpec.post enc Try.prog Try.f4 false true false false) :=
  law_lifted (fn := Try.f4) 4 os started (by kernel_rfl) Try.func4 rfl rfl Try.underlying4 (hread_of (by kernel_rfl))
    (fun l hl => by
      have hl2 : l.length = 3 := hl
      clear hl
      match l, hl2 with
      | [_, _, _], _ => rfl)
    (ChangeSpec.witness6 (enc := enc) (C := Try.checked) false ⟨#[], #[.int .u64 0, .int .u64 0, .int .u64 0], []⟩ 8 (by kernel_rfl) (by kernel_rfl) (by kernel_rfl) (by kernel_rfl))
    (fun W base args ds p hval hA hlt => ringStates_walk W base args ds p hval hA hlt)
theorem ringStates_holds : Rows.RingStatesSaid :=
  OpenClaim.holds_of_wide 4 Try.f4 rfl rfl rfl rfl rfl rfl rfl ⟨rfl, rfl, rfl, rfl, rfl⟩ rfl rfl rfl rfl rfl (by kernel_rfl) Try.func4 (by kernel_rfl)
    (of_decide_eq_true (by kernel_rfl)) (by unfold Func.isWrapper; rw [if_neg (of_decide_eq_false (by kernel_rfl))]; exact ⟨rfl, rfl⟩)
    (fun os started H enc _ => ringStates_lifted os started H enc)
end Go.Proofs.Ytbkpmlcockkfnaa
