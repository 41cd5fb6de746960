/- Turns, and the functions that the searches ask. -/
import Derived.Test.YtlgomkocalieeaaGreatDoorC2
import Derived.Test.YtlgomkocalieeaaGreatDoorO4
namespace Go.Proofs.YtlgomkocalieeaaGreatDoor
open Go.RowKit
set_option linter.unusedSimpArgs false
set_option linter.unusedVariables false
set_option maxRecDepth 100000

/-- A turn: its kind, its number. -/
abbrev Tr := Int × Int
def isT (t : Int) (x : Tr) : Bool := if x.1 = 1 then decide (0 ≤ x.2 ∧ x.2 < t) else if x.1 = 2 then decide (1 ≤ x.2 ∧ x.2 ≤ 255) else if x.1 = 3 then x.2 == 0 else false
theorem isTurn_any (x : Tr) (t : Int) (w : World) : Calls Tryz.prog 23 #[.agg #[.int .i64 x.1, .int .i64 x.2], .int .i64 t] w fun e w' => e = .returned (.bool (isT t x)) ∧ Ext w w' := by
  obtain ⟨k, n⟩ := x
  go_enter Tryz.func23, Tryz.ntmps23
  go_wp2
  all_goals
    go_ret
    refine ⟨?_, Ext.alloc _ _⟩
    congr 2
    simp_all [isT]
    try omega
theorem rright_any (x : Tr) (t : Int) (w : World) : Calls Tryz.prog 28 #[.agg #[.int .i64 x.1, .int .i64 x.2], .int .i64 t] w fun e w' => e = .returned (.bool (isT t x)) ∧ Ext w w' := by
  obtain ⟨k, n⟩ := x
  go_enter Tryz.func28, Tryz.ntmps28
  go_wp2
  all_goals
    go_ret
    refine ⟨?_, Ext.alloc _ _⟩
    congr 2
    simp_all [isT]
    try omega
/-- A slice of turns that reads as l. -/
def Tn (w : World) (A : Option Addr) (l : List Tr) : Prop :=
  l.length = 0 ∨ ∃ b off, A = some ⟨b, off, none⟩ ∧ b < w.heap.size ∧ ∀ j (h : j < l.length), w.cell? ⟨b, off + j * 2, none⟩ = some (.int .i64 (l[j]).1) ∧ w.cell? ⟨b, off + j * 2 + 1, none⟩ = some (.int .i64 (l[j]).2)
section
variable {w w' : World} {A : Option Addr} {l : List Tr}
theorem Tn.ext (h : Tn w A l) (x : Ext w w') : Tn w' A l := by
  rcases h with h | ⟨b, off, h1, h2, h3⟩
  · exact .inl h
  · exact .inr ⟨b, off, h1, Nat.lt_of_lt_of_le h2 x.size, fun j hj => ⟨(x.oldCell _ _ h2).trans (h3 j hj).1, (x.oldCell _ _ h2).trans (h3 j hj).2⟩⟩
theorem Tn.at_ (h : Tn w A l) {j : Nat} (hj : j < l.length) : ∃ b off, A = some ⟨b, off, none⟩ ∧ b < w.heap.size ∧ w.cell? ⟨b, off + j * 2, none⟩ = some (.int .i64 (l[j]).1) ∧ w.cell? ⟨b, off + j * 2 + 1, none⟩ = some (.int .i64 (l[j]).2) := by
  rcases h with h | ⟨b, off, h1, h2, h3⟩
  · omega
  · exact ⟨b, off, h1, h2, (h3 j hj).1, (h3 j hj).2⟩
theorem Tn.nil (w : World) (A : Option Addr) : Tn w A [] := .inl rfl
end
def tcells (l : List Tr) : List Value := l.flatMap fun x => [.int .i64 x.1, .int .i64 x.2]
theorem tcells_length (l : List Tr) : (tcells l).length = l.length * 2 := by
  induction l with
  | nil => rfl
  | cons x l ih => simp only [tcells, List.flatMap_cons, List.length_append] at ih ⊢; rw [ih]; simp; omega
theorem tcells_at (l : List Tr) (j : Nat) (hj : j < l.length) : (tcells l)[j * 2]? = some (.int .i64 (l[j]).1) ∧ (tcells l)[j * 2 + 1]? = some (.int .i64 (l[j]).2) := by
  induction l generalizing j with
  | nil => simp at hj
  | cons x l ih =>
    cases j with
    | zero => exact ⟨rfl, rfl⟩
    | succ j =>
      have h := ih j (by simpa using hj)
      have e : ∀ i, (tcells (x :: l))[i + 2]? = (tcells l)[i]? := fun i => rfl
      rw [show (j + 1) * 2 = j * 2 + 2 by omega, show j * 2 + 2 + 1 = j * 2 + 1 + 2 by omega, e, e]
      exact h
theorem tcells_app (l m : List Tr) : tcells (l ++ m) = tcells l ++ tcells m := by simp [tcells]
theorem Tn.of_own {w : World} {base n : Nat} {e : TypeId} {v : Value} {l : List Tr} (h : w.ownsRow base e 2 v n (tcells l)) : ∃ A c, v = .slice A l.length c ∧ Tn w A l := by
  have hl : n = l.length := by have := h.1; rw [tcells_length] at this; omega
  subst hl
  rcases h.2 with ⟨rfl, h0⟩ | ⟨g, cap, cur, rfl, hb, hh, h3, h4, h5, h6⟩
  · exact ⟨none, 0, by rw [h0], .inl h0⟩
  · have hc : ∀ k, k < l.length * 2 → cur[k]? = (tcells l)[k]? := by
      intro k hk
      rw [← h6, List.getElem?_take_of_lt hk, Array.getElem?_toList]
    have hbk : Blk w g cur e := hh
    refine ⟨_, _, rfl, .inr ⟨g, 0, rfl, hbk.lt, fun j hj => ?_⟩⟩
    obtain ⟨e0, e1⟩ := tcells_at l j hj
    rw [Nat.zero_add, hbk.cell, hbk.cell, hc _ (by omega), hc _ (by omega)]
    exact ⟨e0, e1⟩
theorem ift_any (fid : FuncId) (hfid : ∀ xs w, (callFunc fid xs).run Tryz.prog w = .ok (.enter fid xs) w) (p : Value) (q : Tr → Bool) {w : World} {A : Option Addr} {l : List Tr} (c : Nat) (hml : l.length ≤ 9223372036854775807) (h1 : Tn w A l)
    (hf : ∀ x, x ∈ l → ∀ w', Ext w w' → Calls Tryz.prog fid #[.agg #[.int .i64 x.1, .int .i64 x.2], p] w' fun e w2 => e = .returned (.bool (q x)) ∧ Ext w' w2) :
    Calls Tryz.prog 46 #[.slice A l.length c, (Value.func (.func fid) #[] #[p])] w fun e w' => ∃ x : Int, e = .returned (.int .i64 x) ∧ (decide (0 ≤ x)) = l.any q ∧ Ext w w' := by
  have H1 := hide h1
  have HF := hide hf
  have hW0 := Ext.refl w
  clear h1 hf
  go_enter Tryz.func46, Tryz.ntmps46
  go_wp2_with fail
  go_loopw [8] (fun i wr => ∃ j : Nat, j ≤ l.length ∧ i = .int .i64 (j : Int) ∧ Ext w wr ∧ (l.take j).any q = false) (fun i _ => l.length - (intOf i).toNat)
  case atStart => exact ⟨0, by omega, rfl, hW0, by simp⟩
  case round =>
    clear hW0
    obtain ⟨j, hj, rfl, hW0, hall⟩ := hrel
    have HA := hide hall
    clear hall
    by_cases hlt : j < l.length
    · have hs := any_take_succ q l hlt
      rw [HA.out, Bool.false_or] at hs
      have HS := hide hs
      have HY := hide (@any_yes _ q l j hlt)
      have hc := HF.out l[j] (List.getElem_mem hlt) wr hW0
      clear hs
      obtain ⟨b1, o1, rfl, hb1, q1, q2⟩ := (H1.out.ext hW0).at_ hlt
      generalize l[j] = x at *
      obtain ⟨k, o⟩ := x
      cases hm : q (k, o) with
      | false =>
        rw [hm] at hc HS
        go_wp2_with fail
        refine hc.mono ?_
        rintro e w2 ⟨rfl, hb⟩
        go_wp2_with fail
        go_roundw
        case rel => exact ⟨j + 1, by omega, by go_num, hW0.trans hb, HS.out⟩
        case measure => simp [intOf]; omega
      | true =>
        rw [hm] at hc
        have hj0 : (0 : Int) ≤ (j : Int) := by omega
        go_wp2_with fail
        refine hc.mono ?_
        rintro e w2 ⟨rfl, hb⟩
        go_wp2_with fail
        go_ret
        exact ⟨_, rfl, by rw [HY.out hm]; simp, hW0.trans hb⟩
    · obtain rfl : j = l.length := by omega
      have h3 : ¬ (l.length : Int) < (l.length : Int) := by omega
      go_wp2_with fail
      go_ret
      have := HA.out
      rw [List.take_length] at this
      exact ⟨_, rfl, by rw [this]; rfl, hW0⟩
theorem cft_any (fid : FuncId) (hfid : ∀ xs w, (callFunc fid xs).run Tryz.prog w = .ok (.enter fid xs) w) (p : Value) (q : Tr → Bool) {w : World} {A : Option Addr} {l : List Tr} (c : Nat) (hml : l.length ≤ 9223372036854775807) (h1 : Tn w A l)
    (hf : ∀ x, x ∈ l → ∀ w', Ext w w' → Calls Tryz.prog fid #[.agg #[.int .i64 x.1, .int .i64 x.2], p] w' fun e w2 => e = .returned (.bool (q x)) ∧ Ext w' w2) :
    Calls Tryz.prog 26 #[.slice A l.length c, (Value.func (.func fid) #[] #[p])] w fun e w' => e = .returned (.bool (l.any q)) ∧ Ext w w' := by
  have hc := ift_any fid hfid p q c hml h1 hf
  clear hf h1
  go_enter Tryz.func26, Tryz.ntmps26
  go_wp2_with fail
  refine hc.mono ?_
  rintro e w1 ⟨x, rfl, hx, hb⟩
  have HX := hide hx
  clear hx
  go_wp2_with fail
  go_ret
  exact ⟨by rw [← HX.out]; simp, hb⟩
/-- What New's own function, and Read's, ask of an operation; the configuration lies in block B. -/
theorem new1_any (x : Cf) (y : Op3) (B : Nat) (w : World) (hB : Blk w B #[.int .i64 x.t, .int .i64 x.o, .int .i64 x.c, .int .i64 x.s, .int .i64 x.p, .int .i64 x.n, .int .u8 x.b, .int .i64 x.r, .int .i64 x.v, .int .u64 x.d] 24) :
    Calls Tryz.prog 37 #[.agg #[.int .i64 y.1, .int .i64 y.2.1, .int .i64 y.2.2], .pointer (some ⟨B, 0, none⟩)] w fun e w' => e = .returned (.bool (!mayI y.1 y.2.1 y.2.2 x.t x.o)) ∧ Ext w w' := by
  obtain ⟨k, o, a⟩ := y
  have q0 := (hB.ext (Ext.alloc w (.cells #[.int .i64 k, .int .i64 o, .int .i64 a] 53))).cell 0
  have q1 := (hB.ext (Ext.alloc w (.cells #[.int .i64 k, .int .i64 o, .int .i64 a] 53))).cell 1
  go_enter Tryz.func37, Tryz.ntmps37
  go_wp2_with (go_at_call 38; refine (may_any _ _ _ _ _ _).mono ?_; rintro e w' ⟨rfl, hb⟩)
  go_ret
  exact ⟨by simp, (Ext.alloc _ _).trans hb⟩
theorem mayNotP_any (x : Cf) (y : Op3) (B : Nat) (w : World) (hB : Blk w B #[.int .i64 x.t, .int .i64 x.o, .int .i64 x.c, .int .i64 x.s, .int .i64 x.p, .int .i64 x.n, .int .u8 x.b, .int .i64 x.r, .int .i64 x.v, .int .u64 x.d] 24) :
    Calls Tryz.prog 76 #[.agg #[.int .i64 y.1, .int .i64 y.2.1, .int .i64 y.2.2], .pointer (some ⟨B, 0, none⟩)] w fun e w' => e = .returned (.bool (!mayI y.1 y.2.1 y.2.2 x.t x.o)) ∧ Ext w w' := by
  obtain ⟨k, o, a⟩ := y
  have q0 := (hB.ext (Ext.alloc w (.cells #[.int .i64 k, .int .i64 o, .int .i64 a] 53))).cell 0
  have q1 := (hB.ext (Ext.alloc w (.cells #[.int .i64 k, .int .i64 o, .int .i64 a] 53))).cell 1
  go_enter Tryz.func76, Tryz.ntmps76
  go_wp2_with (go_at_call 38; refine (may_any _ _ _ _ _ _).mono ?_; rintro e w' ⟨rfl, hb⟩)
  go_ret
  exact ⟨by simp, (Ext.alloc _ _).trans hb⟩
def isNo (t o : Int) (y : Op3) : Bool := !mayI y.1 y.2.1 y.2.2 t o
def wrongP (t o : Int) (l : List Op3) : Bool := decide (64 < l.length) || l.any (isNo t o)
/-- Whether a program is wrong; New's function's variables in blocks B and D. -/
theorem new2_any (x : Cf) {l : List Op3} {A : Option Addr} (c : Nat) (B D : Nat) (w : World) (hB : Blk w B #[.int .i64 x.t, .int .i64 x.o, .int .i64 x.c, .int .i64 x.s, .int .i64 x.p, .int .i64 x.n, .int .u8 x.b, .int .i64 x.r, .int .i64 x.v, .int .u64 x.d] 24) (hD : w.cell? ⟨D, 0, none⟩ = some (.func (.func 37) #[] #[.pointer (some ⟨B, 0, none⟩)]))
    (hml : l.length ≤ 9223372036854775807) (h : Ch w A l) :
    Calls Tryz.prog 39 #[.slice A l.length c, .pointer (some ⟨D, 0, none⟩)] w fun e w' => e = .returned (.bool (wrongP x.t x.o l)) ∧ Ext w w' := by
  unfold wrongP
  have hc := cfo_any 37 (fun _ _ => by kernel_rfl) (.pointer (some ⟨B, 0, none⟩)) (isNo x.t x.o) c hml h (fun y _ w' hx => new1_any x y B w' (hB.ext hx))
  generalize l.any (isNo x.t x.o) = b at *
  clear h hB
  by_cases h64 : 64 < l.length
  · rw [decide_eq_true h64]
    have : (64 : Int) < (l.length : Int) := by omega
    go_enter Tryz.func39, Tryz.ntmps39
    go_wp2_with fail
    go_ret
    exact ⟨by simp, Ext.refl _⟩
  · rw [decide_eq_false h64]
    have : ¬ (64 : Int) < (l.length : Int) := by omega
    go_enter Tryz.func39, Tryz.ntmps39
    go_wp2_with fail
    refine hc.mono ?_
    rintro e w' ⟨rfl, hb⟩
    go_wp2_with fail
    go_ret
    exact ⟨by simp, hb⟩
end Go.Proofs.YtlgomkocalieeaaGreatDoor
