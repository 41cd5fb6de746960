/- The library's searches over operations, programs and turns, with whatever function. -/
import Derived.Test.YtlgomkocalieeaaGreatDoorC1
namespace Go.Proofs.YtlgomkocalieeaaGreatDoor
open Go.RowKit
set_option linter.unusedSimpArgs false
set_option linter.unusedVariables false
set_option maxRecDepth 100000

theorem any_take_succ {α : Type} (q : α → Bool) (l : List α) {j : Nat} (hj : j < l.length) : (l.take (j + 1)).any q = ((l.take j).any q || q l[j]) := by
  rw [List.take_add_one, List.getElem?_eq_getElem hj, List.any_append]; simp
theorem any_yes {α : Type} (q : α → Bool) {l : List α} {j : Nat} (hj : j < l.length) (h : q l[j] = true) : l.any q = true :=
  List.any_eq_true.2 ⟨_, List.getElem_mem hj, h⟩
/-- A search over operations. -/
theorem ifo_any (fid : FuncId) (hfid : ∀ xs w, (callFunc fid xs).run Tryz.prog w = .ok (.enter fid xs) w) (p : Value) (q : Op3 → Bool) {w : World} {A : Option Addr} {l : List Op3} (c : Nat) (hml : l.length ≤ 9223372036854775807) (h1 : Ch w A l)
    (hf : ∀ x, x ∈ l → ∀ w', Ext w w' → Calls Tryz.prog fid #[.agg #[.int .i64 x.1, .int .i64 x.2.1, .int .i64 x.2.2], p] w' fun e w2 => e = .returned (.bool (q x)) ∧ Ext w' w2) :
    Calls Tryz.prog 54 #[.slice A l.length c, (Value.func (.func fid) #[] #[p])] w fun e w' => ∃ x : Int, e = .returned (.int .i64 x) ∧ (decide (0 ≤ x)) = l.any q ∧ Ext w w' := by
  have H1 := hide h1
  have HF := hide hf
  have hW0 := Ext.refl w
  clear h1 hf
  go_enter Tryz.func54, Tryz.ntmps54
  go_wp2_with fail
  go_loopw [8] (fun i wr => ∃ j : Nat, j ≤ l.length ∧ i = .int .i64 (j : Int) ∧ Ext w wr ∧ (l.take j).any q = false) (fun i _ => l.length - (intOf i).toNat)
  case atStart => exact ⟨0, by omega, rfl, hW0, by simp⟩
  case round =>
    clear hW0
    obtain ⟨j, hj, rfl, hW0, hall⟩ := hrel
    have HA := hide hall
    clear hall
    by_cases hlt : j < l.length
    · have hs := any_take_succ q l hlt
      rw [HA.out, Bool.false_or] at hs
      have HS := hide hs
      have HY := hide (@any_yes _ q l j hlt)
      have hc := HF.out l[j] (List.getElem_mem hlt) wr hW0
      clear hs
      obtain ⟨b1, o1, rfl, r1⟩ := (H1.out.ext hW0).at_ hlt
      generalize l[j] = x at *
      obtain ⟨k, o, a⟩ := x
      have q1 := (r1 wr (Ext.refl _)).1
      have q2 := (r1 wr (Ext.refl _)).2.1
      have q3 := (r1 wr (Ext.refl _)).2.2
      clear r1
      cases hm : q (k, o, a) with
      | false =>
        rw [hm] at hc HS
        go_wp2_with fail
        refine hc.mono ?_
        rintro e w2 ⟨rfl, hb⟩
        go_wp2_with fail
        go_roundw
        case rel => exact ⟨j + 1, by omega, by go_num, hW0.trans hb, HS.out⟩
        case measure => simp [intOf]; omega
      | true =>
        rw [hm] at hc
        have hj0 : (0 : Int) ≤ (j : Int) := by omega
        go_wp2_with fail
        refine hc.mono ?_
        rintro e w2 ⟨rfl, hb⟩
        go_wp2_with fail
        go_ret
        exact ⟨_, rfl, by rw [HY.out hm]; simp, hW0.trans hb⟩
    · obtain rfl : j = l.length := by omega
      have h3 : ¬ (l.length : Int) < (l.length : Int) := by omega
      go_wp2_with fail
      go_ret
      have := HA.out
      rw [List.take_length] at this
      exact ⟨_, rfl, by rw [this]; rfl, hW0⟩
theorem cfo_any (fid : FuncId) (hfid : ∀ xs w, (callFunc fid xs).run Tryz.prog w = .ok (.enter fid xs) w) (p : Value) (q : Op3 → Bool) {w : World} {A : Option Addr} {l : List Op3} (c : Nat) (hml : l.length ≤ 9223372036854775807) (h1 : Ch w A l)
    (hf : ∀ x, x ∈ l → ∀ w', Ext w w' → Calls Tryz.prog fid #[.agg #[.int .i64 x.1, .int .i64 x.2.1, .int .i64 x.2.2], p] w' fun e w2 => e = .returned (.bool (q x)) ∧ Ext w' w2) :
    Calls Tryz.prog 40 #[.slice A l.length c, (Value.func (.func fid) #[] #[p])] w fun e w' => e = .returned (.bool (l.any q)) ∧ Ext w w' := by
  have hc := ifo_any fid hfid p q c hml h1 hf
  clear hf h1
  go_enter Tryz.func40, Tryz.ntmps40
  go_wp2_with fail
  refine hc.mono ?_
  rintro e w1 ⟨x, rfl, hx, hb⟩
  have HX := hide hx
  clear hx
  go_wp2_with fail
  go_ret
  exact ⟨by rw [← HX.out]; simp, hb⟩
/-- A slice of programs that reads as ps. -/
def Pr (w : World) (A : Option Addr) (ps : List (List Op3)) : Prop :=
  ps.length = 0 ∨ ∃ b off, A = some ⟨b, off, none⟩ ∧ b < w.heap.size ∧ ∀ j (h : j < ps.length), ∃ A' c', w.cell? ⟨b, off + j, none⟩ = some (.slice A' (ps[j]).length c') ∧ (ps[j]).length ≤ 9223372036854775807 ∧ Ch w A' ps[j]
theorem Pr.ext {w w' : World} {A : Option Addr} {ps : List (List Op3)} (h : Pr w A ps) (x : Ext w w') : Pr w' A ps := by
  rcases h with h | ⟨b, off, h1, h2, h3⟩
  · exact .inl h
  · exact .inr ⟨b, off, h1, Nat.lt_of_lt_of_le h2 x.size, fun j hj => by
      obtain ⟨A', c', e1, e2⟩ := h3 j hj
      exact ⟨A', c', (x.oldCell _ _ h2).trans e1, e2.1, e2.2.ext x⟩⟩
theorem Pr.at_ {w : World} {A : Option Addr} {ps : List (List Op3)} (h : Pr w A ps) {j : Nat} (hj : j < ps.length) :
    ∃ b off A' c', A = some ⟨b, off, none⟩ ∧ b < w.heap.size ∧ w.cell? ⟨b, off + j, none⟩ = some (.slice A' (ps[j]).length c') ∧ (ps[j]).length ≤ 9223372036854775807 ∧ Ch w A' ps[j] := by
  rcases h with h | ⟨b, off, h1, h2, h3⟩
  · omega
  · obtain ⟨A', c', e1, e2⟩ := h3 j hj
    exact ⟨b, off, A', c', h1, h2, e1, e2⟩
theorem Pr.take {w : World} {A : Option Addr} {ps : List (List Op3)} (h : Pr w A ps) (k : Nat) : Pr w A (ps.take k) := by
  rcases h with h | ⟨b, off, h1, h2, h3⟩
  · exact .inl (by rw [List.length_take]; omega)
  · refine .inr ⟨b, off, h1, h2, fun j hj => ?_⟩
    have hj2 : j < ps.length := by rw [List.length_take] at hj; omega
    have e : (ps.take k)[j] = ps[j] := List.getElem_take
    rw [e]
    exact h3 j hj2
theorem ifp_any (fid : FuncId) (hfid : ∀ xs w, (callFunc fid xs).run Tryz.prog w = .ok (.enter fid xs) w) (p : Option Value) (q : List Op3 → Bool) {w : World} {A : Option Addr} {l : List (List Op3)} (c : Nat) (hml : l.length ≤ 9223372036854775807) (h1 : Pr w A l)
    (hf : ∀ x, x ∈ l → ∀ w', Ext w w' → ∀ A' c', x.length ≤ 9223372036854775807 → Ch w' A' x → Calls Tryz.prog fid (#[.slice A' x.length c'] ++ p.toArray) w' fun e w2 => e = .returned (.bool (q x)) ∧ Ext w' w2) :
    Calls Tryz.prog 45 #[.slice A l.length c, .func (.func fid) #[] p.toArray] w fun e w' => ∃ x : Int, e = .returned (.int .i64 x) ∧ (decide (0 ≤ x)) = l.any q ∧ Ext w w' := by
  have H1 := hide h1
  have HF := hide hf
  have hW0 := Ext.refl w
  clear h1 hf
  go_enter Tryz.func45, Tryz.ntmps45
  go_wp2_with fail
  go_loopw [8] (fun i wr => ∃ j : Nat, j ≤ l.length ∧ i = .int .i64 (j : Int) ∧ Ext w wr ∧ (l.take j).any q = false) (fun i _ => l.length - (intOf i).toNat)
  case atStart => exact ⟨0, by omega, rfl, hW0, by simp⟩
  case round =>
    clear hW0
    obtain ⟨j, hj, rfl, hW0, hall⟩ := hrel
    have HA := hide hall
    clear hall
    by_cases hlt : j < l.length
    · have hs := any_take_succ q l hlt
      rw [HA.out, Bool.false_or] at hs
      have HS := hide hs
      have HY := hide (@any_yes _ q l j hlt)
      obtain ⟨b1, o1, A', c', rfl, hb1, r1, hch0, hch⟩ := (H1.out.ext hW0).at_ hlt
      have hc := HF.out l[j] (List.getElem_mem hlt) wr hW0 A' c' hch0 hch
      clear hs
      generalize l[j] = x at *
      cases hm : q x with
      | false =>
        rw [hm] at hc HS
        go_wp2_with fail
        refine hc.mono ?_
        rintro e w2 ⟨rfl, hb⟩
        go_wp2_with fail
        go_roundw
        case rel => exact ⟨j + 1, by omega, by go_num, hW0.trans hb, HS.out⟩
        case measure => simp [intOf]; omega
      | true =>
        rw [hm] at hc
        have hj0 : (0 : Int) ≤ (j : Int) := by omega
        go_wp2_with fail
        refine hc.mono ?_
        rintro e w2 ⟨rfl, hb⟩
        go_wp2_with fail
        go_ret
        exact ⟨_, rfl, by rw [HY.out hm]; simp, hW0.trans hb⟩
    · obtain rfl : j = l.length := by omega
      have h3 : ¬ (l.length : Int) < (l.length : Int) := by omega
      go_wp2_with fail
      go_ret
      have := HA.out
      rw [List.take_length] at this
      exact ⟨_, rfl, by rw [this]; rfl, hW0⟩
theorem cfp_any (fid : FuncId) (hfid : ∀ xs w, (callFunc fid xs).run Tryz.prog w = .ok (.enter fid xs) w) (p : Option Value) (q : List Op3 → Bool) {w : World} {A : Option Addr} {l : List (List Op3)} (c : Nat) (hml : l.length ≤ 9223372036854775807) (h1 : Pr w A l)
    (hf : ∀ x, x ∈ l → ∀ w', Ext w w' → ∀ A' c', x.length ≤ 9223372036854775807 → Ch w' A' x → Calls Tryz.prog fid (#[.slice A' x.length c'] ++ p.toArray) w' fun e w2 => e = .returned (.bool (q x)) ∧ Ext w' w2) :
    Calls Tryz.prog 24 #[.slice A l.length c, .func (.func fid) #[] p.toArray] w fun e w' => e = .returned (.bool (l.any q)) ∧ Ext w w' := by
  have hc := ifp_any fid hfid p q c hml h1 hf
  clear hf h1
  go_enter Tryz.func24, Tryz.ntmps24
  go_wp2_with fail
  refine hc.mono ?_
  rintro e w1 ⟨x, rfl, hx, hb⟩
  have HX := hide hx
  clear hx
  go_wp2_with fail
  go_ret
  exact ⟨by rw [← HX.out]; simp, hb⟩
end Go.Proofs.YtlgomkocalieeaaGreatDoor
