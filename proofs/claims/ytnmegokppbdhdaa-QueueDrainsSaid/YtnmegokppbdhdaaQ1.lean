/- A queue in the world; its small methods. -/
import Derived.Test.YtnmegokppbdhdaaA1
import Derived.BigRegion
namespace Go.Proofs.Ytnmegokppbdhdaa
open Go.RowKit
set_option linter.unusedSimpArgs false
set_option linter.unusedVariables false
set_option maxRecDepth 100000

/-- A slice that reads as l, its block known whole. -/
def Row (w : World) (A : Option Addr) (n c : Nat) (l : List Int) : Prop :=
  n = l.length ∧ n ≤ c ∧ c ≤ maxLen ∧ ((A = none ∧ c = 0) ∨ ∃ b off cs, A = some ⟨b, off, none⟩ ∧ Blk w b cs 3 ∧ ∀ j (h : j < l.length), cs[off + j]? = some (.int .i64 l[j]))
/-- A slice that reads as l. -/
def Ch (w : World) (A : Option Addr) (l : List Int) : Prop :=
  l.length = 0 ∨ ∃ b off, A = some ⟨b, off, none⟩ ∧ b < w.heap.size ∧ ∀ j (h : j < l.length), w.cell? ⟨b, off + j, none⟩ = some (.int .i64 l[j])
section
variable {w w' : World} {A : Option Addr} {n c : Nat} {l : List Int}
theorem Row.ext (h : Row w A n c l) (x : Ext w w') : Row w' A n c l := by
  obtain ⟨h1, h2, h3, h | ⟨b, off, cs, h4, h5, h6⟩⟩ := h
  · exact ⟨h1, h2, h3, .inl h⟩
  · exact ⟨h1, h2, h3, .inr ⟨b, off, cs, h4, h5.ext x, h6⟩⟩
theorem Row.kp {ts : List TypeId} {B : Nat} (h : Row w A n c l) (x : Kp ts B w w') (ht : 3 ∉ ts) : Row w' A n c l := by
  obtain ⟨h1, h2, h3, h | ⟨b, off, cs, h4, h5, h6⟩⟩ := h
  · exact ⟨h1, h2, h3, .inl h⟩
  · exact ⟨h1, h2, h3, .inr ⟨b, off, cs, h4, x.blk h5 ht, h6⟩⟩
theorem Row.grown {b : Nat} (h : Row w A n c l) (hg : w.grownBy w' (some b)) (hb : ∀ cs, ¬ Blk w b cs 3) : Row w' A n c l := by
  obtain ⟨h1, h2, h3, h | ⟨b2, off, cs, h4, h5, h6⟩⟩ := h
  · exact ⟨h1, h2, h3, .inl h⟩
  · exact ⟨h1, h2, h3, .inr ⟨b2, off, cs, h4, h5.grown hg (by rintro k e rfl; cases e; exact hb _ h5), h6⟩⟩
theorem Row.nil (w : World) : Row w none 0 0 [] := ⟨rfl, Nat.le_refl _, Nat.zero_le _, .inl ⟨rfl, rfl⟩⟩
theorem Row.ch (h : Row w A n c l) : Ch w A l := by
  obtain ⟨h1, h2, h3, ⟨rfl, rfl⟩ | ⟨b, off, cs, h4, h5, h6⟩⟩ := h
  · exact .inl (by omega)
  · exact .inr ⟨b, off, h4, h5.lt, fun j hj => (h5.cell _).trans (h6 j hj)⟩
theorem Ch.ext (h : Ch w A l) (x : Ext w w') : Ch w' A l := by
  rcases h with h | ⟨b, off, h1, h2, h3⟩
  · exact .inl h
  · exact .inr ⟨b, off, h1, Nat.lt_of_lt_of_le h2 x.size, fun j hj => (x.oldCell _ _ h2).trans (h3 j hj)⟩
theorem Ch.at_ (h : Ch w A l) {j : Nat} (hj : j < l.length) : ∃ b off, A = some ⟨b, off, none⟩ ∧ ∀ w', Ext w w' → w'.cell? ⟨b, off + j, none⟩ = some (.int .i64 l[j]) := by
  rcases h with h | ⟨b, off, h1, h2, h3⟩
  · omega
  · exact ⟨b, off, h1, fun w' x => (x.oldCell _ _ h2).trans (h3 j hj)⟩
theorem Row.of_own {base : Nat} {v : Value} (h : w.ownsRow base 3 1 v n (l.map enJ)) : ∃ A c, v = .slice A n c ∧ Row w A n c l := by
  have hl : n = l.length := by have := h.1; simp at this; omega
  rcases h.2 with ⟨rfl, rfl⟩ | ⟨g, cap, cur, rfl, hb, hh, h3, h4, h5, h6⟩
  · exact ⟨none, 0, rfl, hl, Nat.le_refl _, Nat.zero_le _, .inl ⟨rfl, rfl⟩⟩
  · refine ⟨_, _, rfl, hl, h3, h4, .inr ⟨g, 0, cur, rfl, hh, fun j hj => ?_⟩⟩
    have h1 : (cur.toList.take (n * 1))[j]? = (l.map enJ)[j]? := by rw [h6]
    rw [List.getElem?_take_of_lt (by omega), List.getElem?_map, List.getElem?_eq_getElem hj, Array.getElem?_toList] at h1
    rw [Nat.zero_add, h1]; rfl
end
theorem enJ_one (l : List Int) : ∀ u ∈ l.map enJ, u.oneCell' = true := by
  intro u hu
  obtain ⟨x, _, rfl⟩ := List.mem_map.1 hu
  rfl
theorem isT_any (t : Int) (w : World) : Calls Try.prog 22 #[.int .i64 t] w fun e w' => e = .returned (.bool (thr t)) ∧ w = w' := by
  by_cases a0 : 0 ≤ t
  · by_cases a1 : t ≤ 65534
    · have E := hide (show thr t = true by unfold thr; simp [*])
      generalize thr t = ok at *
      go_enter Try.func22, Try.ntmps22
      go_wp2
      go_ret
      exact ⟨by rw [E.out]; try simp, rfl⟩
    · have E := hide (show thr t = false by unfold thr; simp; omega)
      generalize thr t = ok at *
      go_enter Try.func22, Try.ntmps22
      go_wp2
      go_ret
      exact ⟨by rw [E.out]; try simp, rfl⟩
  · have E := hide (show thr t = false by unfold thr; simp; omega)
    generalize thr t = ok at *
    go_enter Try.func22, Try.ntmps22
    go_wp2
    go_ret
    exact ⟨by rw [E.out]; try simp, rfl⟩
theorem len_any (A : Option Addr) (n c : Nat) (w : World) : Calls Try.prog 19 #[(Value.agg #[.slice A n c])] w fun e w' => e = .returned (.int .i64 (n : Int)) ∧ w' = w.alloc (.cells #[.slice A n c] 27) := by
  go_enter Try.func19, Try.ntmps19
  go_wp2
  go_ret
  exact ⟨rfl, rfl⟩
theorem cut_any (A : Option Addr) (n c k : Nat) (w : World) (hk : k ≤ c) (hc : c ≤ maxLen) : Calls Try.prog 23 #[(Value.agg #[.slice A n c]), .int .i64 (k : Int)] w fun e w' => e = .returned (.slice A k k) ∧ w' = w.alloc (.cells #[.slice A n c] 27) := by
  unfold maxLen at hc
  go_enter Try.func23, Try.ntmps23
  go_wp2
  go_ret
  exact ⟨by simp, rfl⟩
theorem index_any {w : World} {A : Option Addr} {c : Nat} {l : List Int} (t : Int) (h : Ch w A l) (hl : l.length ≤ 70000) : Calls Try.prog 26 #[.slice A l.length c, .int .i64 t] w fun e w' => e = .returned (.int .i64 (ixI l t)) ∧ w = w' := by
  have H := hide h
  clear h
  go_enter Try.func26, Try.ntmps26
  go_wp2_with fail
  go_loopw [8] (fun i wr => ∃ j : Nat, j ≤ l.length ∧ i = .int .i64 (j : Int) ∧ (∀ i (hi : i < j) (h : i < l.length), l[i] ≠ t) ∧ w = wr) (fun i _ => l.length - (intOf i).toNat)
  case atStart => exact ⟨0, by omega, rfl, fun i hi => by omega, rfl⟩
  case round =>
    obtain ⟨j, hj, rfl, hb, rfl⟩ := hrel
    by_cases hlt : j < l.length
    · obtain ⟨b, off, rfl, r⟩ := H.out.at_ hlt
      have r0 := r w (Ext.refl _)
      clear r
      by_cases e : l[j] = t
      · have E := hide (show ixI l t = (j : Int) by
          unfold ixI
          rw [if_pos (e ▸ List.getElem_mem hlt), ix_first l hlt (fun i hi => hb i hi (by omega)) e])
        rw [e] at r0
        clear hb
        go_wp2_with fail
        go_ret
        exact ⟨by rw [E.out]; simp, rfl⟩
      · have e2 : ¬ t = l[j] := fun q => e q.symm
        have HB := hide hb
        clear hb
        go_wp2_with fail
        go_roundw
        case rel => exact ⟨j + 1, by omega, by go_num, fun i hi h => by
          by_cases q : i = j
          · subst q; exact e
          · exact HB.out i (by omega) h, trivial⟩
        case measure => simp [intOf]; omega
    · have E := hide (show ixI l t = -1 by
        unfold ixI
        rw [if_neg]
        intro hm
        obtain ⟨i, hi, he⟩ := List.getElem_of_mem hm
        exact hb i (by omega) hi he)
      obtain rfl : j = l.length := by omega
      clear hb
      go_wp2_with fail
      go_ret
      exact ⟨by rw [E.out]; simp, rfl⟩
theorem contains_any {w : World} {A : Option Addr} {c : Nat} {l : List Int} (t : Int) (h : Ch w A l) (hl : l.length ≤ 70000) : Calls Try.prog 28 #[.slice A l.length c, .int .i64 t] w fun e w' => e = .returned (.bool (hasQ l t)) ∧ w = w' := by
  have hc := index_any (c := c) t h hl
  by_cases hm : t ∈ l
  · have E := hide (show hasQ l t = true by unfold hasQ; simpa using hm)
    have e2 : ixI l t = (ixN l t : Int) := by unfold ixI; rw [if_pos hm]
    rw [e2] at hc
    clear e2
    go_enter Try.func28, Try.ntmps28
    go_wp2_with fail
    refine hc.mono ?_
    rintro e w1 ⟨rfl, rfl⟩
    go_wp2_with fail
    go_ret
    exact ⟨by rw [E.out]; simp, rfl⟩
  · have E := hide (show hasQ l t = false by unfold hasQ; simpa using hm)
    have e2 : ixI l t = -1 := by unfold ixI; rw [if_neg hm]
    rw [e2] at hc
    clear e2
    go_enter Try.func28, Try.ntmps28
    go_wp2_with fail
    refine hc.mono ?_
    rintro e w1 ⟨rfl, rfl⟩
    go_wp2_with fail
    go_ret
    exact ⟨by rw [E.out]; simp, rfl⟩
theorem has_any {w : World} {A : Option Addr} {c : Nat} {l : List Int} (t : Int) (h : Ch w A l) (hl : l.length ≤ 70000) : Calls Try.prog 20 #[(Value.agg #[.slice A l.length c]), .int .i64 t] w fun e w' => e = .returned (.bool (hasQ l t)) ∧ Ext w w' := by
  have hc := contains_any (c := c) t (h.ext (Ext.alloc w (.cells #[.slice A l.length c] 27))) hl
  go_enter Try.func20, Try.ntmps20
  go_wp2_with fail
  refine hc.mono ?_
  rintro e w1 ⟨rfl, rfl⟩
  go_wp2_with fail
  go_ret
  exact ⟨rfl, Ext.alloc _ _⟩
theorem pop_nil (A : Option Addr) (c : Nat) (w : World) : Calls Try.prog 14 #[(Value.agg #[.slice A 0 c])] w fun e w' => e = .returned (.tuple #[.int .i64 (-1), (Value.agg #[.slice A 0 c]), .bool false]) ∧ Ext w w' := by
  go_enter Try.func14, Try.ntmps14
  go_wp2_with fail
  refine (len_any _ _ _ _).mono ?_
  rintro e wl ⟨rfl, rfl⟩
  go_wp2_with fail
  have hX := fun w' (h : Ext (w.alloc (.cells #[.slice A 0 c] 27)) w') => h.boxCell
  have h1 := hX (((w.alloc (.cells #[.slice A 0 c] 27)).alloc (.cells #[.slice none 0 0] 27)).alloc (.cells #[.slice A 0 c] 27)).drew (((Ext.alloc _ _).trans (Ext.alloc _ _)).trans (Ext.drew _))
  clear hX
  go_region
  go_wp2_with fail
  refine bodyPost_ret (v := .tuple #[.int .i64 (-1), (Value.agg #[.slice A 0 c]), .bool false]) (by simp [results, Try.results14, go_sem, *]) rfl ?_
  exact ⟨rfl, (((Ext.alloc _ _).trans (Ext.alloc _ _)).trans (Ext.alloc _ _)).trans (Ext.drew _)⟩
theorem Row.pop {w : World} {A : Option Addr} {c : Nat} {x : Int} {l : List Int} (h : Row w A (l.length + 1) c (x :: l)) :
    ∃ b off, A = some ⟨b, off, none⟩ ∧ 0 < c ∧ c ≤ maxLen ∧ l.length + 1 ≤ c ∧ (∀ w', Ext w w' → w'.cell? ⟨b, off, none⟩ = some (.int .i64 x)) ∧
      ∃ A', (if c = 1 then some (⟨b, off, none⟩ : Addr) else some ⟨b, off + 1, none⟩) = A' ∧ Row w A' l.length (c - 1) l := by
  obtain ⟨h1, h2, h3, ⟨rfl, rfl⟩ | ⟨b, off, cs, h4, h5, h6⟩⟩ := h
  · omega
  · refine ⟨b, off, h4, by omega, h3, h2, fun w' x => ((h5.ext x).cell _).trans ?_, _, rfl, rfl, by omega, by omega, ?_⟩
    · have := h6 0 (by simp)
      simpa using this
    · by_cases e : c = 1
      · rw [if_pos e]
        exact .inr ⟨b, off, cs, rfl, h5, fun j hj => by omega⟩
      · rw [if_neg e]
        exact .inr ⟨b, off + 1, cs, rfl, h5, fun j hj => by
          have := h6 (j + 1) (by simp; omega)
          simp at this
          rw [← this]; congr 1; omega⟩
theorem pop_cons {w : World} {A : Option Addr} {c : Nat} {x : Int} {l : List Int} (h : Row w A (l.length + 1) c (x :: l)) (hl : l.length ≤ 70000) :
    Calls Try.prog 14 #[(Value.agg #[.slice A (l.length + 1) c])] w fun e w' => ∃ A', e = .returned (.tuple #[.int .i64 x, (Value.agg #[.slice A' l.length (c - 1)]), .bool true]) ∧ Row w' A' l.length (c - 1) l ∧ Ext w w' := by
  obtain ⟨b, off, rfl, h0, h1, h2, hr, A', hA, hrow⟩ := h.pop
  unfold maxLen at h1
  have HR := hide hrow
  clear h hrow
  go_enter Try.func14, Try.ntmps14
  go_wp2_with fail
  refine (len_any _ _ _ _).mono ?_
  rintro e wl ⟨rfl, rfl⟩
  go_wp2_with fail
  have hX := fun w' (h : Ext (w.alloc (.cells #[.slice (some ⟨b, off, none⟩) (l.length + 1) c] 27)) w') => h.boxCell
  have e1 : Ext w (((w.alloc (.cells #[.slice (some ⟨b, off, none⟩) (l.length + 1) c] 27)).alloc (.cells #[.slice none 0 0] 27)).alloc (.cells #[.slice (some ⟨b, off, none⟩) (l.length + 1) c] 27)).drew := (((Ext.alloc _ _).trans (Ext.alloc _ _)).trans (Ext.alloc _ _)).trans (Ext.drew _)
  have h1 := hX (((w.alloc (.cells #[.slice (some ⟨b, off, none⟩) (l.length + 1) c] 27)).alloc (.cells #[.slice none 0 0] 27)).alloc (.cells #[.slice (some ⟨b, off, none⟩) (l.length + 1) c] 27)).drew (((Ext.alloc _ _).trans (Ext.alloc _ _)).trans (Ext.drew _))
  have h2 := hr _ e1
  clear hX hr
  go_region
  go_wp2_with fail
  refine bodyPost_ret (v := .tuple #[.int .i64 x, (Value.agg #[.slice A' l.length (c - 1)]), .bool true]) (by simp [results, Try.results14, go_sem, *]) rfl ?_
  have hE : Ext w (((w.alloc (.cells #[.slice (some ⟨b, off, none⟩) (l.length + 1) c] 27)).alloc (.cells #[.slice A' l.length (c - 1)] 27)).alloc (.cells #[.slice (some ⟨b, off, none⟩) (l.length + 1) c] 27)).drew := (((Ext.alloc _ _).trans (Ext.alloc _ _)).trans (Ext.alloc _ _)).trans (Ext.drew _)
  exact ⟨_, rfl, HR.out.ext hE, hE⟩
end Go.Proofs.Ytnmegokppbdhdaa
