/- The document's graph in memory: Has, Next, has. -/
import Derived.Test.YtaglpodilepioaaDoorP6
namespace Go.Proofs.YtaglpodilepioaaDoor
open Go.RowKit
set_option linter.unusedSimpArgs false
set_option linter.unusedVariables false
set_option maxRecDepth 100000
set_option maxHeartbeats 4000000


abbrev EL := List (Nat × Nat)
def ecs (L : EL) : List Value := L.flatMap fun p => [.int .i64 (p.1 : Int), .int .i64 (p.2 : Int)]
theorem ecs_len (L : EL) : (ecs L).length = L.length * 2 := by
  induction L with
  | nil => rfl
  | cons p l ih => simp only [ecs, List.flatMap_cons, List.length_append, List.length_cons, List.length_nil] at ih ⊢; omega
theorem ecs_at : ∀ (L : EL) (q : Nat) (p : Nat × Nat), L[q]? = some p → (ecs L)[q * 2]? = some (.int .i64 (p.1 : Int)) ∧ (ecs L)[q * 2 + 1]? = some (.int .i64 (p.2 : Int))
  | [], q, p, h => by simp at h
  | x :: l, 0, p, h => by
    obtain rfl : x = p := by simpa using h
    simp [ecs]
  | x :: l, q + 1, p, h => by
    have := ecs_at l q p (by simpa using h)
    have e1 : (q + 1) * 2 = q * 2 + 1 + 1 := by omega
    simp only [ecs, List.flatMap_cons, List.cons_append, List.nil_append, e1, List.getElem?_cons_succ] at this ⊢
    exact this
theorem ecs_append (L M : EL) : ecs (L ++ M) = ecs L ++ ecs M := by simp [ecs]
/-- The document's graph behind a pointer. -/
def RG (w : World) (R B : Nat) (L : EL) : Prop := ∃ v, Blk w R #[v] 29 ∧ w.ownsRow B 31 2 v L.length (ecs L)
section
variable {w w' : World} {R B : Nat} {L : EL}
theorem RG.ext (h : RG w R B L) (x : Ext w w') : RG w' R B L := by
  obtain ⟨v, h1, h2⟩ := h
  exact ⟨v, h1.ext x, own_ext h2 x⟩
theorem RG.lt (h : RG w R B L) : R < w.heap.size := by obtain ⟨v, h1, _⟩ := h; exact h1.lt
theorem RG.open (h : RG w R B L) : ∃ A c, Blk w R #[.slice A L.length c] 29 ∧ w.ownsRow B 31 2 (.slice A L.length c) L.length (ecs L) ∧
    ∀ q p, L[q]? = some p → ∃ b off, A = some ⟨b, off, none⟩ ∧ ∀ wx, Ext w wx → wx.cell? ⟨b, off + q * 2, none⟩ = some (.int .i64 (p.1 : Int)) ∧ wx.cell? ⟨b, off + q * 2 + 1, none⟩ = some (.int .i64 (p.2 : Int)) := by
  obtain ⟨v, h1, h2⟩ := h
  obtain ⟨A, c, rfl, hs⟩ := Sl.of_own h2
  refine ⟨A, c, h1, h2, fun q p hp => ?_⟩
  have hq := (List.getElem?_eq_some_iff.1 hp).1
  obtain ⟨b, off, rfl, hb, hc⟩ := hs.2 (by omega)
  refine ⟨b, off, rfl, fun wx hx => ⟨(hx.oldCell b _ hb).trans ?_, (hx.oldCell b _ hb).trans ?_⟩⟩
  · rw [hc (q * 2) (by omega)]; exact (ecs_at L q p hp).1
  · rw [Nat.add_assoc, hc (q * 2 + 1) (by omega)]; exact (ecs_at L q p hp).2
end
def hasI (L : EL) (i j : Int) : Bool := L.any fun p => decide ((p.1 : Int) = i) && decide ((p.2 : Int) = j)
theorem any_no {α : Type} {p : α → Bool} (l : List α) (h : ∀ i, i < l.length → ∀ x, l[i]? = some x → p x = false) : l.any p = false := by
  rw [List.any_eq_false]
  intro x hx
  obtain ⟨i, hi⟩ := List.getElem?_of_mem hx
  rw [h i (List.getElem?_eq_some_iff.1 hi).1 x hi]; simp
theorem any_at {α : Type} {p : α → Bool} (l : List α) {k : Nat} {x : α} (h : l[k]? = some x) (hp : p x = true) : l.any p = true := List.any_eq_true.2 ⟨x, List.mem_of_getElem? h, hp⟩
theorem rhas_any {R B : Nat} {L : EL} (i j : Int) (w : World) (h : RG w R B L) (hl : L.length < 1000) : Calls Tryd.prog 10 #[.pointer (some ⟨R, 0, none⟩), .int .i64 i, .int .i64 j] w fun e w' => e = .returned (.bool (hasI L i j)) ∧ w = w' := by
  obtain ⟨A, c, hb, _, hrow⟩ := h.open
  have hc := hb.cell 0
  obtain ⟨n, hn⟩ : ∃ n, L.length = n := ⟨_, rfl⟩
  have HN := hide hn
  rw [hn] at hc hl
  have HR := hide hrow
  clear hrow h hb hn
  go_enter Tryd.func10, Tryd.ntmps10
  go_wp2_with fail
  go_loopw [7] (fun y wr => wr = w ∧ ∃ q : Nat, q ≤ n ∧ y = .int .i64 (q : Int) ∧ ∀ k, k < q → ∀ p, L[k]? = some p → (decide ((p.1 : Int) = i) && decide ((p.2 : Int) = j)) = false) (fun y _ => n - (intOf y).toNat)
  case atStart => exact ⟨rfl, 0, by omega, rfl, fun k hk => by omega⟩
  case round =>
    obtain ⟨rfl, q, hq, rfl, hno⟩ := hrel
    have HK := hide hno
    clear hno
    by_cases hlt : q < n
    · obtain ⟨p, hp⟩ : ∃ p, L[q]? = some p := ⟨_, List.getElem?_eq_getElem (by rw [HN.out]; exact hlt)⟩
      obtain ⟨b, off, rfl, hcc⟩ := HR.out q p hp
      obtain ⟨d1, d2⟩ := hcc _ (Ext.refl _)
      have HP := hide hp
      clear hcc hp
      by_cases h1 : (p.1 : Int) = i
      · have E1 : ((p.1 : Int) == i) = true := by simp [h1]
        by_cases h2 : (p.2 : Int) = j
        · have E2 : ((p.2 : Int) == j) = true := by simp [h2]
          have HT := hide (show hasI L i j = true from any_at L HP.out (by simp [h1, h2]))
          clear h1 h2
          go_wp2_with fail
          go_ret
          exact ⟨by rw [HT.out]; rfl, rfl⟩
        · have E2 : ((p.2 : Int) == j) = false := by simp [h2]
          have HH := hide h2
          clear h1 h2
          go_wp2_with fail
          go_roundw
          case rel => exact ⟨by first | rfl | trivial, q + 1, by omega, by go_num, fun k hk p' hp' => by
            by_cases e : k = q
            · subst e
              rw [HP.out] at hp'
              obtain rfl := Option.some.inj hp'
              simp [HH.out]
            · exact HK.out k (by omega) p' hp'⟩
          case measure => simp [intOf]; omega
      · have E1 : ((p.1 : Int) == i) = false := by simp [h1]
        have HH := hide h1
        clear h1
        go_wp2_with fail
        go_roundw
        case rel => exact ⟨by first | rfl | trivial, q + 1, by omega, by go_num, fun k hk p' hp' => by
          by_cases e : k = q
          · subst e
            rw [HP.out] at hp'
            obtain rfl := Option.some.inj hp'
            simp [HH.out]
          · exact HK.out k (by omega) p' hp'⟩
        case measure => simp [intOf]; omega
    · obtain rfl : q = n := by omega
      have HT := hide (show hasI L i j = false from any_no L (fun k hk => HK.out k (by rw [HN.out] at hk; exact hk)))
      go_wp2_with fail
      go_ret
      exact ⟨by rw [HT.out]; rfl, rfl⟩
end Go.Proofs.YtaglpodilepioaaDoor
