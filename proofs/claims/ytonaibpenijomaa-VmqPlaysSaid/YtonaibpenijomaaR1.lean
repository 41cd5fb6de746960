/- The document's queue in the world; who waits in it; its Next. -/
import Derived.Test.YtonaibpenijomaaQ5
namespace Go.Proofs.Ytonaibpenijomaa
open Go.RowKit Go.Maps
set_option linter.unusedSimpArgs false
set_option linter.unusedVariables false
set_option maxRecDepth 100000


/-- A row of the document's requests, from a place on. -/
structure Row3 (cs : Array Value) (off : Nat) (S : List En) (vs : Nat → Sl3) : Prop where
  k : ∀ j (h : j < S.length), cs[off + j * 3]? = some (.int .i64 (S[j]).1.1)
  o : ∀ j (h : j < S.length), cs[off + j * 3 + 1]? = some (.int .i64 (S[j]).1.2)
  v : ∀ j (h : j < S.length), cs[off + j * 3 + 2]? = some (slV (vs j))
/-- The document's queue: all of it lies in the blocks O. -/
structure RI (w : World) (O : List Nat) (X : Nat) (A : Option Addr) (c : Nat) (vs : Nat → Sl3) (S : List En) : Prop where
  x : Blk w X #[.slice A S.length c] 27
  nc : S.length ≤ c
  cm : c ≤ maxLen
  row : (A = none ∧ c = 0) ∨ ∃ b off cs, A = some ⟨b, off, none⟩ ∧ Blk w b cs 38 ∧ Row3 cs off S vs ∧ b ∈ O
  rows : ∀ j (h : j < S.length), RowI w (slV (vs j)) (S[j]).2
  wait : ∀ j (h : j < S.length), ∀ k, (slV (vs j)).ownBlock = some k → k ∈ O
  ox : X ∈ O
  lt : ∀ k, k ∈ O → k < w.heap.size
def RT (w : World) (O : List Nat) (X : Nat) (S : List En) : Prop := ∃ A c vs, RI w O X A c vs S
section
variable {w w' : World} {O : List Nat} {X c : Nat} {A : Option Addr} {vs : Nat → Sl3} {S : List En}
theorem RI.chg {T : List Nat} (h : RI w O X A c vs S) (x : Chg T w w') (hT : ∀ k, k ∈ O → k ∉ T) : RI w' O X A c vs S := by
  refine ⟨h.x.chg x (hT _ h.ox), h.nc, h.cm, ?_, fun j hj => own_chgB (h.rows j hj) x (fun k hk => hT _ (h.wait j hj k hk)), h.wait, h.ox, fun k hk => Nat.lt_of_lt_of_le (h.lt k hk) x.size⟩
  rcases h.row with h1 | ⟨b, off, cs, h1, h2, h3, h4⟩
  · exact .inl h1
  · exact .inr ⟨b, off, cs, h1, h2.chg x (hT _ h4), h3, h4⟩
theorem RI.ext (h : RI w O X A c vs S) (x : Ext w w') : RI w' O X A c vs S := h.chg (x.chg []) (by simp)
theorem RT.chg {T : List Nat} (h : RT w O X S) (x : Chg T w w') (hT : ∀ k, k ∈ O → k ∉ T) : RT w' O X S := by
  obtain ⟨A, c, vs, h⟩ := h
  exact ⟨A, c, vs, h.chg x hT⟩
theorem RT.ext (h : RT w O X S) (x : Ext w w') : RT w' O X S := h.chg (x.chg []) (by simp)
theorem RT.lt (h : RT w O X S) : ∀ k, k ∈ O → k < w.heap.size := by obtain ⟨A, c, vs, h⟩ := h; exact h.lt
/-- The place of an entry. -/
theorem RI.at_ (h : RI w O X A c vs S) {j : Nat} (hj : j < S.length) : ∃ b off, A = some ⟨b, off, none⟩ ∧ b ∈ O ∧ ∀ w', Ext w w' → w'.cell? ⟨b, off + j * 3, none⟩ = some (.int .i64 (S[j]).1.1) ∧ w'.cell? ⟨b, off + j * 3 + 1, none⟩ = some (.int .i64 (S[j]).1.2) ∧ w'.cell? ⟨b, off + j * 3 + 2, none⟩ = some (slV (vs j)) := by
  rcases h.row with ⟨h1, h2⟩ | ⟨b, off, cs, h1, h2, h3, h4⟩
  · have := h.nc; omega
  · exact ⟨b, off, h1, h4, fun w' x => ⟨((h2.ext x).cell _).trans (h3.k j hj), ((h2.ext x).cell _).trans (h3.o j hj), ((h2.ext x).cell _).trans (h3.v j hj)⟩⟩
end
theorem rwaits_any {w : World} {O : List Nat} {X : Nat} {S : List En} (t : Int) (h : RT w O X S) (ok : Ok S) : Calls Try.prog 16 #[.pointer (some ⟨X, 0, none⟩), .int .i64 t] w fun e w' => e = .returned (.bool (waitsB S t)) ∧ w = w' := by
  obtain ⟨A, c, vs, h⟩ := h
  have H := hide h
  have OK := hide ok
  have HL := hide ok.len
  have hl := ok.len
  have rX := h.x.cell
  clear h ok
  go_enter Try.func16, Try.ntmps16
  go_wp2_with fail
  go_loopw [5] (fun i wr => ∃ j : Nat, j ≤ S.length ∧ i = .int .i64 (j : Int) ∧ (∀ q (h : q < S.length), q < j → t ∉ (S[q]).2) ∧ w = wr) (fun i _ => S.length - (intOf i).toNat)
  case atStart => exact ⟨0, by omega, rfl, fun q h h2 => by omega, rfl⟩
  case round =>
    obtain ⟨j, hj, rfl, hb, rfl⟩ := hrel
    have HB := hide hb
    clear hb
    by_cases hlt : j < S.length
    · obtain ⟨b, off, rfl, hbO, r⟩ := H.out.at_ hlt
      have r2 := (r w (Ext.refl _)).2.2
      have hrow := H.out.rows j hlt
      obtain ⟨B, cb, es, hch⟩ := own_ch hrow
      rw [es] at r2
      have hlen := OK.out.wlen (List.getElem_mem hlt)
      have HM := hide (show ∀ m (hm : m ∈ (S[j]).2), S[j] ∈ S from fun m hm => List.getElem_mem hlt)
      obtain ⟨l, hle⟩ : ∃ l, l = (S[j]).2 := ⟨_, rfl⟩
      have HE := hide hle
      rw [← hle] at r2 hch hlen
      clear r hrow es hle
      go_wp2_with fail
      go_loopw [6] (fun i wr => ∃ m : Nat, m ≤ l.length ∧ i = .int .i64 (m : Int) ∧ (∀ q (h : q < l.length), q < m → l[q] ≠ t) ∧ w = wr) (fun i _ => l.length - (intOf i).toNat)
      case atStart => exact ⟨0, by omega, rfl, fun q h h2 => by omega, rfl⟩
      case round =>
        obtain ⟨m, hm, rfl, hc, rfl⟩ := hrel
        have HC := hide hc
        clear hc
        by_cases hlt2 : m < l.length
        · obtain ⟨b3, off3, rfl, r3⟩ := hch.at_ hlt2
          have r3 := r3 w (Ext.refl _)
          by_cases e : l[m] = t
          · have E := hide (show waitsB S t = true from waits_mem (List.getElem_mem hlt) (by rw [← HE.out, ← e]; exact List.getElem_mem hlt2))
            rw [e] at r3
            go_wp2_with fail
            go_ret
            exact ⟨by rw [E.out]; simp, rfl⟩
          · have e2 : (l[m] == t) = false := by simpa using e
            have EN := hide e
            clear e
            go_wp2_with fail
            go_roundw
            case rel => exact ⟨m + 1, by omega, by go_num, fun q h h2 => by
              by_cases z : q = m
              · subst z; exact EN.out
              · exact HC.out q h (by omega), trivial⟩
            case measure => simp [intOf]; omega
        · obtain rfl : m = l.length := by omega
          go_wp2_with fail
          go_roundw
          case rel => exact ⟨j + 1, by omega, by go_num, fun q h h2 => by
            by_cases z : q = j
            · subst z
              rw [← HE.out]
              intro hm
              obtain ⟨i, hi, he⟩ := List.getElem_of_mem hm
              exact HC.out i hi hi he
            · exact HB.out q h (by omega), trivial⟩
          case measure => simp [intOf]; omega
    · obtain rfl : j = S.length := by omega
      have E := hide (show waitsB S t = false from waits_none fun e he => by
        obtain ⟨i, hi, rfl⟩ := List.getElem_of_mem he
        exact HB.out i hi hi)
      go_wp2_with fail
      go_ret
      exact ⟨by rw [E.out]; simp, rfl⟩
end Go.Proofs.Ytonaibpenijomaa
