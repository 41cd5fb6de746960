/- Words and numbers that are read: kindOf, number. -/
import Derived.Test.YtapalbokfbobhaaDoorC1
import Derived.Lib.OthersKept
namespace Go.Proofs.YtapalbokfbobhaaDoor
open Go.RowKit Go.Sort
set_option linter.unusedSimpArgs false
set_option linter.unusedVariables false
set_option maxRecDepth 100000

/-- The kind that has a word. -/
def kindO (u : List UInt8) : Nat :=
  if u = wd 1 then 1 else if u = wd 2 then 2 else if u = wd 3 then 3 else if u = wd 4 then 4 else if u = wd 5 then 5 else if u = wd 6 then 6 else if u = wd 7 then 7 else if u = wd 8 then 8 else if u = wd 9 then 9 else 0
theorem kindO_hit {u : List UInt8} {j : Nat} (h1 : 1 ≤ j) (h9 : j ≤ 9) (h : wd j = u) : kindO u = j := by
  subst h
  have : j = 1 ∨ j = 2 ∨ j = 3 ∨ j = 4 ∨ j = 5 ∨ j = 6 ∨ j = 7 ∨ j = 8 ∨ j = 9 := by omega
  rcases this with rfl | rfl | rfl | rfl | rfl | rfl | rfl | rfl | rfl <;> decide
theorem kindO_miss {u : List UInt8} (h : ∀ i, 1 ≤ i → i ≤ 9 → wd i ≠ u) : kindO u = 0 := by
  unfold kindO
  rw [if_neg (fun e => h 1 (by omega) (by omega) e.symm), if_neg (fun e => h 2 (by omega) (by omega) e.symm), if_neg (fun e => h 3 (by omega) (by omega) e.symm), if_neg (fun e => h 4 (by omega) (by omega) e.symm), if_neg (fun e => h 5 (by omega) (by omega) e.symm), if_neg (fun e => h 6 (by omega) (by omega) e.symm), if_neg (fun e => h 7 (by omega) (by omega) e.symm), if_neg (fun e => h 8 (by omega) (by omega) e.symm), if_neg (fun e => h 9 (by omega) (by omega) e.symm)]
theorem kindOf_any (u : List UInt8) (w : World) (hG : Glob w) :
    Calls Tryd.prog 38 #[(Value.string ⟨List.toArray (u)⟩)] w fun e w' => e = .returned (.int .i64 (kindO u : Int)) ∧ w' = w := by
  have hw := hG.words
  go_enter Tryd.func38, Tryd.ntmps38
  go_wp2_with fail
  go_loop [3] (fun i => ∃ j : Nat, 1 ≤ j ∧ j ≤ 10 ∧ i = .int .i64 (j : Int) ∧ ∀ k, 1 ≤ k → k < j → wd k ≠ u) (fun i => 10 - (intOf i).toNat)
  case atStart => exact ⟨1, by omega, by omega, rfl, fun k _ _ => by omega⟩
  case round =>
    obtain ⟨j, hj1, hj, rfl, hn⟩ := hrel
    by_cases hlt : j < 10
    · have hc := hw j hlt
      have hji : (j : Int) ≤ 9 := by omega
      have hji2 : (j : Int) < 10 := by omega
      have HN := hide hn
      clear hn hG
      cases hd : (wd j == u) with
      | true =>
        go_wp2_with fail
        go_ret
        exact ⟨by rw [kindO_hit hj1 (by omega) (by simpa using hd)]; rfl, rfl⟩
      | false =>
        go_wp2_with fail
        go_round
        case rel => exact ⟨j + 1, by omega, by omega, by simp, fun k h1 h2 => by
          rcases Nat.lt_or_ge k j with q | q
          · exact HN.out k h1 q
          · obtain rfl : k = j := by omega
            simpa using hd⟩
        case measure => simp [intOf]; omega
    · obtain rfl : j = 10 := by omega
      have HE := hide (kindO_miss (u := u) (fun k h1 h2 => hn k h1 (by omega)))
      clear hn
      go_wp2_with fail
      go_ret
      exact ⟨by rw [HE.out]; rfl, rfl⟩
/-- The number of digits. -/
def digO : List UInt8 → Int → Option Int
  | [], n => some n
  | b :: l, n => if 48 ≤ b.toNat ∧ b.toNat ≤ 57 then digO l (n * 10 + ((b.toNat : Int) - 48)) else none
def numO (l : List UInt8) : Option Int := if l.length = 0 then none else if 9 < l.length then none else if l.head? = some 48 ∧ l ≠ [48] then none else digO l 0
def numV (o : Option Int) : Value := .tuple #[.int .i64 (o.getD 0), .bool o.isSome]
theorem number_nil (w : World) :
    Calls Tryd.prog 39 #[(Value.string ⟨List.toArray ([])⟩)] w fun e w' => e = .returned (.tuple #[.int .i64 0, .bool false]) ∧ Ext w w' := by
  go_enter Tryd.func39, Tryd.ntmps39
  go_wp2_with fail
  go_ret2
  exact ⟨rfl, Ext.refl _⟩
theorem number_long (l : List UInt8) (w : World) (h : 9 < l.length) :
    Calls Tryd.prog 39 #[(Value.string ⟨List.toArray (l)⟩)] w fun e w' => e = .returned (.tuple #[.int .i64 0, .bool false]) ∧ Ext w w' := by
  have hi : (9 : Int) < (l.length : Int) := by omega
  have hne : (l == []) = false := by cases l with | nil => simp at h | cons b r => rfl
  go_enter Tryd.func39, Tryd.ntmps39
  go_wp2_with fail
  go_ret2
  exact ⟨rfl, Ext.refl _⟩
theorem getB (l : List UInt8) (p : Nat) (h : p < (⟨l.toArray⟩ : ByteArray).size) (h2 : p < l.length) : ((⟨l.toArray⟩ : ByteArray)[p]'h).toNat = (l[p]'h2).toNat := rfl
theorem number_zero (l : List UInt8) (w : World) (h : l.length ≤ 9) (h0 : 0 < l.length) (hl : (l[0]).toNat = 48) (hn : (l == [48]) = false) :
    Calls Tryd.prog 39 #[(Value.string ⟨List.toArray (l)⟩)] w fun e w' => e = .returned (.tuple #[.int .i64 0, .bool false]) ∧ Ext w w' := by
  have hi : ¬ (9 : Int) < (l.length : Int) := by omega
  have hi0 : (0 : Int) < (l.length : Int) := by omega
  have hne : (l == []) = false := by cases l with | nil => simp at h0 | cons b r => rfl
  have hb : ((⟨l.toArray⟩ : ByteArray)[0]'(by simpa [ByteArray.size] using h0)).toNat = 48 := (getB l 0 _ h0).trans hl
  go_enter Tryd.func39, Tryd.ntmps39
  go_wp2_with fail
  go_ret2
  exact ⟨rfl, Ext.refl _⟩
theorem pow9 {p : Nat} (h : p < 9) : (10 : Int) ^ p ≤ 100000000 := by
  have : p = 0 ∨ p = 1 ∨ p = 2 ∨ p = 3 ∨ p = 4 ∨ p = 5 ∨ p = 6 ∨ p = 7 ∨ p = 8 := by omega
  rcases this with rfl | rfl | rfl | rfl | rfl | rfl | rfl | rfl | rfl <;> decide
theorem digO_step {l : List UInt8} {p : Nat} (n : Int) (h : p < l.length) : digO (l.drop p) n = if 48 ≤ (l[p]).toNat ∧ (l[p]).toNat ≤ 57 then digO (l.drop (p + 1)) (n * 10 + ((l[p].toNat : Int) - 48)) else none := by
  rw [List.drop_eq_getElem_cons h]; rfl
theorem number_dig (l : List UInt8) (w : World) (h : l.length ≤ 9) (h0 : 0 < l.length) (hl : ¬ (l[0]).toNat = 48) :
    Calls Tryd.prog 39 #[(Value.string ⟨List.toArray (l)⟩)] w fun e w' => e = .returned (numV (digO l 0)) ∧ Ext w w' := by
  have hi : ¬ (9 : Int) < (l.length : Int) := by omega
  have hi0 : (0 : Int) < (l.length : Int) := by omega
  have hne : (l == []) = false := by cases l with | nil => simp at h0 | cons b r => rfl
  have hb : ¬ (((⟨l.toArray⟩ : ByteArray)[0]'(by simpa [ByteArray.size] using h0)).toNat : Int) = 48 := by rw [getB l 0 _ h0]; omega
  go_enter Tryd.func39, Tryd.ntmps39
  go_wp2_with fail
  go_loopw [4] (fun v wr => ∃ (p : Nat) (n : Int), p ≤ l.length ∧ v = .int .i64 n ∧ wr = w.iter ⟨l.toArray⟩ p ∧ digO l 0 = digO (l.drop p) n ∧ 0 ≤ n ∧ n < 10 ^ p) (fun _ wr => l.length - wr.iterPos w.heap.size)
  case atStart => exact ⟨0, 0, by omega, rfl, rfl, rfl, by omega, by decide⟩
  case round =>
    obtain ⟨p, n, hp, rfl, rfl, hd, hn0, hn1⟩ := hrel
    by_cases hlt : p < l.length
    · have hs := digO_step n hlt
      have hsz : p < (⟨l.toArray⟩ : ByteArray).size := by simpa [ByteArray.size] using hlt
      have h9 := pow9 (p := p) (by omega)
      have HD := hide hd
      have HS := hide hs
      have HN := hide hn1
      have hn9 : n ≤ 100000000 := by omega
      have hpw : n < 10 ^ p := hn1
      clear hd hs hn1 h9
      by_cases ha : (l[p]).toNat < 128
      · have hnx : ∀ ty, (Instr.next (.pointer (some ⟨w.heap.size, 0, none⟩)) true ty).run Tryd.prog (w.iter ⟨l.toArray⟩ p) = .ok (.tuple #[.bool true, .int .i64 p, .int .i32 ((l[p]).toNat : Int)]) (w.iter ⟨l.toArray⟩ (p + 1)) := fun ty => run_next_ascii (P := Tryd.prog) w ⟨l.toArray⟩ p ty hsz ha
        generalize (l[p]).toNat = d at *
        by_cases hd1 : 48 ≤ d ∧ d ≤ 57
        · have d1 : ¬ (d : Int) < 48 := by omega
          have d2 : ¬ (57 : Int) < (d : Int) := by omega
          have d3 : (d : Int) ≤ 57 := by omega
          have d4 : (48 : Int) ≤ d := by omega
          have d5 : IntKind.i32.wrap ((d : Int) - 48) = (d : Int) - 48 := by rw [IntKind.wrap_i32]; omega
          have hs2 := HS.out
          rw [if_pos hd1] at hs2
          have HS2 := hide hs2
          clear hs2 hd1 hpw
          go_wp2_with fail
          go_roundw
          case rel => exact ⟨p + 1, n * 10 + ((d : Int) - 48), by omega, rfl, rfl, HD.out.trans HS2.out, by omega, by have := HN.out; rw [Int.pow_succ]; omega⟩
          case measure => simp; omega
        · have hs2 := HS.out
          rw [if_neg hd1] at hs2
          have HE := hide (HD.out.trans hs2)
          clear hs2 hpw
          rcases (by omega : (d : Int) < 48 ∨ (57 : Int) < (d : Int)) with q | q
          · clear hd1
            go_wp2_with fail
            go_ret2
            exact ⟨by rw [HE.out]; rfl, Ext.alloc _ _⟩
          · have q2 : ¬ (d : Int) < 48 := by omega
            clear hd1
            go_wp2_with fail
            go_ret2
            exact ⟨by rw [HE.out]; rfl, Ext.alloc _ _⟩
      · have hh := decode_high ⟨l.toArray⟩ p hsz (by rw [getB l p hsz hlt]; omega)
        have hnx := fun ty => run_next_any (P := Tryd.prog) w ⟨l.toArray⟩ p ty hsz
        have hs2 := HS.out
        rw [if_neg (by omega)] at hs2
        have HE := hide (HD.out.trans hs2)
        have q : (57 : Int) < ((Utf8.decode ⟨l.toArray⟩ p).1 : Int) := by omega
        have q2 : ¬ ((Utf8.decode ⟨l.toArray⟩ p).1 : Int) < 48 := by omega
        clear hs2 hpw ha
        generalize (Utf8.decode ⟨l.toArray⟩ p).1 = r at *
        generalize (Utf8.decode ⟨l.toArray⟩ p).2 = r2 at *
        go_wp2_with fail
        go_ret2
        exact ⟨by rw [HE.out]; rfl, Ext.alloc _ _⟩
    · obtain rfl : p = l.length := by omega
      have hnx := fun ty => run_next_end (P := Tryd.prog) w ⟨l.toArray⟩ l.length ty (by simp [ByteArray.size])
      rw [List.drop_length] at hd
      have HE := hide hd
      clear hd hn1
      go_wp2_with fail
      go_ret2
      exact ⟨by rw [HE.out]; rfl, Ext.alloc _ _⟩
theorem number_nought (l : List UInt8) (w : World) (h : l.length ≤ 9) (h0 : 0 < l.length) (hl : (l[0]).toNat = 48) (hn : (l == [48]) = true) :
    Calls Tryd.prog 39 #[(Value.string ⟨List.toArray (l)⟩)] w fun e w' => e = .returned (numV (digO l 0)) ∧ Ext w w' := by
  have hi : ¬ (9 : Int) < (l.length : Int) := by omega
  have hi0 : (0 : Int) < (l.length : Int) := by omega
  have hne : (l == []) = false := by cases l with | nil => simp at h0 | cons b r => rfl
  have hb : ((⟨l.toArray⟩ : ByteArray)[0]'(by simpa [ByteArray.size] using h0)).toNat = 48 := (getB l 0 _ h0).trans hl
  go_enter Tryd.func39, Tryd.ntmps39
  go_wp2_with fail
  go_loopw [4] (fun v wr => ∃ (p : Nat) (n : Int), p ≤ l.length ∧ v = .int .i64 n ∧ wr = w.iter ⟨l.toArray⟩ p ∧ digO l 0 = digO (l.drop p) n ∧ 0 ≤ n ∧ n < 10 ^ p) (fun _ wr => l.length - wr.iterPos w.heap.size)
  case atStart => exact ⟨0, 0, by omega, rfl, rfl, rfl, by omega, by decide⟩
  case round =>
    obtain ⟨p, n, hp, rfl, rfl, hd, hn0, hn1⟩ := hrel
    by_cases hlt : p < l.length
    · have hs := digO_step n hlt
      have hsz : p < (⟨l.toArray⟩ : ByteArray).size := by simpa [ByteArray.size] using hlt
      have h9 := pow9 (p := p) (by omega)
      have HD := hide hd
      have HS := hide hs
      have HN := hide hn1
      have hn9 : n ≤ 100000000 := by omega
      have hpw : n < 10 ^ p := hn1
      clear hd hs hn1 h9
      by_cases ha : (l[p]).toNat < 128
      · have hnx : ∀ ty, (Instr.next (.pointer (some ⟨w.heap.size, 0, none⟩)) true ty).run Tryd.prog (w.iter ⟨l.toArray⟩ p) = .ok (.tuple #[.bool true, .int .i64 p, .int .i32 ((l[p]).toNat : Int)]) (w.iter ⟨l.toArray⟩ (p + 1)) := fun ty => run_next_ascii (P := Tryd.prog) w ⟨l.toArray⟩ p ty hsz ha
        generalize (l[p]).toNat = d at *
        by_cases hd1 : 48 ≤ d ∧ d ≤ 57
        · have d1 : ¬ (d : Int) < 48 := by omega
          have d2 : ¬ (57 : Int) < (d : Int) := by omega
          have d3 : (d : Int) ≤ 57 := by omega
          have d4 : (48 : Int) ≤ d := by omega
          have d5 : IntKind.i32.wrap ((d : Int) - 48) = (d : Int) - 48 := by rw [IntKind.wrap_i32]; omega
          have hs2 := HS.out
          rw [if_pos hd1] at hs2
          have HS2 := hide hs2
          clear hs2 hd1 hpw
          go_wp2_with fail
          go_roundw
          case rel => exact ⟨p + 1, n * 10 + ((d : Int) - 48), by omega, rfl, rfl, HD.out.trans HS2.out, by omega, by have := HN.out; rw [Int.pow_succ]; omega⟩
          case measure => simp; omega
        · have hs2 := HS.out
          rw [if_neg hd1] at hs2
          have HE := hide (HD.out.trans hs2)
          clear hs2 hpw
          rcases (by omega : (d : Int) < 48 ∨ (57 : Int) < (d : Int)) with q | q
          · clear hd1
            go_wp2_with fail
            go_ret2
            exact ⟨by rw [HE.out]; rfl, Ext.alloc _ _⟩
          · have q2 : ¬ (d : Int) < 48 := by omega
            clear hd1
            go_wp2_with fail
            go_ret2
            exact ⟨by rw [HE.out]; rfl, Ext.alloc _ _⟩
      · have hh := decode_high ⟨l.toArray⟩ p hsz (by rw [getB l p hsz hlt]; omega)
        have hnx := fun ty => run_next_any (P := Tryd.prog) w ⟨l.toArray⟩ p ty hsz
        have hs2 := HS.out
        rw [if_neg (by omega)] at hs2
        have HE := hide (HD.out.trans hs2)
        have q : (57 : Int) < ((Utf8.decode ⟨l.toArray⟩ p).1 : Int) := by omega
        have q2 : ¬ ((Utf8.decode ⟨l.toArray⟩ p).1 : Int) < 48 := by omega
        clear hs2 hpw ha
        generalize (Utf8.decode ⟨l.toArray⟩ p).1 = r at *
        generalize (Utf8.decode ⟨l.toArray⟩ p).2 = r2 at *
        go_wp2_with fail
        go_ret2
        exact ⟨by rw [HE.out]; rfl, Ext.alloc _ _⟩
    · obtain rfl : p = l.length := by omega
      have hnx := fun ty => run_next_end (P := Tryd.prog) w ⟨l.toArray⟩ l.length ty (by simp [ByteArray.size])
      rw [List.drop_length] at hd
      have HE := hide hd
      clear hd hn1
      go_wp2_with fail
      go_ret2
      exact ⟨by rw [HE.out]; rfl, Ext.alloc _ _⟩
theorem number_any (l : List UInt8) (w : World) : Calls Tryd.prog 39 #[(Value.string ⟨List.toArray (l)⟩)] w fun e w' => e = .returned (numV (numO l)) ∧ Ext w w' := by
  by_cases h0 : l.length = 0
  · obtain rfl := List.eq_nil_of_length_eq_zero h0
    exact number_nil w
  · by_cases h9 : 9 < l.length
    · rw [show numO l = none by unfold numO; rw [if_neg h0, if_pos h9]]
      exact number_long l w h9
    · have h1 : 0 < l.length := by omega
      have hh : l.head? = some l[0] := by cases l with | nil => simp at h1 | cons b r => rfl
      have hq : (l.head? = some 48) ↔ (l[0]).toNat = 48 := by
        rw [hh]
        constructor
        · intro e; rw [Option.some.inj e]; rfl
        · intro e; rw [show l[0] = 48 from UInt8.toNat_inj.1 e]
      by_cases hl : (l[0]).toNat = 48
      · by_cases hn : l = [48]
        · rw [show numO l = digO l 0 by unfold numO; rw [if_neg h0, if_neg h9, if_neg (fun q => q.2 hn)]]
          exact number_nought l w (by omega) h1 hl (by simpa using hn)
        · rw [show numO l = none by unfold numO; rw [if_neg h0, if_neg h9, if_pos ⟨hq.2 hl, hn⟩]]
          exact number_zero l w (by omega) h1 hl (by simpa using hn)
      · rw [show numO l = digO l 0 by unfold numO; rw [if_neg h0, if_neg h9, if_neg (fun q => hl (hq.1 q.1))]]
        exact number_dig l w (by omega) h1 hl
end Go.Proofs.YtapalbokfbobhaaDoor
