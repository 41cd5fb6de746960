/- What each thread does, and entries: what an entry makes of them. No program. -/
import Derived.Test.YtacneghgimfklaaA1
import Derived.Test.YtacneghgimfklaaGrow
namespace Go.Proofs.Ytacneghgimfklaa
set_option linter.unusedSimpArgs false
set_option linter.unusedVariables false
/-- What a thread does. -/
structure Dg where
  kd : Int
  ob : Int
  ar : Int
  nu : Int
  st : Int
  wo : Int
  la : Int
  va : Int
  er : Int
/-- An entry. -/
structure Ent where
  kd : Int
  th : Int
  nu : Int
  ok : Int
  oo : Int
  oa : Int
  ek : Int
  et : Int
  eo : Int
  ea : Int
  er : Int
  va : Int
  rr : Int
instance : Inhabited Ent := ⟨⟨0, 0, 0, 0, 0, 0, 0, 0, 0, 0, 0, 0, 0⟩⟩
def dgc (d : Dg) : Array Value := #[.int .i64 d.kd, .int .i64 d.ob, .int .i64 d.ar, .int .i64 d.nu, .int .i64 d.st, .int .i64 d.wo, .int .i64 d.la, .int .i64 d.va, .int .i64 d.er]
def ec (x : Ent) : Array Value := #[.int .i64 x.kd, .int .i64 x.th, .int .i64 x.nu, .int .i64 x.ok, .int .i64 x.oo, .int .i64 x.oa, .int .i64 x.ek, .int .i64 x.et, .int .i64 x.eo, .int .i64 x.ea, .int .i64 x.er, .int .i64 x.va, .int .i64 x.rr]
def d0 : Dg := ⟨0, 0, 0, 0, 0, 0, 0, 0, 0⟩
def D0 : Nat → Dg := fun _ => d0
def eqE (x y : Ent) : Bool := x.kd == y.kd && (x.th == y.th && (x.nu == y.nu && (x.ok == y.ok && (x.oo == y.oo && (x.oa == y.oa && (x.ek == y.ek && (x.et == y.et && (x.eo == y.eo && (x.ea == y.ea && (x.er == y.er && (x.va == y.va && x.rr == y.rr)))))))))))
theorem eqE_iff (x y : Ent) : eqE x y = true ↔ x = y := by
  obtain ⟨⟩ := x
  obtain ⟨⟩ := y
  simp [eqE]
/-- May an operation be? -/
def mayO (S : St) (k o a : Int) : Bool :=
  if isO S o = false then false
  else if k = 1 ∨ k = 2 ∨ k = 3 ∨ k = 5 ∨ k = 6 ∨ k = 7 ∨ k = 8 then a == 0
  else if k = 4 then decide (0 ≤ a)
  else if k = 9 then isT S a
  else false
def tfB (d : Dg) (k a : Int) : Bool :=
  if d.kd = 1 then k == 1 else if d.kd = 2 then k == 2 else if d.kd = 3 then k == 3 else if d.kd = 4 then k == 4
  else if d.kd = 5 then (k == 7 && d.wo == 0) || (k == 8 && a == d.la)
  else if d.kd = 6 then k == 7 || k == 9
  else if d.kd = 7 then k == 10 else if d.kd = 8 then k == 11
  else if d.kd = 9 then k == 12 && a == d.ar
  else false
/-- The object of its commits. -/
def obO (d : Dg) : Int := if d.kd = 9 then 0 else d.ob
def tkB (d : Dg) (k o a : Int) : Bool :=
  if (o != obO d) = true then false else if d.st = 1 then tfB d k a else if d.st = 2 then k == 5 || k == 6 else false
def telI (d : Dg) (a : Int) : Int := if d.kd = 5 ∨ d.kd = 7 ∨ d.kd = 8 then a else if d.kd = 6 then d.wo else 0
def goD (d : Dg) (k a r : Int) : Dg :=
  if k = 7 then { d with wo := d.wo + 1, la := a }
  else if k = 4 ∧ r = 0 then { d with st := 2 }
  else if k ≠ 5 then { d with st := 3, va := telI d a, er := r }
  else d
def begD (d : Dg) (k o a : Int) : Dg := ⟨k, o, a, d.nu, 1, 0, -1, 0, 0⟩
def endD (d : Dg) : Dg := ⟨0, 0, 0, d.nu + 1, 0, 0, 0, 0, 0⟩
def nxC (d : Dg) (x : Ent) : Ent := ⟨1, x.th, d.nu, x.ok, x.oo, x.oa, 0, 0, 0, 0, 0, 0, 0⟩
def nxM (x : Ent) : Ent := ⟨2, x.et, 0, 0, 0, 0, x.ek, x.et, x.eo, x.ea, x.er, 0, 0⟩
def nxR (d : Dg) (x : Ent) : Ent := ⟨3, x.th, d.nu, 0, 0, 0, 0, 0, 0, 0, 0, d.va, d.er⟩
def calB (S : St) (d : Dg) (x : Ent) : Bool := (d.st == 0 && eqE x (nxC d x)) && mayO S x.ok x.oo x.oa
def comB (S : St) (d : Dg) (x : Ent) : Bool := (eqE x (nxM x) && tkB d x.ek x.eo x.ea) && apE S x.ek x.et x.eo x.ea x.er == 0
def retB (d : Dg) (x : Ent) : Bool := d.st == 3 && eqE x (nxR d x)
def takeB (S : St) (D : Nat → Dg) (x : Ent) : Bool :=
  if isT S x.th = false then false
  else if x.kd = 1 then calB S (D x.th.toNat) x
  else if x.kd = 2 then comB S (D x.th.toNat) x
  else if x.kd = 3 then retB (D x.th.toNat) x
  else false
def takeS (S : St) (D : Nat → Dg) (x : Ent) : St := if takeB S D x = true ∧ x.kd = 2 then apS S x.ek x.et x.eo x.ea x.er else S
def takeD (S : St) (D : Nat → Dg) (x : Ent) : Nat → Dg :=
  if takeB S D x = true then
    upd D x.th.toNat (if x.kd = 1 then begD (D x.th.toNat) x.ok x.oo x.oa else if x.kd = 2 then goD (D x.th.toNat) x.ek x.ea x.er else endD (D x.th.toNat))
  else D
theorem apS_NM (S : St) (k t o a r : Int) : (apS S k t o a r).N = S.N ∧ (apS S k t o a r).M = S.M := by
  unfold apS doS tuS enS
  repeat' split
  all_goals exact ⟨rfl, rfl⟩
theorem takeS_NM (S : St) (D : Nat → Dg) (x : Ent) : (takeS S D x).N = S.N ∧ (takeS S D x).M = S.M := by
  unfold takeS
  split
  · exact apS_NM ..
  · exact ⟨rfl, rfl⟩
theorem takeS_ok {S : St} (h : Ok S) (D : Nat → Dg) (x : Ent) : Ok (takeS S D x) := by
  unfold takeS
  split
  · exact ap_ok h ..
  · exact h
/-- Counters that are not too great; and who waits is in a Wait. -/
def Bd (n : Nat) (D : Nat → Dg) : Prop := ∀ t, (0 ≤ (D t).nu ∧ (D t).nu ≤ n ∧ 0 ≤ (D t).wo ∧ (D t).wo ≤ n) ∧ ((D t).st = 2 → (D t).kd = 4)
theorem bd_0 : Bd 0 D0 := fun t => by unfold D0 d0; simp
theorem Bd.mono {n m : Nat} {D : Nat → Dg} (h : Bd n D) (hm : n ≤ m) : Bd m D := fun t => ⟨by have := (h t).1; omega, (h t).2⟩
theorem Bd.take {n : Nat} {D : Nat → Dg} (h : Bd n D) (S : St) (x : Ent) : Bd (n + 1) (takeD S D x) := by
  intro t
  have b0 := (h t).1
  unfold takeD
  split
  · rename_i ht
    unfold upd
    split
    · have b := h x.th.toNat
      split
      · exact ⟨by simp only [begD]; omega, fun q => by simp [begD] at q⟩
      · rename_i k1
        split
        · rename_i k2
          have hk : tkB (D x.th.toNat) x.ek x.eo x.ea = true := by
            simp [takeB, comB, k2] at ht
            exact ht.2.1.2
          constructor
          · unfold goD
            repeat' split
            all_goals (try dsimp only)
            all_goals omega
          · unfold goD
            split
            · exact b.2
            · split
              · rename_i k4
                intro _
                dsimp only
                unfold tkB at hk
                rw [k4.1] at hk
                split at hk
                · cases hk
                split at hk
                · unfold tfB at hk
                  by_cases e4 : (D x.th.toNat).kd = 4
                  · exact e4
                  · exfalso
                    repeat' split at hk
                    all_goals simp_all
                · split at hk
                  · exact b.2 (by assumption)
                  · cases hk
              · split
                · intro q; simp at q
                · exact b.2
        · exact ⟨by simp only [endD]; omega, fun q => by simp [endD] at q⟩
    · exact ⟨by omega, (h t).2⟩
  · exact ⟨by omega, (h t).2⟩
/-! ### The cells of a course, and what lies behind it in its block -/
def dgv (d : Dg) (k : Nat) : Value :=
  if k = 0 then .int .i64 d.kd else if k = 1 then .int .i64 d.ob else if k = 2 then .int .i64 d.ar else if k = 3 then .int .i64 d.nu else if k = 4 then .int .i64 d.st
  else if k = 5 then .int .i64 d.wo else if k = 6 then .int .i64 d.la else if k = 7 then .int .i64 d.va else .int .i64 d.er
theorem dgc_at (d : Dg) {k : Nat} (h : k < 9) : (dgc d)[k]? = some (dgv d k) := by
  unfold dgc dgv
  rcases (by omega : k = 0 ∨ k = 1 ∨ k = 2 ∨ k = 3 ∨ k = 4 ∨ k = 5 ∨ k = 6 ∨ k = 7 ∨ k = 8) with rfl | rfl | rfl | rfl | rfl | rfl | rfl | rfl | rfl <;> rfl
def cv (N M : Nat) (P : Option Addr) (D : Nat → Dg) (i : Nat) : Value :=
  if i = 0 then .int .i64 (N : Int) else if i = 1 then .int .i64 (M : Int) else if i = 2 then .pointer P else dgv (D ((i - 3) / 9)) ((i - 3) % 9)
def gl (N M : Nat) (P : Option Addr) (D : Nat → Dg) (tl : List Value) : Array Value := ((List.range 75).map (cv N M P D) ++ tl).toArray
section
variable {N M : Nat} {P : Option Addr} {D : Nat → Dg} {tl : List Value}
theorem gl_size : (gl N M P D tl).size = 75 + tl.length := by simp [gl]
theorem gl_at {i : Nat} (h : i < 75) : (gl N M P D tl)[i]? = some (cv N M P D i) := by
  unfold gl
  rw [List.getElem?_toArray, List.getElem?_append_left (by simpa using h), List.getElem?_map, List.getElem?_range h]; rfl
theorem gl_tl {i : Nat} : (gl N M P D tl)[75 + i]? = tl[i]? := by
  unfold gl
  rw [List.getElem?_toArray, List.getElem?_append_right (by simp)]
  simp
theorem gl_dg {t k : Nat} (ht : t < 8) (hk : k < 9) : (gl N M P D tl)[3 + t * 9 + k]? = (dgc (D t))[k]? := by
  rw [gl_at (by omega), dgc_at _ hk]
  unfold cv
  rw [if_neg (by omega), if_neg (by omega), if_neg (by omega), show (3 + t * 9 + k - 3) / 9 = t by omega, show (3 + t * 9 + k - 3) % 9 = k by omega]
theorem gl_lay {t : Nat} (ht : t < 8) (d : Dg) : layC (gl N M P D tl) (3 + t * 9) (dgc d).toList = gl N M P (upd D t d) tl := by
  apply Array.ext_getElem?
  intro j
  have hl : (dgc d).toList.length = 9 := rfl
  rw [layC_get _ _ _ _ (by rw [gl_size, hl]; omega), hl]
  by_cases h : 3 + t * 9 ≤ j ∧ j < 3 + t * 9 + 9
  · rw [if_pos h]
    obtain ⟨k, rfl⟩ : ∃ k, j = 3 + t * 9 + k := ⟨j - (3 + t * 9), by omega⟩
    rw [gl_dg ht (by omega), upd_same, Nat.add_sub_cancel_left, Array.getElem?_toList]
  · rw [if_neg h]
    by_cases hj : j < 75
    · rw [gl_at hj, gl_at hj]
      congr 1
      unfold cv
      split
      · rfl
      split
      · rfl
      split
      · rfl
      rw [upd_other _ _ (by omega)]
    · obtain ⟨k, rfl⟩ : ∃ k, j = 75 + k := ⟨j - 75, by omega⟩
      rw [gl_tl, gl_tl]
/-- One place of a list that lies there is set. -/
theorem lay_one {cs : Array Value} {o : Nat} {l : List Value} (h : ∀ k, k < l.length → cs[o + k]? = l[k]?) {k : Nat} (hk : k < l.length) (v : Value) : cs.setIfInBounds (o + k) v = layC cs o (l.set k v) := by
  have hs : o + l.length ≤ cs.size := by
    have := h (l.length - 1) (by omega)
    rw [List.getElem?_eq_getElem (by omega)] at this
    have := (Array.getElem?_eq_some_iff.1 this).1
    omega
  apply Array.ext_getElem?
  intro j
  rw [layC_get _ _ _ _ (by simpa using hs), Array.getElem?_setIfInBounds]
  simp only [List.length_set]
  by_cases e : o + k = j
  · subst e
    rw [if_pos rfl, if_pos (by omega), if_pos (by omega), Nat.add_sub_cancel_left, List.getElem?_set]
    simp [hk]
  · rw [if_neg e]
    split
    · rename_i b
      rw [List.getElem?_set, if_neg (by omega), ← h (j - o) (by omega)]
      congr 1; omega
    · rfl
theorem lay_lay {cs : Array Value} {o : Nat} {l l' : List Value} (hl : l'.length = l.length) (hs : o + l.length ≤ cs.size) : layC (layC cs o l) o l' = layC cs o l' := by
  apply Array.ext_getElem?
  intro j
  rw [layC_get _ _ _ _ (by rw [layC_size]; omega), layC_get _ _ _ _ (by omega), layC_get _ _ _ _ (by omega)]
  split
  · rfl
  · rw [if_neg (by omega)]
end
end Go.Proofs.Ytacneghgimfklaa
