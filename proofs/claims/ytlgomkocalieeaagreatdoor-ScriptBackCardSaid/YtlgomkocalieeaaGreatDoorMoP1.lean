/- A model in the world; its small methods. -/
import Derived.Test.YtlgomkocalieeaaGreatDoorMoM1
import Derived.BigRegion
namespace Go.Proofs.YtlgomkocalieeaaGreatDoor.Mo
set_option maxRecDepth 100000
open Go.RowKit Go.Maps
set_option linter.unusedSimpArgs false
set_option linter.unusedVariables false
set_option maxRecDepth 100000


def pv (S : St) (W L : Nat) (i : Nat) : Value :=
  if i = 0 then .int .i64 (S.N : Int) else if i = 1 then .int .i64 (S.M : Int) else if i = 2 then .int .i64 (S.K : Int)
  else if i < 27 then (if i % 3 = 0 then .int .i64 (S.own ((i - 3) / 3)) else if i % 3 = 1 then .int .i64 (S.cnt ((i - 3) / 3)) else .int .i64 (S.hsh ((i - 3) / 3)))
  else if i < 35 then .bool (S.flg (i - 27)) else if i = 35 then .map (some W) else .map (some L)
def pl (S : St) (W L : Nat) : Array Value := ((List.range 37).map (pv S W L)).toArray
section
variable {S : St} {W L : Nat}
theorem pl_size : (pl S W L).size = 37 := by simp [pl]
theorem pl_at {i : Nat} (h : i < 37) : (pl S W L)[i]? = some (pv S W L i) := by
  unfold pl
  rw [List.getElem?_toArray, List.getElem?_map, List.getElem?_range h]; rfl
theorem pl_own {o : Nat} (h : o < 8) : (pl S W L)[3 + o * 3]? = some (.int .i64 (S.own o)) := by
  rw [pl_at (by omega)]
  unfold pv
  rw [if_neg (by omega), if_neg (by omega), if_neg (by omega), if_pos (by omega), if_pos (by omega), show (3 + o * 3 - 3) / 3 = o by omega]
theorem pl_cnt {o : Nat} (h : o < 8) : (pl S W L)[3 + o * 3 + 1]? = some (.int .i64 (S.cnt o)) := by
  rw [pl_at (by omega)]
  unfold pv
  rw [if_neg (by omega), if_neg (by omega), if_neg (by omega), if_pos (by omega), if_neg (by omega), if_pos (by omega), show (3 + o * 3 + 1 - 3) / 3 = o by omega]
theorem pl_hsh {o : Nat} (h : o < 8) : (pl S W L)[3 + o * 3 + 2]? = some (.int .i64 (S.hsh o)) := by
  rw [pl_at (by omega)]
  unfold pv
  rw [if_neg (by omega), if_neg (by omega), if_neg (by omega), if_pos (by omega), if_neg (by omega), if_neg (by omega), show (3 + o * 3 + 2 - 3) / 3 = o by omega]
theorem pl_flg {t : Nat} (h : t < 8) : (pl S W L)[27 + t]? = some (.bool (S.flg t)) := by
  rw [pl_at (by omega)]
  unfold pv
  rw [if_neg (by omega), if_neg (by omega), if_neg (by omega), if_neg (by omega), if_pos (by omega), show 27 + t - 27 = t by omega]
theorem map_set_aux {α : Type} (f f' : Nat → α) (N k : Nat) (v : α) (hk : f' k = v) (ho : ∀ i, i < N → i ≠ k → f' i = f i) (h : k < N) : ((List.range N).map f).set k v = (List.range N).map f' := by
  apply List.ext_getElem?
  intro j
  rw [List.getElem?_set, List.getElem?_map, List.getElem?_map]
  by_cases hj : j < N
  · rw [List.getElem?_range hj]
    by_cases e : k = j
    · subst e; rw [if_pos rfl, if_pos (by simpa using h)]; simp [hk]
    · rw [if_neg e]; simp [ho j hj (Ne.symm e)]
  · have h1 : (List.range N)[j]? = none := List.getElem?_eq_none (by simp; omega)
    rw [h1, if_neg (by omega)]
    simp
theorem pl_set {S' : St} {i : Nat} {v : Value} (h : i < 37) (hk : pv S' W L i = v) (ho : ∀ j, j < 37 → j ≠ i → pv S' W L j = pv S W L j) : (pl S W L).setIfInBounds i v = pl S' W L := by
  unfold pl
  rw [List.setIfInBounds_toArray, map_set_aux (pv S W L) (pv S' W L) 37 i v hk ho h]
end
/-- A model: its block, its maps' blocks, what it has. -/
structure ModT (w : World) (B W L : Nat) (S : St) : Prop where
  b : Blk w B (pl S W L) 229
  wm : MI w W S.wt
  lm : ML w L S.lf
  ok : Ok S
  ne : W ≠ L
section
variable {w w' : World} {B W L : Nat} {S : St}
theorem ModT.chg {T : List Nat} (h : ModT w B W L S) (x : Chg T w w') (h1 : B ∉ T) (h2 : W ∉ T) (h3 : L ∉ T) : ModT w' B W L S := ⟨h.b.chg x h1, h.wm.chg x h2, h.lm.chg x h3, h.ok, h.ne⟩
theorem ModT.ext (h : ModT w B W L S) (x : Ext w w') : ModT w' B W L S := h.chg (x.chg []) (by simp) (by simp) (by simp)
theorem ModT.bw (h : ModT w B W L S) : B ≠ W := fun e => h.wm.noC _ _ (e ▸ h.b)
theorem ModT.bl (h : ModT w B W L S) : B ≠ L := fun e => h.lm.noC _ _ (e ▸ h.b)
theorem ModT.lt (h : ModT w B W L S) : B < w.heap.size ∧ W < w.heap.size ∧ L < w.heap.size := ⟨h.b.lt, h.wm.lt, h.lm.lt⟩
/-- What its cells hold, over all later worlds. -/
theorem ModT.c (h : ModT w B W L S) {i : Nat} (hi : i < 37) : w.cell? ⟨B, i, none⟩ = some (pv S W L i) := by rw [h.b.cell, pl_at hi]
theorem ModT.own (h : ModT w B W L S) {o : Nat} (ho : o < 8) : w.cell? ⟨B, 3 + o * 3, none⟩ = some (.int .i64 (S.own o)) := by rw [h.b.cell, pl_own ho]
theorem ModT.cnt (h : ModT w B W L S) {o : Nat} (ho : o < 8) : w.cell? ⟨B, 3 + o * 3 + 1, none⟩ = some (.int .i64 (S.cnt o)) := by rw [h.b.cell, pl_cnt ho]
theorem ModT.hsh (h : ModT w B W L S) {o : Nat} (ho : o < 8) : w.cell? ⟨B, 3 + o * 3 + 2, none⟩ = some (.int .i64 (S.hsh o)) := by rw [h.b.cell, pl_hsh ho]
theorem ModT.flg (h : ModT w B W L S) {t : Nat} (ht : t < 8) : w.cell? ⟨B, 27 + t, none⟩ = some (.bool (S.flg t)) := by rw [h.b.cell, pl_flg ht]
end
/-- The cells of one that New did not give. -/
def zl : Array Value := ((List.range 37).map fun i => if i < 27 then Value.int .i64 0 else if i < 35 then .bool false else .map none).toArray
def Nob (w : World) (p : Value) : Prop := p = .pointer none ∨ ∃ B, p = .pointer (some ⟨B, 0, none⟩) ∧ Blk w B zl 229
theorem Nob.ext {w w' : World} {p : Value} (h : Nob w p) (x : Ext w w') : Nob w' p := by
  rcases h with h | ⟨B, h, b⟩
  · exact .inl h
  · exact .inr ⟨B, h, b.ext x⟩
def Any (w : World) (p : Value) (g : Bool) (S : St) : Prop := (g = false ∧ Nob w p) ∨ (g = true ∧ ∃ B W L, p = .pointer (some ⟨B, 0, none⟩) ∧ ModT w B W L S)
theorem Any.ext {w w' : World} {p : Value} {g : Bool} {S : St} (h : Any w p g S) (x : Ext w w') : Any w' p g S := by
  rcases h with ⟨h1, h⟩ | ⟨h1, B, W, L, h2, h⟩
  · exact .inl ⟨h1, h.ext x⟩
  · exact .inr ⟨h1, B, W, L, h2, h.ext x⟩
theorem ModT.any {w : World} {B W L : Nat} {S : St} (h : ModT w B W L S) : Any w (.pointer (some ⟨B, 0, none⟩)) true S := .inr ⟨rfl, B, W, L, rfl, h⟩
def ownA (g : Bool) (S : St) (z : Int) : Int := if (g && isO S z) = true then S.own z.toNat else -1
def cntA (g : Bool) (S : St) (z : Int) : Int := if (g && isO S z) = true then S.cnt z.toNat else 0
def hshA (g : Bool) (S : St) (z : Int) : Int := if (g && isO S z) = true then S.hsh z.toNat else 0
def flgA (g : Bool) (S : St) (z : Int) : Bool := (g && isT S z) && S.flg z.toNat
theorem Any.mod {w : World} {p : Value} {S : St} (h : Any w p true S) : ∃ B W L, p = .pointer (some ⟨B, 0, none⟩) ∧ ModT w B W L S := by
  rcases h with ⟨h1, _⟩ | ⟨_, h⟩
  · cases h1
  · exact h
theorem within_any (a x : Int) (w : World) : Calls Tryz.prog 97 #[.int .i64 a, .int .i64 x] w fun e w' => e = .returned (.bool (witB a x)) ∧ w = w' := by
  have E := hide (show witB a x = (decide (1 ≤ a) && decide (a ≤ x)) from rfl)
  generalize witB a x = res at *
  by_cases a0 : 1 ≤ a
  · have q1 := decide_eq_true a0
    go_enter Tryz.func97, Tryz.ntmps97
    go_wp2
    go_ret
    exact ⟨by rw [E.out]; simp [*], rfl⟩
  · have q1 := decide_eq_false a0
    go_enter Tryz.func97, Tryz.ntmps97
    go_wp2
    go_ret
    exact ⟨by rw [E.out]; simp [*], rfl⟩
end Go.Proofs.YtlgomkocalieeaaGreatDoor.Mo
