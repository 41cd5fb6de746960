/- Alarms: times, by threads; a map that holds them. -/
import Derived.Test.YtgfhpgbklcjooaaTurn
import Derived.Maps.OwnOps
import Derived.Maps.OwnSet
import Derived.Maps.RangeWalk
namespace Go.Proofs.Ytgfhpgbklcjooaa
open Go.RowKit
set_option linter.unusedSimpArgs false
set_option linter.unusedVariables false

def TM : Int := 1099511627776
/-- Alarms, by threads: 0: none. -/
abbrev Al := Nat → Int
def noA : Al := fun _ => 0
structure OkA (f : Al) : Prop where
  th : ∀ t, 256 ≤ t → f t = 0
  lo : ∀ t, 0 ≤ f t
  hi : ∀ t, f t ≤ TM
def upd (f : Al) (t : Nat) (v : Int) : Al := fun s => if s = t then v else f s
def ix (f : Al) (z : Int) : Int := if 0 ≤ z then f z.toNat else 0
def clr (f : Al) (z : Int) : Al := if 0 ≤ z then upd f z.toNat 0 else f
def isA (f : Al) (t : Nat) : Bool := f t != 0
def cntA (f : Al) : Nat := (List.range 256).countP (isA f)
theorem ix_nat (f : Al) (t : Nat) : ix f (t : Int) = f t := by unfold ix; rw [if_pos (by omega)]; rfl
theorem ix_neg (f : Al) {z : Int} (h : z < 0) : ix f z = 0 := if_neg (by omega)
theorem ix_pos (f : Al) {z : Int} (h : 0 ≤ z) : ix f z = f z.toNat := if_pos h
theorem ix_far {f : Al} (ok : OkA f) {z : Int} (h : 256 ≤ z) : ix f z = 0 := by rw [ix_pos f (by omega)]; exact ok.th _ (by omega)
theorem upd_same (f : Al) (t : Nat) (v : Int) : upd f t v t = v := if_pos rfl
theorem upd_other (f : Al) {t s : Nat} (v : Int) (h : s ≠ t) : upd f t v s = f s := if_neg h
theorem okA_no : OkA noA := ⟨fun _ _ => rfl, fun _ => Int.le_refl _, fun _ => by unfold noA TM; omega⟩
theorem OkA.upd {f : Al} (ok : OkA f) {t : Nat} {v : Int} (ht : t < 256) (h0 : 0 ≤ v) (h1 : v ≤ TM) : OkA (upd f t v) := by
  refine ⟨fun s hs => ?_, fun s => ?_, fun s => ?_⟩ <;> unfold Proofs.Ytgfhpgbklcjooaa.upd <;> split
  · omega
  · exact ok.th s hs
  · exact h0
  · exact ok.lo s
  · exact h1
  · exact ok.hi s
theorem upd_zero {f : Al} {t : Nat} (h : f t = 0) : upd f t 0 = f := by
  funext s; unfold upd; split
  · rename_i e; rw [e, h]
  · rfl
theorem OkA.clr {f : Al} (ok : OkA f) (z : Int) : OkA (clr f z) := by
  unfold Proofs.Ytgfhpgbklcjooaa.clr
  split
  · by_cases h : z.toNat < 256
    · exact ok.upd h (by omega) (by unfold TM; omega)
    · rw [upd_zero (ok.th _ (by omega))]; exact ok
  · exact ok
theorem ix_clr (f : Al) (z y : Int) : ix (clr f z) y = if y = z then 0 else ix f y := by
  unfold ix clr
  by_cases hz : 0 ≤ z
  · rw [if_pos hz]
    by_cases hy : 0 ≤ y
    · rw [if_pos hy, if_pos hy]
      by_cases e : y = z
      · subst e; rw [upd_same, if_pos rfl]
      · rw [upd_other _ _ (by omega), if_neg e]
    · rw [if_neg hy, if_neg hy]; split <;> rfl
  · rw [if_neg hz]
    by_cases hy : 0 ≤ y
    · rw [if_pos hy, if_neg (by omega)]
    · rw [if_neg hy]; split <;> rfl
theorem ix_upd (f : Al) {t : Nat} (v y : Int) : ix (upd f t v) y = if y = (t : Int) then v else ix f y := by
  unfold ix
  by_cases hy : 0 ≤ y
  · rw [if_pos hy, if_pos hy]
    by_cases e : y = (t : Int)
    · subst e; rw [if_pos rfl]; exact upd_same f t v
    · rw [upd_other _ _ (by omega), if_neg e]
  · rw [if_neg hy, if_neg hy, if_neg (by omega)]
/-- One place of a list has turned. -/
theorem countP_one {p q : Nat → Bool} {t : Nat} (h : ∀ s, s ≠ t → q s = p s) : ∀ l : List Nat, l.Nodup → t ∈ l → l.countP q + (if p t then 1 else 0) = l.countP p + (if q t then 1 else 0)
  | [], _, hm => by simp at hm
  | s :: l, hn, hm => by
    obtain ⟨hn1, hn2⟩ := List.nodup_cons.1 hn
    rw [List.countP_cons, List.countP_cons]
    by_cases e : s = t
    · subst e
      have : l.countP q = l.countP p := List.countP_congr fun x hx => by rw [h x (fun e => hn1 (e ▸ hx))]
      omega
    · have ih := countP_one h l hn2 (by rcases List.mem_cons.1 hm with h1 | h1; exact absurd h1.symm e; exact h1)
      rw [h s e]
      omega
theorem cnt_upd (f : Al) {t : Nat} (ht : t < 256) (v : Int) : cntA (upd f t v) + (if isA f t then 1 else 0) = cntA f + (if v != 0 then 1 else 0) := by
  have := countP_one (p := isA f) (q := isA (upd f t v)) (t := t) (fun s hs => by unfold isA; rw [upd_other _ _ hs]) (List.range 256) List.nodup_range (List.mem_range.2 ht)
  unfold cntA
  rw [this]
  unfold isA
  rw [upd_same]
theorem cnt_le (f : Al) : cntA f ≤ 256 := by
  have := List.countP_le_length (p := isA f) (l := List.range 256)
  rwa [List.length_range] at this

def ky (z : Int) : Lit := .int .i64 z
theorem ky_wf {z : Int} (h0 : -9223372036854775808 ≤ z) (h1 : z ≤ 9223372036854775807) : (ky z).wf = true := WalkArith.wf_i64 ⟨h0, h1⟩
/-- A map reads as these alarms. -/
structure Rep (D : DataW Unit) (f : Al) : Prop where
  tidy : Maps.Tidy D
  has : ∀ z, (ky z).wf = true → Maps.has D (ky z) = (ix f z != 0)
  val : ∀ z, (ky z).wf = true → ix f z ≠ 0 → ∀ zd, D.atKey (ky z) zd = .lit (.int .i64 (ix f z))
  size : Maps.size D = cntA f
theorem ky_key (z : Int) : WideAt.IsKeyLit (ky z) := trivial
theorem ky_ne {a b : Int} (h : a ≠ b) : ky a ≠ ky b := fun e => h (by unfold ky at e; injection e)
theorem cnt_no : cntA noA = 0 := List.countP_eq_zero.2 fun t _ => by unfold isA noA; simp
theorem rep_no : Rep (.map []) noA := ⟨Maps.tidy_empty, fun z _ => by rw [show ix noA z = 0 by unfold ix noA; split <;> rfl]; rfl, fun z _ h => absurd (show ix noA z = 0 by unfold ix noA; split <;> rfl) h, by rw [cnt_no]; rfl⟩
theorem Rep.get {D : DataW Unit} {f : Al} (h : Rep D f) {z : Int} (hz : (ky z).wf = true) : D.atKey (ky z) (.lit (.int .i64 0)) = .lit (.int .i64 (ix f z)) := by
  by_cases e : ix f z = 0
  · rw [Maps.atKey_of_not_has (by rw [h.has z hz, e]; rfl), e]
  · exact h.val z hz e _
theorem Rep.put {D : DataW Unit} {f : Al} (h : Rep D f) {t : Nat} (ht : t < 256) {v : Int} (hv : v ≠ 0) : Rep (D.put (ky t) (.lit (.int .i64 v))) (upd f t v) := by
  have wt : (ky t).wf = true := ky_wf (by omega) (by omega)
  refine ⟨h.tidy.put (ky_key _) _, fun z hz => ?_, fun z hz hne zd => ?_, ?_⟩
  · rw [ix_upd]
    by_cases e : z = (t : Int)
    · rw [if_pos e, e, Maps.has_put_same h.tidy.isMap (ky_key _)]; simpa using hv
    · rw [if_neg e, Maps.has_put_other (ky_ne e), h.has z hz]
  · rw [ix_upd] at hne ⊢
    by_cases e : z = (t : Int)
    · rw [if_pos e, e, Maps.atKey_put_same h.tidy.isMap (ky_key _)]
    · rw [if_neg e] at hne ⊢; rw [Maps.atKey_put_other (ky_ne e)]; exact h.val z hz hne zd
  · have c := cnt_upd f ht v
    have hh := h.has t wt
    rw [ix_nat] at hh
    rw [Maps.size_put h.tidy, hh, h.size]
    have e2 : (v != 0) = true := by simpa using hv
    rw [e2] at c
    simp only [if_true] at c
    unfold isA at c
    cases hb : (f t != 0) <;> rw [hb] at c <;> simp at c ⊢ <;> omega
theorem Rep.del {D : DataW Unit} {f : Al} (h : Rep D f) (ok : OkA f) {z : Int} (hz : (ky z).wf = true) : Rep (D.del (ky z)) (clr f z) := by
  by_cases e0 : ix f z = 0
  · have hno : Maps.has D (ky z) = false := by rw [h.has z hz, e0]; rfl
    rw [Maps.del_of_not_has hno]
    have : clr f z = f := by
      unfold clr
      split
      · rename_i hp; exact upd_zero (by rwa [ix_pos f hp] at e0)
      · rfl
    rw [this]; exact h
  · refine ⟨h.tidy.del _, fun y hy => ?_, fun y hy hne zd => ?_, ?_⟩
    · rw [ix_clr]
      by_cases e : y = z
      · rw [if_pos e, e, Maps.has_del_same]; rfl
      · rw [if_neg e, Maps.has_del_other (ky_ne e), h.has y hy]
    · rw [ix_clr] at hne ⊢
      by_cases e : y = z
      · rw [if_pos e] at hne; exact absurd rfl hne
      · rw [if_neg e] at hne ⊢; rw [Maps.atKey_del_other (ky_ne e)]; exact h.val y hy hne zd
    · have hp : 0 ≤ z := by
        rcases Int.lt_or_le z 0 with h1 | h1
        · exact absurd (ix_neg f h1) e0
        · exact h1
      have h2 : z.toNat < 256 := by
        rcases Nat.lt_or_ge z.toNat 256 with h1 | h1
        · exact h1
        · exact absurd (by rw [ix_pos f hp]; exact ok.th _ h1) e0
      have c := cnt_upd f h2 0
      have s := Maps.size_del h.tidy (k := ky z)
      rw [h.has z hz, h.size] at s
      unfold clr
      rw [if_pos hp]
      rw [ix_pos f hp] at e0 s
      have e1 : (f z.toNat != 0) = true := by simpa using e0
      unfold isA at c
      rw [e1] at c s
      simp at c s
      omega
end Go.Proofs.Ytgfhpgbklcjooaa
