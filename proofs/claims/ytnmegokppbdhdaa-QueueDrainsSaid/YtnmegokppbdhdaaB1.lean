/- A queue in a variable's box; what more a law of several queues needs. -/
import Derived.Test.YtnmegokppbdhdaaS2
import Derived.Deep.RegionHeld3
import Derived.BigRegion
namespace Go.Proofs.Ytnmegokppbdhdaa
open Go.ChangeShapes Go.WideShapes Go.ChangeAt Go.RowKit Go.Deep Go.Joins
set_option linter.unusedVariables false
set_option linter.unusedSimpArgs false
set_option maxRecDepth 100000

/-- Block B is a variable that has the queue l. -/
def Bx (w : World) (B : Nat) (l : List Int) : Prop := ∃ A c, Blk w B #[Value.slice A l.length c] 27 ∧ Row w A l.length c l
section
variable {w w' : World} {B g i : Nat} {l : List Int}
theorem Bx.ext (h : Bx w B l) (x : Ext w w') : Bx w' B l := by
  obtain ⟨A, c, h1, h2⟩ := h
  exact ⟨A, c, h1.ext x, h2.ext x⟩
theorem Bx.new {A : Option Addr} {c : Nat} (h : Row w A l.length c l) : Bx (w.alloc (Obj.cells #[.slice A l.length c] 27)) w.heap.size l := ⟨A, c, Blk.new _ _ _, h.ext (Ext.alloc _ _)⟩
theorem Bx.newN {A : Option Addr} {c n : Nat} (h : Row w A n c l) : Bx (w.alloc (Obj.cells #[.slice A n c] 27)) w.heap.size l := by
  have e := h.1
  subst e
  exact Bx.new h
theorem Bx.far {cs : Array Value} {t : TypeId} {u : Value} (h : Bx w B l) (hb : Blk w g cs t) (ht : t ≠ 3) (hne : g ≠ B) : Bx (w.setCell ⟨g, i, none⟩ u) B l := by
  obtain ⟨A, c, h1, h2⟩ := h
  exact ⟨A, c, h1.far (p := ⟨g, i, none⟩) (fun e => hne e.symm) _, h2.set hb ht⟩
theorem Bx.store {A0 A : Option Addr} {n0 c0 n c : Nat} (hb : Blk w B #[Value.slice A0 n0 c0] 27) (h : Row w A n c l) : Bx (w.setCell ⟨B, 0, none⟩ (.slice A n c)) B l := by
  have e := h.1
  subst e
  exact ⟨A, c, by simpa using hb.set 0 (.slice A l.length c), h.set hb (by decide)⟩
theorem Bx.lt (h : Bx w B l) : B < w.heap.size := by obtain ⟨A, c, h1, h2⟩ := h; exact h1.lt
theorem Bx.eq {l2 : List Int} (h : Bx w B l) (e : l = l2) : Bx w B l2 := e ▸ h
end
theorem hasQ_rm (l : List Int) (t : Int) : hasQ (rmL l t) t = false := decide_eq_false (fun h => (mem_rmL.1 h).2 rfl)
theorem BM.setc {w : World} {m N : Nat} {u : Int → Bool} {p : Addr} (h : BM w m N u) (hne : m ≠ p.block) (v : Value) : BM (w.setCell p v) m N u :=
  h.chg ((Chg.refl [p.block] w).set (.inl (by simp)) v) (by simpa using hne)
theorem BM.noC {w : World} {m N : Nat} {u : Int → Bool} (h : BM w m N u) : ∀ cs t, ¬ Blk w m cs t := fun cs t hh => by
  obtain ⟨D, ⟨es, clock, hm, r⟩, h2⟩ := h
  unfold Blk at hh
  rw [hm] at hh
  cases hh
def apK (l : List Int) (j : Nat) : List Int := (l.take j).foldl apL []
theorem apK_succ (l : List Int) {j : Nat} (hj : j < l.length) : apK l (j + 1) = apL (apK l j) l[j] := by
  unfold apK
  rw [List.take_succ_eq_append_getElem hj, List.foldl_append]
  rfl
theorem okq_apK (l : List Int) (j : Nat) : OkQ (apK l j) := by
  induction j with
  | zero => exact okq_nil
  | succ j ih =>
    by_cases hj : j < l.length
    · rw [apK_succ l hj]; exact ih.ap _
    · have : apK l (j + 1) = apK l j := by unfold apK; rw [List.take_of_length_le (by omega), List.take_of_length_le (by omega)]
      rw [this]; exact ih
theorem Bx.grown {w w' : World} {B b : Nat} {l : List Int} (h : Bx w B l) (hg : w.grownBy w' (some b)) (hb : ∀ cs t, ¬ Blk w b cs t) : Bx w' B l := by
  obtain ⟨A, c, h1, h2⟩ := h
  exact ⟨A, c, h1.grown hg (fun k e q => by cases e; exact hb _ _ (q ▸ h1)), h2.grown hg (fun cs => hb cs 3)⟩
theorem Row.chgN {w w' : World} {A : Option Addr} {n c m : Nat} {l : List Int} (h : Row w A n c l) (x : Chg [m] w w') (hm : ∀ cs t, ¬ Blk w m cs t) : Row w' A n c l := by
  obtain ⟨h1, h2, h3, h | ⟨b, off, cs, h4, h5, h6⟩⟩ := h
  · exact ⟨h1, h2, h3, .inl h⟩
  · exact ⟨h1, h2, h3, .inr ⟨b, off, cs, h4, h5.chg x (by rintro q; simp at q; exact hm _ _ (q ▸ h5)), h6⟩⟩
theorem Bx.chgN {w w' : World} {B m : Nat} {l : List Int} (h : Bx w B l) (x : Chg [m] w w') (hm : ∀ cs t, ¬ Blk w m cs t) : Bx w' B l := by
  obtain ⟨A, c, h1, h2⟩ := h
  exact ⟨A, c, h1.chg x (by rintro q; simp at q; exact hm _ _ (q ▸ h1)), h2.chgN x hm⟩
theorem hasQ_no {l : List Int} (h : l.Nodup) {j : Nat} (hj : j < l.length) : hasQ (l.take j) l[j] = false := by
  refine decide_eq_false fun hm => ?_
  have e : l = l.take j ++ l[j] :: l.drop (j + 1) := by rw [List.getElem_cons_drop, List.take_append_drop]
  rw [e] at h
  exact (List.nodup_append.1 h).2.2 _ hm _ List.mem_cons_self rfl
end Go.Proofs.Ytnmegokppbdhdaa
