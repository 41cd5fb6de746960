/- What QueueStays keeps: all queues that were answered, and their lists. -/
import Derived.Test.YtnmegokppbdhdaaO1
namespace Go.Proofs.Ytnmegokppbdhdaa
open Go.RowKit
set_option linter.unusedVariables false
set_option linter.unusedSimpArgs false
set_option maxRecDepth 100000

/-- A slice of threads, with what it reads as. -/
structure Qd where
  a : Option Addr
  c : Nat
  l : List Int
instance : Inhabited Qd := ⟨⟨none, 0, []⟩⟩
def qd (d : Qd) : Value := .slice d.a d.l.length d.c
def OkD (w : World) (d : Qd) : Prop := Row w d.a d.l.length d.c d.l ∧ d.l.length ≤ 70000
theorem qd_one (d : Qd) : (qd d).oneCell' = true := rfl
theorem OkD.ext {w w' : World} {d : Qd} (h : OkD w d) (x : Ext w w') : OkD w' d := ⟨h.1.ext x, h.2⟩
theorem Row.chgT {w w' : World} {A : Option Addr} {n c g : Nat} {l : List Int} (h : Row w A n c l) (x : Chg [g] w w') (hm : ∀ cs, ¬ Blk w g cs 3) : Row w' A n c l := by
  obtain ⟨h1, h2, h3, h | ⟨b, off, cs, h4, h5, h6⟩⟩ := h
  · exact ⟨h1, h2, h3, .inl h⟩
  · exact ⟨h1, h2, h3, .inr ⟨b, off, cs, h4, h5.chg x (by rintro q; simp at q; exact hm _ (q ▸ h5)), h6⟩⟩
theorem OkD.chg {w w' : World} {d : Qd} {g : Nat} (h : OkD w d) (x : Chg [g] w w') (hm : ∀ cs, ¬ Blk w g cs 3) : OkD w' d := ⟨h.1.chgT x hm, h.2⟩
theorem Bx.chgT {w w' : World} {B g : Nat} {l : List Int} (h : Bx w B l) (x : Chg [g] w w') (hne : g ≠ B) (hm : ∀ cs, ¬ Blk w g cs 3) : Bx w' B l := by
  obtain ⟨A, c, h1, h2⟩ := h
  exact ⟨A, c, h1.chg x (by simpa using hne.symm), h2.chgT x hm⟩
theorem RowV.blk {w : World} {e : TypeId} {A : Option Addr} {n c : Nat} {xs : List Value} (h : RowV w e A n c xs) : ∀ a, A = some a → ∃ cur, Blk w a.block cur e := by
  intro a ha
  obtain ⟨h1, h2, h3, ⟨h4, _⟩ | ⟨g, off, cur, h4, h5, h6, h7⟩⟩ := h
  · rw [h4] at ha; cases ha
  · rw [h4] at ha; cases ha; exact ⟨cur, h5⟩
structure InvS (W w : World) (Q : Nat) (Aa : Option Addr) (ca : Nat) (Al : Option Addr) (cl : Nat) (EA EL : List Qd) (lq : List Int) : Prop where
  q : Bx w Q lq
  ok : OkQ lq
  a : RowV w 27 Aa EA.length ca (EA.map qd)
  s : RowV w 25 Al EL.length cl (EL.map qd)
  ea : ∀ d, d ∈ EA → OkD w d
  es : ∀ d, d ∈ EL → OkD w d
  aq : ∀ a, Aa = some a → a.block ≠ Q ∧ W.heap.size ≤ a.block
  sq : ∀ a, Al = some a → W.heap.size ≤ a.block
  x : Ext W w
  lQ : W.heap.size ≤ Q
structure LitT (w : World) (L : Nat) (R : List Qd) (Aa : Option Addr) : Prop where
  b : Blk w L (R.map qd).toArray 27
  r : ∀ d, d ∈ R → OkD w d
  al : ∀ a, Aa = some a → a.block ≠ L
section
variable {W w w' : World} {Q L : Nat} {Aa : Option Addr} {ca : Nat} {Al : Option Addr} {cl : Nat} {EA EL R : List Qd} {lq : List Int}
theorem InvS.ext (h : InvS W w Q Aa ca Al cl EA EL lq) (x : Ext w w') : InvS W w' Q Aa ca Al cl EA EL lq :=
  ⟨h.q.ext x, h.ok, h.a.ext x, h.s.ext x, fun d hd => (h.ea d hd).ext x, fun d hd => (h.es d hd).ext x, h.aq, h.sq, h.x.trans x, h.lQ⟩
theorem OkD.set {w : World} {d : Qd} {g i : Nat} {cs : Array Value} {t : TypeId} {u : Value} (h : OkD w d) (hb : Blk w g cs t) (ht : t ≠ 3) : OkD (w.setCell ⟨g, i, none⟩ u) d := ⟨h.1.set hb ht, h.2⟩
theorem InvS.setQ {A0 As : Option Addr} {n0 c0 cs : Nat} {ls : List Int} (h : InvS W w Q Aa ca Al cl EA EL lq) (hb : Blk w Q #[Value.slice A0 n0 c0] 27) (hr : Row w As ls.length cs ls) (ok : OkQ ls) :
    InvS W (w.setCell ⟨Q, 0, none⟩ (.slice As ls.length cs)) Q Aa ca Al cl EA EL ls := by
  have hc : Chg [Q] w (w.setCell ⟨Q, 0, none⟩ (.slice As ls.length cs)) := (Chg.refl [Q] w).set (p := ⟨Q, 0, none⟩) (.inl (by simp)) _
  refine ⟨Bx.store hb hr, ok, h.a.chg hc (fun a ha => by simpa using (h.aq a ha).1), h.s.chg hc (fun a ha hm => ?_), fun d hd => (h.ea d hd).set hb (by decide), fun d hd => (h.es d hd).set hb (by decide), h.aq, h.sq, h.x.set (p := ⟨Q, 0, none⟩) h.lQ _, h.lQ⟩
  obtain ⟨cur, hb2⟩ := h.s.blk a ha
  rw [List.mem_singleton.1 hm] at hb2
  exact absurd (hb2.type hb) (by decide)
theorem InvS.cut {g off g2 off2 k : Nat} (h : InvS W w Q (some ⟨g, off, none⟩) ca (some ⟨g2, off2, none⟩) cl EA EL lq)
    (ha : RowV w 27 (some ⟨g, off + k, none⟩) (EA.length - k) (ca - k) ((EA.map qd).drop k)) (hs : RowV w 25 (some ⟨g2, off2 + k, none⟩) (EL.length - k) (cl - k) ((EL.map qd).drop k)) :
    InvS W w Q (some ⟨g, off + k, none⟩) (ca - k) (some ⟨g2, off2 + k, none⟩) (cl - k) (EA.drop k) (EL.drop k) lq := by
  refine ⟨h.q, h.ok, ?_, ?_, fun d hd => h.ea d (List.mem_of_mem_drop hd), fun d hd => h.es d (List.mem_of_mem_drop hd), fun a ha => ?_, fun a ha => ?_, h.x, h.lQ⟩
  · rw [List.map_drop, List.length_drop]; exact ha
  · rw [List.map_drop, List.length_drop]; exact hs
  · cases ha; exact h.aq ⟨g, off, none⟩ rfl
  · cases ha; exact h.sq ⟨g2, off2, none⟩ rfl
theorem LitT.ext (h : LitT w L R Aa) (x : Ext w w') : LitT w' L R Aa := ⟨h.b.ext x, fun d hd => (h.r d hd).ext x, h.al⟩
theorem InvS.appA {A' : Option Addr} {c' g : Nat} {x : Qd} (h : InvS W w Q Aa ca Al cl EA EL lq) (hx : OkD w x) (hr : RowV w' 27 A' (EA.length + 1) c' (EA.map qd ++ [qd x])) (hc : Chg [g] w w')
    (hty : ∀ cs t, Blk w g cs t → t = 27) (hor : w.heap.size ≤ g ∨ ∃ a, Aa = some a ∧ a.block = g) (hA : ∀ a, A' = some a → a.block = g) : InvS W w' Q A' c' Al cl (EA ++ [x]) EL lq := by
  have hi : ∀ cs, ¬ Blk w g cs 3 := fun cs hb => absurd (hty _ _ hb) (by decide)
  have hgQ : g ≠ Q := by
    rintro rfl
    rcases hor with q | ⟨a, q1, q2⟩
    · have := h.q.lt; omega
    · exact (h.aq a q1).1 q2
  have hgW : W.heap.size ≤ g := by
    rcases hor with q | ⟨a, q1, q2⟩
    · have := h.x.size; omega
    · rw [← q2]; exact (h.aq a q1).2
  have e1 : (EA ++ [x]).length = EA.length + 1 := by simp
  refine ⟨h.q.chgT hc hgQ hi, h.ok, ?_, h.s.chg hc (fun a ha hm => ?_), fun d hd => ?_, fun d hd => (h.es d hd).chg hc hi, fun a ha => ?_, h.sq, h.x.turn hc (by simpa using hgW), h.lQ⟩
  · rw [e1, List.map_append]; exact hr
  · obtain ⟨cur, hb⟩ := h.s.blk a ha
    rw [List.mem_singleton.1 hm] at hb
    exact absurd (hty _ _ hb) (by decide)
  · rcases List.mem_append.1 hd with q | q
    · exact (h.ea d q).chg hc hi
    · rw [List.mem_singleton.1 q]; exact hx.chg hc hi
  · rw [hA a ha]; exact ⟨hgQ, hgW⟩
theorem LitT.appA {A' : Option Addr} {g : Nat} (h : LitT w L R Aa) (hc : Chg [g] w w') (hty : ∀ cs t, Blk w g cs t → t = 27) (hor : w.heap.size ≤ g ∨ ∃ a, Aa = some a ∧ a.block = g) (hA : ∀ a, A' = some a → a.block = g) : LitT w' L R A' := by
  have hi : ∀ cs, ¬ Blk w g cs 3 := fun cs hb => absurd (hty _ _ hb) (by decide)
  have hgL : g ≠ L := by
    rintro rfl
    rcases hor with q | ⟨a, q1, q2⟩
    · have := h.b.lt; omega
    · exact h.al a q1 q2
  exact ⟨h.b.chg hc (by simpa using hgL.symm), fun d hd => (h.r d hd).chg hc hi, fun a ha => by rw [hA a ha]; exact hgL⟩
theorem InvS.appS {A' : Option Addr} {c' g : Nat} {x : Qd} (h : InvS W w Q Aa ca Al cl EA EL lq) (hx : OkD w x) (hr : RowV w' 25 A' (EL.length + 1) c' (EL.map qd ++ [qd x])) (hc : Chg [g] w w')
    (hty : ∀ cs t, Blk w g cs t → t = 25) (hor : w.heap.size ≤ g ∨ ∃ a, Al = some a ∧ a.block = g) (hA : ∀ a, A' = some a → a.block = g) : InvS W w' Q Aa ca A' c' EA (EL ++ [x]) lq := by
  have hi : ∀ cs, ¬ Blk w g cs 3 := fun cs hb => absurd (hty _ _ hb) (by decide)
  have hgQ : g ≠ Q := by
    rintro rfl
    obtain ⟨A, c, h1, _⟩ := h.q
    exact absurd (hty _ _ h1) (by decide)
  have hgW : W.heap.size ≤ g := by
    rcases hor with q | ⟨a, q1, q2⟩
    · have := h.x.size; omega
    · rw [← q2]; exact h.sq a q1
  have e1 : (EL ++ [x]).length = EL.length + 1 := by simp
  refine ⟨h.q.chgT hc hgQ hi, h.ok, h.a.chg hc (fun a ha hm => ?_), ?_, fun d hd => (h.ea d hd).chg hc hi, fun d hd => ?_, h.aq, fun a ha => ?_, h.x.turn hc (by simpa using hgW), h.lQ⟩
  · obtain ⟨cur, hb⟩ := h.a.blk a ha
    rw [List.mem_singleton.1 hm] at hb
    exact absurd (hty _ _ hb) (by decide)
  · rw [e1, List.map_append]; exact hr
  · rcases List.mem_append.1 hd with q | q
    · exact (h.es d q).chg hc hi
    · rw [List.mem_singleton.1 q]; exact hx.chg hc hi
  · rw [hA a ha]; exact hgW
theorem LitT.appS {g : Nat} (h : LitT w L R Aa) (hc : Chg [g] w w') (hty : ∀ cs t, Blk w g cs t → t = 25) : LitT w' L R Aa := by
  have hi : ∀ cs, ¬ Blk w g cs 3 := fun cs hb => absurd (hty _ _ hb) (by decide)
  have hgL : L ≠ g := by
    rintro rfl
    exact absurd (hty _ _ h.b) (by decide)
  exact ⟨h.b.chg hc (by simpa using hgL), fun d hd => (h.r d hd).chg hc hi, h.al⟩
end
end Go.Proofs.Ytnmegokppbdhdaa
