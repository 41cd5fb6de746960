/- A ring that is alive; First by one spec; a ring in a variable's box. -/
import Derived.Test.YtbkpmlcockkfnaaS1
namespace Go.Proofs.Ytbkpmlcockkfnaa
set_option maxRecDepth 100000
open Go.ChangeShapes Go.WideShapes Go.ChangeAt Go.RowKit Go.Deep Go.Joins
set_option linter.unusedVariables false
set_option linter.unusedSimpArgs false


def hdW (l : List Wt) : Wt := l.headD (0, 0)
def neW (l : List Wt) : Bool := decide (0 < l.length)
theorem first_any {w : World} {A : Option Addr} {n c p : Nat} {l : List Wt} (h : Rg w A n c p l) (hl : n ≤ 65535) :
    Calls Try.prog 12 #[(Value.agg #[.slice A n c, .int .i64 (p : Int)])] w fun e w' => e = .returned (.tuple #[(Value.agg #[.int .i64 (hdW l).1, .int .i64 (hdW l).2]), .bool (neW l)]) ∧ Ext w w' := by
  have hn := h.len
  cases l with
  | nil =>
    have h0 : n = 0 := by simpa using hn.symm
    subst h0
    exact first_no A c p w
  | cons x l => exact first_yes h (by simp) (by omega)
theorem alive_any (w : World) : Calls Try.prog 16 #[] w fun e w' => e = .returned (.bool true) ∧ Ext w w' := by
  have ha : Calls Try.prog 21 #[(Value.agg #[.slice none 0 0, .int .i64 (0 : Int)]), (Value.agg #[.int .i64 1, .int .i64 2])] w fun e w' => ∃ A' n' c', ∃ p' : Nat, e = .returned (.tuple #[(Value.agg #[.slice A' n' c', .int .i64 (p' : Int)]), .bool true]) ∧ Rg w' A' n' c' p' [(1, 2)] ∧ Ext w w' := by
    have := add_any (w := w) (A := none) (n := 0) (c := 0) (p := 0) (l := []) 1 2 (Rg.nil w) (by omega)
    rw [show adB [] (1, 2) = true by decide, show adL [] (1, 2) = [(1, 2)] by decide] at this
    exact this.mono fun e w' ⟨A', n', c', p', h1, h2, h3, _⟩ => ⟨A', n', c', p', h1, h2, h3⟩
  go_enter Try.func16, Try.ntmps16
  go_wp2_with fail
  refine ha.mono ?_
  rintro e w1 ⟨A1, n1, c1, p1, rfl, hr1, hx1⟩
  have hs1 := hx1.size
  have hn1 := hr1.len
  have hq : n1 = 1 := by simpa using hn1.symm
  subst hq
  have hY := Ext.alloc w1 (Obj.cells #[.slice A1 1 c1, .int .i64 (p1 : Int)] 25)
  have hb := add_any 2 1 (hr1.ext hY) (by omega)
  rw [show adB [(1, 2)] (2, 1) = true by decide, show adL [(1, 2)] (2, 1) = [(1, 2), (2, 1)] by decide] at hb
  have hF := Blk.new w1 #[Value.slice A1 1 c1, .int .i64 (p1 : Int)] 25
  have HX := hide (hx1.trans hY)
  clear ha hx1 hn1 hr1
  go_wp2_with fail
  refine hb.mono ?_
  rintro e w2 ⟨A2, n2, c2, p2, rfl, hr2, hx2, _⟩
  have hn2 := hr2.len
  have hq : n2 = 2 := by simpa using hn2.symm
  subst hq
  have hG := hF.ext hx2
  have HX2 := hide (HX.out.trans hx2)
  have HS := hide ((HX2.out.trans (Ext.refl _)))
  have szw := HX.out.size
  have hG2 := (hG.set 0 (.slice A2 2 c2)).set 1 (.int .i64 (p2 : Int))
  have hr3 := (hr2.set (i := 0) (u := .slice A2 2 c2) hG (by decide)).set (i := 1) (u := .int .i64 (p2 : Int)) (hG.set _ _) (by decide)
  have r := hG.cell
  have rf := hG.free
  have hx3 := (HX2.out.set (p := ⟨w1.heap.size, 0, none⟩) hs1 (.slice A2 2 c2)).set (p := ⟨w1.heap.size, 1, none⟩) hs1 (.int .i64 (p2 : Int))
  have ht := turn_any hr3 (by omega)
  rw [show tuL [(1, 2), (2, 1)] = [(2, 1), (1, 2)] by decide] at ht
  clear hb hn2 hr2 hF hx2 szw
  go_wp2_with fail
  refine ht.mono ?_
  rintro e w3 ⟨p3, rfl, hr4, hx4⟩
  have hf := first_any hr4 (by omega)
  rw [show hdW [(2, 1), (1, 2)] = (2, 1) by decide, show neW [(2, 1), (1, 2)] = true by decide] at hf
  go_wp2_with fail
  refine hf.mono ?_
  rintro e w4 ⟨rfl, hx5⟩
  have hG3 := ((hG2.ext hx4).ext hx5).rule
  have hH := (Blk.new w4 #[Value.int .i64 2, .int .i64 1] 32).rule
  have g1 := fun o w' (x : Ext (w4.alloc (Obj.cells #[.int .i64 2, .int .i64 1] 32)) w') => hG3 w' ((Ext.alloc _ _).trans x) o
  have hgt := goes_any 1 2
  have hgf := goes_any 2 3
  rw [show goB 1 2 = true by decide] at hgt
  rw [show goB 2 3 = false by decide] at hgf
  have HX9 := hide (((hx3.trans hx4).trans hx5).trans (Ext.alloc w4 (Obj.cells #[.int .i64 2, .int .i64 1] 32)))
  have e0 := Ext.refl (w4.alloc (Obj.cells #[.int .i64 2, .int .i64 1] 32))
  clear hG hG2 hr3 hr4 hx3 hx4 hx5 hf ht r rf HX HX2 HS hY
  go_wp2_with (first | (go_at_call 15; refine (len_any _ _ _ _ _).mono ?_; rintro e w6 ⟨rfl, hx6⟩) | (go_at_call 17; with_reducible refine (hgt _).mono ?_; rintro e w7 ⟨rfl, rfl⟩) | (go_at_call 17; with_reducible refine (hgf _).mono ?_; rintro e w7 ⟨rfl, rfl⟩))
  go_ret
  exact ⟨by simp, HX9.out.trans hx6⟩
/-- Block B is a variable that has the ring l. -/
def Bx (w : World) (B : Nat) (l : List Wt) : Prop := ∃ A n c, ∃ p : Nat, Blk w B #[Value.slice A n c, .int .i64 (p : Int)] 25 ∧ Rg w A n c p l
section
variable {w w' : World} {B g i : Nat} {l : List Wt}
theorem Bx.ext (h : Bx w B l) (x : Ext w w') : Bx w' B l := by
  obtain ⟨A, n, c, p, h1, h2⟩ := h
  exact ⟨A, n, c, p, h1.ext x, h2.ext x⟩
theorem Bx.new {A : Option Addr} {n c p : Nat} (h : Rg w A n c p l) : Bx (w.alloc (Obj.cells #[.slice A n c, .int .i64 (p : Int)] 25)) w.heap.size l := ⟨A, n, c, p, Blk.new _ _ _, h.ext (Ext.alloc _ _)⟩
theorem Bx.new0 (w : World) : Bx (w.alloc (Obj.cells #[.slice none 0 0, .int .i64 (0 : Int)] 25)) w.heap.size [] := Bx.new (p := 0) (Rg.nil w)
theorem Bx.lt (h : Bx w B l) : B < w.heap.size := by obtain ⟨A, n, c, p, h1, h2⟩ := h; exact h1.lt
theorem Bx.eq {l2 : List Wt} (h : Bx w B l) (e : l = l2) : Bx w B l2 := e ▸ h
theorem ra_set {a b u v : Value} : (#[a, b].setIfInBounds 0 u).setIfInBounds 1 v = #[u, v] := by simp
theorem Bx.store {A0 A : Option Addr} {n0 c0 p0 n c p : Nat} (hb : Blk w B #[Value.slice A0 n0 c0, .int .i64 (p0 : Int)] 25) (h : Rg w A n c p l) : Bx ((w.setCell ⟨B, 0, none⟩ (.slice A n c)).setCell ⟨B, 1, none⟩ (.int .i64 (p : Int))) B l := by
  have h1 := (hb.set 0 (.slice A n c)).set 1 (.int .i64 (p : Int))
  rw [ra_set] at h1
  exact ⟨A, n, c, p, h1, (h.set hb (by decide)).set (hb.set _ _) (by decide)⟩
theorem Bx.chgN {m : Nat} (h : Bx w B l) (x : Chg [m] w w') (hm : ∀ cs t, ¬ Blk w m cs t) : Bx w' B l := by
  obtain ⟨A, n, c, p, h1, h2⟩ := h
  exact ⟨A, n, c, p, h1.chg x (by rintro q; simp at q; exact hm _ _ (q ▸ h1)), h2.chgN x hm⟩
end
end Go.Proofs.Ytbkpmlcockkfnaa
