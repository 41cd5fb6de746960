/- Drop. -/
import Derived.Test.YtcgbbgljchfbcaaB2
namespace Go.Proofs.Ytcgbbgljchfbcaa
open Go.RowKit Go.Maps
set_option linter.unusedSimpArgs false
set_option linter.unusedVariables false

theorem drop_nob {w : World} {v : Value} (z : Int) (h : Any w v false []) : Calls Try.prog 9 #[v, .int .i64 z] w fun e w' => e = .returned (.tuple #[(Value.agg #[.int .i64 pz.s, .int .i64 pz.o, .int .i64 pz.t]), .int .i64 2]) ∧ Ext w w' := by
  rw [show ((Value.agg #[.int .i64 pz.s, .int .i64 pz.o, .int .i64 pz.t])) = Value.agg #[.int .i64 0, .int .i64 0, .int .i64 0] from rfl]
  have hx := Ext.alloc w (.cells #[.int .i64 0, .int .i64 0, .int .i64 0] 33)
  have h2 := h.ext hx
  go_enter Try.func9, Try.ntmps9
  go_wp2_with fail
  refine (given_any h2).mono ?_
  rintro e w1 ⟨rfl, rfl⟩
  have b1 := (Blk.new w #[.int .i64 0, .int .i64 0, .int .i64 0] 33).cell
  have b2 := (Blk.new w #[.int .i64 0, .int .i64 0, .int .i64 0] 33).free
  go_wp2_with fail
  refine bodyPost_ret (v := .tuple #[.agg #[.int .i64 0, .int .i64 0, .int .i64 0], .int .i64 2]) (by simp [results, Try.results9, go_sem, *]) rfl ⟨rfl, ?_⟩
  (repeat (with_reducible refine Ext.set ?_ (by simp) _))
  exact Ext.alloc _ _
set_option maxRecDepth 100000 in
theorem drop_in {w : World} {C m1 m2 : Nat} {S : List Pr} {z : Int} (h : BookT w C m1 m2 S) (hz : (ky z).wf = true) :
    Calls Try.prog 9 #[.pointer (some ⟨C, 0, none⟩), .int .i64 z] w fun e w' => e = .returned (.tuple #[(Value.agg #[.int .i64 (dropR S z).s, .int .i64 (dropR S z).o, .int .i64 (dropR S z).t]), .int .i64 (dropE S z)]) ∧ BookT w' C m1 m2 (dropS S z) ∧ Chg [m1, m2] w w' := by
  have H0 := hide h
  have hxa := Ext.alloc w (.cells #[.int .i64 0, .int .i64 0, .int .i64 0] 33)
  have h2 := h.ext hxa
  cases hq : bySlot S z with
  | none =>
    have E1 := hide (show dropR S z = pz by unfold dropR; rw [hq]; rfl)
    have E2 := hide (show dropE S z = 6 by unfold dropE; rw [hq]; rfl)
    rw [dropS_none hq, E1.out, E2.out, show ((Value.agg #[.int .i64 pz.s, .int .i64 pz.o, .int .i64 pz.t])) = Value.agg #[.int .i64 0, .int .i64 0, .int .i64 0] from rfl]
    have L := h2.a.look hz
    rw [hq] at L
    have r := h2.c.cell
    simp only [Option.getD_none, Option.isSome_none] at L
    have e0 : pz = ⟨0, 0, 0⟩ := rfl
    rw [e0] at L
    simp only at L
    have BB := (Blk.new w #[.int .i64 0, .int .i64 0, .int .i64 0] 33)
    have hy := Ext.alloc (w.alloc (.cells #[.int .i64 0, .int .i64 0, .int .i64 0] 33)) (.cells #[.int .i64 0, .int .i64 0, .int .i64 0] 33)
    have b1 := BB.cell
    have b2 := BB.free
    have b3 := (BB.ext hy).cell
    have b4 := (BB.ext hy).free
    go_enter Try.func9, Try.ntmps9
    go_wp2_with fail
    refine (given_any h2.any).mono ?_
    rintro e w1 ⟨rfl, rfl⟩
    go_wp2_with fail
    refine bodyPost_ret (v := .tuple #[.agg #[.int .i64 0, .int .i64 0, .int .i64 0], .int .i64 6]) (by simp [results, Try.results9, go_sem, *]) rfl ?_
    have hxy := hxa.trans hy
    exact ⟨rfl, H0.out.ext hxy, hxy.chg _⟩
  | some p =>
    have hk := h.ok
    obtain ⟨hm, rfl⟩ := (bySlot_some hk).1 hq
    have E1 := hide (show dropR S p.s = p by unfold dropR; rw [hq]; rfl)
    have E2 := hide (show dropE S p.s = 0 by unfold dropE; rw [hq]; rfl)
    have E4 := hide (dropS_length hk hq)
    have E5 := hide (bySlot_drop hk p.s)
    have E6 := hide (byObj_drop hk hq)
    have E7 := hide (show (byObj S p.o).isSome = true by rw [(byObj_some hk).2 ⟨hm, rfl⟩]; rfl)
    have E8 := hide (show (bySlot S p.s).isSome = true by rw [hq]; rfl)
    have ho : (ky p.o).wf = true := ky_wf (by have := (hk.rng p hm).o0; omega) (by have := (hk.rng p hm).o1; omega)
    rw [E1.out, E2.out]
    have L := h2.a.look hz
    rw [hq] at L
    simp only [Option.getD_some, Option.isSome_some] at L
    have r := h2.c.cell
    have BB := (Blk.new w #[.int .i64 0, .int .i64 0, .int .i64 0] 33)
    have hy := Ext.alloc (w.alloc (.cells #[.int .i64 0, .int .i64 0, .int .i64 0] 33)) (.cells #[.int .i64 p.s, .int .i64 p.o, .int .i64 p.t] 33)
    have HP := hide (Blk.new (w.alloc (.cells #[.int .i64 0, .int .i64 0, .int .i64 0] 33)) #[.int .i64 p.s, .int .i64 p.o, .int .i64 p.t] 33)
    have HB := hide (BB.ext hy)
    have H3 := hide (h2.ext hy)
    have HX := hide (hxa.trans hy)
    have l1 := h.a.lt
    have l2 := h.b.lt
    have l3 := h.c.lt
    have hne := h.ne
    have hn1 := h.ne1
    have hn2 := h.ne2
    have hi := hk.len
    clear BB hy hxa hm hq h hk
    go_enter Try.func9, Try.ntmps9
    go_wp2_with fail
    refine (given_any h2.any).mono ?_
    rintro e w1 ⟨rfl, rfl⟩
    go_wp2_with fail
    clear L r h2
    have lp := HP.out.lt
    have ep : (w.alloc (.cells #[.int .i64 0, .int .i64 0, .int .i64 0] 33)).heap.size = w.heap.size + 1 := by simp
    generalize (w.alloc (.cells #[.int .i64 0, .int .i64 0, .int .i64 0] 33)).alloc (.cells #[.int .i64 p.s, .int .i64 p.o, .int .i64 p.t] 33) = W1 at *
    rw [ep] at HP lp
    obtain ⟨D1, o1, q1⟩ := (H3.out.ext (Ext.drew W1)).a
    obtain ⟨D2, o2, q2⟩ := (H3.out.ext (Ext.drew W1)).b
    rw [← E4.out] at q1 q2
    obtain ⟨v1, k1, o1', t1⟩ := o1.drop kI Try.underlying52 (kof hz) 0
    have rp := (HP.out.ext (Ext.drew W1)).cell
    have rc := (H3.out.c.ext (Ext.drew W1)).cell
    go_region
    go_wp2_with fail
    clear rp rc k1
    have g1 := t1.grown
    have c1 := Chg.of_grown g1 (T := [m1, m2]) (by simp)
    have c1' := c1.trans (Chg.drew _ v1)
    have o2' := (o2.kept g1 (by simp; omega)).drew
    obtain ⟨v2, k2, o2'', t2⟩ := o2'.drop kI Try.underlying52 (kof ho) 0
    have g2 := t2.grown
    have c2 := c1'.trans (Chg.of_grown g2 (T := [m1, m2]) (by simp))
    have o1'' := (o1'.drew).kept g2 (by simp; omega)
    have nb : w.heap.size ∉ [m1, m2] := by simp; omega
    have np : w.heap.size + 1 ∉ [m1, m2] := by simp; omega
    have nc : C ∉ [m1, m2] := by simp; omega
    have x0 := Chg.drew [m1, m2] W1
    have rp := (HP.out.chg (x0.trans c1') np).cell
    have rc := (H3.out.c.chg (x0.trans c1') nc).cell
    go_region
    clear rp rc k2
    have rp := (HP.out.chg (x0.trans c2) np).cell
    have rb := (HB.out.chg (x0.trans c2) nb).cell
    have rf := (HB.out.chg (x0.trans c2) nb).free
    have E3 := hide (show BookT v2 C m1 m2 (dropS S p.s) from ⟨H3.out.c.chg (x0.trans c2) nc,
        by rw [E5.out]; exact MpT.of o1'' (q1.del E8.out), by rw [E6.out]; exact MpT.of o2'' (q2.del E7.out), H0.out.ok.drop _, hne⟩)
    have HC := hide (x0.trans c2)
    clear o1 o2 o1' o2' o1'' o2'' t1 t2 g1 g2 c1 c1' c2 x0 q1 q2
    go_wp2_with fail
    refine bodyPost_ret (v := .tuple #[.agg #[.int .i64 p.s, .int .i64 p.o, .int .i64 p.t], .int .i64 0]) (by simp [results, Try.results9, go_sem, *]) rfl ?_
    have cs := (((Chg.refl [w.heap.size] v2).set (p := ⟨w.heap.size, 0, none⟩) (.inl (by simp)) (.int .i64 p.s)).set (p := ⟨w.heap.size, 1, none⟩) (.inl (by simp)) (.int .i64 p.o)).set (p := ⟨w.heap.size, 2, none⟩) (.inl (by simp)) (.int .i64 p.t)
    refine ⟨rfl, E3.out.chg cs (by simp; omega) (by simp; omega) (by simp; omega), ?_⟩
    exact ((((HX.out.chg [m1, m2]).trans HC.out).set (p := ⟨w.heap.size, 0, none⟩) (.inr (by simp)) _).set (p := ⟨w.heap.size, 1, none⟩) (.inr (by simp)) _).set (p := ⟨w.heap.size, 2, none⟩) (.inr (by simp)) _
end Go.Proofs.Ytcgbbgljchfbcaa
