/- What is done: one who waits leaves; one who left owns again. -/
import Derived.Test.YtpielknodjppgaaP1
import Derived.WideKeyEntry
namespace Go.Proofs.Ytpielknodjppgaa
open Go.RowKit Go.Maps
set_option linter.unusedSimpArgs false
set_option linter.unusedVariables false
set_option maxRecDepth 100000
set_option maxHeartbeats 4000000


section
variable {S : St} {W L : Nat}
theorem set_own {o : Nat} (h : o < 8) (x : Int) : (pl S W L).setIfInBounds (3 + o * 3) (.int .i64 x) = pl { S with own := upd S.own o x } W L := by
  refine pl_set (by omega) ?_ (fun j hj hne => ?_)
  · unfold pv upd
    dsimp only
    repeat' split
    all_goals first | rfl | (exfalso; omega)
  · unfold pv upd
    dsimp only
    repeat' split
    all_goals first | rfl | (exfalso; omega)
theorem set_cnt {o : Nat} (h : o < 8) (x : Int) : (pl S W L).setIfInBounds (3 + o * 3 + 1) (.int .i64 x) = pl { S with cnt := upd S.cnt o x } W L := by
  refine pl_set (by omega) ?_ (fun j hj hne => ?_)
  · unfold pv upd
    dsimp only
    repeat' split
    all_goals first | rfl | (exfalso; omega)
  · unfold pv upd
    dsimp only
    repeat' split
    all_goals first | rfl | (exfalso; omega)
theorem set_hsh {o : Nat} (h : o < 8) (x : Int) : (pl S W L).setIfInBounds (3 + o * 3 + 2) (.int .i64 x) = pl { S with hsh := upd S.hsh o x } W L := by
  refine pl_set (by omega) ?_ (fun j hj hne => ?_)
  · unfold pv upd
    dsimp only
    repeat' split
    all_goals first | rfl | (exfalso; omega)
  · unfold pv upd
    dsimp only
    repeat' split
    all_goals first | rfl | (exfalso; omega)
theorem set_flg {t : Nat} (h : t < 8) (x : Bool) : (pl S W L).setIfInBounds (27 + t) (.bool x) = pl { S with flg := upd S.flg t x } W L := by
  refine pl_set (by omega) ?_ (fun j hj hne => ?_)
  · unfold pv upd
    dsimp only
    repeat' split
    all_goals first | rfl | (exfalso; omega)
  · unfold pv upd
    dsimp only
    repeat' split
    all_goals first | rfl | (exfalso; omega)
end
theorem Chg.of_turned {w w' : World} {b : Nat} {T : List Nat} (h : w.mapTurned w' b) (hb : b ∈ T) : Chg T w w' := Chg.of_grown h.grown hb
theorem MpT.drop {w : World} {m : Nat} {α : Type} {dat : α → DataW Unit} {R : Value → Option (DataW Unit × List MemPlace)} {f : Int → Int → Option α} {t e : TypeId} (h : MpT R dat w m f) (ht : Try.prog.underlying t = some (.map 105 e))
    {x y : Int} (hd : 0 ≤ x ∧ x < 8 ∧ 0 ≤ y ∧ y < 8) :
    ∃ w', (Builtin.delete_ #[t, 105] 0 #[.map (some m), (Value.agg #[.int .i64 x, .int .i64 y])]).run Try.prog w = .ok (.tuple #[]) w' ∧ MpT R dat w' m (upd2 f x y none) ∧ Chg [m] w w' := by
  have hx : wfI x := wfI_of (by omega) (by omega)
  have hy : wfI y := wfI_of (by omega) (by omega)
  obtain ⟨D, hown, rep⟩ := h
  obtain ⟨w', h1, h2, h3⟩ := hown.drop kS ht (sk_of hx hy) 0
  exact ⟨w', h1, MpT.of h2 (rep.del hd), Chg.of_turned h3 (by simp)⟩
theorem leave_any {w : World} {B W L : Nat} {S : St} (h : ModT w B W L S) {x y r : Int} (hd : 0 ≤ x ∧ x < 8 ∧ 0 ≤ y ∧ y < 8) (hk : Ok (lvS S x y r)) :
    Calls Try.prog 48 #[.pointer (some ⟨B, 0, none⟩), (Value.agg #[.int .i64 x, .int .i64 y]), .int .i64 r] w fun e w' => e = .returned (.tuple #[]) ∧ ModT w' B W L (lvS S x y r) ∧ Chg [B, W, L] w w' := by
  have hx : wfI x := wfI_of (by omega) (by omega)
  have hy : wfI y := wfI_of (by omega) (by omega)
  have x1 := Ext.alloc w (.cells #[.int .i64 x, .int .i64 y] 105)
  have H1 := hide (h.ext x1)
  have HB := hide (Blk.new w #[.int .i64 x, .int .i64 y] 105)
  have lB := h.b.lt
  have lW := h.wm.lt
  have lL := h.lm.lt
  have hne := h.ne
  have hbw := h.bw
  have hbl := h.bl
  have HK := hide hk
  have HX := hide x1
  clear h hk x1
  go_enter Try.func48, Try.ntmps48
  go_wp2_with fail
  generalize w.alloc (.cells #[.int .i64 x, .int .i64 y] 105) = W0 at *
  have r35 : W0.drew.cell? ⟨B, 35, none⟩ = some (.map (some W)) := (H1.out.ext (Ext.drew W0)).c (by omega)
  have r36 : W0.drew.cell? ⟨B, 36, none⟩ = some (.map (some L)) := (H1.out.ext (Ext.drew W0)).c (by omega)
  have rb := (HB.out.ext (Ext.drew W0)).cell
  have l1 := (H1.out.ext (Ext.drew W0)).wm.look1 hx hy
  obtain ⟨v1, k1, M1, c1⟩ := (H1.out.ext (Ext.drew W0)).lm.update Try.underlying80 hd (rdL_mk ((S.wt x y).getD 0, r))
  simp only at k1
  go_region
  clear r35 r36 rb l1 k1
  go_wp2_with fail
  have c2 := ((Chg.drew [L] W0).trans c1).trans (Chg.drew [L] v1)
  have n1 : B ∉ [L] := by simpa using hbl
  have n2 : W ∉ [L] := by simpa using hne
  have n3 : w.heap.size ∉ [L] := by simp; omega
  have B1 := hide (H1.out.b.chg c2 n1)
  have r35 : v1.drew.cell? ⟨B, 35, none⟩ = some (.map (some W)) := by rw [B1.out.cell, pl_at (by omega)]; rfl
  have rb := (HB.out.chg c2 n3).cell
  obtain ⟨v2, k2, M2, c3⟩ := (H1.out.wm.chg c2 n2).drop Try.underlying79 hd
  go_region
  clear r35 rb k2
  go_wp2_with fail
  go_end0
  have n4 : B ∉ [W] := by simpa using hbw
  have n5 : L ∉ [W] := by simpa using (Ne.symm hne)
  refine ⟨rfl, ⟨B1.out.chg c3 n4, M2, (M1.ext (Ext.drew _)).chg c3 n5, HK.out, hne⟩, ?_⟩
  exact (HX.out.chg _).trans ((c2.mono (by simp)).trans (c3.mono (by simp)))
end Go.Proofs.Ytpielknodjppgaa
