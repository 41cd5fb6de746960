/- What is done: an End; an Exit. -/
import Derived.Test.YtpielknodjppgaaW1
namespace Go.Proofs.Ytpielknodjppgaa
open Go.RowKit Go.Maps
set_option linter.unusedSimpArgs false
set_option linter.unusedVariables false
set_option maxRecDepth 100000
set_option maxHeartbeats 4000000


theorem wrapI {x : Int} (h1 : -100 ≤ x) (h2 : x ≤ 100) : IntKind.i64.wrap x = x := by rw [IntKind.wrap_i64]; omega
theorem MpT.set {w : World} {m B : Nat} {α : Type} {dat : α → DataW Unit} {R : Value → Option (DataW Unit × List MemPlace)} {f : Int → Int → Option α} (h : MpT R dat w m f) (hne : B ≠ m) (i : Nat) (v : Value) : MpT R dat (w.setCell ⟨B, i, none⟩ v) m f :=
  h.chg ((Chg.refl [B] w).set (p := ⟨B, i, none⟩) (.inl (by simp)) v) (by simpa using hne.symm)
theorem exit_any {w : World} {B W L : Nat} {S : St} (h : ModT w B W L S) {o : Nat} (ho : o < 8) (hk : Ok (exS S o)) :
    Calls Try.prog 59 #[.pointer (some ⟨B, 3 + o * 3, none⟩)] w fun e w' => e = .returned (.tuple #[]) ∧ ModT w' B W L (exS S o) ∧ Chg [B, W, L] w w' := by
  have H := hide h
  have r2 := h.cnt ho
  have r1 := h.own ho
  have f2 := h.b.free (3 + o * 3 + 1)
  have f1 := h.b.free (3 + o * 3)
  have wr : IntKind.i64.wrap (S.cnt o - 1) = S.cnt o - 1 := by have := h.ok.own o; have := h.ok.k1; exact wrapI (by omega) (by omega)
  have b2 := h.b.set (3 + o * 3 + 1) (.int .i64 (S.cnt o - 1))
  rw [set_cnt ho] at b2
  have HB2 := hide b2
  have c2 := (Chg.refl [B, W, L] w).set (p := ⟨B, 3 + o * 3 + 1, none⟩) (.inl (by simp)) (.int .i64 (S.cnt o - 1))
  have HC2 := hide c2
  have HK := hide hk
  have E := hide (show exS S o = { S with cnt := upd S.cnt o (S.cnt o - 1), own := if S.cnt o = 1 then upd S.own o (-1) else S.own } from rfl)
  clear h b2 c2 hk
  generalize S.cnt o = c at *
  by_cases q : c = 1
  · subst q
    have e1 : (1 : Int) - 1 = 0 := rfl
    have b3 := HB2.out.set (3 + o * 3) (.int .i64 (-1))
    rw [set_own ho] at b3
    have HB3 := hide b3
    clear b3
    go_enter Try.func59, Try.ntmps59
    go_wp2_with fail
    go_end0
    rw [e1] at HB3
    have c3 := HC2.out.set (p := ⟨B, 3 + o * 3, none⟩) (.inl (by simp)) (.int .i64 (-1))
    rw [e1] at c3
    have E2 : exS S o = { S with cnt := upd S.cnt o 0, own := upd S.own o (-1) } := E.out.trans (by simp)
    refine ⟨rfl, ⟨by rw [E2]; exact HB3.out, ?_, ?_, HK.out, H.out.ne⟩, c3⟩
    · rw [E2]; exact (by repeat (first | exact H.out.wm | refine MpT.set ?_ H.out.bw _ _))
    · rw [E2]; exact (by repeat (first | exact H.out.lm | refine MpT.set ?_ H.out.bl _ _))
  · have q2 : (c - 1 == 0) = false := by simp; omega
    go_enter Try.func59, Try.ntmps59
    go_wp2_with fail
    go_end0
    have E2 : exS S o = { S with cnt := upd S.cnt o (c - 1) } := E.out.trans (by rw [if_neg q])
    refine ⟨rfl, ⟨by rw [E2]; exact HB2.out, ?_, ?_, HK.out, H.out.ne⟩, HC2.out⟩
    · rw [E2]; exact (by repeat (first | exact H.out.wm | refine MpT.set ?_ H.out.bw _ _))
    · rw [E2]; exact (by repeat (first | exact H.out.lm | refine MpT.set ?_ H.out.bl _ _))
theorem end_any {w : World} {B W L : Nat} {S : St} (h : ModT w B W L S) (k : Int) {t o : Nat} (a r : Int) (ht : t < S.N) (ho : o < S.M) (hk : Ok (enS S t o r)) :
    Calls Try.prog 49 #[.pointer (some ⟨B, 0, none⟩), (Value.agg #[.int .i64 k, .int .i64 (t : Int), .int .i64 (o : Int), .int .i64 a, .int .i64 r])] w fun e w' => e = .returned (.tuple #[]) ∧ ModT w' B W L (enS S t o r) ∧ Chg [B, W, L] w w' := by
  have n1 := h.ok.n1
  have m1 := h.ok.m1
  have ho8 : o < 8 := by omega
  have ht8 : t < 8 := by omega
  have i8 : (o : Int) < 8 := by omega
  have j8 : (t : Int) < 8 := by omega
  have hd : 0 ≤ (o : Int) ∧ (o : Int) < 8 ∧ 0 ≤ (t : Int) ∧ (t : Int) < 8 := by omega
  have hx : wfI (o : Int) := wfI_of (by omega) (by omega)
  have hy : wfI (t : Int) := wfI_of (by omega) (by omega)
  have x1 := (Ext.alloc w (.cells #[Value.int .i64 k, .int .i64 (t : Int), .int .i64 (o : Int), .int .i64 a, .int .i64 r] 36)).trans (Ext.alloc _ (.cells #[.int .i64 (o : Int), .int .i64 (t : Int)] 105))
  have H1 := hide (h.ext x1)
  have HE := hide ((Blk.new w #[Value.int .i64 k, .int .i64 (t : Int), .int .i64 (o : Int), .int .i64 a, .int .i64 r] 36).ext (Ext.alloc _ (.cells #[.int .i64 (o : Int), .int .i64 (t : Int)] 105)))
  have HS := Blk.new (w.alloc (.cells #[Value.int .i64 k, .int .i64 (t : Int), .int .i64 (o : Int), .int .i64 a, .int .i64 r] 36)) #[.int .i64 (o : Int), .int .i64 (t : Int)] 105
  rw [World.size_alloc] at HS
  have HS := hide HS
  have lB := h.b.lt
  have lW := h.wm.lt
  have lL := h.lm.lt
  have hne := h.ne
  have hbw := h.bw
  have hbl := h.bl
  have HK := hide hk
  have HX := hide x1
  clear h hk x1
  go_enter Try.func49, Try.ntmps49
  go_wp2_with fail
  generalize (w.alloc (.cells #[Value.int .i64 k, .int .i64 (t : Int), .int .i64 (o : Int), .int .i64 a, .int .i64 r] 36)).alloc (.cells #[.int .i64 (o : Int), .int .i64 (t : Int)] 105) = W0 at *
  have re := (HE.out.ext (Ext.drew W0)).cell
  go_region
  go_wp2_with fail
  clear re
  have hy2 := (Ext.drew W0).trans (Ext.drew W0.drew)
  have re := (HE.out.ext hy2).cell
  have rs := (HS.out.ext hy2).cell
  have r36 : W0.drew.drew.cell? ⟨B, 36, none⟩ = some (.map (some L)) := (H1.out.ext hy2).c (by omega)
  have r1 := H1.out.own ho8
  have r2 := H1.out.cnt ho8
  have f1 := H1.out.b.free (3 + o * 3)
  have f2 := H1.out.b.free (3 + o * 3 + 1)
  have l1 := (H1.out.ext hy2).lm.look1 hx hy
  have f0 : ∀ w, Sem.run Try.prog (Instr.field 108 (.agg #[.int .i64 ((S.lf o t).getD (0, 0)).1, .int .i64 ((S.lf o t).getD (0, 0)).2]) 0) w = .ok (.int .i64 ((S.lf o t).getD (0, 0)).1) w := fun w => by kernel_rfl
  have E0 := hide (show enS0 S t o = { S with own := upd S.own o (t : Int), cnt := upd S.cnt o ((S.lf o t).getD (0, 0)).1, lf := upd2 S.lf o t none } from rfl)
  generalize (S.lf o t).getD (0, 0) = p at *
  go_region
  go_wp2_with fail
  have b3 := (H1.out.b.set (3 + o * 3) (.int .i64 (t : Int))).set (3 + o * 3 + 1) (.int .i64 p.1)
  rw [set_own ho8, set_cnt ho8] at b3
  have c3 := ((Chg.refl [B] W0).set (p := ⟨B, 3 + o * 3, none⟩) (.inl (by simp)) (.int .i64 (t : Int))).set (p := ⟨B, 3 + o * 3 + 1, none⟩) (.inl (by simp)) (.int .i64 p.1)
  clear re rs r36 r1 r2 f1 f2 l1 f0 hy2
  generalize (W0.setCell ⟨B, 3 + o * 3, none⟩ (.int .i64 (t : Int))).setCell ⟨B, 3 + o * 3 + 1, none⟩ (.int .i64 p.1) = W3 at *
  have m1 : L ∉ [B] := by simpa using hbl.symm
  have m2 : W ∉ [B] := by simpa using hbw.symm
  have m3 : w.heap.size ∉ [B] := by simp; omega
  have m4 : w.heap.size + 1 ∉ [B] := by simp; omega
  have hy3 := ((Ext.drew W3).trans (Ext.drew W3.drew)).trans (Ext.drew W3.drew.drew)
  have rs := ((HS.out.chg c3 m4).ext hy3).cell
  have r36 : W3.drew.drew.drew.cell? ⟨B, 36, none⟩ = some (.map (some L)) := by rw [(b3.ext hy3).cell, pl_at (by omega)]; rfl
  obtain ⟨v1, k1, M1, c4⟩ := ((H1.out.lm.chg c3 m1).ext hy3).drop Try.underlying80 hd
  go_region
  clear rs r36 k1
  have n1 : B ∉ [L] := by simpa using hbl
  have n2 : W ∉ [L] := by simpa using hne
  have n3 : w.heap.size ∉ [L] := by simp; omega
  have c5 := (hy3.chg [L]).trans c4
  have b5 := b3.chg c5 n1
  have e5 := (HE.out.chg c3 m3).chg c5 n3
  have M2 := (H1.out.wm.chg c3 m2).chg c5 n2
  have C5 := (HX.out.chg [B, W, L]).trans ((c3.mono (T' := [B, W, L]) (by simp)).trans (c5.mono (T' := [B, W, L]) (by simp)))
  have HB5 := hide b5
  have HM1 := hide M1
  have HM2 := hide M2
  have HC5 := hide C5
  have re := e5.cell
  clear c3 b3 c4 c5 M1 M2 C5 hy3
  by_cases q : r = 12
  · subst q
    have rd := (e5.ext (Ext.drew v1)).cell
    have g1 := b5.cell (27 + t)
    rw [pl_flg ht8] at g1
    have g2 := b5.free (27 + t)
    have b6 := b5.set (27 + t) (.bool false)
    rw [set_flg ht8] at b6
    have HB6 := hide b6
    clear b5 b6 e5
    go_wp2_with fail
    go_region
    go_wp2_with fail
    go_end0
    have E2 : enS S t o 12 = flS (enS0 S t o) t false := by unfold enS; rw [if_pos rfl]
    have K2 := HK.out
    rw [E2, E0.out] at K2 ⊢
    have hz := Ext.drew (v1.setCell ⟨B, 27 + t, none⟩ (.bool false))
    exact ⟨rfl, ⟨HB6.out.ext hz, (HM2.out.set hbw _ _).ext hz, (HM1.out.set hbl _ _).ext hz, K2, hne⟩, (HC5.out.set (p := ⟨B, 27 + t, none⟩) (.inl (by simp)) _).trans (hz.chg _)⟩
  · have q2 : (r == 12) = false := by simpa using q
    clear b5 e5
    go_wp2_with fail
    go_end0
    have E2 : enS S t o r = enS0 S t o := by unfold enS; rw [if_neg q]
    have K2 := HK.out
    rw [E2, E0.out] at K2 ⊢
    exact ⟨rfl, ⟨HB5.out, HM2.out, HM1.out, K2, hne⟩, HC5.out⟩
end Go.Proofs.Ytpielknodjppgaa
