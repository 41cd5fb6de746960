/- What is done: one that tells OK, and is no End. -/
import Derived.Test.YtpielknodjppgaaW2
namespace Go.Proofs.Ytpielknodjppgaa
open Go.RowKit Go.Maps
set_option linter.unusedSimpArgs false
set_option linter.unusedVariables false
set_option maxRecDepth 100000
set_option maxHeartbeats 4000000


theorem turn_1 {w : World} {B W L : Nat} {S : St} (h : ModT w B W L S) {t o : Nat} (a r : Int) (ht : t < S.N) (ho : o < S.M) (hk : Ok (tuS S 1 t o a)) :
    Calls Try.prog 50 #[.pointer (some ⟨B, 0, none⟩), (Value.agg #[.int .i64 1, .int .i64 (t : Int), .int .i64 (o : Int), .int .i64 a, .int .i64 r])] w fun e w' => e = .returned (.tuple #[]) ∧ ModT w' B W L (tuS S 1 t o a) ∧ Chg [B, W, L] w w' := by
  have n1 := h.ok.n1
  have m1 := h.ok.m1
  have ho8 : o < 8 := by omega
  have ht8 : t < 8 := by omega
  have i8 : (o : Int) < 8 := by omega
  have j8 : (t : Int) < 8 := by omega
  have x1 := Ext.alloc w (.cells #[Value.int .i64 1, .int .i64 (t : Int), .int .i64 (o : Int), .int .i64 a, .int .i64 r] 36)
  have H1 := hide (h.ext x1)
  have HE := hide (Blk.new w #[Value.int .i64 1, .int .i64 (t : Int), .int .i64 (o : Int), .int .i64 a, .int .i64 r] 36)
  have hne := h.ne
  have hbw := h.bw
  have hbl := h.bl
  have lB := h.b.lt
  have lW := h.wm.lt
  have lL := h.lm.lt
  have HX := hide x1
  have E := hide (show tuS S 1 t o a = inS S t o from rfl)
  have E : Hid (tuS S 1 t o a = { S with own := upd S.own o (t : Int), cnt := upd S.cnt o (S.cnt o + 1) }) := E
  have HK := hide hk
  clear h hk x1
  go_enter Try.func50, Try.ntmps50
  go_wp2_with fail
  generalize w.alloc (.cells #[Value.int .i64 1, .int .i64 (t : Int), .int .i64 (o : Int), .int .i64 a, .int .i64 r] 36) = W0 at *
  have re := (HE.out.ext (Ext.drew W0)).cell
  go_region
  clear re
  have re := (HE.out.ext ((Ext.drew W0).trans (Ext.drew W0.drew))).cell
  have r0 := (HE.out.ext (Ext.drew W0)).cell
  have r1 := H1.out.own ho8
  have r2 := H1.out.cnt ho8
  have f1 := H1.out.b.free (3 + o * 3)
  have f2 := H1.out.b.free (3 + o * 3 + 1)
  have wr : IntKind.i64.wrap (S.cnt o + 1) = S.cnt o + 1 := by have := H1.out.ok.own o; have := H1.out.ok.k1; exact wrapI (by omega) (by omega)
  have b3 := (H1.out.b.set (3 + o * 3) (.int .i64 (t : Int))).set (3 + o * 3 + 1) (.int .i64 (S.cnt o + 1))
  rw [set_own ho8, set_cnt ho8] at b3
  have c3 := ((Chg.refl [B, W, L] W0).set (p := ⟨B, 3 + o * 3, none⟩) (.inl (by simp)) (.int .i64 (t : Int))).set (p := ⟨B, 3 + o * 3 + 1, none⟩) (.inl (by simp)) (.int .i64 (S.cnt o + 1))
  have HB := hide b3
  have HC := hide c3
  clear b3 c3
  generalize S.cnt o = c at *
  go_wp2_with fail
  go_region
  go_wp2_with fail
  go_end0
  have K2 := HK.out
  rw [E.out] at K2 ⊢
  have hz : ∀ v : World, Ext v v.drew.drew := fun v => (Ext.drew v).trans (Ext.drew v.drew)
  exact ⟨rfl, ⟨HB.out.ext (hz _), ((H1.out.wm.set hbw _ _).set hbw _ _).ext (hz _), ((H1.out.lm.set hbl _ _).set hbl _ _).ext (hz _), K2, hne⟩, ((HX.out.chg _).trans HC.out).trans ((hz _).chg _)⟩
theorem turn_2 {w : World} {B W L : Nat} {S : St} (h : ModT w B W L S) {t o : Nat} (a r : Int) (ht : t < S.N) (ho : o < S.M) (hk : Ok (tuS S 2 t o a)) :
    Calls Try.prog 50 #[.pointer (some ⟨B, 0, none⟩), (Value.agg #[.int .i64 2, .int .i64 (t : Int), .int .i64 (o : Int), .int .i64 a, .int .i64 r])] w fun e w' => e = .returned (.tuple #[]) ∧ ModT w' B W L (tuS S 2 t o a) ∧ Chg [B, W, L] w w' := by
  have n1 := h.ok.n1
  have m1 := h.ok.m1
  have ho8 : o < 8 := by omega
  have ht8 : t < 8 := by omega
  have i8 : (o : Int) < 8 := by omega
  have j8 : (t : Int) < 8 := by omega
  have x1 := Ext.alloc w (.cells #[Value.int .i64 2, .int .i64 (t : Int), .int .i64 (o : Int), .int .i64 a, .int .i64 r] 36)
  have H1 := hide (h.ext x1)
  have HE := hide (Blk.new w #[Value.int .i64 2, .int .i64 (t : Int), .int .i64 (o : Int), .int .i64 a, .int .i64 r] 36)
  have hne := h.ne
  have hbw := h.bw
  have hbl := h.bl
  have lB := h.b.lt
  have lW := h.wm.lt
  have lL := h.lm.lt
  have HX := hide x1
  have E := hide (show tuS S 2 t o a = inS S t o from rfl)
  have E : Hid (tuS S 2 t o a = { S with own := upd S.own o (t : Int), cnt := upd S.cnt o (S.cnt o + 1) }) := E
  have HK := hide hk
  clear h hk x1
  go_enter Try.func50, Try.ntmps50
  go_wp2_with fail
  generalize w.alloc (.cells #[Value.int .i64 2, .int .i64 (t : Int), .int .i64 (o : Int), .int .i64 a, .int .i64 r] 36) = W0 at *
  have re := (HE.out.ext (Ext.drew W0)).cell
  go_region
  clear re
  have re := (HE.out.ext ((Ext.drew W0).trans (Ext.drew W0.drew))).cell
  have r0 := (HE.out.ext (Ext.drew W0)).cell
  have r1 := H1.out.own ho8
  have r2 := H1.out.cnt ho8
  have f1 := H1.out.b.free (3 + o * 3)
  have f2 := H1.out.b.free (3 + o * 3 + 1)
  have wr : IntKind.i64.wrap (S.cnt o + 1) = S.cnt o + 1 := by have := H1.out.ok.own o; have := H1.out.ok.k1; exact wrapI (by omega) (by omega)
  have b3 := (H1.out.b.set (3 + o * 3) (.int .i64 (t : Int))).set (3 + o * 3 + 1) (.int .i64 (S.cnt o + 1))
  rw [set_own ho8, set_cnt ho8] at b3
  have c3 := ((Chg.refl [B, W, L] W0).set (p := ⟨B, 3 + o * 3, none⟩) (.inl (by simp)) (.int .i64 (t : Int))).set (p := ⟨B, 3 + o * 3 + 1, none⟩) (.inl (by simp)) (.int .i64 (S.cnt o + 1))
  have HB := hide b3
  have HC := hide c3
  clear b3 c3
  generalize S.cnt o = c at *
  go_wp2_with fail
  go_region
  go_wp2_with fail
  go_end0
  have K2 := HK.out
  rw [E.out] at K2 ⊢
  have hz : ∀ v : World, Ext v v.drew.drew := fun v => (Ext.drew v).trans (Ext.drew v.drew)
  exact ⟨rfl, ⟨HB.out.ext (hz _), ((H1.out.wm.set hbw _ _).set hbw _ _).ext (hz _), ((H1.out.lm.set hbl _ _).set hbl _ _).ext (hz _), K2, hne⟩, ((HX.out.chg _).trans HC.out).trans ((hz _).chg _)⟩
theorem turn_3 {w : World} {B W L : Nat} {S : St} (h : ModT w B W L S) {t o : Nat} (a r : Int) (ht : t < S.N) (ho : o < S.M) (hk : Ok (tuS S 3 t o a)) :
    Calls Try.prog 50 #[.pointer (some ⟨B, 0, none⟩), (Value.agg #[.int .i64 3, .int .i64 (t : Int), .int .i64 (o : Int), .int .i64 a, .int .i64 r])] w fun e w' => e = .returned (.tuple #[]) ∧ ModT w' B W L (tuS S 3 t o a) ∧ Chg [B, W, L] w w' := by
  have n1 := h.ok.n1
  have m1 := h.ok.m1
  have ho8 : o < 8 := by omega
  have ht8 : t < 8 := by omega
  have i8 : (o : Int) < 8 := by omega
  have j8 : (t : Int) < 8 := by omega
  have x1 := Ext.alloc w (.cells #[Value.int .i64 3, .int .i64 (t : Int), .int .i64 (o : Int), .int .i64 a, .int .i64 r] 36)
  have H1 := hide (h.ext x1)
  have HE := hide (Blk.new w #[Value.int .i64 3, .int .i64 (t : Int), .int .i64 (o : Int), .int .i64 a, .int .i64 r] 36)
  have hne := h.ne
  have hbw := h.bw
  have hbl := h.bl
  have lB := h.b.lt
  have lW := h.wm.lt
  have lL := h.lm.lt
  have HX := hide x1
  have E := hide (show tuS S 3 t o a = exS S o from rfl)
  have hk3 : Ok (exS S o) := hk
  have HK := hide hk
  clear h hk x1
  go_enter Try.func50, Try.ntmps50
  go_wp2_with fail
  generalize w.alloc (.cells #[Value.int .i64 3, .int .i64 (t : Int), .int .i64 (o : Int), .int .i64 a, .int .i64 r] 36) = W0 at *
  have re := (HE.out.ext (Ext.drew W0)).cell
  go_region
  clear re
  have r0 := (HE.out.ext (Ext.drew W0)).cell
  have c := exit_any (H1.out.ext (Ext.drew W0)) ho8 hk3
  go_wp2_with fail
  refine c.mono ?_
  rintro e w1 ⟨rfl, M1, c1⟩
  go_wp2_with fail
  go_end0
  rw [E.out]
  exact ⟨rfl, M1, (HX.out.chg _).trans ((Chg.drew _ W0).trans c1)⟩
theorem turn_4 {w : World} {B W L : Nat} {S : St} (h : ModT w B W L S) {t o : Nat} (a r : Int) (ht : t < S.N) (ho : o < S.M) (hk : Ok (tuS S 4 t o a)) :
    Calls Try.prog 50 #[.pointer (some ⟨B, 0, none⟩), (Value.agg #[.int .i64 4, .int .i64 (t : Int), .int .i64 (o : Int), .int .i64 a, .int .i64 r])] w fun e w' => e = .returned (.tuple #[]) ∧ ModT w' B W L (tuS S 4 t o a) ∧ Chg [B, W, L] w w' := by
  have n1 := h.ok.n1
  have m1 := h.ok.m1
  have ho8 : o < 8 := by omega
  have ht8 : t < 8 := by omega
  have i8 : (o : Int) < 8 := by omega
  have j8 : (t : Int) < 8 := by omega
  have x1 := Ext.alloc w (.cells #[Value.int .i64 4, .int .i64 (t : Int), .int .i64 (o : Int), .int .i64 a, .int .i64 r] 36)
  have H1 := hide (h.ext x1)
  have HE := hide (Blk.new w #[Value.int .i64 4, .int .i64 (t : Int), .int .i64 (o : Int), .int .i64 a, .int .i64 r] 36)
  have hne := h.ne
  have hbw := h.bw
  have hbl := h.bl
  have lB := h.b.lt
  have lW := h.wm.lt
  have lL := h.lm.lt
  have HX := hide x1
  have E := hide (show tuS S 4 t o a = { S with own := upd S.own o (-1), cnt := upd S.cnt o 0, wt := upd2 S.wt o t (some (S.cnt o)) } from rfl)
  have hd : 0 ≤ (o : Int) ∧ (o : Int) < 8 ∧ 0 ≤ (t : Int) ∧ (t : Int) < 8 := by omega
  have HK := hide hk
  clear h hk x1
  go_enter Try.func50, Try.ntmps50
  go_wp2_with fail
  generalize w.alloc (.cells #[Value.int .i64 4, .int .i64 (t : Int), .int .i64 (o : Int), .int .i64 a, .int .i64 r] 36) = W0 at *
  have re := (HE.out.ext (Ext.drew W0)).cell
  go_region
  clear re
  have hz := (Ext.drew W0).trans (Ext.drew W0.drew)
  have re := (HE.out.ext hz).cell
  have r0 := (HE.out.ext (Ext.drew W0)).cell
  have r35 : W0.drew.drew.cell? ⟨B, 35, none⟩ = some (.map (some W)) := (H1.out.ext hz).c (by omega)
  have r2 := (H1.out.ext hz).cnt ho8
  have r2' := H1.out.cnt ho8
  obtain ⟨v1, k1, M1, c1⟩ := (H1.out.ext hz).wm.update Try.underlying79 hd (rdI_mk (S.cnt o))
  generalize S.cnt o = c at *
  go_wp2_with fail
  go_region
  clear re r0 r35 r2 r2' k1
  have n1 : B ∉ [W] := by simpa using hbw
  have n2 : L ∉ [W] := by simpa using hne.symm
  have c2 := (hz.chg [W]).trans c1
  have b2 := H1.out.b.chg c2 n1
  have M2 := H1.out.lm.chg c2 n2
  have r1 : v1.cell? ⟨B, 3 + o * 3, none⟩ = some (.int .i64 (S.own o)) := by rw [b2.cell, pl_own ho8]
  have r2 : v1.cell? ⟨B, 3 + o * 3 + 1, none⟩ = some (.int .i64 (S.cnt o)) := by rw [b2.cell, pl_cnt ho8]
  have f1 := b2.free (3 + o * 3)
  have f2 := b2.free (3 + o * 3 + 1)
  have b3 := (b2.set (3 + o * 3) (.int .i64 (-1))).set (3 + o * 3 + 1) (.int .i64 0)
  rw [set_own ho8, set_cnt ho8] at b3
  have c3 := ((c2.mono (T' := [B, W, L]) (by simp)).set (p := ⟨B, 3 + o * 3, none⟩) (.inl (by simp)) (.int .i64 (-1))).set (p := ⟨B, 3 + o * 3 + 1, none⟩) (.inl (by simp)) (.int .i64 0)
  have HB := hide b3
  have HC := hide c3
  have HM1 := hide M1
  have HM2 := hide M2
  clear b2 b3 c1 c2 c3 M1 M2
  go_wp2_with fail
  go_end0
  have K2 := HK.out
  rw [E.out] at K2 ⊢
  exact ⟨rfl, ⟨HB.out, (HM1.out.set hbw _ _).set hbw _ _, (HM2.out.set hbl _ _).set hbl _ _, K2, hne⟩, (HX.out.chg _).trans HC.out⟩
theorem turn_7 {w : World} {B W L : Nat} {S : St} (h : ModT w B W L S) {t o : Nat} (a r : Int) (ht : t < S.N) (ho : o < S.M) (ha : 0 ≤ a ∧ a < 8) (hk : Ok (tuS S 7 t o a)) :
    Calls Try.prog 50 #[.pointer (some ⟨B, 0, none⟩), (Value.agg #[.int .i64 7, .int .i64 (t : Int), .int .i64 (o : Int), .int .i64 a, .int .i64 r])] w fun e w' => e = .returned (.tuple #[]) ∧ ModT w' B W L (tuS S 7 t o a) ∧ Chg [B, W, L] w w' := by
  have n1 := h.ok.n1
  have m1 := h.ok.m1
  have ho8 : o < 8 := by omega
  have ht8 : t < 8 := by omega
  have i8 : (o : Int) < 8 := by omega
  have j8 : (t : Int) < 8 := by omega
  have x1 := Ext.alloc w (.cells #[Value.int .i64 7, .int .i64 (t : Int), .int .i64 (o : Int), .int .i64 a, .int .i64 r] 36)
  have H1 := hide (h.ext x1)
  have HE := hide (Blk.new w #[Value.int .i64 7, .int .i64 (t : Int), .int .i64 (o : Int), .int .i64 a, .int .i64 r] 36)
  have hne := h.ne
  have hbw := h.bw
  have hbl := h.bl
  have lB := h.b.lt
  have lW := h.wm.lt
  have lL := h.lm.lt
  have HX := hide x1
  have E := hide (show tuS S 7 t o a = lvS S o a 0 from rfl)
  have hk3 : Ok (lvS S o a 0) := hk
  have hd : 0 ≤ (o : Int) ∧ (o : Int) < 8 ∧ 0 ≤ a ∧ a < 8 := by omega
  have HK := hide hk
  clear h hk x1
  go_enter Try.func50, Try.ntmps50
  go_wp2_with fail
  generalize w.alloc (.cells #[Value.int .i64 7, .int .i64 (t : Int), .int .i64 (o : Int), .int .i64 a, .int .i64 r] 36) = W0 at *
  have re := (HE.out.ext (Ext.drew W0)).cell
  go_region
  clear re
  have r0 := (HE.out.ext (Ext.drew W0)).cell
  have c := leave_any (H1.out.ext (Ext.drew W0)) hd hk3
  go_wp2_with fail
  refine c.mono ?_
  rintro e w1 ⟨rfl, M1, c1⟩
  go_wp2_with fail
  go_end0
  rw [E.out]
  exact ⟨rfl, M1, (HX.out.chg _).trans ((Chg.drew _ W0).trans c1)⟩
theorem turn_10 {w : World} {B W L : Nat} {S : St} (h : ModT w B W L S) {t o : Nat} (a r : Int) (ht : t < S.N) (ho : o < S.M) (hk : Ok (tuS S 10 t o a)) :
    Calls Try.prog 50 #[.pointer (some ⟨B, 0, none⟩), (Value.agg #[.int .i64 10, .int .i64 (t : Int), .int .i64 (o : Int), .int .i64 a, .int .i64 r])] w fun e w' => e = .returned (.tuple #[]) ∧ ModT w' B W L (tuS S 10 t o a) ∧ Chg [B, W, L] w w' := by
  have n1 := h.ok.n1
  have m1 := h.ok.m1
  have ho8 : o < 8 := by omega
  have ht8 : t < 8 := by omega
  have i8 : (o : Int) < 8 := by omega
  have j8 : (t : Int) < 8 := by omega
  have x1 := Ext.alloc w (.cells #[Value.int .i64 10, .int .i64 (t : Int), .int .i64 (o : Int), .int .i64 a, .int .i64 r] 36)
  have H1 := hide (h.ext x1)
  have HE := hide (Blk.new w #[Value.int .i64 10, .int .i64 (t : Int), .int .i64 (o : Int), .int .i64 a, .int .i64 r] 36)
  have hne := h.ne
  have hbw := h.bw
  have hbl := h.bl
  have lB := h.b.lt
  have lW := h.wm.lt
  have lL := h.lm.lt
  have HX := hide x1
  have E := hide (show tuS S 10 t o a = { S with hsh := upd S.hsh o a } from rfl)
  have HK := hide hk
  clear h hk x1
  go_enter Try.func50, Try.ntmps50
  go_wp2_with fail
  generalize w.alloc (.cells #[Value.int .i64 10, .int .i64 (t : Int), .int .i64 (o : Int), .int .i64 a, .int .i64 r] 36) = W0 at *
  have re := (HE.out.ext (Ext.drew W0)).cell
  go_region
  clear re
  have r0 := (HE.out.ext (Ext.drew W0)).cell
  have r1 := (H1.out.ext (Ext.drew W0)).hsh ho8
  have f1 := (H1.out.ext (Ext.drew W0)).b.free (3 + o * 3 + 2)
  have b3 := (H1.out.ext (Ext.drew W0)).b.set (3 + o * 3 + 2) (.int .i64 a)
  rw [set_hsh ho8] at b3
  have c3 := (Chg.drew [B, W, L] W0).set (p := ⟨B, 3 + o * 3 + 2, none⟩) (.inl (by simp)) (.int .i64 a)
  have HB := hide b3
  have HC := hide c3
  clear b3 c3
  go_wp2_with fail
  go_end0
  have K2 := HK.out
  rw [E.out] at K2 ⊢
  exact ⟨rfl, ⟨HB.out, ((H1.out.ext (Ext.drew W0)).wm.set hbw _ _), ((H1.out.ext (Ext.drew W0)).lm.set hbl _ _), K2, hne⟩, (HX.out.chg _).trans HC.out⟩
theorem turn_12 {w : World} {B W L : Nat} {S : St} (h : ModT w B W L S) {t o : Nat} (s : Nat) (r : Int) (ht : t < S.N) (ho : o < S.M) (hs8 : s < 8) (hk : Ok (tuS S 12 t o (s : Int))) :
    Calls Try.prog 50 #[.pointer (some ⟨B, 0, none⟩), (Value.agg #[.int .i64 12, .int .i64 (t : Int), .int .i64 (o : Int), .int .i64 (s : Int), .int .i64 r])] w fun e w' => e = .returned (.tuple #[]) ∧ ModT w' B W L (tuS S 12 t o (s : Int)) ∧ Chg [B, W, L] w w' := by
  have n1 := h.ok.n1
  have m1 := h.ok.m1
  have ho8 : o < 8 := by omega
  have ht8 : t < 8 := by omega
  have i8 : (o : Int) < 8 := by omega
  have j8 : (t : Int) < 8 := by omega
  have x1 := Ext.alloc w (.cells #[Value.int .i64 12, .int .i64 (t : Int), .int .i64 (o : Int), .int .i64 (s : Int), .int .i64 r] 36)
  have H1 := hide (h.ext x1)
  have HE := hide (Blk.new w #[Value.int .i64 12, .int .i64 (t : Int), .int .i64 (o : Int), .int .i64 (s : Int), .int .i64 r] 36)
  have hne := h.ne
  have hbw := h.bw
  have hbl := h.bl
  have lB := h.b.lt
  have lW := h.wm.lt
  have lL := h.lm.lt
  have HX := hide x1
  have E := hide (show tuS S 12 t o (s : Int) = { S with flg := upd S.flg s true } from rfl)
  have s8 : (s : Int) < 8 := by omega
  have HK := hide hk
  clear h hk x1
  go_enter Try.func50, Try.ntmps50
  go_wp2_with fail
  generalize w.alloc (.cells #[Value.int .i64 12, .int .i64 (t : Int), .int .i64 (o : Int), .int .i64 (s : Int), .int .i64 r] 36) = W0 at *
  have re := (HE.out.ext (Ext.drew W0)).cell
  go_region
  clear re
  have re := (HE.out.ext ((Ext.drew W0).trans (Ext.drew W0.drew))).cell
  have r0 := (HE.out.ext (Ext.drew W0)).cell
  have r1 := H1.out.flg hs8
  have f1 := H1.out.b.free (27 + s)
  have b3 := H1.out.b.set (27 + s) (.bool true)
  rw [set_flg hs8] at b3
  have c3 := (Chg.refl [B, W, L] W0).set (p := ⟨B, 27 + s, none⟩) (.inl (by simp)) (.bool true)
  have HB := hide b3
  have HC := hide c3
  clear b3 c3
  go_wp2_with fail
  go_region
  go_wp2_with fail
  go_end0
  have K2 := HK.out
  rw [E.out] at K2 ⊢
  have hz : ∀ v : World, Ext v v.drew.drew := fun v => (Ext.drew v).trans (Ext.drew v.drew)
  exact ⟨rfl, ⟨HB.out.ext (hz _), (H1.out.wm.set hbw _ _).ext (hz _), (H1.out.lm.set hbl _ _).ext (hz _), K2, hne⟩, ((HX.out.chg _).trans HC.out).trans ((hz _).chg _)⟩
theorem turn_o {w : World} {B W L : Nat} {S : St} (h : ModT w B W L S) (k : Int) {t o : Nat} (a r : Int) (ht : t < S.N) (ho : o < S.M) (hq : ¬ (k = 1 ∨ k = 2 ∨ k = 3 ∨ k = 4 ∨ k = 7 ∨ k = 10 ∨ k = 12)) (hk : Ok (tuS S k t o a)) :
    Calls Try.prog 50 #[.pointer (some ⟨B, 0, none⟩), (Value.agg #[.int .i64 k, .int .i64 (t : Int), .int .i64 (o : Int), .int .i64 a, .int .i64 r])] w fun e w' => e = .returned (.tuple #[]) ∧ ModT w' B W L (tuS S k t o a) ∧ Chg [B, W, L] w w' := by
  have n1 := h.ok.n1
  have m1 := h.ok.m1
  have ho8 : o < 8 := by omega
  have ht8 : t < 8 := by omega
  have i8 : (o : Int) < 8 := by omega
  have j8 : (t : Int) < 8 := by omega
  have x1 := Ext.alloc w (.cells #[Value.int .i64 k, .int .i64 (t : Int), .int .i64 (o : Int), .int .i64 a, .int .i64 r] 36)
  have H1 := hide (h.ext x1)
  have HE := hide (Blk.new w #[Value.int .i64 k, .int .i64 (t : Int), .int .i64 (o : Int), .int .i64 a, .int .i64 r] 36)
  have hne := h.ne
  have hbw := h.bw
  have hbl := h.bl
  have lB := h.b.lt
  have lW := h.wm.lt
  have lL := h.lm.lt
  have HX := hide x1
  have E := hide (show tuS S k t o a = S by unfold tuS; rw [if_neg (by omega), if_neg (by omega), if_neg (by omega), if_neg (by omega), if_neg (by omega), if_neg (by omega)])
  have p1 : (k == 1) = false := by simp; omega
  have p2 : (k == 2) = false := by simp; omega
  have p3 : (k == 3) = false := by simp; omega
  have p4 : (k == 4) = false := by simp; omega
  have p7 : (k == 7) = false := by simp; omega
  have p10 : (k == 10) = false := by simp; omega
  have p12 : (k == 12) = false := by simp; omega
  have HK := hide hk
  clear h hk x1
  go_enter Try.func50, Try.ntmps50
  go_wp2_with fail
  generalize w.alloc (.cells #[Value.int .i64 k, .int .i64 (t : Int), .int .i64 (o : Int), .int .i64 a, .int .i64 r] 36) = W0 at *
  have re := (HE.out.ext (Ext.drew W0)).cell
  go_region
  clear re
  have r0 := (HE.out.ext (Ext.drew W0)).cell
  go_wp2_with fail
  go_end0
  rw [E.out]
  exact ⟨rfl, H1.out.ext (Ext.drew W0), (HX.out.chg _).trans (Chg.drew _ W0)⟩
theorem turn_any {w : World} {B W L : Nat} {S : St} (h : ModT w B W L S) (k : Int) {t o : Nat} (a r : Int) (ht : t < S.N) (ho : o < S.M) (h7 : k = 7 → 0 ≤ a ∧ a < 8) (h12 : k = 12 → 0 ≤ a ∧ a < 8) (hk : Ok (tuS S k t o a)) :
    Calls Try.prog 50 #[.pointer (some ⟨B, 0, none⟩), (Value.agg #[.int .i64 k, .int .i64 (t : Int), .int .i64 (o : Int), .int .i64 a, .int .i64 r])] w fun e w' => e = .returned (.tuple #[]) ∧ ModT w' B W L (tuS S k t o a) ∧ Chg [B, W, L] w w' := by
  by_cases q : k = 1 ∨ k = 2 ∨ k = 3 ∨ k = 4 ∨ k = 7 ∨ k = 10 ∨ k = 12
  · rcases q with rfl | rfl | rfl | rfl | rfl | rfl | rfl
    · exact turn_1 h a r ht ho hk
    · exact turn_2 h a r ht ho hk
    · exact turn_3 h a r ht ho hk
    · exact turn_4 h a r ht ho hk
    · exact turn_7 h a r ht ho (h7 rfl) hk
    · exact turn_10 h a r ht ho hk
    · obtain ⟨s, rfl⟩ := Int.eq_ofNat_of_zero_le (h12 rfl).1
      exact turn_12 h s r ht ho (by have := h12 rfl; omega) hk
  · exact turn_o h k a r ht ho q hk
theorem do_any {w : World} {B W L : Nat} {S : St} (h : ModT w B W L S) (k : Int) {t o : Nat} (a r : Int) (ht : t < S.N) (ho : o < S.M) (h7 : k = 7 → r = 0 → 0 ≤ a ∧ a < 8) (h12 : k = 12 → r = 0 → 0 ≤ a ∧ a < 8) (hk : Ok (doS S k t o a r)) :
    Calls Try.prog 33 #[.pointer (some ⟨B, 0, none⟩), (Value.agg #[.int .i64 k, .int .i64 (t : Int), .int .i64 (o : Int), .int .i64 a, .int .i64 r])] w fun e w' => e = .returned (.tuple #[]) ∧ ModT w' B W L (doS S k t o a r) ∧ Chg [B, W, L] w w' := by
  have n1 := h.ok.n1
  have m1 := h.ok.m1
  have ho8 : o < 8 := by omega
  have ht8 : t < 8 := by omega
  have i8 : (o : Int) < 8 := by omega
  have j8 : (t : Int) < 8 := by omega
  have hd : 0 ≤ (o : Int) ∧ (o : Int) < 8 ∧ 0 ≤ (t : Int) ∧ (t : Int) < 8 := by omega
  have x1 := Ext.alloc w (.cells #[Value.int .i64 k, .int .i64 (t : Int), .int .i64 (o : Int), .int .i64 a, .int .i64 r] 36)
  have H1 := hide (h.ext x1)
  have HE := hide (Blk.new w #[Value.int .i64 k, .int .i64 (t : Int), .int .i64 (o : Int), .int .i64 a, .int .i64 r] 36)
  have hbw := h.bw
  have hbl := h.bl
  have hne := h.ne
  have lB := h.b.lt
  have HX := hide x1
  by_cases k5 : k = 5
  · subst k5
    have E := hide (show doS S 5 t o a r = lvS S o t r from rfl)
    have c := leave_any (h.ext x1) hd (by have := hk; rwa [E.out] at this)
    rw [E.out]
    clear h hk x1 h7 h12 E
    go_enter Try.func33, Try.ntmps33
    go_wp2_with fail
    refine c.mono ?_
    rintro e w1 ⟨rfl, M1, c1⟩
    go_wp2_with fail
    go_end0
    exact ⟨rfl, M1, (HX.out.chg _).trans c1⟩
  by_cases k6 : k = 6
  · subst k6
    have E := hide (show doS S 6 t o a r = enS S t o r from rfl)
    have c := end_any (h.ext x1) 6 a r ht ho (by have := hk; rwa [E.out] at this)
    rw [E.out]
    clear h hk x1 h7 h12 E
    go_enter Try.func33, Try.ntmps33
    go_wp2_with fail
    refine c.mono ?_
    rintro e w1 ⟨rfl, M1, c1⟩
    go_wp2_with fail
    go_end0
    exact ⟨rfl, M1, (HX.out.chg _).trans c1⟩
  have p5 : (k == 5) = false := by simp; omega
  have p6 : (k == 6) = false := by simp; omega
  by_cases r12 : r = 12
  · subst r12
    have E := hide (show doS S k t o a 12 = { S with flg := upd S.flg t false } by unfold doS; rw [if_neg k5, if_neg k6, if_pos rfl]; rfl)
    have HK := hide hk
    clear h hk x1 h7 h12
    go_enter Try.func33, Try.ntmps33
    go_wp2_with fail
    generalize w.alloc (.cells #[Value.int .i64 k, .int .i64 (t : Int), .int .i64 (o : Int), .int .i64 a, .int .i64 12] 36) = W0 at *
    have re := (HE.out.ext (Ext.drew W0)).cell
    have r1 := H1.out.flg ht8
    have f1 := H1.out.b.free (27 + t)
    have b3 := H1.out.b.set (27 + t) (.bool false)
    rw [set_flg ht8] at b3
    have c3 := (Chg.refl [B, W, L] W0).set (p := ⟨B, 27 + t, none⟩) (.inl (by simp)) (.bool false)
    have HB := hide b3
    have HC := hide c3
    clear b3 c3
    go_region
    go_wp2_with fail
    go_end0
    have K2 := HK.out
    rw [E.out] at K2 ⊢
    exact ⟨rfl, ⟨HB.out.ext (Ext.drew _), (H1.out.wm.set hbw _ _).ext (Ext.drew _), (H1.out.lm.set hbl _ _).ext (Ext.drew _), K2, hne⟩, ((HX.out.chg _).trans HC.out).trans (Chg.drew _ _)⟩
  by_cases r0 : r = 0
  · subst r0
    have E := hide (show doS S k t o a 0 = tuS S k t o a by unfold doS; rw [if_neg k5, if_neg k6, if_neg (by omega), if_pos rfl])
    have c := turn_any (h.ext x1) k a 0 ht ho (fun q => h7 q rfl) (fun q => h12 q rfl) (by have := hk; rwa [E.out] at this)
    rw [E.out]
    clear h hk x1 h7 h12 E
    go_enter Try.func33, Try.ntmps33
    go_wp2_with fail
    refine c.mono ?_
    rintro e w1 ⟨rfl, M1, c1⟩
    go_wp2_with fail
    go_end0
    exact ⟨rfl, M1, (HX.out.chg _).trans c1⟩
  · have E := hide (show doS S k t o a r = S by unfold doS; rw [if_neg k5, if_neg k6, if_neg r12, if_neg r0])
    have q12 : (r == 12) = false := by simp; omega
    have q0 : (r == 0) = false := by simp; omega
    clear h hk x1 h7 h12
    go_enter Try.func33, Try.ntmps33
    go_wp2_with fail
    go_end0
    rw [E.out]
    exact ⟨rfl, H1.out, HX.out.chg _⟩
end Go.Proofs.Ytpielknodjppgaa
