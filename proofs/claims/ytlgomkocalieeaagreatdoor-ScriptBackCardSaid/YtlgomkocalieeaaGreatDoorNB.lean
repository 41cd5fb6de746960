/- A machine without threads: its making. -/
import Derived.Test.YtlgomkocalieeaaGreatDoorNA
import Derived.Laws.EntriesVeiled
namespace Go.Proofs.YtlgomkocalieeaaGreatDoor
open Go.RowKit
set_option linter.unusedSimpArgs false
set_option linter.unusedVariables false
set_option maxRecDepth 100000
set_option maxHeartbeats 4000000

theorem without_w (x : Cf) (w : World) (hm : mayC x = true) (hd0 : 0 ≤ x.d) (hd1 : x.d < 18446744073709551616) :
    Calls Tryz.prog 41 #[.agg #[.int .i64 x.t, .int .i64 x.o, .int .i64 x.c, .int .i64 x.s, .int .i64 x.p, .int .i64 x.n, .int .u8 x.b, .int .i64 x.r, .int .i64 x.v, .int .u64 x.d]] w fun e w' => ∃ M D, e = .returned (.pointer (some ⟨M, 0, none⟩)) ∧ MK w.heap.size w' x M (.slice none 0 0) D ∧ Ext w w' := by
  have hx := may_n hm
  clear hm
  obtain ⟨t, o, cc, s, p, n, b, r, v, d⟩ := x
  simp only at hx hd0 hd1
  obtain ⟨d, rfl⟩ := Int.eq_ofNat_of_zero_le hd0
  obtain ⟨t, rfl⟩ := Int.eq_ofNat_of_zero_le (show 0 ≤ t by omega)
  obtain ⟨o, rfl⟩ := Int.eq_ofNat_of_zero_le (show 0 ≤ o by omega)
  obtain ⟨n, rfl⟩ := Int.eq_ofNat_of_zero_le (show 0 ≤ n by omega)
  have HX := hide hx
  have hb := Blk.new w #[.int .i64 t, .int .i64 o, .int .i64 cc, .int .i64 s, .int .i64 p, .int .i64 n, .int .u8 b, .int .i64 r, .int .i64 v, .int .u64 d] 24
  have hX0 := Ext.alloc w (.cells #[.int .i64 t, .int .i64 o, .int .i64 cc, .int .i64 s, .int .i64 p, .int .i64 n, .int .u8 b, .int .i64 r, .int .i64 v, .int .u64 d] 24)
  have hok : Mo.okN (t : Int) (o : Int) (n : Int) = true := by
    simp only [Mo.okN_eq, Mo.witB, Bool.and_eq_true, decide_eq_true_eq]
    omega
  clear hx
  go_enter Tryz.func41, Tryz.ntmps41
  go_wp2_with fail
  refine (Ce.new_in 128 _ (by omega) (by omega)).mono ?_
  rintro e w1 ⟨Mm, Mv, rfl, hmem, hm1, hm2, hx1⟩
  have HX1 := hide (hX0.trans hx1)
  have hb := hb.ext hx1
  have hc := hb.cell
  clear hX0 hx1
  go_wp2_with fail
  refine (gnew_w hok _).mono ?_
  rintro e w2 ⟨p2, rfl, hx2⟩
  have HX2 := hide (HX1.out.trans hx2)
  have hb := hb.ext hx2
  have hc := hb.cell
  have hmem := hmem.ext hx2
  clear hx2 HX1
  have hxo := HX.out
  go_wp2_with fail
  refine (snew_w _ (by omega) (by omega) (by omega) (by omega)).mono ?_
  rintro e w3 ⟨p3, rfl, hx3⟩
  have HX3 := hide (HX2.out.trans hx3)
  have hb := hb.ext hx3
  have hc := hb.cell
  have hmem := hmem.ext hx3
  clear hx3 HX2
  go_wp2_with fail
  refine (pnew_w t _ (by omega) (by omega)).mono ?_
  rintro e w4 ⟨p4, rfl, hx4⟩
  have HX4 := hide (HX3.out.trans hx4)
  have hb := hb.ext hx4
  have hc := hb.cell
  have hmem := hmem.ext hx4
  have HX4s := hide HX4.out.size
  clear hx4 HX3
  go_wp2_with fail
  refine (Sf.new_in t _ (by omega) (by omega)).mono ?_
  rintro e w5 ⟨Sm, Sv, rfl, hmt, hs1, hs2, hx5⟩
  have HX5 := hide (HX4.out.trans hx5)
  have hb := hb.ext hx5
  have hmem := hmem.ext hx5
  have hc : ∀ w', Ext w5 w' → ∀ i, w'.cell? ⟨w.heap.size, i, none⟩ = (#[.int .i64 (t : Int), .int .i64 (o : Int), .int .i64 cc, .int .i64 s, .int .i64 p, .int .i64 (n : Int), .int .u8 b, .int .i64 r, .int .i64 v, .int .u64 (d : Int)] : Array Value)[i]? := hb.rule
  clear hx5 HX4
  have hW := Ext.refl w5
  go_wp2_with fail
  go_region_held3 (fun w' => w'.cell? ⟨w.heap.size, 0, none⟩ = some (.int .i64 (t : Int)) ∧ w'.cell? ⟨w.heap.size, 1, none⟩ = some (.int .i64 (o : Int)) ∧ w'.cell? ⟨w.heap.size, 2, none⟩ = some (.int .i64 cc) ∧ w'.cell? ⟨w.heap.size, 3, none⟩ = some (.int .i64 s) ∧ w'.cell? ⟨w.heap.size, 4, none⟩ = some (.int .i64 p) ∧ w'.cell? ⟨w.heap.size, 5, none⟩ = some (.int .i64 (n : Int)) ∧ w'.cell? ⟨w.heap.size, 6, none⟩ = some (.int .u8 b) ∧ w'.cell? ⟨w.heap.size, 7, none⟩ = some (.int .i64 r) ∧ w'.cell? ⟨w.heap.size, 8, none⟩ = some (.int .i64 v) ∧ w'.cell? ⟨w.heap.size, 9, none⟩ = some (.int .u64 (d : Int))) (first | exact cfg10 (hb.ext hW) | exact cfg10 (hb.ext (hW.trans (Ext.drew _))) | exact cfg10 (hb.ext (hW.trans (Ext.alloc _ _))))
    (first
      | (go_at_call 60; refine (Dr.new_any d _ (by unfold Dr.two64; omega)).mono ?_; rintro e w6 ⟨Ds, rfl, hsrc, hds, hx⟩; have hW := Ext.trans2 hW (by repeat (first | exact Ext.refl _ | exact Ext.alloc _ _ | exact Ext.drewN _ _ | assumption | refine Ext.trans ?_ (Ext.alloc _ _) | refine Ext.trans ?_ (Ext.drew _) | refine Ext.trans ?_ (by assumption))) hx; clear hx)
      | (go_at_call 61; refine (unew_w _).mono ?_; rintro e w7 ⟨p7, rfl, hx⟩; have hsrc := hsrc.ext hx; have hW := Ext.trans2 hW (by repeat (first | exact Ext.refl _ | exact Ext.alloc _ _ | exact Ext.drewN _ _ | assumption | refine Ext.trans ?_ (Ext.alloc _ _) | refine Ext.trans ?_ (Ext.drew _) | refine Ext.trans ?_ (by assumption))) hx; clear hx)
      | (go_at_call 62; refine (tnew_w _).mono ?_; rintro e w8 ⟨p8, rfl, hx⟩; have hsrc := hsrc.ext hx; have hW := Ext.trans2 hW (by repeat (first | exact Ext.refl _ | exact Ext.alloc _ _ | exact Ext.drewN _ _ | assumption | refine Ext.trans ?_ (Ext.alloc _ _) | refine Ext.trans ?_ (Ext.drew _) | refine Ext.trans ?_ (by assumption))) hx; clear hx)
      | (go_at_call 63; refine (vnew_w _).mono ?_; rintro e w9 ⟨p9, rfl, hx⟩; have hsrc := hsrc.ext hx; have hW := Ext.trans2 hW (by repeat (first | exact Ext.refl _ | exact Ext.alloc _ _ | exact Ext.drewN _ _ | assumption | refine Ext.trans ?_ (Ext.alloc _ _) | refine Ext.trans ?_ (Ext.drew _) | refine Ext.trans ?_ (by assumption))) hx; clear hx))
  simp only [mq_eq]
  have hM := Blk.new w9 (mq t o cc s p n b r v d (.slice none 0 0) (.slice none 0 0) (.int .u32 0) (some ⟨Mm, 0, none⟩) p2 (some ⟨Ds, 0, none⟩) p3 p7 p4 p8 (some ⟨Sm, 0, none⟩) p9) 107
  have hxa := Ext.alloc w9 (.cells (mq t o cc s p n b r v d (.slice none 0 0) (.slice none 0 0) (.int .u32 0) (some ⟨Mm, 0, none⟩) p2 (some ⟨Ds, 0, none⟩) p3 p7 p4 p8 (some ⟨Sm, 0, none⟩) p9) 107)
  have hsz : w5.heap.size ≤ w9.heap.size := hW.size
  have hsrc := Blk.ext hsrc hxa
  have hmem := (hmem.ext hW).ext hxa
  have hmt := (hmt.ext hW).ext hxa
  have hb := (hb.ext hW).ext hxa
  have hXA := (HX5.out.trans hW).trans hxa
  have hms : w.heap.size ≤ w9.heap.size := (HX5.out.trans hW).size
  have hMB : w.heap.size ≤ w9.heap.size := hms
  clear hc hsz hms
  generalize w9.alloc (.cells (mq (t : Int) (o : Int) cc s p (n : Int) b r v (d : Int) (.slice none 0 0) (.slice none 0 0) (.int .u32 0) (some ⟨Mm, 0, none⟩) p2 (some ⟨Ds, 0, none⟩) p3 p7 p4 p8 (some ⟨Sm, 0, none⟩) p9) 107) = wA at *
  generalize w9.heap.size = M at *
  have hq := mq_at hM
  obtain ⟨q1, q2, q10, q11, q13, q14, q15, q20⟩ := hq
  have hfr := hM.free
  go_wp2_with fail
  refine (Dr.hash_any Ds _ _ _ (Dr.beg_lt (by unfold Dr.two64; omega)) (Dr.beg_ne _) (by omega) hsrc).mono ?_
  rintro e wB ⟨rfl, -, hcB⟩
  have hdm : M ∉ [Ds] := by simp; rintro rfl; exact absurd (hsrc.type hM) (by decide)
  have hK : Kp [107, 145, 186] w.heap.size wA wB := hcB.kp (fun k hk => by rw [List.mem_singleton.1 hk]; exact ⟨by have := HX5.out.size; simp at hds; omega, fun _ => ⟨_, _, hsrc, by decide⟩⟩)
  have hM := hM.chg hcB hdm
  have hsrc := trivial
  clear q1 q2 q10 q11 q13 q14 q15 q20 hfr hdm hcB
  obtain ⟨q1, q2, q10, q11, q13, q14, q15, q20⟩ := mq_at hM
  have hfr := hM.free
  have hM2 := hM.set 15 (.int .u32 (Dr.hsh (Dr.beg d) : Int))
  rw [mq_15] at hM2
  have hK2 := hK.trans (Kp.cell (j := 15) (u := .int .u32 (Dr.hsh (Dr.beg d) : Int)) hM hMB (by decide))
  generalize (Dr.hsh (Dr.beg d) : Int) = ha at *
  have HB := hide hb
  have HM2 := hide hM2
  have HK2 := hide hK2
  have rr : wB.cell? ⟨w.heap.size, 2, none⟩ = some (.int .i64 cc) := (hK.blk hb (by decide)).cell 2
  have hne : ¬ w.heap.size = M := by rintro rfl; exact absurd ((hK.blk hb (by decide)).type hM) (by decide)
  clear hb hM2 hM hK
  go_wp2_with fail
  clear q1 q2 q10 q11 q13 q14 q15 q20 hfr rr hne hK2
  generalize wB.setCell ⟨M, 15, none⟩ (.int .u32 ha) = wC at *
  obtain ⟨C, rfl⟩ := Int.eq_ofNat_of_zero_le (show 0 ≤ cc by have := HX.out; omega)
  have hC4 : C ≤ 4 := by have := HX.out; omega
  clear hxo
  go_loopw [73] (fun i wr => ∃ (j : Nat) (cv : Value) (bs : List Bool), j ≤ C ∧ i = .int .i64 (j : Int) ∧ bs.length = j ∧ Blk wr M (mq (t : Int) (o : Int) (C : Int) s p (n : Int) b r v (d : Int) (.slice none 0 0) cv (.int .u32 ha) (some ⟨Mm, 0, none⟩) p2 (some ⟨Ds, 0, none⟩) p3 p7 p4 p8 (some ⟨Sm, 0, none⟩) p9) 107 ∧ wr.ownsRow w.heap.size 145 3 cv j (clsC bs) ∧ Kp [107, 145, 186] w.heap.size wA wr) (fun i _ => C - (intOf i).toNat)
  case atStart => exact ⟨0, _, [], by omega, rfl, rfl, HM2.out, own_nil _ _ _ _, HK2.out⟩
  case round =>
    obtain ⟨j, cv, bs, hj, rfl, hbs, hM2, hrow, hK⟩ := hrel
    by_cases hlt : j < C
    · have HR := hide hrow
      have HM3 := hide hM2
      have HK := hide hK
      have hX := Ext.refl wr
      have S0 : ∀ w', Ext wr w' → w'.cell? ⟨M, 13, none⟩ = some cv ∧ w'.cell? ⟨w.heap.size, 6, none⟩ = some (.int .u8 b) := fun w' x => ⟨(mq_at (HM3.out.ext x)).2.2.2.2.1, ((HK.out.blk HB.out (by decide)).ext x).cell 6⟩
      obtain ⟨A3, c3, rfl⟩ := own_sl hrow
      clear hM2 hrow hK
      have hj0 : ¬ (j : Int) < 0 := by omega
      have hwz : w.heap.size ≤ wr.heap.size := Nat.le_trans hXA.size HK.out.size
      have HB3 := hide (HK.out.blk HB.out (by decide))
      have r3 := (S0 _ (Ext.refl wr)).1
      have r6 := (S0 _ (Ext.refl wr)).2
      have r5 := fun y => (S0 _ ((Ext.alloc wr (.cells #[.bool y, .int .u8 0, .int .i64 0] 145)))).1
      clear S0
      go_wp2_with fail
      go_region_law (refine step_app3 (base := w.heap.size) rfl _ _ 89 rfl Tryz.underlying89 inf_cls rfl (by omega) (v := .slice A3 j c3) (n := j) (xs := clsC bs) rfl (own_ext HR.out (by repeat (first | exact Ext.refl _ | exact Ext.alloc _ _ | exact Ext.drew _ | refine Ext.trans ?_ (Ext.alloc _ _) | refine Ext.trans ?_ (Ext.drew _)))) (by simp; omega) (m := 1) (c := 1) rfl ?_ (news_new _ _ _) ?_ (by unfold maxLen; omega) (by omega) ?_; rfl; (simp [Value.oneCell']); intro A4 c4 wD hown4 hg4 hk4; have k4 := Kp.of_grow (ts := [145]) hg4 (own_ext HR.out (by repeat (first | exact Ext.refl _ | exact Ext.alloc _ _ | exact Ext.drew _ | refine Ext.trans ?_ (Ext.alloc _ _) | refine Ext.trans ?_ (Ext.drew _)))) (by simp); have HM4 := hide (k4.blk (HM3.out.ext (by repeat (first | exact Ext.refl _ | exact Ext.alloc _ _ | exact Ext.drew _ | refine Ext.trans ?_ (Ext.alloc _ _) | refine Ext.trans ?_ (Ext.drew _)))) (by decide)); have HK4 := hide ((HK.out.trans (Ext.kp (w := wr) (by repeat (first | exact Ext.refl _ | exact Ext.alloc _ _ | exact Ext.drew _ | refine Ext.trans ?_ (Ext.alloc _ _) | refine Ext.trans ?_ (Ext.drew _))) [107, 145, 186] w.heap.size)).trans (k4.mono (by simp))); have g4 := (mq_at HM4.out).2.2.2.2.1; have f4 := HM4.out.free 13)
      all_goals
        clear r3 r5 r6 g4 f4
        go_wp2_with fail
        go_roundw
        case rel => exact ⟨j + 1, _, bs ++ [(bits .and .u8 (b / 2 ^ j) 1 == 1)], by omega, by go_num, by rw [List.length_append, hbs]; rfl, by rw [← mq_13]; exact HM4.out.set 13 _, by rw [clsC_app]; exact (Kp.cell HM4.out hMB (by simp) : Kp [107] w.heap.size wD _).own hown4 (by decide), HK4.out.trans (Kp.cell HM4.out hMB (by decide))⟩
        case measure => simp [intOf]; omega
    · obtain rfl : j = C := by omega
      have h3 : ¬ (j : Int) < (j : Int) := by omega
      have hk0 : Kp [107, 145, 186] w.heap.size wA wr := hK
      have hfin : MK w.heap.size wr ⟨(t : Int), (o : Int), (j : Int), s, p, (n : Int), b, r, v, (d : Int)⟩ M (.slice none 0 0) ⟨Mm, Mv, Sm, Sv, cv, ha, p2, p3, p4, p7, p8, p9, some ⟨Ds, 0, none⟩⟩ :=
        ⟨hM2, hMB, ⟨0, Ce.zeros 128, by simp [Ce.zeros], memT_kp hmem hk0 (by decide) (by decide)⟩, ⟨show w.heap.size ≤ Mm by simp only [World.size_alloc] at hm1; omega, show w.heap.size ≤ Mv by simp only [World.size_alloc] at hm2; omega⟩, ⟨_, mt_kp hmt hk0 (by decide) (by decide)⟩, ⟨Nat.le_trans HX4s.out hs1, Nat.le_trans HX4s.out hs2⟩, ⟨bs, hbs, hrow⟩⟩
      have HFIN := hide hfin
      have hEX := hide (hk0.ext hXA (Nat.le_refl _))
      clear hfin hM2 hrow hK hmem hmt
      go_wp2_with fail
      go_ret
      exact ⟨M, rfl, ⟨_, HFIN.out⟩, hEX.out⟩
end Go.Proofs.YtlgomkocalieeaaGreatDoor

namespace Go.Proofs.YtlgomkocalieeaaGreatDoor
open Go.RowKit
set_option linter.unusedSimpArgs false
set_option linter.unusedVariables false
set_option maxRecDepth 100000
set_option maxHeartbeats 4000000

abbrev GlobW (w : World) : Prop := Wd.Glob w
theorem header_w (b : Bool) (w : World) (hG : GlobW w) :
    Calls Tryz.prog 74 #[.agg #[.bool b, .int .u8 0, .int .i64 0]] w fun x w' => ∃ u : Int, x = .returned (.int .u64 u) ∧ Ext w w' := by
  cases b
  · obtain ⟨c1, c2⟩ := Wd.code_n
    have b := Wd.okZ 2
    go_enter Tryz.func74, Tryz.ntmps74
    go_wp2_with fail
    have hX := fun w' (h : Ext (w.alloc (Obj.cells #[.bool false, .int .u8 0, .int .i64 0] 145)) w') => h.boxCell
    have hXf := fun w' (h : Ext (w.alloc (Obj.cells #[.bool false, .int .u8 0, .int .i64 0] 145)) w') => h.boxFree
    have hX0 : Ext w (w.alloc (Obj.cells #[.bool false, .int .u8 0, .int .i64 0] 145)) := Ext.alloc _ _
    generalize w.alloc (Obj.cells #[.bool false, .int .u8 0, .int .i64 0] 145) = W0 at *
    have hW := Ext.refl W0
    go_wp2_with ((go_at_call 87; (with_reducible refine (Wd.code_any _ _ _ _ _ _ _ _ _ (hG.ext (hX0.trans (Ext.alloc _ _))) b).mono ?_); rintro e w' ⟨rfl, hb⟩; have hW := Ext.trans2 hW (by repeat (first | exact Ext.refl _ | exact Ext.alloc _ _ | exact Ext.drewN _ _ | assumption | refine Ext.trans ?_ (Ext.alloc _ _) | refine Ext.trans ?_ (Ext.drew _) | refine Ext.trans ?_ (by assumption))) hb; (try have hV := Ext.trans2 hV (by repeat (first | exact Ext.refl _ | exact Ext.alloc _ _ | exact Ext.drewN _ _ | assumption | refine Ext.trans ?_ (Ext.alloc _ _) | refine Ext.trans ?_ (Ext.drew _) | refine Ext.trans ?_ (by assumption))) hb); clear hb))
    go_ret
    exact ⟨_, rfl, (hX0.trans (hW.trans (by repeat (first | exact Ext.refl _ | exact Ext.alloc _ _ | exact Ext.drewN _ _ | assumption | refine Ext.trans ?_ (Ext.alloc _ _) | refine Ext.trans ?_ (Ext.drew _) | refine Ext.trans ?_ (by assumption)))))⟩
  · obtain ⟨c1, c2⟩ := Wd.code_b (e := 0) (by omega) (by omega)
    have b := Wd.ok_b (e := 0) (by omega) (by omega)
    go_enter Tryz.func74, Tryz.ntmps74
    go_wp2_with fail
    have hX := fun w' (h : Ext (w.alloc (Obj.cells #[.bool true, .int .u8 0, .int .i64 0] 145)) w') => h.boxCell
    have hXf := fun w' (h : Ext (w.alloc (Obj.cells #[.bool true, .int .u8 0, .int .i64 0] 145)) w') => h.boxFree
    have hX0 : Ext w (w.alloc (Obj.cells #[.bool true, .int .u8 0, .int .i64 0] 145)) := Ext.alloc _ _
    generalize w.alloc (Obj.cells #[.bool true, .int .u8 0, .int .i64 0] 145) = W0 at *
    have hW := Ext.refl W0
    go_wp2_with ((go_at_call 87; (with_reducible refine (Wd.code_any _ _ _ _ _ _ _ _ _ (hG.ext (hX0.trans (Ext.alloc _ _))) b).mono ?_); rintro e w' ⟨rfl, hb⟩; have hW := Ext.trans2 hW (by repeat (first | exact Ext.refl _ | exact Ext.alloc _ _ | exact Ext.drewN _ _ | assumption | refine Ext.trans ?_ (Ext.alloc _ _) | refine Ext.trans ?_ (Ext.drew _) | refine Ext.trans ?_ (by assumption))) hb; (try have hV := Ext.trans2 hV (by repeat (first | exact Ext.refl _ | exact Ext.alloc _ _ | exact Ext.drewN _ _ | assumption | refine Ext.trans ?_ (Ext.alloc _ _) | refine Ext.trans ?_ (Ext.drew _) | refine Ext.trans ?_ (by assumption))) hb); clear hb))
    go_ret
    exact ⟨_, rfl, (hX0.trans (hW.trans (by repeat (first | exact Ext.refl _ | exact Ext.alloc _ _ | exact Ext.drewN _ _ | assumption | refine Ext.trans ?_ (Ext.alloc _ _) | refine Ext.trans ?_ (Ext.drew _) | refine Ext.trans ?_ (by assumption)))))⟩
theorem mem_kp {B Mm Mv : Nat} {w w' : World} {acc : Int} {ws : List Int} (h : Ce.MemT w Mm Mv acc ws) (l1 : B ≤ Mm ∧ B ≤ Mv) (c : Chg [Mm, Mv] w w') : Kp [164, 22] B w w' :=
  c.kp (fun k hk => by
    simp only [List.mem_cons, List.not_mem_nil, or_false] at hk
    rcases hk with rfl | rfl
    · exact ⟨l1.1, fun _ => ⟨_, _, h.m, by simp⟩⟩
    · exact ⟨l1.2, fun _ => ⟨_, _, h.v, by simp⟩⟩)
theorem meet_kp {B Sm Sv N a r : Nat} {g : Sf.Ti} {w w' : World} (h : Sf.MT 152 w Sm Sv N g a r) (l2 : B ≤ Sm ∧ B ≤ Sv) (c : Chg [Sm, Sv] w w') : Kp [152, 3] B w w' :=
  c.kp (fun k hk => by
    simp only [List.mem_cons, List.not_mem_nil, or_false] at hk
    rcases hk with rfl | rfl
    · exact ⟨l2.1, fun _ => ⟨_, _, h.m, by simp⟩⟩
    · exact ⟨l2.2, fun _ => ⟨_, _, h.v, by simp⟩⟩)
theorem MK.ext {B M : Nat} {w w' : World} {x : Cf} {tv : Value} {D : MKs} (h : MK B w x M tv D) (e : Ext w w') : MK B w' x M tv D := by
  obtain ⟨acc, ws, h1, h2⟩ := h.mem
  obtain ⟨g, h3⟩ := h.meet
  obtain ⟨bs, h4, h5⟩ := h.cls
  exact ⟨h.m.ext e, h.lo, ⟨acc, ws, h1, h2.ext e⟩, h.l1, ⟨g, h3.ext e⟩, h.l2, ⟨bs, h4, own_ext h5 e⟩⟩
theorem MK.memk {B M : Nat} {w w' : World} {x : Cf} {tv : Value} {D : MKs} (h : MK B w x M tv D) (k : Kp [164, 22] B w w') (hm : ∃ acc ws, ws.length = 128 ∧ Ce.MemT w' D.Mm D.Mv acc ws) : MK B w' x M tv D := by
  obtain ⟨g, h3⟩ := h.meet
  obtain ⟨bs, h4, h5⟩ := h.cls
  exact ⟨k.blk h.m (by decide), h.lo, hm, h.l1, ⟨g, mt_kp h3 k (by decide) (by decide)⟩, h.l2, ⟨bs, h4, k.own h5 (by decide)⟩⟩
theorem MK.meetk {B M : Nat} {w w' : World} {x : Cf} {tv : Value} {D : MKs} (h : MK B w x M tv D) (k : Kp [152, 3] B w w') (hm : ∃ g, Sf.MT 152 w' D.Sm D.Sv x.t.toNat g 0 0) : MK B w' x M tv D := by
  obtain ⟨acc, ws, h1, h2⟩ := h.mem
  obtain ⟨bs, h4, h5⟩ := h.cls
  exact ⟨k.blk h.m (by decide), h.lo, ⟨acc, ws, h1, memT_kp h2 k (by decide) (by decide)⟩, h.l1, hm, h.l2, ⟨bs, h4, k.own h5 (by decide)⟩⟩
theorem store_w {B M : Nat} {w : World} {x : Cf} {tv : Value} {D : MKs} (k i v : Int) (h : MK B w x M tv D) :
    Calls Tryz.prog 72 #[(.pointer (some ⟨M, 0, none⟩)), .int .i64 k, .int .i64 i, .int .u64 v] w fun e w' => e = .returned (.tuple #[]) ∧ MK B w' x M tv D ∧ Kp [164, 22] B w w' := by
  obtain ⟨acc, ws, hws, hmem⟩ := h.mem
  have H := hide h
  have HM := hide hmem
  have hW := Ext.refl w
  have S0 : ∀ w', Kp [164, 22] B w w' → w'.cell? ⟨M, 11, none⟩ = some (.pointer (some ⟨D.Mm, 0, none⟩)) := fun w' k => (mq_at (k.blk H.out.m (by decide))).2.2.2.1
  clear h hmem
  go_enter Tryz.func72, Tryz.ntmps72
  go_wp2_with fail
  go_region_held3 (fun w' => w'.cell? ⟨M, 11, none⟩ = some (.pointer (some ⟨D.Mm, 0, none⟩))) (first | exact S0 _ (hW.kp _ _) | exact S0 _ ((hW.trans (Ext.drew _)).kp _ _) | exact S0 _ hK2)
    (first
      | (go_at_call 86; refine (Ly.at_any _ _ _ _).mono ?_; rintro e w1 ⟨rfl, hx⟩; have hW := Ext.trans2 hW (by repeat (first | exact Ext.refl _ | exact Ext.alloc _ _ | exact Ext.drewN _ _ | assumption | refine Ext.trans ?_ (Ext.alloc _ _) | refine Ext.trans ?_ (Ext.drew _) | refine Ext.trans ?_ (by assumption))) hx; clear hx)
      | (go_at_call 85; refine (Ce.store_any D.Mm D.Mv acc ws _ _ _ (HM.out.ext (hW.trans (by repeat (first | exact Ext.refl _ | exact Ext.alloc _ _ | exact Ext.drewN _ _ | assumption | refine Ext.trans ?_ (Ext.alloc _ _) | refine Ext.trans ?_ (Ext.drew _) | refine Ext.trans ?_ (by assumption)))))).mono ?_; rintro e w2 ⟨rfl, hm2, hc2⟩; have hK2 := ((hW.trans (by repeat (first | exact Ext.refl _ | exact Ext.alloc _ _ | exact Ext.drewN _ _ | assumption | refine Ext.trans ?_ (Ext.alloc _ _) | refine Ext.trans ?_ (Ext.drew _) | refine Ext.trans ?_ (by assumption)))).kp [164, 22] B).trans (mem_kp (HM.out.ext (hW.trans (by repeat (first | exact Ext.refl _ | exact Ext.alloc _ _ | exact Ext.drewN _ _ | assumption | refine Ext.trans ?_ (Ext.alloc _ _) | refine Ext.trans ?_ (Ext.drew _) | refine Ext.trans ?_ (by assumption))))) H.out.l1 hc2)))
  all_goals
    go_wp2_with fail
    go_end0
    exact ⟨rfl, H.out.memk hK2 ⟨_, _, by rw [Ce.setI_len]; exact hws, hm2⟩, hK2⟩
theorem clsC_len (bs : List Bool) : (clsC bs).length = bs.length * 3 := by
  induction bs with
  | nil => rfl
  | cons x l ih => simp only [clsC, List.flatMap_cons, List.length_append, List.length_cons] at ih ⊢; rw [ih]; simp; omega
theorem cls_at {w : World} {B n c : Nat} {A : Option Addr} {bs : List Bool} (h : w.ownsRow B 145 3 (.slice A n c) n (clsC bs)) {j : Nat} (hj : j < n) :
    ∃ g, A = some ⟨g, 0, none⟩ ∧ w.cell? ⟨g, j * 3, none⟩ = some (.bool (bs.getD j false)) ∧ w.cell? ⟨g, j * 3 + 1, none⟩ = some (.int .u8 0) ∧ w.cell? ⟨g, j * 3 + 2, none⟩ = some (.int .i64 0) := by
  obtain ⟨A', c', e, hs⟩ := Sl.of_own h
  cases e
  obtain ⟨g, off, ha, _, hc⟩ := hs.at_ hj
  rcases h.2 with ⟨e, h0⟩ | ⟨g', cap, cur, e, _⟩
  · omega
  · cases e
    cases ha
    have hl : bs.length * 3 = n * 3 := by rw [← clsC_len]; exact h.1
    have at3 : ∀ (l : List Bool) (k : Nat) (hk : k < l.length), (clsC l)[k * 3]? = some (.bool l[k]) ∧ (clsC l)[k * 3 + 1]? = some (.int .u8 0) ∧ (clsC l)[k * 3 + 2]? = some (.int .i64 0) := by
      intro l
      induction l with
      | nil => intro k hk; simp at hk
      | cons x l ih =>
        intro k hk
        cases k with
        | zero => exact ⟨rfl, rfl, rfl⟩
        | succ k =>
          have q := ih k (by simpa using hk)
          have e : ∀ i, (clsC (x :: l))[i + 3]? = (clsC l)[i]? := fun i => rfl
          rw [show (k + 1) * 3 = k * 3 + 3 by omega, show k * 3 + 3 + 1 = k * 3 + 1 + 3 by omega, show k * 3 + 3 + 2 = k * 3 + 2 + 3 by omega, e, e, e]
          exact q
    obtain ⟨e0, e1, e2⟩ := at3 bs j (by omega)
    have eb : bs.getD j false = bs[j]'(by omega) := by simp [List.getD, List.getElem?_eq_getElem (show j < bs.length by omega)]
    rw [eb]
    refine ⟨_, rfl, ?_, ?_, ?_⟩
    · have := hc 0 (by omega); rwa [Nat.zero_add, Nat.add_zero, e0] at this
    · have := hc 1 (by omega); rwa [Nat.zero_add, e1] at this
    · have := hc 2 (by omega); rwa [Nat.zero_add, e2] at this
theorem kp_size {ts : List TypeId} {B : Nat} {w w' : World} (h : Kp ts B w w') : w.heap.size ≤ w'.heap.size := h.size
theorem layP_w {B M : Nat} {w : World} {x : Cf} {tv : Value} {D : MKs} (h : MK B w x M tv D) (hG : GlobW w) (hGx : ∀ w', Kp [164, 22] B w w' → GlobW w') (hc : x.c.toNat ≤ 4) :
    Calls Tryz.prog 71 #[(.pointer (some ⟨M, 0, none⟩))] w fun e w' => e = .returned (.tuple #[]) ∧ MK B w' x M tv D ∧ Kp [164, 22] B w w' := by
  obtain ⟨bs, hbs, hrow⟩ := h.cls
  obtain ⟨A, c, hcv⟩ := own_sl hrow
  have r13 := (mq_at h.m).2.2.2.2.1
  rw [hcv] at r13
  have H := hide h
  have HCV := hide hcv
  clear hrow h hcv
  generalize hC : x.c.toNat = C at *
  go_enter Tryz.func71, Tryz.ntmps71
  go_wp2_with fail
  clear r13
  go_loopw [9] (fun i wr => ∃ j : Nat, j ≤ C ∧ i = .int .i64 (j : Int) ∧ MK B wr x M tv D ∧ Kp [164, 22] B w wr) (fun i _ => C - (intOf i).toNat)
  case atStart => exact ⟨0, by omega, rfl, H.out, Kp.refl _ _ _⟩
  case round =>
    obtain ⟨j, hj, rfl, hm, hk⟩ := hrel
    by_cases hlt : j < C
    · obtain ⟨bs2, hbs2, hrow⟩ := hm.cls
      rw [HCV.out, hC] at hrow
      obtain ⟨g, rfl, c0, c1, c2⟩ := cls_at hrow hlt
      generalize bs2.getD j false = b at *
      have HM := hide hm
      have HK := hide hk
      have hx := (Blk.new wr #[.bool b, .int .u8 0, .int .i64 0] 145).cell
      have HX := hide (Ext.alloc wr (.cells #[.bool b, .int .u8 0, .int .i64 0] 145))
      have HGR := hide (hGx wr hk)
      clear hrow hm hk
      go_wp2_with fail
      refine (header_w b _ (HGR.out.ext HX.out)).mono ?_
      rintro e w2 ⟨u, rfl, hx2⟩
      go_wp2_with fail
      refine (store_w _ _ _ ((HM.out.ext HX.out).ext hx2)).mono ?_
      rintro e w3 ⟨rfl, hm3, hk3⟩
      go_wp2_with fail
      go_roundw
      case rel => exact ⟨j + 1, by omega, by go_num, hm3, (HK.out.trans ((HX.out.trans hx2).kp _ _)).trans hk3⟩
      case measure => simp [intOf]; omega
    · obtain rfl : j = C := by omega
      have HM := hide hm
      have HK := hide hk
      clear hm hk
      have h3 : ¬ (j : Int) < (j : Int) := by omega
      go_wp2_with fail
      go_end0
      exact ⟨rfl, HM.out, HK.out⟩
theorem classOf_w {B M : Nat} {w : World} {x : Cf} {tv : Value} {D : MKs} (k : Nat) (C : Nat) (hC : x.c = (C : Int)) (hC1 : 1 ≤ C) (h : MK B w x M tv D) :
    Calls Tryz.prog 73 #[(.pointer (some ⟨M, 0, none⟩)), .int .i64 (k : Int)] w fun e w' => e = .returned (.int .i64 ((k % C : Nat) : Int)) ∧ w = w' := by
  have r2 := (mq_at h.m).2.1
  rw [hC] at r2
  have z : ¬ (C : Int) = 0 := by omega
  have z2 : ¬ C = 0 := by omega
  clear h
  go_enter Tryz.func73, Tryz.ntmps73
  go_wp2_with fail
  go_ret
  exact ⟨by simp [Int.natCast_emod], rfl⟩
theorem layS {B M : Nat} {w : World} {x : Cf} {tv : Value} {D : MKs} {g c C q : Nat} {bs : List Bool} {b : Bool} (h : MK B w x M tv D) (hcv : D.cv = .slice (some ⟨g, 0, none⟩) x.c.toNat c) (hcn : x.c.toNat = C) (hr : w.ownsRow B 145 3 (.slice (some ⟨g, 0, none⟩) C c) C (clsC bs)) (hq : q < C) (hb : bs.getD q false = b) :
    w.cell? ⟨M, 13, none⟩ = some (.slice (some ⟨g, 0, none⟩) C c) ∧ w.cell? ⟨g, q * 3, none⟩ = some (.bool b) ∧ w.cell? ⟨g, q * 3 + 1, none⟩ = some (.int .u8 0) ∧ w.cell? ⟨g, q * 3 + 2, none⟩ = some (.int .i64 0) := by
  have r13 := (mq_at h.m).2.2.2.2.1
  rw [hcv, hcn] at r13
  obtain ⟨g2, e, c0, c1, c2⟩ := cls_at hr hq
  cases e
  rw [hb] at c0
  exact ⟨r13, c0, c1, c2⟩
theorem layM_w {B M : Nat} {w : World} {x : Cf} {tv : Value} {D : MKs} (O C : Nat) (hO : x.o = (O : Int)) (hO8 : O ≤ 8) (hC : x.c = (C : Int)) (hC1 : 1 ≤ C) (hC4 : C ≤ 4) (h : MK B w x M tv D) (hG : GlobW w) (hGx : ∀ w', Kp [164, 22] B w w' → GlobW w') :
    Calls Tryz.prog 44 #[(.pointer (some ⟨M, 0, none⟩))] w fun e w' => e = .returned (.tuple #[]) ∧ Kp [164, 22] B w w' := by
  have hcn : x.c.toNat = C := by omega
  have H := hide h
  clear h
  go_enter Tryz.func44, Tryz.ntmps44
  go_wp2_with fail
  refine (layP_w H.out hG hGx (by omega)).mono ?_
  rintro e w1 ⟨rfl, hm1, hk1⟩
  have r1 := (mq_at hm1.m).1
  rw [hO] at r1
  have HM1 := hide hm1
  have HK1 := hide hk1
  clear hm1 hk1
  go_wp2_with fail
  clear r1
  go_loopw [10] (fun i wr => ∃ j : Nat, j ≤ O ∧ i = .int .i64 (j : Int) ∧ MK B wr x M tv D ∧ Kp [164, 22] B w wr) (fun i _ => O - (intOf i).toNat)
  case atStart => exact ⟨0, by omega, rfl, HM1.out, HK1.out⟩
  case round =>
    obtain ⟨j, hj, rfl, hm, hk⟩ := hrel
    by_cases hlt : j < O
    · obtain ⟨bs2, hbs2, hrow⟩ := hm.cls
      obtain ⟨A, c, hcv⟩ := own_sl hrow
      rw [hcv, hcn] at hrow
      have hjc : j % C < C := Nat.mod_lt _ (by omega)
      obtain ⟨g, rfl, c0, c1, c2⟩ := cls_at hrow hjc
      have HROW := hide hrow
      have r13 := (mq_at hm.m).2.2.2.2.1
      rw [hcv, hcn] at r13
      have HM := hide hm
      have HK := hide hk
      have HGR := hide (hGx wr hk)
      have hW := Ext.refl wr
      have bl := World.block_lt_of_cell? wr _ c0
      have bm := hm.m.lt
      have S0 : ∀ w', Ext wr w' → w'.cell? ⟨M, 13, none⟩ = some (.slice (some ⟨g, 0, none⟩) C c) ∧ w'.cell? ⟨g, j % C * 3, none⟩ = some (.bool (bs2.getD (j % C) false)) ∧ w'.cell? ⟨g, j % C * 3 + 1, none⟩ = some (.int .u8 0) ∧ w'.cell? ⟨g, j % C * 3 + 2, none⟩ = some (.int .i64 0) :=
        fun w' x => ⟨(x.oldCell _ _ bm).trans r13, (x.oldCell _ _ bl).trans c0, (x.oldCell _ _ bl).trans c1, (x.oldCell _ _ bl).trans c2⟩
      clear hrow hm hk r13 c0 c1 c2 bl bm
      generalize hq : j % C = q at *
      generalize hbb : bs2.getD q false = b at *
      have HBB := hide hbb
      clear hbb
      have hqi : (q : Int) < (C : Int) := by omega
      go_wp2_with fail
      go_region_held3 (fun w' => w'.cell? ⟨M, 13, none⟩ = some (.slice (some ⟨g, 0, none⟩) C c) ∧ w'.cell? ⟨g, q * 3, none⟩ = some (.bool b) ∧ w'.cell? ⟨g, q * 3 + 1, none⟩ = some (.int .u8 0) ∧ w'.cell? ⟨g, q * 3 + 2, none⟩ = some (.int .i64 0)) (first | exact S0 _ hW | exact S0 _ (hW.trans (Ext.drew _)) | exact S9)
        (first
          | (go_at_call 73; refine (classOf_w j C hC hC1 (HM.out.ext (hW.trans (by repeat (first | exact Ext.refl _ | exact Ext.alloc _ _ | exact Ext.drewN _ _ | assumption | refine Ext.trans ?_ (Ext.alloc _ _) | refine Ext.trans ?_ (Ext.drew _) | refine Ext.trans ?_ (by assumption)))))).mono ?_; rw [hq]; rintro e w2 ⟨rfl, rfl⟩; have hW := hW.trans (Ext.drew _))
          | (go_at_call 74; refine (header_w b _ (HGR.out.ext (hW.trans (by repeat (first | exact Ext.refl _ | exact Ext.alloc _ _ | exact Ext.drewN _ _ | assumption | refine Ext.trans ?_ (Ext.alloc _ _) | refine Ext.trans ?_ (Ext.drew _) | refine Ext.trans ?_ (by assumption)))))).mono ?_; rintro e w2 ⟨u, rfl, hx⟩; have hW := Ext.trans2 hW (by repeat (first | exact Ext.refl _ | exact Ext.alloc _ _ | exact Ext.drewN _ _ | assumption | refine Ext.trans ?_ (Ext.alloc _ _) | refine Ext.trans ?_ (Ext.drew _) | refine Ext.trans ?_ (by assumption))) hx; clear hx)
          | (go_at_call 72; refine (store_w _ _ _ (HM.out.ext (hW.trans (by repeat (first | exact Ext.refl _ | exact Ext.alloc _ _ | exact Ext.drewN _ _ | assumption | refine Ext.trans ?_ (Ext.alloc _ _) | refine Ext.trans ?_ (Ext.drew _) | refine Ext.trans ?_ (by assumption)))))).mono ?_; rintro e w3 ⟨rfl, hm3, hk3⟩; have hK3 := ((hW.trans (by repeat (first | exact Ext.refl _ | exact Ext.alloc _ _ | exact Ext.drewN _ _ | assumption | refine Ext.trans ?_ (Ext.alloc _ _) | refine Ext.trans ?_ (Ext.drew _) | refine Ext.trans ?_ (by assumption)))).kp [164, 22] B).trans hk3; have S9 := layS hm3 hcv hcn (hK3.own HROW.out (by decide)) hjc HBB.out))
      all_goals
        go_wp2_with fail
        go_roundw
        case rel => exact ⟨j + 1, by omega, by go_num, hm3, HK.out.trans hK3⟩
        case measure => simp [intOf]; omega
    · obtain rfl : j = O := by omega
      have HK := hide hk
      clear hm hk
      have h3 : ¬ (j : Int) < (j : Int) := by omega
      go_wp2_with fail
      go_end0
      exact ⟨rfl, HK.out⟩
end Go.Proofs.YtlgomkocalieeaaGreatDoor

namespace Go.Proofs.YtlgomkocalieeaaGreatDoor
open Go.RowKit
set_option linter.unusedSimpArgs false
set_option linter.unusedVariables false
set_option maxRecDepth 100000
set_option maxHeartbeats 8000000

def newE (x : Cf) (ps : List (List Op3)) : Int := if mayC x = true ∧ (ps.length : Int) = x.t then (if ps.any (wrongP x.t x.o) = true then 3 else 0) else 1
theorem new_no {w : World} {A : Option Addr} {ps : List (List Op3)} (c : Nat) (x : Cf) (h : ¬ (mayC x = true ∧ (ps.length : Int) = x.t)) :
    Calls Tryz.prog 21 #[.agg #[.int .i64 x.t, .int .i64 x.o, .int .i64 x.c, .int .i64 x.s, .int .i64 x.p, .int .i64 x.n, .int .u8 x.b, .int .i64 x.r, .int .i64 x.v, .int .u64 x.d], .slice A ps.length c] w fun e w' => e = .returned (.tuple #[.pointer none, .int .i64 1]) ∧ Ext w w' := by
  have hc := cmay_any x (w.alloc (.cells #[.int .i64 x.t, .int .i64 x.o, .int .i64 x.c, .int .i64 x.s, .int .i64 x.p, .int .i64 x.n, .int .u8 x.b, .int .i64 x.r, .int .i64 x.v, .int .u64 x.d] 24))
  have hx0 := Ext.alloc w (.cells #[.int .i64 x.t, .int .i64 x.o, .int .i64 x.c, .int .i64 x.s, .int .i64 x.p, .int .i64 x.n, .int .u8 x.b, .int .i64 x.r, .int .i64 x.v, .int .u64 x.d] 24)
  have hb := (Blk.new w #[.int .i64 x.t, .int .i64 x.o, .int .i64 x.c, .int .i64 x.s, .int .i64 x.p, .int .i64 x.n, .int .u8 x.b, .int .i64 x.r, .int .i64 x.v, .int .u64 x.d] 24).rule
  obtain ⟨t, o, cc, s, p, n, b, r, v, d⟩ := x
  simp only at h hc hx0 hb
  cases hm : mayC ⟨t, o, cc, s, p, n, b, r, v, d⟩ with
  | false =>
    rw [hm] at hc
    clear h
    go_enter Tryz.func21, Tryz.ntmps21
    go_wp2_with fail
    refine hc.mono ?_
    rintro e w1 ⟨rfl, hx1⟩
    have HX := hide (hx0.trans hx1)
    clear hb
    go_wp2_with fail
    go_ret2
    exact ⟨rfl, HX.out⟩
  | true =>
    rw [hm] at hc
    have hne : ¬ (ps.length : Int) = t := fun e => h ⟨hm, e⟩
    clear h
    go_enter Tryz.func21, Tryz.ntmps21
    go_wp2_with fail
    refine hc.mono ?_
    rintro e w1 ⟨rfl, hx1⟩
    have HX := hide (hx0.trans hx1)
    have q0 := hb w1 hx1 0
    clear hb
    go_wp2_with fail
    go_ret2
    exact ⟨rfl, HX.out⟩
theorem wrongP_no {t o : Int} {l : List Op3} (h : wrongP t o l = false) : l.length ≤ 64 ∧ l.any (isNo t o) = false := by
  simp only [wrongP, Bool.or_eq_false_iff, decide_eq_false_iff_not] at h
  exact ⟨by omega, h.2⟩
/-- A call, as a step of a region that draws its order. -/
theorem step_call {P : Program} {ops : Array Oper} {o : Oper} {a : Act} {w : World} {K : Act → World → Prop} {Q : Exit → Act → World → Prop} {E : Prop} {F : FuncId} {as_ : Array Value} {R : Ending → World → Prop}
    (hg : o.guard = none) (he : (execOp a.eval o).run P w = .ok (.enter F as_) w) (hc : Calls P F as_ w R) (h : ∀ e w', R e w' → ∃ v, e = .returned v ∧ K (a.put o.dst v) w') :
    if Region.wanted o (yielded ops a.tmps) = true then Oper.wp P o a w K Q else E := by
  have hw : Region.wanted o (yielded ops a.tmps) = true := by simp [Region.wanted, hg]
  rw [if_pos hw]
  unfold Oper.wp
  rw [he, Oper.upon_enter]
  refine hc.mono ?_
  intro e w' hr
  obtain ⟨v, rfl, hk⟩ := h e w' hr
  exact hk
theorem MK.putT {B M : Nat} {w w' : World} {x : Cf} {tv : Value} {D : MKs} (h : MK B w x M tv D) (k : Kp [111] B w w') (u : Value) : MK B (w'.setCell ⟨M, 10, none⟩ u) x M u D := by
  obtain ⟨acc, ws, h1, h2⟩ := h.mem
  obtain ⟨g, h3⟩ := h.meet
  obtain ⟨bs, h4, h5⟩ := h.cls
  have hm := k.blk h.m (by decide)
  have k2 : Kp [111, 107] B w (w'.setCell ⟨M, 10, none⟩ u) := (k.mono (by simp)).trans (Kp.cell hm h.lo (by simp))
  refine ⟨by have := hm.set 10 u; rwa [mq_10] at this, h.lo, ⟨acc, ws, h1, memT_kp h2 k2 (by decide) (by decide)⟩, h.l1, ⟨g, mt_kp h3 k2 (by decide) (by decide)⟩, h.l2, ⟨bs, h4, k2.own h5 (by decide)⟩⟩
def TPn : List TypeId := [107, 164, 22, 152, 3, 111]
theorem inf_th : (Tryz.prog.info? 111).map (fun i => (i.zero, i.size, i.bytes)) = some (some (.agg (thc 0 (.slice none 0 0) none)), 19, 184) := by kernel_rfl
theorem new_ok {w : World} {A : Option Addr} {ps : List (List Op3)} (c : Nat) (x : Cf) (hd0 : 0 ≤ x.d) (hd1 : x.d < 18446744073709551616) (hP : Pr w A ps) (hG : GlobW w) (h : mayC x = true) (ht : (ps.length : Int) = x.t) :
    Calls Tryz.prog 21 #[.agg #[.int .i64 x.t, .int .i64 x.o, .int .i64 x.c, .int .i64 x.s, .int .i64 x.p, .int .i64 x.n, .int .u8 x.b, .int .i64 x.r, .int .i64 x.v, .int .u64 x.d], .slice A ps.length c] w fun e w' => ∃ p, e = .returned (.tuple #[.pointer p, .int .i64 (if ps.any (wrongP x.t x.o) = true then 3 else 0)]) ∧ Ext w w' := by
  have hml : ps.length ≤ 8 := by have := may_n h; omega
  have hc := cmay_any x (w.alloc (.cells #[.int .i64 x.t, .int .i64 x.o, .int .i64 x.c, .int .i64 x.s, .int .i64 x.p, .int .i64 x.n, .int .u8 x.b, .int .i64 x.r, .int .i64 x.v, .int .u64 x.d] 24))
  have hx0 := Ext.alloc w (.cells #[.int .i64 x.t, .int .i64 x.o, .int .i64 x.c, .int .i64 x.s, .int .i64 x.p, .int .i64 x.n, .int .u8 x.b, .int .i64 x.r, .int .i64 x.v, .int .u64 x.d] 24)
  have hb := Blk.new w #[.int .i64 x.t, .int .i64 x.o, .int .i64 x.c, .int .i64 x.s, .int .i64 x.p, .int .i64 x.n, .int .u8 x.b, .int .i64 x.r, .int .i64 x.v, .int .u64 x.d] 24
  rw [h] at hc
  have HM := hide (may_n h)
  have HMC := hide h
  clear h
  have HT := hide ht
  have HP := hide hP
  obtain ⟨er, her⟩ : ∃ er : Int, (if ps.any (wrongP x.t x.o) = true then (3 : Int) else 0) = er := ⟨_, rfl⟩
  rw [her]
  have HER := hide her
  clear hP her
  go_enter Tryz.func21, Tryz.ntmps21
  go_wp2_with fail
  refine hc.mono ?_
  rintro e w1 ⟨rfl, hx1⟩
  have hb1 := hb.ext hx1
  have q0 := hb1.cell 0
  clear hb
  have hxf : Ext w1 (w1.alloc (Obj.cells #[.func (.func 37) #[] #[.pointer (some ⟨w.heap.size, 0, none⟩)]] 83)) := Ext.alloc _ _
  have hfb := (Blk.new w1 #[.func (.func 37) #[] #[.pointer (some ⟨w.heap.size, 0, none⟩)]] 83)
  go_wp2_with fail
  generalize w1.alloc (Obj.cells #[.func (.func 37) #[] #[.pointer (some ⟨w.heap.size, 0, none⟩)]] 83) = w2 at *
  have hx2 := (hx0.trans hx1).trans hxf
  have hb2 := hb1.ext hxf
  have hcf : Calls Tryz.prog 24 #[.slice A ps.length c, .func (.func 39) #[] #[.pointer (some ⟨w1.heap.size, 0, none⟩)]] w2 (fun e w' => e = .returned (.bool (ps.any (wrongP x.t x.o))) ∧ Ext w2 w') :=
    cfp_any 39 (fun _ _ => by kernel_rfl) (some (.pointer (some ⟨w1.heap.size, 0, none⟩))) (wrongP x.t x.o) c (by omega) (HP.out.ext hx2) (fun l hl w' hxx A' c' hl2 hch => new2_any x c' w.heap.size w1.heap.size w' (hb2.ext hxx) ((hfb.ext hxx).cell 0) hl2 hch)
  clear hxf hb1 q0 hc hx0 hx1
  refine hcf.mono ?_
  rintro e w3 ⟨rfl, hx3⟩
  have HX3 := hide (hx2.trans hx3)
  have hb3 := hb2.ext hx3
  clear hcf hb2 hfb
  cases hany : ps.any (wrongP x.t x.o) with
  | true =>
    go_wp2_with fail
    go_ret2
    have : er = 3 := by rw [← HER.out]; exact if_pos hany
    subst this
    exact ⟨none, rfl, HX3.out⟩
  | false =>
    have hbc := hb3.cell
    go_wp2_with fail
    refine (without_w x _ HMC.out hd0 hd1).mono ?_
    rintro e w4 ⟨M, D, rfl, hmk, hx4⟩
    have hb4 := hb3.ext hx4
    have HX4 := hide (HX3.out.trans hx4)
    have hB := hide (show w.heap.size ≤ w3.heap.size from HX3.out.size)
    have HMK := hide hmk
    clear hx2 hx3 hx4 hb3 hbc hmk
    have hml2 := hml
    go_wp2_with fail
    go_loopw [30] (fun i wr => ∃ (j : Nat) (tv : Value) (ts : List Value), j ≤ ps.length ∧ i = .int .i64 (j : Int) ∧ MK w3.heap.size wr x M tv D ∧ wr.ownsRow w3.heap.size 111 19 tv j ts ∧ Kp TPn w3.heap.size w4 wr) (fun i _ => ps.length - (intOf i).toNat)
    case atStart => exact ⟨0, _, [], by omega, rfl, HMK.out, own_nil _ _ _ _, Kp.refl _ _ _⟩
    case round =>
      obtain ⟨j, tv, ts, hj, rfl, hm, hrow, hk⟩ := hrel
      have hE : Ext w wr := hk.ext HX4.out hB.out
      by_cases hlt : j < ps.length
      · obtain ⟨b1, o1, A', c', rfl, hb1, r1, hl2, hch⟩ := (HP.out.ext hE).at_ hlt
        have hw64 := wrongP_no (show wrongP x.t x.o ps[j] = false by
          rw [Bool.eq_false_iff]; intro q
          rw [any_yes (wrongP x.t x.o) hlt q] at hany; cases hany)
        generalize ps[j] = l at *
        obtain ⟨A3, c3, rfl⟩ := own_sl hrow
        have hbr := hk.blk hb4 (by decide)
        obtain ⟨d0, d1, d2, d3, d4, d5, d6, d7, d8, d9⟩ := cfg10 hbr
        have r10 := (mq_at hm.m).2.2.1
        have HB1 := hide hw64.1
        have HE := hide hE
        have HMR := hide hm
        have HR := hide hrow
        have HK := hide hk
        have hwz := hk.size
        have hw4z : w3.heap.size ≤ w4.heap.size := by have := HMK.out.lo; have := HMK.out.m.lt; omega
        have hxm := HM.out
        have HCH := hide hch
        clear hm hrow hk hbr hE hch
        have hX := Ext.refl wr
        go_wp2_with fail
        go_region_law (first
          | (refine step_app3 (base := w3.heap.size) rfl _ _ 86 rfl Tryz.underlying86 inf_th rfl (by omega) (v := .slice A3 j c3) (n := j) (xs := ts) rfl (own_ext HR.out (HX5.out.trans (by repeat (first | exact Ext.refl _ | assumption | exact Ext.alloc _ _ | exact Ext.drew _ | refine Ext.trans ?_ (Ext.alloc _ _) | refine Ext.trans ?_ (Ext.drew _))))) (by have := HX5.out.size; simp; omega) (m := 1) (c := 1) rfl ?_ (news_new _ _ _) ?_ (by unfold maxLen; omega) (by omega) ?_; rfl; (simp [Value.oneCell']); intro A6 c6 w6 hown6 hg6 hk6; have k6 := Kp.of_grow (ts := [111]) hg6 (own_ext HR.out (HX5.out.trans (by repeat (first | exact Ext.refl _ | assumption | exact Ext.alloc _ _ | exact Ext.drew _ | refine Ext.trans ?_ (Ext.alloc _ _) | refine Ext.trans ?_ (Ext.drew _))))) (by simp); have HM6 := hide (k6.blk (HMR.out.m.ext (HX5.out.trans (by repeat (first | exact Ext.refl _ | assumption | exact Ext.alloc _ _ | exact Ext.drew _ | refine Ext.trans ?_ (Ext.alloc _ _) | refine Ext.trans ?_ (Ext.drew _))))) (by decide)); have HK6 := hide ((Ext.kp (w := wr) (HX5.out.trans (by repeat (first | exact Ext.refl _ | assumption | exact Ext.alloc _ _ | exact Ext.drew _ | refine Ext.trans ?_ (Ext.alloc _ _) | refine Ext.trans ?_ (Ext.drew _)))) TPn w3.heap.size).trans (k6.mono (by simp [TPn]))); have g6 := (mq_at HM6.out).2.2.1; have f6 := HM6.out.free 10)
          | (refine step_call (F := 42) rfl (by go_simp) (newth_w x (j : Int) c' (HCH.out.ext (by repeat (first | exact Ext.refl _ | assumption | exact Ext.alloc _ _ | exact Ext.drew _ | refine Ext.trans ?_ (Ext.alloc _ _) | refine Ext.trans ?_ (Ext.drew _)))) HB1.out (by omega) (by omega) (by omega) (by omega)) ?_; rintro e w5 ⟨A5, c5, p5, rfl, hx5⟩; refine ⟨_, rfl, ?_⟩; have HX5 := hide (Ext.trans2 hX (by repeat (first | exact Ext.refl _ | assumption | exact Ext.alloc _ _ | exact Ext.drew _ | refine Ext.trans ?_ (Ext.alloc _ _) | refine Ext.trans ?_ (Ext.drew _))) hx5); have r10a := (mq_at (HMR.out.m.ext HX5.out)).2.2.1; have r10b := fun u => (mq_at (HMR.out.m.ext (HX5.out.trans (Ext.alloc w5 (.cells (thc (j : Int) (.slice A5 l.length c5) u) 111))))).2.2.1))
        all_goals
          have hm7 := (HMR.out.ext (HX5.out.trans (by repeat (first | exact Ext.refl _ | assumption | exact Ext.alloc _ _ | exact Ext.drew _ | refine Ext.trans ?_ (Ext.alloc _ _) | refine Ext.trans ?_ (Ext.drew _))))).putT k6 (.slice A6 (j + 1) c6)
          have hK7 : Kp TPn w3.heap.size w4 _ := (HK.out.trans HK6.out).trans (Kp.cell (j := 10) (u := .slice A6 (j + 1) c6) HM6.out HMR.out.lo (by simp [TPn]))
          have hown7 := (Kp.cell (ts := [107]) (j := 10) (u := .slice A6 (j + 1) c6) HM6.out HMR.out.lo (by simp)).own hown6 (by decide)
          clear g6 f6 r10 r10a r10b d0 d1 d2 d3 d4 d5 d6 d7 d8 d9 k6 hg6 hk6 hown6
          generalize w6.setCell ⟨M, 10, none⟩ (.slice A6 (j + 1) c6) = w7 at *
          have r20 := (mq_at hm7.m).2.2.2.2.2.2.2
          obtain ⟨g, hmt⟩ := hm7.meet
          have HM7 := hide hm7
          have HK7 := hide hK7
          have HO7 := hide hown7
          have HMT := hide hmt
          clear hm7 hK7 hown7 hmt hw64 hxm
          go_wp2_with fail
          refine (Sf.put_any HMT.out).mono ?_
          rintro e w8 ⟨rfl, hmt8, hc8⟩
          have hk8 := meet_kp HMT.out HM7.out.l2 hc8
          have hm8 := HM7.out.meetk hk8 ⟨_, hmt8⟩
          go_wp2_with fail
          go_roundw
          case rel => exact ⟨j + 1, _, _, by omega, by go_num, hm8, hk8.own HO7.out (by decide), HK7.out.trans (hk8.mono (by simp [TPn]))⟩
          case measure => simp [intOf]; omega
      · obtain rfl : j = ps.length := by omega
        have HE := hide hE
        have HMR := hide hm
        have HK := hide hk
        obtain ⟨O, hO⟩ := Int.eq_ofNat_of_zero_le (show 0 ≤ x.o by have := HM.out; omega)
        obtain ⟨C, hC⟩ := Int.eq_ofNat_of_zero_le (show 0 ≤ x.c by have := HM.out; omega)
        have h3 : ¬ (ps.length : Int) < (ps.length : Int) := by omega
        have h4 : ¬ (ps.length : Int) < x.t := by omega
        have hlay := layM_w O C hO (by have := HM.out; omega) hC (by have := HM.out; omega) (by have := HM.out; omega) HMR.out (hG.ext hE) (fun w' k => hG.ext (k.ext hE hB.out))
        clear hm hrow hk hE
        go_wp2_with fail
        refine hlay.mono ?_
        rintro e w9 ⟨rfl, hk9⟩
        have HE9 := hide (hk9.ext HE.out hB.out)
        clear hk9 hlay
        go_wp2_with fail
        go_ret2
        have : er = 0 := by rw [← HER.out]; exact if_neg (by simp [hany])
        subst this
        exact ⟨some ⟨M, 0, none⟩, rfl, HE9.out⟩
theorem new_any {w : World} {A : Option Addr} {ps : List (List Op3)} (c : Nat) (x : Cf) (hd0 : 0 ≤ x.d) (hd1 : x.d < 18446744073709551616) (hP : Pr w A ps) (hG : GlobW w) :
    Calls Tryz.prog 21 #[.agg #[.int .i64 x.t, .int .i64 x.o, .int .i64 x.c, .int .i64 x.s, .int .i64 x.p, .int .i64 x.n, .int .u8 x.b, .int .i64 x.r, .int .i64 x.v, .int .u64 x.d], .slice A ps.length c] w fun e w' => ∃ p, e = .returned (.tuple #[.pointer p, .int .i64 (newE x ps)]) ∧ Ext w w' := by
  by_cases h : mayC x = true ∧ (ps.length : Int) = x.t
  · have e : newE x ps = if ps.any (wrongP x.t x.o) = true then 3 else 0 := if_pos h
    rw [e]
    exact new_ok c x hd0 hd1 hP hG h.1 h.2
  · have e : newE x ps = 1 := if_neg h
    rw [e]
    exact (new_no c x h).mono fun e w' ⟨h1, h2⟩ => ⟨none, h1, h2⟩
end Go.Proofs.YtlgomkocalieeaaGreatDoor
