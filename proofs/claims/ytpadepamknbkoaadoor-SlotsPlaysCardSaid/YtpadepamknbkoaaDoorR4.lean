/- The document's table: Free, New. -/
import Derived.Test.YtpadepamknbkoaaDoorR3
import Derived.BigRegion
namespace Go.Proofs.YtpadepamknbkoaaDoor
open Go.RowKit
set_option linter.unusedSimpArgs false
set_option linter.unusedVariables false

theorem mine_plus {S : TS} (ok : Ok S) {k : Nat} (hk : (S.p k).a = 1) (t : Int) : S.plus.mine t = S.mine t := by
  have h1 := mine_drop (S := S) (S' := S.plus) (t := t) (k := k) rfl (Nat.le_succ _) (fun i hi => (ok.ow i hi).2.2.2) (fun i _ => rfl) (by show (S.p k).a ≠ 3; omega)
  rw [h1]
  exact filter_ne_self (fun q => by have := (ok.mem.1 q).2.1; omega)
section
variable {w w' : World} {B R : Nat} {S : TS}
theorem RefT.inc (h : RefT w B R S) (hB : B ≤ R) : w.frozen? ⟨R, 1, none⟩ = false ∧ RefT (w.setCell ⟨R, 1, none⟩ (.int .i64 ((S.N : Int) + 1))) B R S.plus ∧ Kp TR B w (w.setCell ⟨R, 1, none⟩ (.int .i64 ((S.N : Int) + 1))) := by
  obtain ⟨h0, r, c, hb, ho⟩ := h
  obtain ⟨cs, hb2⟩ := own_blk ho r rfl
  have hne : r ≠ R := fun e => by subst e; exact absurd (hb2.type hb) (by decide)
  have hs := hb.set 1 (.int .i64 ((S.N : Int) + 1))
  have hk : Kp TR B w (w.setCell ⟨R, 1, none⟩ (.int .i64 ((S.N : Int) + 1))) := Kp.cell hb h0 (by decide)
  refine ⟨hb.free 1, ⟨h0, r, c, ?_, ?_⟩, hk⟩
  · have e : (#[Value.int .i64 (S.b : Int), .int .i64 (S.N : Int), .slice (some ⟨r, 0, none⟩) S.L.length c].setIfInBounds 1 (.int .i64 ((S.N : Int) + 1))) = #[.int .i64 (S.plus.b : Int), .int .i64 (S.plus.N : Int), .slice (some ⟨r, 0, none⟩) S.plus.L.length c] := by
      have : ((S.plus.N : Nat) : Int) = (S.N : Int) + 1 := by show ((S.N + 1 : Nat) : Int) = _; omega
      rw [this]; rfl
    rw [← e]; exact hs
  · refine own_chgB ho ((Chg.refl [R] w).set (p := ⟨R, 1, none⟩) (.inl (by simp)) _) (fun q hq hm => by
      cases hq
      exact hne (List.mem_singleton.1 hm))
theorem set_set (S : TS) (k : Nat) (x y : Pl) : (S.set k x).set k y = S.set k y := by unfold TS.set; simp
/-- A slot turns whole. -/
theorem RefT.putX {k : Nat} (x : Pl) (h : RefT w B R S) (hk : k < S.L.length) :
    ∃ r c, w.cell? ⟨R, 2, none⟩ = some (.slice (some ⟨r, 0, none⟩) S.L.length c) ∧ (∀ i, w.frozen? ⟨r, i, none⟩ = false) ∧
      (w.cell? ⟨r, k * 4, none⟩ = some (.int .i64 (S.p k).a) ∧ w.cell? ⟨r, k * 4 + 1, none⟩ = some (.int .i64 (S.p k).t) ∧ w.cell? ⟨r, k * 4 + 2, none⟩ = some (.int .i64 (S.p k).c) ∧ w.cell? ⟨r, k * 4 + 3, none⟩ = some (.int .u32 (S.p k).g)) ∧
      RefT ((((w.setCell ⟨r, k * 4, none⟩ (.int .i64 x.a)).setCell ⟨r, k * 4 + 1, none⟩ (.int .i64 x.t)).setCell ⟨r, k * 4 + 2, none⟩ (.int .i64 x.c)).setCell ⟨r, k * 4 + 3, none⟩ (.int .u32 x.g)) B R (S.set k x) ∧
      Kp TR B w ((((w.setCell ⟨r, k * 4, none⟩ (.int .i64 x.a)).setCell ⟨r, k * 4 + 1, none⟩ (.int .i64 x.t)).setCell ⟨r, k * 4 + 2, none⟩ (.int .i64 x.c)).setCell ⟨r, k * 4 + 3, none⟩ (.int .u32 x.g)) := by
  have h9 := h
  obtain ⟨h0, r, c, hb, ho⟩ := h9
  obtain ⟨r', c', q1, q2⟩ := h.at_ (k := k)
  have e := (q1 w (Ext.refl w)).2.2.symm.trans (hb.cell 2)
  have e2 : (some (Value.slice (some ⟨r', 0, none⟩) S.L.length c')) = some (.slice (some ⟨r, 0, none⟩) S.L.length c) := e
  simp only [Option.some.injEq, Value.slice.injEq, Addr.mk.injEq, and_true, true_and] at e2
  obtain ⟨rfl, rfl⟩ := e2
  obtain ⟨cs, hb2⟩ := own_blk ho r' rfl
  have hne : R ≠ r' := fun e => by subst e; exact absurd (hb.type hb2) (by decide)
  have hr := own_row ho r' rfl
  have hj : k * 4 + 3 < S.L.length * 4 := by omega
  have o1 := own_set ho (j := k * 4) (by omega) (.int .i64 x.a)
  have o2 := own_set o1 (j := k * 4 + 1) (by omega) (.int .i64 x.t)
  have o3 := own_set o2 (j := k * 4 + 2) (by omega) (.int .i64 x.c)
  have o4 := own_set o3 (j := k * 4 + 3) (by omega) (.int .u32 x.g)
  obtain ⟨y, hy⟩ : ∃ y, S.L[k] = y := ⟨_, rfl⟩
  have s1 : (qcells S.L).set (k * 4) (.int .i64 x.a) = qcells (S.L.set k ⟨x.a, y.t, y.c, y.g⟩) := qcells_set S.L k 0 _ _ hk (by omega) (by rw [hy]; rfl)
  have s2 := qcells_set (S.L.set k ⟨x.a, y.t, y.c, y.g⟩) k 1 (.int .i64 x.t) ⟨x.a, x.t, y.c, y.g⟩ (by simpa using hk) (by omega) (by rw [List.getElem_set_self]; rfl)
  have s3 := qcells_set ((S.L.set k ⟨x.a, y.t, y.c, y.g⟩).set k ⟨x.a, x.t, y.c, y.g⟩) k 2 (.int .i64 x.c) ⟨x.a, x.t, x.c, y.g⟩ (by simpa using hk) (by omega) (by rw [List.getElem_set_self]; rfl)
  have s4 := qcells_set (((S.L.set k ⟨x.a, y.t, y.c, y.g⟩).set k ⟨x.a, x.t, y.c, y.g⟩).set k ⟨x.a, x.t, x.c, y.g⟩) k 3 (.int .u32 x.g) ⟨x.a, x.t, x.c, x.g⟩ (by simpa using hk) (by omega) (by rw [List.getElem_set_self]; rfl)
  rw [s1, s2, s3, s4] at o4
  simp only [List.set_set] at o4
  have b1 := (((hb.far (p := ⟨r', k * 4, none⟩) hne (.int .i64 x.a)).far (p := ⟨r', k * 4 + 1, none⟩) hne (.int .i64 x.t)).far (p := ⟨r', k * 4 + 2, none⟩) hne (.int .i64 x.c)).far (p := ⟨r', k * 4 + 3, none⟩) hne (.int .u32 x.g)
  refine ⟨r', c', (q1 w (Ext.refl w)).2.2, fun i => hb2.free i, q2 hk w (Ext.refl w), ⟨h0, r', c', by rw [TS.len_set]; exact b1, by rw [TS.len_set]; exact o4⟩, ?_⟩
  exact (((((Chg.refl [r'] w).set (p := ⟨r', k * 4, none⟩) (.inl (by simp)) _).set (p := ⟨r', k * 4 + 1, none⟩) (.inl (by simp)) _).set (p := ⟨r', k * 4 + 2, none⟩) (.inl (by simp)) _).set (p := ⟨r', k * 4 + 3, none⟩) (.inl (by simp)) _).kp
    (fun q hq => by rw [List.mem_singleton.1 hq]; exact ⟨hr, fun _ => ⟨cs, _, hb2, by decide⟩⟩)
set_option maxRecDepth 100000 in
theorem rfree_no {z y : Int} (h : RefT w B R S) (ok : Ok S) (hf : ¬ frOk S z y) :
    Calls Tryd.prog 12 #[.pointer (some ⟨R, 0, none⟩), .int .i64 z, .int .i64 y] w fun e w' => e = .returned (.int .i64 1) ∧ w = w' := by
  have hn1 := ok.n1
  by_cases hz : 0 ≤ z ∧ z < 256
  · have I : isT z = true := by unfold isT; simp [hz.1, hz.2]
    by_cases hy : y < 0
    · clear hf
      go_enter Tryd.func12, Tryd.ntmps12
      go_wp2_with fail
      refine (ris_any z w).mono ?_
      rw [I]
      rintro e w1 ⟨rfl, rfl⟩
      go_wp2_with fail
      go_ret
      exact ⟨rfl, rfl⟩
    · obtain ⟨k, rfl⟩ : ∃ k : Nat, y = (k : Int) := ⟨y.toNat, by omega⟩
      have D : decide ((k : Int) < 0) = false := by simp
      obtain ⟨r, c, q1, q2⟩ := h.at_ (k := k)
      have c2 := (q1 w (Ext.refl _)).2.2
      by_cases hl : k < S.L.length
      · have c0 := (q2 hl w (Ext.refl _)).1
        have ha : ¬ (S.p k).a = 1 := fun q => hf ⟨hz, by omega, by rwa [Int.toNat_natCast]⟩
        have E0 : ((S.p k).a != 1) = true := by simpa using ha
        clear hf q1 q2 ha h
        go_enter Tryd.func12, Tryd.ntmps12
        go_wp2_with fail
        refine (ris_any z w).mono ?_
        rw [I]
        rintro e w1 ⟨rfl, rfl⟩
        go_wp2_with fail
        go_ret
        exact ⟨rfl, rfl⟩
      · clear hf q1 q2 h
        go_enter Tryd.func12, Tryd.ntmps12
        go_wp2_with fail
        refine (ris_any z w).mono ?_
        rw [I]
        rintro e w1 ⟨rfl, rfl⟩
        go_wp2_with fail
        go_ret
        exact ⟨rfl, rfl⟩
  · have I : isT z = false := by unfold isT; simp; omega
    clear hf hz
    go_enter Tryd.func12, Tryd.ntmps12
    go_wp2_with fail
    refine (ris_any z w).mono ?_
    rw [I]
    rintro e w1 ⟨rfl, rfl⟩
    go_wp2_with fail
    go_ret
    exact ⟨rfl, rfl⟩
set_option maxRecDepth 100000 in
theorem rfree_yes {z : Int} {k : Nat} (h : RefT w B R S) (ok : Ok S) (hN : S.N ≤ 900) (hz : 0 ≤ z ∧ z < 256) (ha : (S.p k).a = 1) :
    Calls Tryd.prog 12 #[.pointer (some ⟨R, 0, none⟩), .int .i64 z, .int .i64 (k : Int)] w fun e w' => e = .returned (.int .i64 0) ∧ RefT w' B R (S.plus.set k (frX S z k)) ∧ Kp TR B w w' := by
  have hn1 := ok.n1
  have hl := (ok.lt (i := k) (by omega)).2
  have I : isT z = true := by unfold isT; simp [hz.1, hz.2]
  have D : decide ((k : Int) < 0) = false := by simp
  have D2 : decide (S.L.length ≤ k) = false := by simp; omega
  have hg := ok.g0 k
  have okp := ok.plus
  have hmp := mine_plus ok ha z
  have hlen := mine_len S z ok
  obtain ⟨r, c, q1, q2⟩ := h.at_ (k := k)
  have c1 := (q1 w (Ext.refl _)).2.1
  have c2 := (q1 w (Ext.refl _)).2.2
  have c0 := (q2 hl w (Ext.refl _)).1
  rw [ha] at c0
  obtain ⟨f1, i1, i2⟩ := h.inc h.lo
  have HI := hide (And.intro i1 i2)
  have HA := hide ha
  have W : IntKind.i64.wrap ((S.N : Int) + 1) = (S.N : Int) + 1 := by rw [IntKind.wrap_i64]; omega
  clear q1 q2 h i1 i2 ha
  go_enter Tryd.func12, Tryd.ntmps12
  go_wp2_with fail
  refine (ris_any z w).mono ?_
  rw [I]
  rintro e w1 ⟨rfl, rfl⟩
  go_wp2_with fail
  obtain ⟨hr, hkp⟩ := HI.out
  clear c0 c1 c2 f1 HI
  generalize w.setCell ⟨R, 1, none⟩ (.int .i64 ((S.N : Int) + 1)) = w3 at *
  obtain ⟨r, c, q1, q2⟩ := hr.at_ (k := k)
  have c1 := (q1 w3 (Ext.refl _)).2.1
  have c2 := (q1 w3 (Ext.refl _)).2.2
  have c3 := (q2 hl w3 (Ext.refl _)).2.2.2
  have hE := Ext.alloc w3 (.cells #[.int .i64 0, .int .i64 0, .int .i64 0, .int .u32 0] 76)
  have d1 := (q1 _ hE).2.1
  have d2 := (q1 _ hE).2.2
  have d3 := (q2 hl _ hE).2.2.2
  rw [show ((S.plus.N : Nat) : Int) = (S.N : Int) + 1 by show ((S.N + 1 : Nat) : Int) = _; omega] at c1 d1
  have HR := hide hr
  have e1 : S.plus.L.length = S.L.length := rfl
  have e2 : S.plus.p k = S.p k := rfl
  rw [e1] at c2 d2
  rw [e2] at c3 d3
  clear hr e1 e2 q1 q2 hE
  go_region
  clear c1 c2 c3 d1 d2 d3
  have hE := (Ext.alloc w3 (.cells (#[.int .i64 2, .int .i64 z, .int .i64 ((S.N : Int) + 1), .int .u32 (S.p k).g]) 76)).trans (Ext.drew _)
  have hz := (Blk.new w3 (#[.int .i64 2, .int .i64 z, .int .i64 ((S.N : Int) + 1), .int .u32 (S.p k).g]) 76).ext (Ext.drew _)
  obtain ⟨Z, hZ⟩ : ∃ Z, Z = w3.heap.size := ⟨_, rfl⟩
  have hZ2 : w3.heap.size ≤ Z := by omega
  rw [← hZ] at hz ⊢
  clear hZ
  have HE := hide hE
  clear hE
  generalize (w3.alloc (.cells (#[.int .i64 2, .int .i64 z, .int .i64 ((S.N : Int) + 1), .int .u32 (S.p k).g]) 76)).drew = w4 at *
  have sb : ∀ w', Ext w3 w' → w'.cell? ⟨R, 0, none⟩ = some (.int .i64 (S.b : Int)) := fun w' x => by
    obtain ⟨r, c, q1, _⟩ := HR.out.at_ (k := 0)
    exact (q1 w' x).1
  go_wp2_with fail
  go_region_held3 (fun w' => w'.cell? ⟨R, 0, none⟩ = some (.int .i64 (S.b : Int))) (first | exact sb _ HE.out | exact sb _ (HE.out.trans (Ext.drew _)) | exact sb _ ((HE.out.trans (Ext.drew _)).trans hx))
    (first | (go_at_call 28; refine (rmine_any z (HR.out.ext (HE.out.trans (Ext.drew _))) okp (by show S.N + 1 ≤ 1000; omega)).mono ?_; rw [hmp]; rintro e w6 ⟨v, rfl, hown, hx⟩; obtain ⟨A6, c6, rfl⟩ := own_sl hown))
  have hE6 := hide ((HE.out.trans (Ext.drew _)).trans hx)
  have hz6 := (hz.ext (Ext.drew _)).ext hx
  have hfr : frX S z k = if (S.p k).g = 16777215 then ⟨4, z, (S.N : Int) + 1, (S.p k).g⟩ else if (S.mine z).length < S.b then ⟨3, z, (S.N : Int) + 1, (S.p k).g + 1⟩ else ⟨2, z, (S.N : Int) + 1, (S.p k).g + 1⟩ := rfl
  have HFX := hide hfr
  have hpk : (S.plus.p k) = S.p k := rfl
  clear hfr hown hz hx HE sb hmp okp
  have r6 := hz6.cell
  have f6 := hz6.free
  generalize (S.p k).g = gg at *
  by_cases hlt : (S.mine z).length < S.b
  · have D3 : decide (((S.mine z).length : Int) < (S.b : Int)) = true := by simp; omega
    by_cases hg9 : gg = 16777215
    · have hX := hide (HFX.out.trans (if_pos hg9))
      have EG : (gg == 16777215) = true := by simpa using hg9
      clear hg9
      go_wp2_with fail
      have hz7 := (hz6.set 0 (.int .i64 3)).set 0 (.int .i64 4)
      have hE7 := hide (((hE6.out.set (p := ⟨Z, 0, none⟩) hZ2 (.int .i64 3)).set (p := ⟨Z, 0, none⟩) hZ2 (.int .i64 4)))
      generalize (w6.setCell ⟨Z, 0, none⟩ (.int .i64 3)).setCell ⟨Z, 0, none⟩ (.int .i64 4) = w7 at *
      have hr7 := HR.out.ext hE7.out
      obtain ⟨r, c, p1, p2, ⟨p3, p4, p5, p6⟩, p7, p8⟩ := hr7.putX (k := k) ⟨4, z, (S.N : Int) + 1, gg⟩ hl
      have H7 := hide (And.intro p7 p8)
      rw [show S.plus.L.length = S.L.length from rfl] at p1
      have g0 := p2 (k * 4)
      have g1 := p2 (k * 4 + 1)
      have g2 := p2 (k * 4 + 2)
      have g3 := p2 (k * 4 + 3)
      rw [hpk] at p3 p4 p5 p6
      have r7 := hz7.cell
      clear p2 p7 p8 hr7 r6 f6 hpk
      go_region
      go_wp2_with fail
      go_ret
      rw [hX.out]
      exact ⟨rfl, H7.out.1.ext (Ext.drew _), ((hkp.trans (hE7.out.kp _ _)).trans H7.out.2).trans ((Ext.drew _).kp _ _)⟩
    · have hX := hide ((HFX.out.trans (if_neg hg9)).trans (if_pos hlt))
      have EG : (gg == 16777215) = false := by simpa using hg9
      have WG : IntKind.u32.wrap (gg + 1) = gg + 1 := by rw [IntKind.wrap_u32']; omega
      have WG2 : (gg + 1) % 4294967296 = gg + 1 := by omega
      clear hg9
      go_wp2_with fail
      have hz7 := (hz6.set 0 (.int .i64 3)).set 3 (.int .u32 (gg + 1))
      have hE7 := hide (((hE6.out.set (p := ⟨Z, 0, none⟩) hZ2 (.int .i64 3)).set (p := ⟨Z, 3, none⟩) hZ2 (.int .u32 (gg + 1))))
      generalize (w6.setCell ⟨Z, 0, none⟩ (.int .i64 3)).setCell ⟨Z, 3, none⟩ (.int .u32 (gg + 1)) = w7 at *
      have hr7 := HR.out.ext hE7.out
      obtain ⟨r, c, p1, p2, ⟨p3, p4, p5, p6⟩, p7, p8⟩ := hr7.putX (k := k) ⟨3, z, (S.N : Int) + 1, gg + 1⟩ hl
      have H7 := hide (And.intro p7 p8)
      rw [show S.plus.L.length = S.L.length from rfl] at p1
      have g0 := p2 (k * 4)
      have g1 := p2 (k * 4 + 1)
      have g2 := p2 (k * 4 + 2)
      have g3 := p2 (k * 4 + 3)
      rw [hpk] at p3 p4 p5 p6
      have r7 := hz7.cell
      clear p2 p7 p8 hr7 r6 f6 hpk
      go_region
      go_wp2_with fail
      go_ret
      rw [hX.out]
      exact ⟨rfl, H7.out.1.ext (Ext.drew _), ((hkp.trans (hE7.out.kp _ _)).trans H7.out.2).trans ((Ext.drew _).kp _ _)⟩
  · have D3 : decide (((S.mine z).length : Int) < (S.b : Int)) = false := by simp; omega
    by_cases hg9 : gg = 16777215
    · have hX := hide (HFX.out.trans (if_pos hg9))
      have EG : (gg == 16777215) = true := by simpa using hg9
      clear hg9
      go_wp2_with fail
      have hz7 := hz6.set 0 (.int .i64 4)
      have hE7 := hide ((hE6.out.set (p := ⟨Z, 0, none⟩) hZ2 (.int .i64 4)))
      generalize w6.setCell ⟨Z, 0, none⟩ (.int .i64 4) = w7 at *
      have hr7 := HR.out.ext hE7.out
      obtain ⟨r, c, p1, p2, ⟨p3, p4, p5, p6⟩, p7, p8⟩ := hr7.putX (k := k) ⟨4, z, (S.N : Int) + 1, gg⟩ hl
      have H7 := hide (And.intro p7 p8)
      rw [show S.plus.L.length = S.L.length from rfl] at p1
      have g0 := p2 (k * 4)
      have g1 := p2 (k * 4 + 1)
      have g2 := p2 (k * 4 + 2)
      have g3 := p2 (k * 4 + 3)
      rw [hpk] at p3 p4 p5 p6
      have r7 := hz7.cell
      clear p2 p7 p8 hr7 r6 f6 hpk
      go_region
      go_wp2_with fail
      go_ret
      rw [hX.out]
      exact ⟨rfl, H7.out.1.ext (Ext.drew _), ((hkp.trans (hE7.out.kp _ _)).trans H7.out.2).trans ((Ext.drew _).kp _ _)⟩
    · have hX := hide ((HFX.out.trans (if_neg hg9)).trans (if_neg hlt))
      have EG : (gg == 16777215) = false := by simpa using hg9
      have WG : IntKind.u32.wrap (gg + 1) = gg + 1 := by rw [IntKind.wrap_u32']; omega
      have WG2 : (gg + 1) % 4294967296 = gg + 1 := by omega
      clear hg9
      go_wp2_with fail
      have hz7 := hz6.set 3 (.int .u32 (gg + 1))
      have hE7 := hide ((hE6.out.set (p := ⟨Z, 3, none⟩) hZ2 (.int .u32 (gg + 1))))
      generalize w6.setCell ⟨Z, 3, none⟩ (.int .u32 (gg + 1)) = w7 at *
      have hr7 := HR.out.ext hE7.out
      obtain ⟨r, c, p1, p2, ⟨p3, p4, p5, p6⟩, p7, p8⟩ := hr7.putX (k := k) ⟨2, z, (S.N : Int) + 1, gg + 1⟩ hl
      have H7 := hide (And.intro p7 p8)
      rw [show S.plus.L.length = S.L.length from rfl] at p1
      have g0 := p2 (k * 4)
      have g1 := p2 (k * 4 + 1)
      have g2 := p2 (k * 4 + 2)
      have g3 := p2 (k * 4 + 3)
      rw [hpk] at p3 p4 p5 p6
      have r7 := hz7.cell
      clear p2 p7 p8 hr7 r6 f6 hpk
      go_region
      go_wp2_with fail
      go_ret
      rw [hX.out]
      exact ⟨rfl, H7.out.1.ext (Ext.drew _), ((hkp.trans (hE7.out.kp _ _)).trans H7.out.2).trans ((Ext.drew _).kp _ _)⟩
theorem rfree_any {z y : Int} (h : RefT w B R S) (ok : Ok S) (hN : S.N ≤ 900) :
    Calls Tryd.prog 12 #[.pointer (some ⟨R, 0, none⟩), .int .i64 z, .int .i64 y] w fun e w' => e = .returned (.int .i64 (frE S z y)) ∧ RefT w' B R (frS S z y) ∧ Kp TR B w w' := by
  by_cases hf : frOk S z y
  · obtain ⟨hz, hy, ha⟩ := hf
    obtain ⟨k, rfl⟩ : ∃ k : Nat, y = (k : Int) := ⟨y.toNat, by omega⟩
    rw [show frE S z (k : Int) = 0 from if_pos ⟨hz, hy, ha⟩, show frS S z (k : Int) = S.plus.set k (frX S z k) by unfold frS; rw [if_pos ⟨hz, hy, ha⟩, Int.toNat_natCast]]
    rw [Int.toNat_natCast] at ha
    exact rfree_yes h ok hN hz ha
  · rw [show frE S z y = 1 from if_neg hf, show frS S z y = S from if_neg hf]
    refine (rfree_no h ok hf).mono ?_
    rintro e w' ⟨rfl, rfl⟩
    exact ⟨rfl, h, Kp.refl _ _ _⟩
end
theorem rnew_out (n b : Int) (w : World) (h : ¬ (1 ≤ n ∧ n ≤ 4096 ∧ 1 ≤ b ∧ b ≤ 64)) :
    Calls Tryd.prog 8 #[.int .i64 n, .int .i64 b] w fun e w' => e = .returned (.tuple #[.agg #[.int .i64 0, .int .i64 0, .slice none 0 0], .int .i64 1]) ∧ Ext w w' := by
  by_cases h0 : n < 1
  · go_enter Tryd.func8, Tryd.ntmps8
    go_wp2
    refine bodyPost_ret (v := .tuple #[.agg #[.int .i64 0, .int .i64 0, .slice none 0 0], .int .i64 1]) (by simp [results, Tryd.results8, go_sem, *]) rfl ⟨rfl, ?_⟩
    ((repeat (with_reducible refine Ext.set ?_ (by simp) _)); exact Ext.alloc _ _)
  · by_cases h1 : 4096 < n
    · go_enter Tryd.func8, Tryd.ntmps8
      go_wp2
      refine bodyPost_ret (v := .tuple #[.agg #[.int .i64 0, .int .i64 0, .slice none 0 0], .int .i64 1]) (by simp [results, Tryd.results8, go_sem, *]) rfl ⟨rfl, ?_⟩
      ((repeat (with_reducible refine Ext.set ?_ (by simp) _)); exact Ext.alloc _ _)
    · by_cases h2 : b < 1
      · go_enter Tryd.func8, Tryd.ntmps8
        go_wp2
        refine bodyPost_ret (v := .tuple #[.agg #[.int .i64 0, .int .i64 0, .slice none 0 0], .int .i64 1]) (by simp [results, Tryd.results8, go_sem, *]) rfl ⟨rfl, ?_⟩
        ((repeat (with_reducible refine Ext.set ?_ (by simp) _)); exact Ext.alloc _ _)
      · have h3 : 64 < b := by omega
        go_enter Tryd.func8, Tryd.ntmps8
        go_wp2
        refine bodyPost_ret (v := .tuple #[.agg #[.int .i64 0, .int .i64 0, .slice none 0 0], .int .i64 1]) (by simp [results, Tryd.results8, go_sem, *]) rfl ⟨rfl, ?_⟩
        ((repeat (with_reducible refine Ext.set ?_ (by simp) _)); exact Ext.alloc _ _)
theorem inf_rslot : (Tryd.prog.info? 76).map (fun i => (i.zero, i.size, i.bytes)) = some (some (.agg #[.int .i64 0, .int .i64 0, .int .i64 0, .int .u32 0]), 4, 32) := by kernel_rfl
theorem made_qc (n : Nat) : (madeCells (Value.agg #[.int .i64 0, .int .i64 0, .int .i64 0, .int .u32 0]).cells (n * 4)).toList = qcells (List.replicate n z0) := by
  apply List.ext_getElem?
  intro j
  by_cases hj : j < n * 4
  · have hc : (Value.agg #[Value.int .i64 0, .int .i64 0, .int .i64 0, .int .u32 0]).cells = #[.int .i64 0, .int .i64 0, .int .i64 0, .int .u32 0] := rfl
    rw [hc]
    unfold madeCells
    rw [Array.getElem?_toList, Array.getElem?_map, Array.getElem?_range, if_pos hj]
    have h1 := qcells_at (List.replicate n z0) (j / 4) (j % 4) (by simp; omega) (by omega)
    rw [show j / 4 * 4 + j % 4 = j by omega] at h1
    rw [h1, List.getElem_replicate]
    rcases (by omega : j % 4 = 0 ∨ j % 4 = 1 ∨ j % 4 = 2 ∨ j % 4 = 3) with q | q | q | q <;> (rw [q]; simp [q]; rfl)
  · rw [List.getElem?_eq_none (by rw [Array.length_toList, size_madeCells]; omega), List.getElem?_eq_none (by rw [qcells_length, List.length_replicate]; omega)]
theorem rnew_in (n b : Nat) (w : World) (h1 : 1 ≤ n) (h2 : n ≤ 4096) (h3 : 1 ≤ b) (h4 : b ≤ 64) :
    Calls Tryd.prog 8 #[.int .i64 (n : Int), .int .i64 (b : Int)] w fun e w' => ∃ r, e = .returned (.tuple #[.agg #[.int .i64 (b : Int), .int .i64 0, .slice (some ⟨r, 0, none⟩) n n], .int .i64 0]) ∧ w'.ownsRow w.heap.size 76 4 (.slice (some ⟨r, 0, none⟩) n n) n (qcells (TS.new n b).L) ∧ Ext w w' := by
  have a1 : ¬ (n : Int) < 1 := by omega
  have a2 : ¬ (4096 : Int) < n := by omega
  have a3 : ¬ (b : Int) < 1 := by omega
  have a4 : ¬ (64 : Int) < b := by omega
  obtain ⟨i, hi, hz0, hz1, hz2⟩ := info_parts inf_rslot
  go_enter Tryd.func8, Tryd.ntmps8
  go_wp2_with (first
    | (at_make; refine wpList_make_full _ rfl _ _ 27 rfl w.heap.size 76 i _ 4 Tryd.underlying27 hi hz0 hz1 _ _ _ _ n rfl rfl rfl rfl (by rw [hz2]; omega) (by unfold maxLen; omega) (by simp) ?_; intro w4 hown4 hg4; have b4 := (Blk.new w #[.int .i64 0, .int .i64 0, .slice none 0 0] 29).grown hg4 (fun q hq => by cases hq); have r4 := b4.cell; have f4 := b4.free; go_frame)
    | go_in)
  refine bodyPost_ret (v := .tuple #[.agg #[.int .i64 (b : Int), .int .i64 0, .slice (some ⟨w.heap.size + 1, 0, none⟩) n n], .int .i64 0]) (by simp [results, Tryd.results8, go_sem, *]) rfl ?_
  rw [made_qc] at hown4
  have hown4 : w4.ownsRow w.heap.size 76 4 (.slice (some ⟨w.heap.size + 1, 0, none⟩) n n) n (qcells (TS.new n b).L) := by
    rw [World.size_alloc] at hown4
    exact hown4
  have hE := Ext.grown (Ext.alloc w (.cells #[.int .i64 0, .int .i64 0, .slice none 0 0] 29)) hg4 (fun q hq => by cases hq)
  have hs := (((Chg.refl [w.heap.size] w4).set (p := ⟨w.heap.size, 0, none⟩) (.inl (by simp)) (.int .i64 (b : Int))).set (p := ⟨w.heap.size, 1, none⟩) (.inl (by simp)) (.int .i64 0)).set (p := ⟨w.heap.size, 2, none⟩) (.inl (by simp)) (.slice (some ⟨w.heap.size + 1, 0, none⟩) n n)
  refine ⟨w.heap.size + 1, rfl, own_chgB hown4 hs (fun q hq hm => ?_), hE.turn hs (fun t ht => ?_)⟩
  · cases hq
    have : w.heap.size + 1 = w.heap.size := List.mem_singleton.1 hm
    omega
  · rw [List.mem_singleton.1 ht]; exact Nat.le_refl _
end Go.Proofs.YtpadepamknbkoaaDoor
