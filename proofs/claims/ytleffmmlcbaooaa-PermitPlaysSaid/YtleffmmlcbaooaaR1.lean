/- The reference's table: three rows; what its methods do. -/
import Derived.Test.YtleffmmlcbaooaaS2
import Derived.RegionTactic
namespace Go.Proofs.Ytleffmmlcbaooaa
open Go.RowKit
set_option linter.unusedSimpArgs false
set_option linter.unusedVariables false

/-- None that is asleep has a permit. -/
def OkG (g : Tb) : Prop := ∀ t, (g t).x = true → (g t).y = false
structure RefT (w : World) (R P F S N : Nat) (g : Tb) : Prop where
  r : Blk w R #[.slice (some ⟨P, 0, none⟩) N N, .slice (some ⟨F, 0, none⟩) N N, .slice (some ⟨S, 0, none⟩) N N] 29
  p : Blk w P (rows1 N fun t => (g t).y) 4
  f : Blk w F (rows1 N fun t => (g t).z) 4
  s : Blk w S (rows1 N fun t => (g t).x) 4
  rp : R ≠ P
  rf : R ≠ F
  rs : R ≠ S
  pf : P ≠ F
  ps : P ≠ S
  fs : F ≠ S
  n1 : 1 ≤ N
  n2 : N ≤ 256
  ok : OkG g
section
variable {w w' : World} {R P F S N : Nat} {g : Tb} {z : Int}
theorem RefT.chg {T : List Nat} (h : RefT w R P F S N g) (x : Chg T w w') (hT : ∀ k, k ∈ [R, P, F, S] → k ∉ T) : RefT w' R P F S N g :=
  ⟨h.r.chg x (hT R (by simp)), h.p.chg x (hT P (by simp)), h.f.chg x (hT F (by simp)), h.s.chg x (hT S (by simp)), h.rp, h.rf, h.rs, h.pf, h.ps, h.fs, h.n1, h.n2, h.ok⟩
theorem RefT.ext (h : RefT w R P F S N g) (x : Ext w w') : RefT w' R P F S N g := h.chg (x.chg []) (by simp)
theorem RefT.lp (h : RefT w R P F S N g) {t : Nat} (ht : t < N) : w.cell? ⟨P, t, none⟩ = some (.bool (g t).y) := (h.p.cell t).trans (rows1_at _ ht)
theorem RefT.lf (h : RefT w R P F S N g) {t : Nat} (ht : t < N) : w.cell? ⟨F, t, none⟩ = some (.bool (g t).z) := (h.f.cell t).trans (rows1_at _ ht)
theorem RefT.ls (h : RefT w R P F S N g) {t : Nat} (ht : t < N) : w.cell? ⟨S, t, none⟩ = some (.bool (g t).x) := (h.s.cell t).trans (rows1_at _ ht)
theorem okG_upd {g : Tb} (h : OkG g) (t : Nat) {s : B3} (hs : s.x = true → s.y = false) : OkG (upd3 g t s) := fun k => by
  by_cases e : k = t
  · rw [e, upd3_same]; exact hs
  · rw [upd3_other _ _ e]; exact h k
theorem RefT.setp (h : RefT w R P F S N g) {t : Nat} (ht : t < N) (s : B3) (hx : s.x = (g t).x) (hz : s.z = (g t).z) (hs : s.x = true → s.y = false) :
    RefT (w.setCell ⟨P, t, none⟩ (.bool s.y)) R P F S N (upd3 g t s) := by
  refine ⟨h.r.far (p := ⟨P, t, none⟩) h.rp _, ?_, ?_, ?_, h.rp, h.rf, h.rs, h.pf, h.ps, h.fs, h.n1, h.n2, okG_upd h.ok t hs⟩
  · rw [row_upd g t s (·.y), ← rows1_set _ ht]; exact h.p.set t _
  · rw [row_stay g t s (·.z) hz]; exact h.f.far (p := ⟨P, t, none⟩) h.pf.symm _
  · rw [row_stay g t s (·.x) hx]; exact h.s.far (p := ⟨P, t, none⟩) h.ps.symm _
theorem RefT.setf (h : RefT w R P F S N g) {t : Nat} (ht : t < N) (s : B3) (hx : s.x = (g t).x) (hy : s.y = (g t).y) (hs : s.x = true → s.y = false) :
    RefT (w.setCell ⟨F, t, none⟩ (.bool s.z)) R P F S N (upd3 g t s) := by
  refine ⟨h.r.far (p := ⟨F, t, none⟩) h.rf _, ?_, ?_, ?_, h.rp, h.rf, h.rs, h.pf, h.ps, h.fs, h.n1, h.n2, okG_upd h.ok t hs⟩
  · rw [row_stay g t s (·.y) hy]; exact h.p.far (p := ⟨F, t, none⟩) h.pf _
  · rw [row_upd g t s (·.z), ← rows1_set _ ht]; exact h.f.set t _
  · rw [row_stay g t s (·.x) hx]; exact h.s.far (p := ⟨F, t, none⟩) h.fs.symm _
theorem RefT.sets (h : RefT w R P F S N g) {t : Nat} (ht : t < N) (s : B3) (hy : s.y = (g t).y) (hz : s.z = (g t).z) (hs : s.x = true → s.y = false) :
    RefT (w.setCell ⟨S, t, none⟩ (.bool s.x)) R P F S N (upd3 g t s) := by
  refine ⟨h.r.far (p := ⟨S, t, none⟩) h.rs _, ?_, ?_, ?_, h.rp, h.rf, h.rs, h.pf, h.ps, h.fs, h.n1, h.n2, okG_upd h.ok t hs⟩
  · rw [row_stay g t s (·.y) hy]; exact h.p.far (p := ⟨S, t, none⟩) h.ps _
  · rw [row_stay g t s (·.z) hz]; exact h.f.far (p := ⟨S, t, none⟩) h.fs _
  · rw [row_upd g t s (·.x), ← rows1_set _ ht]; exact h.s.set t _
theorem sub_p {P F S : Nat} : ∀ k, k ∈ [P] → k ∈ [P, F, S] := by simp
theorem chg_at {T : List Nat} (w : World) (V o : Nat) (u : Value) (h : V ∈ T) : Chg T w (w.setCell ⟨V, o, none⟩ u) := (Chg.refl T w).set (p := ⟨V, o, none⟩) (.inl h) u

theorem rhas_any (h : RefT w R P F S N g) : Calls Try.prog 19 #[.pointer (some ⟨R, 0, none⟩), .int .i64 z] w fun e w' => e = .returned (.bool (inB N z)) ∧ w = w' := by
  have r := h.r.cell
  by_cases h0 : 0 ≤ z
  · by_cases h1 : z < N
    · have E := hide (inB_yes h0 h1)
      go_enter Try.func19, Try.ntmps19
      go_wp2
      go_ret
      exact ⟨by rw [E.out]; simp, rfl⟩
    · have E := hide (inB_no (N := N) (z := z) (by omega))
      go_enter Try.func19, Try.ntmps19
      go_wp2
      go_ret
      exact ⟨by rw [E.out]; simp, rfl⟩
  · have E := hide (inB_no (N := N) (z := z) (by omega))
    go_enter Try.func19, Try.ntmps19
    go_wp2
    go_ret
    exact ⟨by rw [E.out]; simp, rfl⟩
theorem rpark_any (h : RefT w R P F S N g) :
    Calls Try.prog 18 #[.pointer (some ⟨R, 0, none⟩), .int .i64 z] w fun e w' => e = .returned (.tuple #[.bool (toB N g z parkA), .int .i64 (erI N z)]) ∧ RefT w' R P F S N (toG N g z parkS) ∧ Chg [P, F, S] w w' := by
  by_cases hh : 0 ≤ z ∧ z < N
  · obtain ⟨h0, h1⟩ := hh
    rw [toB_yes g parkA h0 h1, erI_yes h0 h1, toG_yes g parkS h0 h1]
    have hB := inB_yes h0 h1
    have ht : z.toNat < N := by omega
    have r := h.r.cell
    have lp := h.lp ht
    have ls := h.ls ht
    have fp := h.p.free z.toNat
    have fs := h.s.free z.toNat
    have n2 := h.n2
    cases hy : (g z.toNat).y
    · have e1 : parkS (g z.toNat) = ⟨true, false, (g z.toNat).z⟩ := by simp [parkS, hy]
      have e2 : parkA (g z.toNat) = true := by simp [parkA, hy]
      have H2 := hide (h.sets ht (parkS (g z.toNat)) (by rw [e1, hy]) (by rw [e1]) (by rw [e1]; simp))
      have E := hide (show (parkS (g z.toNat)).x = true by rw [e1])
      have C2 := hide (chg_at (T := [P, F, S]) w S z.toNat (.bool true) (by simp))
      rw [e2]
      clear e1 e2
      go_enter Try.func18, Try.ntmps18
      go_wp2_with fail
      refine (rhas_any h).mono ?_
      rintro e w1 ⟨rfl, rfl⟩
      rw [hB]
      go_wp2_with fail
      go_ret2
      exact ⟨by simp, by rw [E.out] at H2; exact H2.out, C2.out⟩
    · have hx : (g z.toNat).x = false := by
        cases hx : (g z.toNat).x
        · rfl
        · have := h.ok z.toNat hx; rw [hy] at this; cases this
      have e1 : parkS (g z.toNat) = ⟨false, false, (g z.toNat).z⟩ := by simp [parkS, hy]
      have e2 : parkA (g z.toNat) = false := by simp [parkA, hy]
      have H2 := hide (h.setp ht (parkS (g z.toNat)) (by rw [e1, hx]) (by rw [e1]) (by rw [e1]; simp))
      have E := hide (show (parkS (g z.toNat)).y = false by rw [e1])
      have C2 := hide (chg_at (T := [P, F, S]) w P z.toNat (.bool false) (by simp))
      rw [e2]
      clear e1 e2
      go_enter Try.func18, Try.ntmps18
      go_wp2_with fail
      refine (rhas_any h).mono ?_
      rintro e w1 ⟨rfl, rfl⟩
      rw [hB]
      go_wp2_with fail
      go_ret2
      exact ⟨by simp, by rw [E.out] at H2; exact H2.out, C2.out⟩
  · rw [toB_no g parkA hh, erI_no hh, toG_no g parkS hh]
    have hB := inB_no hh
    go_enter Try.func18, Try.ntmps18
    go_wp2_with fail
    refine (rhas_any h).mono ?_
    rintro e w1 ⟨rfl, rfl⟩
    rw [hB]
    go_wp2_with fail
    go_ret2
    exact ⟨by simp, h, Chg.refl _ _⟩
theorem runpark_any (h : RefT w R P F S N g) :
    Calls Try.prog 12 #[.pointer (some ⟨R, 0, none⟩), .int .i64 z] w fun e w' => e = .returned (.tuple #[.bool (toB N g z unA), .int .i64 (erI N z)]) ∧ RefT w' R P F S N (toG N g z unS) ∧ Chg [P, F, S] w w' := by
  by_cases hh : 0 ≤ z ∧ z < N
  · obtain ⟨h0, h1⟩ := hh
    rw [toB_yes g unA h0 h1, erI_yes h0 h1, toG_yes g unS h0 h1]
    have hB := inB_yes h0 h1
    have ht : z.toNat < N := by omega
    have r := h.r.cell
    have lp := h.lp ht
    have ls := h.ls ht
    have fp := h.p.free z.toNat
    have fs := h.s.free z.toNat
    have n2 := h.n2
    cases hx : (g z.toNat).x
    · have e1 : unS (g z.toNat) = ⟨false, true, (g z.toNat).z⟩ := by simp [unS, hx]
      have e2 : unA (g z.toNat) = false := by simp [unA, hx]
      have H2 := hide (h.setp ht (unS (g z.toNat)) (by rw [e1, hx]) (by rw [e1]) (by rw [e1]; simp))
      have E := hide (show (unS (g z.toNat)).y = true by rw [e1])
      have C2 := hide (chg_at (T := [P, F, S]) w P z.toNat (.bool true) (by simp))
      rw [e2]
      clear e1 e2
      go_enter Try.func12, Try.ntmps12
      go_wp2_with fail
      refine (rhas_any h).mono ?_
      rintro e w1 ⟨rfl, rfl⟩
      rw [hB]
      go_wp2_with fail
      go_ret2
      exact ⟨by simp, by rw [E.out] at H2; exact H2.out, C2.out⟩
    · have hy := h.ok z.toNat hx
      have e1 : unS (g z.toNat) = ⟨false, false, (g z.toNat).z⟩ := by simp [unS, hx]
      have e2 : unA (g z.toNat) = true := by simp [unA, hx]
      have H2 := hide (h.sets ht (unS (g z.toNat)) (by rw [e1, hy]) (by rw [e1]) (by rw [e1]; simp))
      have E := hide (show (unS (g z.toNat)).x = false by rw [e1])
      have C2 := hide (chg_at (T := [P, F, S]) w S z.toNat (.bool false) (by simp))
      rw [e2]
      clear e1 e2 hy
      go_enter Try.func12, Try.ntmps12
      go_wp2_with fail
      refine (rhas_any h).mono ?_
      rintro e w1 ⟨rfl, rfl⟩
      rw [hB]
      go_wp2_with fail
      go_ret2
      exact ⟨by simp, by rw [E.out] at H2; exact H2.out, C2.out⟩
  · rw [toB_no g unA hh, erI_no hh, toG_no g unS hh]
    have hB := inB_no hh
    go_enter Try.func12, Try.ntmps12
    go_wp2_with fail
    refine (rhas_any h).mono ?_
    rintro e w1 ⟨rfl, rfl⟩
    rw [hB]
    go_wp2_with fail
    go_ret2
    exact ⟨by simp, h, Chg.refl _ _⟩
theorem rinterrupt_any (h : RefT w R P F S N g) :
    Calls Try.prog 14 #[.pointer (some ⟨R, 0, none⟩), .int .i64 z] w fun e w' => e = .returned (.tuple #[.bool (toB N g z unA), .int .i64 (erI N z)]) ∧ RefT w' R P F S N (toG N g z intS) ∧ Chg [P, F, S] w w' := by
  by_cases hh : 0 ≤ z ∧ z < N
  · obtain ⟨h0, h1⟩ := hh
    have hB := inB_yes h0 h1
    have ht : z.toNat < N := by omega
    have r := h.r.cell
    have lf := h.lf ht
    have ff := h.f.free z.toNat
    have n2 := h.n2
    have H3 := hide (h.setf ht ⟨(g z.toNat).x, (g z.toNat).y, true⟩ rfl rfl (h.ok z.toNat))
    have C3 := hide (chg_at (T := [P, F, S]) w F z.toNat (.bool true) (by simp))
    have E3 := hide (show toG N (upd3 g z.toNat ⟨(g z.toNat).x, (g z.toNat).y, true⟩) z unS = toG N g z intS by rw [toG_yes _ _ h0 h1, toG_yes _ _ h0 h1, upd3_upd3, upd3_same]; rfl)
    have E4 := hide (show toB N (upd3 g z.toNat ⟨(g z.toNat).x, (g z.toNat).y, true⟩) z unA = toB N g z unA by rw [toB_yes _ _ h0 h1, toB_yes _ _ h0 h1, upd3_same]; rfl)
    go_enter Try.func14, Try.ntmps14
    go_wp2_with fail
    refine (rhas_any h).mono ?_
    rintro e w1 ⟨rfl, rfl⟩
    rw [hB]
    go_wp2_with fail
    refine (runpark_any H3.out).mono ?_
    rintro e w1 ⟨rfl, h2, hc⟩
    rw [E3.out] at h2
    rw [E4.out]
    go_wp2_with fail
    go_ret2
    exact ⟨by simp, h2, C3.out.trans hc⟩
  · rw [toB_no g unA hh, erI_no hh, toG_no g intS hh]
    have hB := inB_no hh
    go_enter Try.func14, Try.ntmps14
    go_wp2_with fail
    refine (rhas_any h).mono ?_
    rintro e w1 ⟨rfl, rfl⟩
    rw [hB]
    go_wp2_with fail
    go_ret2
    exact ⟨by simp, h, Chg.refl _ _⟩
theorem rtake_any (h : RefT w R P F S N g) :
    Calls Try.prog 16 #[.pointer (some ⟨R, 0, none⟩), .int .i64 z] w fun e w' => e = .returned (.bool (toB N g z takA)) ∧ RefT w' R P F S N (toG N g z takS) ∧ Chg [P, F, S] w w' := by
  by_cases hh : 0 ≤ z ∧ z < N
  · obtain ⟨h0, h1⟩ := hh
    rw [toB_yes g takA h0 h1, toG_yes g takS h0 h1]
    have hB := inB_yes h0 h1
    have ht : z.toNat < N := by omega
    have r := h.r.cell
    have lf := h.lf ht
    have ff := h.f.free z.toNat
    have n2 := h.n2
    cases hz : (g z.toNat).z
    · have e2 : takA (g z.toNat) = false := hz
      have E := hide (show upd3 g z.toNat (takS (g z.toNat)) = g by rw [show takS (g z.toNat) = g z.toNat by unfold takS; rw [← hz]]; exact upd3_self g _)
      rw [e2]
      clear e2
      go_enter Try.func16, Try.ntmps16
      go_wp2_with fail
      refine (rhas_any h).mono ?_
      rintro e w1 ⟨rfl, rfl⟩
      rw [hB]
      go_wp2_with fail
      go_ret
      exact ⟨by simp, by rw [E.out]; exact h, Chg.refl _ _⟩
    · have e2 : takA (g z.toNat) = true := hz
      have H2 := hide (h.setf ht (takS (g z.toNat)) rfl rfl (h.ok z.toNat))
      have C2 := hide (chg_at (T := [P, F, S]) w F z.toNat (.bool false) (by simp))
      rw [e2]
      clear e2
      go_enter Try.func16, Try.ntmps16
      go_wp2_with fail
      refine (rhas_any h).mono ?_
      rintro e w1 ⟨rfl, rfl⟩
      rw [hB]
      go_wp2_with fail
      go_ret
      exact ⟨by simp, H2.out, C2.out⟩
  · rw [toB_no g takA hh, toG_no g takS hh]
    have hB := inB_no hh
    go_enter Try.func16, Try.ntmps16
    go_wp2_with fail
    refine (rhas_any h).mono ?_
    rintro e w1 ⟨rfl, rfl⟩
    rw [hB]
    go_wp2_with fail
    go_ret
    exact ⟨by simp, h, Chg.refl _ _⟩
end
end Go.Proofs.Ytleffmmlcbaooaa
