/- Append and Remove. -/
import Derived.Test.YtnmegokppbdhdaaQ2
import Derived.Deep.RegionHeld3
import Derived.BigRegion
namespace Go.Proofs.Ytnmegokppbdhdaa
open Go.RowKit
set_option linter.unusedSimpArgs false
set_option linter.unusedVariables false
set_option maxRecDepth 100000

theorem append_no {w : World} {A : Option Addr} {c : Nat} {l : List Int} {t : Int} (h : Row w A l.length c l) (ok : OkQ l) (ht : apB l t = false) :
    Calls Try.prog 10 #[(Value.agg #[.slice A l.length c]), .int .i64 t] w fun e w' => e = .returned (.tuple #[(Value.agg #[.slice A l.length c]), .bool false]) ∧ Ext w w' := by
  have hl := ok.len
  have hX0 : Ext w ((w.alloc (Obj.cells #[.slice A l.length c] 27)).alloc (Obj.cells #[.slice none 0 0] 27)) := (Ext.alloc _ _).trans (Ext.alloc _ _)
  have hB := (Blk.new w #[.slice A l.length c] 27).ext (Ext.alloc _ (Obj.cells #[.slice none 0 0] 27))
  have hD := Blk.new (w.alloc (Obj.cells #[.slice A l.length c] 27)) #[.slice none 0 0] 27
  rw [World.size_alloc] at hD
  have hh := has_any t (h.ch.ext hX0) (c := c) (by omega)
  cases e1 : thr t with
  | false =>
    go_enter Try.func10, Try.ntmps10
    go_wp2_with fail
    refine (isT_any _ _).mono ?_
    rw [e1]
    rintro e w1 ⟨rfl, rfl⟩
    have r := hB.cell
    have r3 := hD.cell
    have r4 := hD.free
    go_wp2_with fail
    refine bodyPost_ret (v := .tuple #[(Value.agg #[.slice A l.length c]), .bool false]) (by simp [results, Try.results10, go_sem, *]) rfl ?_
    exact ⟨rfl, (Ext.alloc _ _).trans (Ext.alloc _ _)⟩
  | true =>
    have e2 : hasQ l t = true := by unfold apB at ht; rw [e1] at ht; simpa using ht
    rw [e2] at hh
    go_enter Try.func10, Try.ntmps10
    go_wp2_with fail
    refine (isT_any _ _).mono ?_
    rw [e1]
    rintro e w1 ⟨rfl, rfl⟩
    have r := hB.cell
    go_wp2_with fail
    refine hh.mono ?_
    rintro e w1 ⟨rfl, hx⟩
    have r2 := (hB.ext hx).cell
    have r3 := (hD.ext hx).cell
    have r4 := (hD.ext hx).free
    go_wp2_with fail
    refine bodyPost_ret (v := .tuple #[(Value.agg #[.slice A l.length c]), .bool false]) (by simp [results, Try.results10, go_sem, *]) rfl ?_
    exact ⟨rfl, ((hX0.trans hx).set (p := ⟨w.heap.size + 1, 0, none⟩) (by simp) _)⟩
theorem Row.set {w : World} {A : Option Addr} {n c g i : Nat} {l : List Int} {cs : Array Value} {t : TypeId} {u : Value} (h : Row w A n c l) (hb : Blk w g cs t) (ht : t ≠ 3) : Row (w.setCell ⟨g, i, none⟩ u) A n c l :=
  h.kp (Kp.cell (ts := [t]) (B := 0) hb (Nat.zero_le _) (by simp)) (fun e => ht (List.mem_singleton.1 e).symm)
theorem news_one {w : World} {g : Nat} {t : Int} (h : w.cell? ⟨g, 0, none⟩ = some (.int .i64 t)) : ∀ j u, ([t].map enJ)[j]? = some u → w.cell? ((⟨g, 0, none⟩ : Addr).add j) = some u := by
  intro j u hu
  match j with
  | 0 => simp at hu; subst hu; exact h
  | j + 1 => simp at hu
set_option maxHeartbeats 1000000 in
theorem append_yes {w : World} {A : Option Addr} {c : Nat} {l : List Int} {t : Int} (h : Row w A l.length c l) (ok : OkQ l) (ht : apB l t = true) :
    Calls Try.prog 10 #[(Value.agg #[.slice A l.length c]), .int .i64 t] w fun e w' => ∃ A' c', e = .returned (.tuple #[(Value.agg #[.slice A' (l.length + 1) c']), .bool true]) ∧ Row w' A' (l.length + 1) c' (l ++ [t]) ∧ Ext w w' ∧ (∀ b off, A' = some ⟨b, off, none⟩ → w.heap.size ≤ b) := by
  have hl := ok.len
  have hcm := h.2.1
  have hcm2 := h.2.2.1
  have hA : A = none → l.length = 0 ∧ l.length = 0 := fun e => by subst e; have := h.noA; exact ⟨this.1, this.1⟩
  have hX0 : Ext w ((w.alloc (Obj.cells #[.slice A l.length c] 27)).alloc (Obj.cells #[.slice none 0 0] 27)) := (Ext.alloc _ _).trans (Ext.alloc _ _)
  have hB := (Blk.new w #[.slice A l.length c] 27).ext (Ext.alloc _ (Obj.cells #[.slice none 0 0] 27))
  have hD := Blk.new (w.alloc (Obj.cells #[.slice A l.length c] 27)) #[.slice none 0 0] 27
  rw [World.size_alloc] at hD
  have hh := has_any t (h.ch.ext hX0) (c := c) (by omega)
  obtain ⟨b0, b1, b2⟩ := apB_of ht
  rw [show hasQ l t = false from decide_eq_false b2] at hh
  have e1 : thr t = true := decide_eq_true ⟨b0, b1⟩
  go_enter Try.func10, Try.ntmps10
  go_wp2_with fail
  refine (isT_any _ _).mono ?_
  rw [e1]
  rintro e w1 ⟨rfl, rfl⟩
  have r := hB.cell
  go_wp2_with fail
  refine hh.mono ?_
  rintro e w1 ⟨rfl, hx⟩
  have HB := hide (fun w' (x : Ext w1 w') => ((hB.ext hx).ext x).cell 0)
  have HD := hide (fun w' (x : Ext w1 w') => (hD.ext hx).ext x)
  have HC := hide (fun w' (x : Ext w1 w') => h.ch.ext ((hX0.trans hx).trans x))
  have HX := hide (hX0.trans hx)
  clear r hB hD h hX0 hx hh
  go_wp2_with fail
  have hk := Ext.drew w1
  go_region_held3 (fun w' => w'.cell? ⟨w.heap.size, 0, none⟩ = some (.slice A l.length c)) (first | (rw [World.cell?_setCell_far _ _ _ _ (by simp)]; exact HB.out _ hk) | exact HB.out _ (by repeat (first | exact Ext.refl _ | assumption | exact Ext.alloc _ _ | exact Ext.drew _ | refine Ext.trans ?_ (Ext.alloc _ _) | refine Ext.trans ?_ (Ext.drew _))))
    (first
      | (go_at_call 19; refine (len_any _ _ _ _).mono ?_; rintro e w6 ⟨rfl, rfl⟩; have hk := hk.trans (Ext.alloc _ (Obj.cells #[.slice A l.length c] 27)))
      | (go_at_call 23; refine (cut_any _ _ _ _ _ hcm hcm2).mono ?_; rintro e w6 ⟨rfl, rfl⟩; have hk := hk.trans (Ext.alloc _ (Obj.cells #[.slice A l.length c] 27)))
      | (refine step_row rfl _ (.tmp 20) rfl (l := l) (l2 := [t]) rfl rfl hA (HC.out _ (by repeat (first | exact Ext.refl _ | assumption | exact Ext.alloc _ _ | exact Ext.drew _ | refine Ext.trans ?_ (Ext.alloc _ _) | refine Ext.trans ?_ (Ext.drew _)))) rfl rfl (news_one (by go_simp)) (by omega) (by omega) ?_; intro A4 c4 w4 hR hX4 hN4; have HN4 := hide hN4; clear hN4; have sz4 := hide (show Ext w1 _ from (by repeat (first | exact Ext.refl _ | assumption | exact Ext.alloc _ _ | exact Ext.drew _ | refine Ext.trans ?_ (Ext.alloc _ _) | refine Ext.trans ?_ (Ext.drew _)))).size; have hk := (show Ext w1 _ from (by repeat (first | exact Ext.refl _ | assumption | exact Ext.alloc _ _ | exact Ext.drew _ | refine Ext.trans ?_ (Ext.alloc _ _) | refine Ext.trans ?_ (Ext.drew _)))).trans hX4; have r3 := (HD.out _ hk).cell; have r4 := (HD.out _ hk).free))
  all_goals
    have HR := hide hR
    have HK := hide hk
    clear hR hX4
    go_wp2_with fail
    refine bodyPost_ret (v := .tuple #[(Value.agg #[.slice A4 (l.length + 1) c4]), .bool true]) (by simp [results, Try.results10, go_sem, *]) rfl ?_
    have h1 := HR.out.set (i := 0) (u := .slice A4 (l.length + 1) c4) (HD.out _ HK.out) (by decide)
    have h2 := (HX.out.trans HK.out).set (p := ⟨w.heap.size + 1, 0, none⟩) (Nat.le_succ _) (.slice A4 (l.length + 1) c4)
    have sz5 := HX.out.size
    have sz6 := sz4.out
    exact ⟨A4, c4, rfl, h1, h2, fun b off e => by have := HN4.out b off e; simp only [World.size_alloc, World.size_drew] at this sz6; omega⟩
end Go.Proofs.Ytnmegokppbdhdaa
