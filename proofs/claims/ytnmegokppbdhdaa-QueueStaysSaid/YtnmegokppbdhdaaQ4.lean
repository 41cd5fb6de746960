/- Remove. -/
import Derived.Test.YtnmegokppbdhdaaQ3
namespace Go.Proofs.Ytnmegokppbdhdaa
open Go.RowKit
set_option linter.unusedSimpArgs false
set_option linter.unusedVariables false
set_option maxRecDepth 100000

theorem nothing_run (w : World) (ty : TypeId) (A B : Option Addr) (n cap c : Nat) (hn : n ≤ cap) :
    (Builtin.append_ #[25, 25] ty #[.slice A n cap, .slice B 0 c]).run Try.prog w = .ok (.slice A n cap) w := by
  obtain ⟨i, hi, hz, hsize, hb⟩ := info_parts inf_int
  cases A <;> cases B <;> simp [Builtin.append_, run_underlying Try.underlying25, sizeOf, typeInfo, hi, Builtin.lenOf, Builtin.firstCells, loadCells, loadCellsFrom, storeCells, hn]
theorem step_none {ops : Array Oper} {o : Oper} {a : Act} {w : World} {K : Act → World → Prop} {Q : Exit → Act → World → Prop} {E : Prop}
    (hg : o.guard = none) (s x : Operand) (ho : o.op = .call { callee := .builtin .append, args := #[s, x], argTypes := #[25, 25] })
    {A B : Option Addr} {n cap c : Nat} (hs : a.eval s = .slice A n cap) (hn : n ≤ cap) (hx : a.eval x = .slice B 0 c)
    (h : K (a.put o.dst (.slice A n cap)) w) : if Region.wanted o (yielded ops a.tmps) = true then Oper.wp Try.prog o a w K Q else E := by
  have hw : Region.wanted o (yielded ops a.tmps) = true := by simp [Region.wanted, hg]
  rw [if_pos hw]
  have h1 := nothing_run w o.type A B n cap c hn
  unfold Oper.wp execOp
  simp only [ho, resolve, invoke, builtin, Sem.run_bind, Sem.run_pure, Result.andThen_ok, List.map_toArray, List.map_cons, List.map_nil, hs, hx, h1]
  exact h
theorem Row.take {w : World} {A : Option Addr} {n c : Nat} {l : List Int} (h : Row w A n c l) {k : Nat} (hk : k ≤ n) : Row w A k k (l.take k) := by
  obtain ⟨h1, h2, h3, ⟨e1, e2⟩ | ⟨b, off, cs, h4, h5, h6⟩⟩ := h
  · exact ⟨by rw [List.length_take]; omega, Nat.le_refl _, by omega, .inl ⟨e1, by omega⟩⟩
  · refine ⟨by rw [List.length_take]; omega, Nat.le_refl _, by omega, .inr ⟨b, off, cs, h4, h5, fun j hj => ?_⟩⟩
    rw [List.length_take] at hj
    rw [h6 j (by omega), List.getElem_take]
theorem Row.eq {w : World} {A : Option Addr} {n c : Nat} {l l2 : List Int} (h : Row w A n c l) (e : l = l2) : Row w A n c l2 := e ▸ h
theorem Ch.take {w : World} {A : Option Addr} {l : List Int} (h : Ch w A l) (k : Nat) : Ch w A (l.take k) := by
  rcases h with h | ⟨b, off, h1, h2, h3⟩
  · exact .inl (by rw [List.length_take]; omega)
  · exact .inr ⟨b, off, h1, h2, fun j hj => by rw [List.length_take] at hj; rw [h3 j (by omega), List.getElem_take]⟩
theorem Ch.news {w : World} {b off : Nat} {l : List Int} (h : Ch w (some ⟨b, off, none⟩) l) (k : Nat) : ∀ j u, ((l.drop k).map enJ)[j]? = some u → w.cell? ((⟨b, off + k, none⟩ : Addr).add j) = some u := by
  intro j u hu
  have hj : k + j < l.length := by have := (List.getElem?_eq_some_iff.1 hu).1; simp at this; omega
  rw [List.getElem?_map, List.getElem?_drop, List.getElem?_eq_getElem hj] at hu
  rcases h with h | ⟨b2, off2, h1, h2, h3⟩
  · omega
  · cases h1
    rw [Addr.add_lit, Nat.add_assoc, h3 _ hj, ← hu]
    rfl
theorem remove_no {w : World} {A : Option Addr} {c : Nat} {l : List Int} {t : Int} (h : Row w A l.length c l) (ok : OkQ l) (ht : t ∉ l) :
    Calls Try.prog 15 #[(Value.agg #[.slice A l.length c]), .int .i64 t] w fun e w' => e = .returned (.tuple #[(Value.agg #[.slice A l.length c]), .bool false]) ∧ Ext w w' := by
  have hl := ok.len
  have hX0 : Ext w ((w.alloc (Obj.cells #[.slice A l.length c] 27)).alloc (Obj.cells #[.slice none 0 0] 27)) := (Ext.alloc _ _).trans (Ext.alloc _ _)
  have hB := (Blk.new w #[.slice A l.length c] 27).ext (Ext.alloc _ (Obj.cells #[.slice none 0 0] 27))
  have hD := Blk.new (w.alloc (Obj.cells #[.slice A l.length c] 27)) #[.slice none 0 0] 27
  rw [World.size_alloc] at hD
  have hh := index_any t (h.ch.ext hX0) (c := c) (by omega)
  rw [show ixI l t = -1 by unfold ixI; rw [if_neg ht]] at hh
  have r := hB.cell
  have r3 := hD.cell
  have r4 := hD.free
  go_enter Try.func15, Try.ntmps15
  go_wp2_with fail
  refine hh.mono ?_
  rintro e w1 ⟨rfl, rfl⟩
  go_wp2_with fail
  refine bodyPost_ret (v := .tuple #[(Value.agg #[.slice A l.length c]), .bool false]) (by simp [results, Try.results15, go_sem, *]) rfl ?_
  exact ⟨rfl, (Ext.alloc _ _).trans (Ext.alloc _ _)⟩
set_option maxHeartbeats 1000000 in
theorem remove_yes {w : World} {A : Option Addr} {c : Nat} {l : List Int} {t : Int} (h : Row w A l.length c l) (ok : OkQ l) (ht : t ∈ l) :
    Calls Try.prog 15 #[(Value.agg #[.slice A l.length c]), .int .i64 t] w fun e w' => ∃ A' c', e = .returned (.tuple #[(Value.agg #[.slice A' (rmL l t).length c']), .bool true]) ∧ Row w' A' (rmL l t).length c' (rmL l t) ∧ Ext w w' := by
  have hl := ok.len
  have hk0 := ix_lt ht
  rw [rmL_at ok.nd ht]
  have ei : ixI l t = (ixN l t : Int) := by unfold ixI; rw [if_pos ht]
  have hX0 : Ext w ((w.alloc (Obj.cells #[.slice A l.length c] 27)).alloc (Obj.cells #[.slice none 0 0] 27)) := (Ext.alloc _ _).trans (Ext.alloc _ _)
  have hh := index_any t (h.ch.ext hX0) (c := c) (by omega)
  rw [ei] at hh
  clear ei
  generalize ixN l t = k at *
  obtain ⟨n, hn⟩ : ∃ n, n = l.length := ⟨_, rfl⟩
  rw [← hn] at h hl hk0 hX0 hh ⊢
  have hcm := h.2.1
  have hcm2 := h.2.2.1
  have HT := hide (h.take (k := k) (by omega))
  have hch := h.ch
  obtain ⟨b, off, rfl, hz9⟩ := h.ch.at_ (hn ▸ hk0)
  have hA : (some (⟨b, off, none⟩ : Addr)) = none → k = 0 ∧ k = 0 := fun e => by cases e
  have hB := (Blk.new w #[.slice (some ⟨b, off, none⟩) n c] 27).ext (Ext.alloc _ (Obj.cells #[.slice none 0 0] 27))
  have hD := Blk.new (w.alloc (Obj.cells #[.slice (some ⟨b, off, none⟩) n c] 27)) #[.slice none 0 0] 27
  rw [World.size_alloc] at hD
  have r := hB.cell
  have hkc : k ≤ c := by omega
  have hkc2 : k + 1 ≤ c := by omega
  have g0 : 0 ≤ (k : Int) + 1 := by omega
  have g1 : (k : Int) + 1 ≤ (n : Int) := by omega
  have gw : IntKind.i64.wrap ((k : Int) + 1) = (k : Int) + 1 := by rw [IntKind.wrap_i64]; omega
  have HC := hide (fun w' (x : Ext w w') => (hch.ext x).take k)
  have HN := hide (fun w' (x : Ext w w') => (hch.ext x).news (k + 1))
  have EL := hide (show (l.take k).length = k by rw [List.length_take]; omega)
  have hl2 : (l.drop (k + 1)).length = n - (k + 1) := by simp; omega
  clear h hch
  unfold maxLen at hcm2
  have HN2 := hide hn
  have HL2 := hide hl2
  clear hz9 hn hl2
  by_cases hq : k + 1 = n
  · subst hq
    obtain ⟨B, hB0⟩ : ∃ B, (if c = k + 1 then some (⟨b, off, none⟩ : Addr) else some ⟨b, off + (k + 1), none⟩) = B := ⟨_, rfl⟩
    have hkk : (k + 1) - (k + 1) = 0 := Nat.sub_self _
    go_enter Try.func15, Try.ntmps15
    go_wp2_with fail
    refine hh.mono ?_
    rintro e w1 ⟨rfl, rfl⟩
    have HX := hide hX0
    go_wp2_with fail
    generalize (w.alloc (Obj.cells #[.slice (some ⟨b, off, none⟩) (k + 1) c] 27)).alloc (Obj.cells #[.slice none 0 0] 27) = w1 at *
    have HB := hide (fun w' (x : Ext w1 w') => (hB.ext x).cell 0)
    have HD := hide (fun w' (x : Ext w1 w') => hD.ext x)
    clear hh hX0 hB hD r
    have hk := Ext.drew w1
    go_region_held3 (fun w' => w'.cell? ⟨w.heap.size, 0, none⟩ = some (.slice (some ⟨b, off, none⟩) (k + 1) c)) (first | exact (World.cell?_setCell_far (w1.alloc (Obj.cells #[.slice (some ⟨b, off, none⟩) (k + 1) c] 27)) ⟨w.heap.size + 1, 0, none⟩ _ _ (by simp)).trans (HB.out _ (Ext.alloc w1 _)) | exact HB.out _ (by repeat (first | exact Ext.refl _ | assumption | exact Ext.alloc _ _ | exact Ext.drew _ | refine Ext.trans ?_ (Ext.alloc _ _) | refine Ext.trans ?_ (Ext.drew _))))
      (first
        | (go_at_call 23; refine (cut_any _ _ _ _ _ hkc (by unfold maxLen; omega)).mono ?_; rintro e w6 ⟨rfl, rfl⟩; have hk := hk.trans (Ext.alloc _ (Obj.cells #[.slice (some ⟨b, off, none⟩) (k + 1) c] 27)))
        | (refine step_none rfl (.tmp 16) (.tmp 21) rfl rfl (Nat.le_refl _) rfl ?_; have hk := (show Ext w1 ((w1.alloc (Obj.cells #[.slice (some ⟨b, off, none⟩) (k + 1) c] 27)).drew) from (by repeat (first | exact Ext.refl _ | assumption | exact Ext.alloc _ _ | exact Ext.drew _ | refine Ext.trans ?_ (Ext.alloc _ _) | refine Ext.trans ?_ (Ext.drew _)))); have r3 := (HD.out _ hk).cell; have r4 := (HD.out _ hk).free))
    have HK := hide hk
    clear hk
    go_wp2_with fail
    have r5 : ((w1.alloc (Obj.cells #[.slice (some ⟨b, off, none⟩) (k + 1) c] 27)).setCell ⟨w.heap.size + 1, 0, none⟩ (.slice (some ⟨b, off, none⟩) k k)).cell? ⟨w.heap.size + 1, 0, none⟩ = some (.slice (some ⟨b, off, none⟩) k k) := World.cell?_setCell_same' _ _ _ (by rw [(HD.out _ (Ext.alloc w1 _)).cell 0]; rfl)
    refine bodyPost_ret (v := .tuple #[(Value.agg #[.slice (some ⟨b, off, none⟩) k k]), .bool true]) (by simp [results, Try.results15, go_sem, *]) rfl ?_
    have hx := Ext.alloc w1 (Obj.cells #[.slice (some ⟨b, off, none⟩) (k + 1) c] 27)
    have h1 := ((HT.out.ext (HX.out.trans hx)).set (i := 0) (u := .slice (some ⟨b, off, none⟩) k k) (HD.out _ hx) (by decide)).ext (Ext.drew _)
    have h2 := ((HX.out.trans hx).set (p := ⟨w.heap.size + 1, 0, none⟩) (Nat.le_succ _) (.slice (some ⟨b, off, none⟩) k k)).trans (Ext.drew _)
    have e2 : l.drop (k + 1) = [] := List.eq_nil_of_length_eq_zero (by rw [HL2.out]; omega)
    rw [e2, List.append_nil, EL.out]
    exact ⟨_, k, rfl, h1, h2⟩
  · have hcq : ¬ c = k + 1 := by omega
    go_enter Try.func15, Try.ntmps15
    go_wp2_with fail
    refine hh.mono ?_
    rintro e w1 ⟨rfl, rfl⟩
    have HX := hide hX0
    go_wp2_with fail
    generalize (w.alloc (Obj.cells #[.slice (some ⟨b, off, none⟩) n c] 27)).alloc (Obj.cells #[.slice none 0 0] 27) = w1 at *
    have HB := hide (fun w' (x : Ext w1 w') => (hB.ext x).cell 0)
    have HD := hide (fun w' (x : Ext w1 w') => hD.ext x)
    clear hh hX0 hB hD r
    have hk := Ext.drew w1
    go_region_held3 (fun w' => w'.cell? ⟨w.heap.size, 0, none⟩ = some (.slice (some ⟨b, off, none⟩) n c)) (first | (rw [World.cell?_setCell_far _ _ _ _ (by simp)]; exact HB.out _ hk) | exact HB.out _ (by repeat (first | exact Ext.refl _ | assumption | exact Ext.alloc _ _ | exact Ext.drew _ | refine Ext.trans ?_ (Ext.alloc _ _) | refine Ext.trans ?_ (Ext.drew _))))
      (first
        | (go_at_call 23; refine (cut_any _ _ _ _ _ hkc (by unfold maxLen; omega)).mono ?_; rintro e w6 ⟨rfl, rfl⟩; have hk := hk.trans (Ext.alloc _ (Obj.cells #[.slice (some ⟨b, off, none⟩) n c] 27)))
        | (refine step_row rfl (.tmp 16) (.tmp 21) rfl (l := l.take k) (l2 := l.drop (k + 1)) EL.out rfl hA (HC.out _ (HX.out.trans (by repeat (first | exact Ext.refl _ | assumption | exact Ext.alloc _ _ | exact Ext.drew _ | refine Ext.trans ?_ (Ext.alloc _ _) | refine Ext.trans ?_ (Ext.drew _))))) rfl HL2.out (HN.out _ (HX.out.trans (by repeat (first | exact Ext.refl _ | assumption | exact Ext.alloc _ _ | exact Ext.drew _ | refine Ext.trans ?_ (Ext.alloc _ _) | refine Ext.trans ?_ (Ext.drew _))))) (by omega) (by omega) ?_; intro A4 c4 w4 hR hX4 _; have hk := (show Ext w1 _ from (by repeat (first | exact Ext.refl _ | assumption | exact Ext.alloc _ _ | exact Ext.drew _ | refine Ext.trans ?_ (Ext.alloc _ _) | refine Ext.trans ?_ (Ext.drew _)))).trans hX4; have r3 := (HD.out _ hk).cell; have r4 := (HD.out _ hk).free))
    all_goals
      have HR := hide hR
      have HK := hide hk
      clear hR hX4
      go_wp2_with fail
      refine bodyPost_ret (v := .tuple #[(Value.agg #[.slice A4 (k + (n - (k + 1))) c4]), .bool true]) (by simp [results, Try.results15, go_sem, *]) rfl ?_
      have h1 := HR.out.set (i := 0) (u := .slice A4 (k + (n - (k + 1))) c4) (HD.out _ HK.out) (by decide)
      have h2 := (HX.out.trans HK.out).set (p := ⟨w.heap.size + 1, 0, none⟩) (Nat.le_succ _) (.slice A4 (k + (n - (k + 1))) c4)
      have e1 : k + (n - (k + 1)) = (l.take k ++ l.drop (k + 1)).length := by rw [List.length_append, EL.out, HL2.out]
      rw [e1] at h1 h2 ⊢
      exact ⟨A4, c4, rfl, h1, h2⟩
end Go.Proofs.Ytnmegokppbdhdaa
