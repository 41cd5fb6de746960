/- What a thread does, in memory: the methods that turn it. -/
import Derived.Test.YtacneghgimfklaaG2
import Derived.Test.YtacneghgimfklaaHeld
import Derived.Deep.Cut
namespace Go.Proofs.Ytacneghgimfklaa
open Go.RowKit Go.Maps
set_option linter.unusedSimpArgs false
set_option linter.unusedVariables false
set_option maxRecDepth 100000
set_option maxHeartbeats 4000000


/-- A block that has what a thread does from place o on. -/
structure DB (w : World) (C o : Nat) (d : Dg) (cs : Array Value) (ty : TypeId) : Prop where
  b : Blk w C cs ty
  d : ∀ k, k < 9 → cs[o + k]? = (dgc d)[k]?
section
variable {w w' : World} {C o : Nat} {d : Dg} {cs : Array Value} {ty : TypeId}
theorem DB.dt (h : DB w C o d cs ty) : DT w C o d := fun k hk => (h.b.cell _).trans (h.d k hk)
theorem DB.ext (h : DB w C o d cs ty) (x : Ext w w') : DB w' C o d cs ty := ⟨h.b.ext x, h.d⟩
theorem DB.size (h : DB w C o d cs ty) : o + 9 ≤ cs.size := by
  have := h.d 8 (by omega)
  rw [dgc_at _ (by omega)] at this
  have := (Array.getElem?_eq_some_iff.1 this).1
  omega
theorem DB.there (h : DB w C o d cs ty) : w.there C o 9 := fun j hj => by
  rw [h.b.cell, h.d j hj, dgc_at _ hj]
  exact ⟨rfl, h.b.free _⟩
theorem DB.lay (h : DB w C o d cs ty) (d' : Dg) : DB (w.setCells C o (dgc d').toList) C o d' (layC cs o (dgc d').toList) ty := ⟨h.b.lay _ _ _, fun k hk => by
  have := h.size
  rw [layC_get _ _ _ _ (by show o + 9 ≤ _; omega), if_pos ⟨by omega, by show o + k < o + 9; omega⟩, Nat.add_sub_cancel_left, Array.getElem?_toList]⟩
theorem DB.set (h : DB w C o d cs ty) (d' : Dg) {k : Nat} (hk : k < 9) {v : Value} (e : (dgc d).toList.set k v = (dgc d').toList) : DB (w.setCell ⟨C, o + k, none⟩ v) C o d' (layC cs o (dgc d').toList) ty := by
  have hl := lay_one (cs := cs) (o := o) (l := (dgc d).toList) (fun j hj => by rw [h.d j hj, Array.getElem?_toList]) (k := k) hk v
  rw [e] at hl
  refine ⟨by rw [← hl]; exact h.b.set _ _, fun j hj => ?_⟩
  have := h.size
  rw [layC_get _ _ _ _ (by show o + 9 ≤ _; omega), if_pos ⟨by omega, by show o + j < o + 9; omega⟩, Nat.add_sub_cancel_left, Array.getElem?_toList]
theorem DB.again (h : DB w C o d cs ty) (d1 d2 : Dg) : layC (layC cs o (dgc d1).toList) o (dgc d2).toList = layC cs o (dgc d2).toList := lay_lay rfl (by have := h.size; exact this)
end
theorem DB.same {w : World} {C o : Nat} {d : Dg} {cs : Array Value} {ty : TypeId} (h : DB w C o d cs ty) : layC cs o (dgc d).toList = cs := by
  apply Array.ext_getElem?
  intro j
  have hs := h.size
  rw [layC_get _ _ _ _ (by show o + 9 ≤ _; exact hs)]
  split
  · rename_i b
    have b2 : j < o + 9 := b.2
    rw [Array.getElem?_toList, ← h.d (j - o) (by omega)]
    congr 1; omega
  · rfl
theorem inf_dg (d : Dg) : (Try.prog.info? 66).map (·.size) = some (dgc d).size := by kernel_rfl
theorem dg_all (d : Dg) : (dgc d).all (·.oneCell') = true := by simp [dgc, Value.oneCell']
theorem wpList_dput {ops : Array Oper} {rest : List Oper} {op : Oper} {a : Act} {w : World} {Q : Exit → Act → World → Prop} (hgd : op.guard = none) (x y : Operand) (ho : op.op = .store 66 x y)
    {C o : Nat} {d : Dg} {cs : Array Value} {ty : TypeId} (d' : Dg) (hx : a.eval x = .pointer (some ⟨C, o, none⟩)) (hy : a.eval y = .agg (dgc d')) (h : DB w C o d cs ty)
    (K : ∀ w', DB w' C o d' (layC cs o (dgc d').toList) ty → Chg [C] w w' → wpList Try.prog ops Q rest (a.put op.dst undef) w') : wpList Try.prog ops Q (op :: rest) a w :=
  wpList_store_mid hgd 66 x y ho C o (dgc d') hx hy h.there (inf_dg d') (dg_all d') (K _ (h.lay d') (Chg.lay (by simp) _ _ _ _ (Chg.refl _ _)))
theorem wp_dput {op : Oper} {a : Act} {w : World} {K : Act → World → Prop} {Q : Exit → Act → World → Prop} (x y : Operand) (ho : op.op = .store 66 x y)
    {C o : Nat} {d : Dg} {cs : Array Value} {ty : TypeId} (d' : Dg) (hx : a.eval x = .pointer (some ⟨C, o, none⟩)) (hy : a.eval y = .agg (dgc d')) (h : DB w C o d cs ty)
    (k : ∀ w', DB w' C o d' (layC cs o (dgc d').toList) ty → Chg [C] w w' → K (a.put op.dst undef) w') : op.wp Try.prog a w K Q :=
  wp_store_mid 66 x y ho C o (dgc d') hx hy h.there (inf_dg d') (dg_all d') (k _ (h.lay d') (Chg.lay (by simp) _ _ _ _ (Chg.refl _ _)))
theorem dend_any {w : World} {C o : Nat} {d : Dg} {cs : Array Value} {ty : TypeId} (h : DB w C o d cs ty) (hn : 0 ≤ d.nu ∧ d.nu ≤ 4611686018427387904) : Calls Try.prog 63 #[.pointer (some ⟨C, o, none⟩)] w fun e w' => e = .returned (.tuple #[]) ∧ DB w' C o (endD d) (layC cs o (dgc (endD d)).toList) ty ∧ Chg [C] w w' := by
  have H := hide h
  have s3 : w.cell? ⟨C, o + 3, none⟩ = some (.int .i64 d.nu) := (h.dt 3 (by omega)).trans rfl
  have E : endD d = ⟨0, 0, 0, d.nu + 1, 0, 0, 0, 0, 0⟩ := rfl
  generalize endD d = d' at *
  subst E
  clear h
  generalize hnu : d.nu = nu at *
  go_enter Try.func63, Try.ntmps63
  go_wp2_with (refine wpList_dput rfl _ _ rfl ⟨0, 0, 0, nu + 1, 0, 0, 0, 0, 0⟩ rfl rfl H.out ?_; intro w' hD' hC'; have HD := hide hD'; have HC := hide hC'; clear hD' hC'; go_frame)
  go_end0
  exact ⟨rfl, HD.out, HC.out⟩
theorem dbegin_any {w : World} {C o : Nat} {d : Dg} {cs : Array Value} {ty : TypeId} (h : DB w C o d cs ty) (k p a : Int) : Calls Try.prog 60 #[.pointer (some ⟨C, o, none⟩), (Value.agg #[.int .i64 k, .int .i64 p, .int .i64 a])] w fun e w' => e = .returned (.tuple #[]) ∧ DB w' C o (begD d k p a) (layC cs o (dgc (begD d k p a)).toList) ty ∧ Chg [C] w w' := by
  have x1 := (Ext.alloc w (.cells #[Value.int .i64 k, .int .i64 p, .int .i64 a] 27)).trans (Ext.drew _)
  have H := hide (h.ext x1)
  have HX := hide x1
  have HBX := hide ((Blk.new w #[Value.int .i64 k, .int .i64 p, .int .i64 a] 27).ext (Ext.drew _))
  have HB := HBX.out.cell
  have lC := h.b.lt
  have hk0 : (w.alloc (.cells #[Value.int .i64 k, .int .i64 p, .int .i64 a] 27)).drew.cell? ⟨w.heap.size, 0, none⟩ = some (.int .i64 k) := HB 0
  have hk1 : (w.alloc (.cells #[Value.int .i64 k, .int .i64 p, .int .i64 a] 27)).drew.cell? ⟨w.heap.size, 1, none⟩ = some (.int .i64 p) := HB 1
  have hk2 : (w.alloc (.cells #[Value.int .i64 k, .int .i64 p, .int .i64 a] 27)).drew.cell? ⟨w.heap.size, 2, none⟩ = some (.int .i64 a) := HB 2
  have s3 : (w.alloc (.cells #[Value.int .i64 k, .int .i64 p, .int .i64 a] 27)).drew.cell? ⟨C, o + 3, none⟩ = some (.int .i64 d.nu) := (H.out.dt 3 (by omega)).trans rfl
  have E : begD d k p a = ⟨k, p, a, d.nu, 1, 0, -1, 0, 0⟩ := rfl
  generalize begD d k p a = d' at *
  subst E
  clear h HB x1
  generalize hnu : d.nu = nu at *
  go_enter Try.func60, Try.ntmps60
  go_upto_region 1 with fail
  refine wp_region_held_drew (S := fun w' => w'.cell? ⟨w.heap.size, 0, none⟩ = some (.int .i64 k) ∧ w'.cell? ⟨w.heap.size, 1, none⟩ = some (.int .i64 p) ∧ w'.cell? ⟨w.heap.size, 2, none⟩ = some (.int .i64 a) ∧ w'.cell? ⟨C, o + 3, none⟩ = some (.int .i64 nu)) (by kernel_rfl) (by exact ⟨hk0, hk1, hk2, s3⟩) (fun hHeld => ?_)
  generalize (w.alloc (.cells #[Value.int .i64 k, .int .i64 p, .int .i64 a] 27)).drew = W1 at *
  (refine held_take (i := 0) (v := ?_) rfl (by kernel_rfl) (by kernel_rfl) (by kernel_rfl) (fun _ _ _ h => h) (by rfl) ?_ (by assumption) ?_; rotate_left; (intro w hSw; (try dsimp only at hSw); (first | (go_simp; done) | (go_simp; with_reducible rfl))); (try simp only [Act.put, List.setIfInBounds_toArray, List.set_cons_zero, List.set_cons_succ]))
  (refine held_take (i := 1) (v := ?_) rfl (by kernel_rfl) (by kernel_rfl) (by kernel_rfl) (fun _ _ _ h => h) (by rfl) ?_ (by assumption) ?_; rotate_left; (intro w hSw; (try dsimp only at hSw); (first | (go_simp; done) | (go_simp; with_reducible rfl))); (try simp only [Act.put, List.setIfInBounds_toArray, List.set_cons_zero, List.set_cons_succ]))
  (refine held_take (i := 2) (v := ?_) rfl (by kernel_rfl) (by kernel_rfl) (by kernel_rfl) (fun _ _ _ h => h) (by rfl) ?_ (by assumption) ?_; rotate_left; (intro w hSw; (try dsimp only at hSw); (first | (go_simp; done) | (go_simp; with_reducible rfl))); (try simp only [Act.put, List.setIfInBounds_toArray, List.set_cons_zero, List.set_cons_succ]))
  (refine held_take (i := 3) (v := ?_) rfl (by kernel_rfl) (by kernel_rfl) (by kernel_rfl) (fun _ _ _ h => h) (by rfl) ?_ (by assumption) ?_; rotate_left; (intro w hSw; (try dsimp only at hSw); (first | (go_simp; done) | (go_simp; with_reducible rfl))); (try simp only [Act.put, List.setIfInBounds_toArray, List.set_cons_zero, List.set_cons_succ]))
  (refine held_take (i := 4) (v := ?_) rfl (by kernel_rfl) (by kernel_rfl) (by kernel_rfl) (fun _ _ _ h => h) (by rfl) ?_ (by assumption) ?_; rotate_left; (intro w hSw; (try dsimp only at hSw); (first | (go_simp; done) | (go_simp; with_reducible rfl))); (try simp only [Act.put, List.setIfInBounds_toArray, List.set_cons_zero, List.set_cons_succ]))
  (refine held_take (i := 5) (v := ?_) rfl (by kernel_rfl) (by kernel_rfl) (by kernel_rfl) (fun _ _ _ h => h) (by rfl) ?_ (by assumption) ?_; rotate_left; (intro w hSw; (try dsimp only at hSw); (first | (go_simp; done) | (go_simp; with_reducible rfl))); (try simp only [Act.put, List.setIfInBounds_toArray, List.set_cons_zero, List.set_cons_succ]))
  (refine held_take (i := 6) (v := ?_) rfl (by kernel_rfl) (by kernel_rfl) (by kernel_rfl) (fun _ _ _ h => h) (by rfl) ?_ (by assumption) ?_; rotate_left; (intro w hSw; (try dsimp only at hSw); (first | (go_simp; done) | (go_simp; with_reducible rfl))); (try simp only [Act.put, List.setIfInBounds_toArray, List.set_cons_zero, List.set_cons_succ]))
  (refine held_take (i := 7) (v := ?_) rfl (by kernel_rfl) (by kernel_rfl) (by kernel_rfl) (fun _ _ _ h => h) (by rfl) ?_ (by assumption) ?_; rotate_left; (intro w hSw; (try dsimp only at hSw); (first | (go_simp; done) | (go_simp; with_reducible rfl))); (try simp only [Act.put, List.setIfInBounds_toArray, List.set_cons_zero, List.set_cons_succ]))
  refine wpAnyH_ready (rs := [8]) (by kernel_rfl) (by simp) (held_cons rfl (fun K hK => ?_) AllReadyH.nil)
  rw [if_pos (by rfl)]
  refine wp_dput _ _ rfl ⟨k, p, a, nu, 1, 0, -1, 0, 0⟩ rfl rfl H.out ?_
  intro w' hD' hC'
  refine hK.out _ _ ?_ (fun hHeld => ?_)
  · have hb := HBX.out.chg hC' (by simp; omega)
    exact ⟨hb.cell 0, hb.cell 1, hb.cell 2, (hD'.dt 3 (by omega)).trans rfl⟩
  refine wpAnyH_done (by kernel_rfl) ?_ _
  go_end0
  exact ⟨rfl, hD', (HX.out.chg _).trans hC'⟩
theorem goon_any {w : World} {C o : Nat} {d : Dg} {cs : Array Value} {ty : TypeId} (h : DB w C o d cs ty) (hn : 0 ≤ d.wo ∧ d.wo ≤ 4611686018427387904) (k t p a r : Int) :
    Calls Try.prog 62 #[.pointer (some ⟨C, o, none⟩), (Value.agg #[.int .i64 k, .int .i64 t, .int .i64 p, .int .i64 a, .int .i64 r])] w fun e w' => e = .returned (.tuple #[]) ∧ DB w' C o (goD d k a r) (layC cs o (dgc (goD d k a r)).toList) ty ∧ Chg [C] w w' := by
  have x1 := Ext.alloc w (.cells #[Value.int .i64 k, .int .i64 t, .int .i64 p, .int .i64 a, .int .i64 r] 34)
  have H := hide (h.ext x1)
  have HX := hide x1
  have lC := h.b.lt
  have E : goD d k a r = if k = 7 then { d with wo := d.wo + 1, la := a } else if k = 4 ∧ r = 0 then { d with st := 2 } else if k ≠ 5 then { d with st := 3, va := telI d a, er := r } else d := rfl
  generalize goD d k a r = d' at *
  by_cases k7 : k = 7
  · subst k7
    rw [if_pos rfl] at E
    have x2 := x1.trans (Ext.drew _)
    have s5 : (w.alloc (.cells #[Value.int .i64 7, .int .i64 t, .int .i64 p, .int .i64 a, .int .i64 r] 34)).drew.cell? ⟨C, o + 5, none⟩ = some (.int .i64 d.wo) := ((h.ext x2).dt 5 (by omega)).trans rfl
    have s6 : (w.alloc (.cells #[Value.int .i64 7, .int .i64 t, .int .i64 p, .int .i64 a, .int .i64 r] 34)).drew.cell? ⟨C, o + 6, none⟩ = some (.int .i64 d.la) := ((h.ext x2).dt 6 (by omega)).trans rfl
    have f5 := (h.ext x2).b.free (o + 5)
    have f6 := (h.ext x2).b.free (o + 6)
    have g3 : (w.alloc (.cells #[Value.int .i64 7, .int .i64 t, .int .i64 p, .int .i64 a, .int .i64 r] 34)).drew.cell? ⟨w.heap.size, 3, none⟩ = some (.int .i64 a) := ((Blk.new w _ 34).ext (Ext.drew _)).cell 3
    clear h x1 x2
    subst E
    generalize hwo : d.wo = wo at *
    have nC : ¬ w.heap.size = C := by omega
    have nC' : ¬ C = w.heap.size := by omega
    go_enter Try.func62, Try.ntmps62
    go_upto_region 2 with fail
    have t3 := (Blk.new w #[Value.int .i64 7, .int .i64 t, .int .i64 p, .int .i64 a, .int .i64 r] 34).cell 3
    simp only [List.getElem?_toArray, List.getElem?_cons_zero, List.getElem?_cons_succ] at t3
    generalize hW0 : w.alloc (.cells #[Value.int .i64 7, .int .i64 t, .int .i64 p, .int .i64 a, .int .i64 r] 34) = W0 at *
    have t5 : W0.cell? ⟨C, o + 5, none⟩ = some (.int .i64 wo) := by rw [← hwo]; exact (H.out.dt 5 (by omega)).trans rfl
    have t6 : W0.cell? ⟨C, o + 6, none⟩ = some (.int .i64 d.la) := (H.out.dt 6 (by omega)).trans rfl
    have u5 := H.out.b.free (o + 5)
    have u6 := H.out.b.free (o + 6)
    go_region
    go_wp2_with fail
    go_end0
    subst hwo
    have h1 := H.out.set { d with wo := d.wo + 1 } (k := 5) (by omega) (v := .int .i64 (d.wo + 1)) rfl
    have h2 := h1.set { d with wo := d.wo + 1, la := a } (k := 6) (by omega) (v := .int .i64 a) rfl
    rw [H.out.again] at h2
    exact ⟨rfl, h2.ext (Ext.drew _), ((((HX.out.chg [C]).set (p := ⟨C, o + 5, none⟩) (.inl (by simp)) _).set (p := ⟨C, o + 6, none⟩) (.inl (by simp)) _)).trans (Chg.drew _ _)⟩
  rw [if_neg k7] at E
  have q7 : (k == 7) = false := by simpa using k7
  have hk0 := (Blk.new w #[Value.int .i64 k, .int .i64 t, .int .i64 p, .int .i64 a, .int .i64 r] 34).cell 0
  have hk4 := (Blk.new w #[Value.int .i64 k, .int .i64 t, .int .i64 p, .int .i64 a, .int .i64 r] 34).cell 4
  simp only [List.getElem?_toArray, List.getElem?_cons_zero, List.getElem?_cons_succ] at hk0 hk4
  by_cases k4 : k = 4 ∧ r = 0
  · rw [if_pos k4] at E
    obtain ⟨rfl, rfl⟩ := k4
    subst E
    have s4 : (w.alloc (.cells #[Value.int .i64 4, .int .i64 t, .int .i64 p, .int .i64 a, .int .i64 0] 34)).cell? ⟨C, o + 4, none⟩ = some (.int .i64 d.st) := (H.out.dt 4 (by omega)).trans rfl
    have f4 := H.out.b.free (o + 4)
    clear h
    generalize hW0 : w.alloc (.cells #[Value.int .i64 4, .int .i64 t, .int .i64 p, .int .i64 a, .int .i64 0] 34) = W0 at *
    go_enter Try.func62, Try.ntmps62
    go_wp2_with (rw [hW0])
    go_end0
    have h1 := H.out.set { d with st := 2 } (k := 4) (by omega) (v := .int .i64 2) rfl
    exact ⟨rfl, h1, (HX.out.chg [C]).set (p := ⟨C, o + 4, none⟩) (.inl (by simp)) _⟩
  rw [if_neg k4] at E
  by_cases k5 : k = 5
  · rw [if_neg (by omega)] at E
    subst E k5
    clear h hk4
    go_enter Try.func62, Try.ntmps62
    go_wp2_with fail
    go_end0
    exact ⟨rfl, by rw [H.out.same]; exact H.out, HX.out.chg _⟩
  rw [if_pos k5] at E
  have q5 : (k == 5) = false := by simpa using k5
  have hb := Blk.new w #[Value.int .i64 k, .int .i64 t, .int .i64 p, .int .i64 a, .int .i64 r] 34
  have HB := hide (hb.ext (Ext.drew _))
  have CT := fun w' (h : DT w' C o d) (hC : C < w'.heap.size) => tells_any h hC k t p a r
  generalize telI d a = tv at *
  have lB : C < (w.alloc (.cells #[Value.int .i64 k, .int .i64 t, .int .i64 p, .int .i64 a, .int .i64 r] 34)).heap.size := by rw [World.size_alloc]; omega
  have RG : ∀ w', Blk w' w.heap.size #[Value.int .i64 k, .int .i64 t, .int .i64 p, .int .i64 a, .int .i64 r] 34 → w'.rangeAt w.heap.size 0 [.int .i64 k, .int .i64 t, .int .i64 p, .int .i64 a, .int .i64 r] ∧ w'.cell? ⟨w.heap.size, 4, none⟩ = some (.int .i64 r) := fun w' hb => ⟨fun j v hv => by rw [Nat.zero_add, hb.cell, ← hv]; simp, hb.cell 4⟩
  have LS : (Try.prog.info? 34).map (·.size) = some [Value.int .i64 k, .int .i64 t, .int .i64 p, .int .i64 a, .int .i64 r].length := by kernel_rfl
  have H2 := hide (H.out.ext (Ext.drew _))
  have HX2 := hide (HX.out.trans (Ext.drew _))
  clear h
  cases q4 : (k == 4)
  · go_enter Try.func62, Try.ntmps62
    go_upto_region 6 with fail
    refine wp_region_held_drew (S := fun w' => w'.rangeAt w.heap.size 0 [.int .i64 k, .int .i64 t, .int .i64 p, .int .i64 a, .int .i64 r] ∧ w'.cell? ⟨w.heap.size, 4, none⟩ = some (.int .i64 r)) (by kernel_rfl) (by exact RG _ HB.out) (fun hHeld => ?_)
    generalize (w.alloc (.cells #[Value.int .i64 k, .int .i64 t, .int .i64 p, .int .i64 a, .int .i64 r] 34)).drew = W1 at *
    (refine held_take (i := 0) (v := ?_) rfl (by kernel_rfl) (by kernel_rfl) (by kernel_rfl) (fun _ _ _ h => h) (by rfl) ?_ (by assumption) ?_; rotate_left; (intro w hSw; (try dsimp only at hSw); (first | (go_simp; done) | (go_simp; with_reducible rfl))); (try simp only [Act.put, List.setIfInBounds_toArray, List.set_cons_zero, List.set_cons_succ]))
    (refine held_take (i := 1) (v := ?_) rfl (by kernel_rfl) (by kernel_rfl) (by kernel_rfl) (fun _ _ _ h => h) (by rfl) ?_ (by assumption) ?_; rotate_left; (intro w hSw; (try dsimp only at hSw); (first | (go_simp; done) | (go_simp; with_reducible rfl))); (try simp only [Act.put, List.setIfInBounds_toArray, List.set_cons_zero, List.set_cons_succ]))
    (refine held_take (i := 2) (v := ?_) rfl (by kernel_rfl) (by kernel_rfl) (by kernel_rfl) (fun _ _ _ h => h) (by rfl) ?_ (by assumption) ?_; rotate_left; (intro w hSw; (try dsimp only at hSw); (first | (go_simp; done) | (go_simp; with_reducible rfl))); (try simp only [Act.put, List.setIfInBounds_toArray, List.set_cons_zero, List.set_cons_succ]))
    (refine held_take (i := 3) (v := ?_) rfl (by kernel_rfl) (by kernel_rfl) (by kernel_rfl) (fun _ _ _ h => h) (by rfl) ?_ (by assumption) ?_; rotate_left; (intro w hSw; (try dsimp only at hSw); (first | (go_simp; done) | (go_simp; with_reducible rfl))); (try simp only [Act.put, List.setIfInBounds_toArray, List.set_cons_zero, List.set_cons_succ]))
    refine wpAnyH_take (i := 4) (at_drop rfl) (by kernel_rfl) (by kernel_rfl) (by kernel_rfl) (fun _ _ _ h => h) (yieldsIf_load_mid (by rfl) 34 _ rfl w.heap.size 0 rfl [.int .i64 k, .int .i64 t, .int .i64 p, .int .i64 a, .int .i64 r] _ (fun w h => h.1) Try.underlying34 rfl LS) (by assumption) ?_
    (try simp only [Act.put, List.setIfInBounds_toArray, List.set_cons_zero, List.set_cons_succ])
    (refine held_take (i := 6) (v := ?_) rfl (by kernel_rfl) (by kernel_rfl) (by kernel_rfl) (fun _ _ _ h => h) (by rfl) ?_ (by assumption) ?_; rotate_left; (intro w hSw; (try dsimp only at hSw); (first | (go_simp; done) | (go_simp; with_reducible rfl))); (try simp only [Act.put, List.setIfInBounds_toArray, List.set_cons_zero, List.set_cons_succ]))
    (refine held_take (i := 7) (v := ?_) rfl (by kernel_rfl) (by kernel_rfl) (by kernel_rfl) (fun _ _ _ h => h) (by rfl) ?_ (by assumption) ?_; rotate_left; (intro w hSw; (try dsimp only at hSw); (first | (go_simp; done) | (go_simp; with_reducible rfl))); (try simp only [Act.put, List.setIfInBounds_toArray, List.set_cons_zero, List.set_cons_succ]))
    refine wpAnyH_ready (rs := [5]) (by kernel_rfl) (by simp) (held_cons rfl (fun K hK => ?_) AllReadyH.nil)
    rw [if_pos (by rfl)]
    go_simp
    go_at_call 75
    refine (CT _ H2.out.dt H2.out.b.lt).mono ?_
    rintro e w6 ⟨rfl, hx⟩
    have hb6 := HB.out.ext hx
    have h6 := H2.out.ext hx
    have HX6 := (HX2.out.trans hx).chg [C]
    clear hx
    go_simp
    refine hK.out _ _ (RG _ hb6) (fun hHeld => ?_)
    (try simp only [Act.put, List.setIfInBounds_toArray, List.set_cons_zero, List.set_cons_succ])
    (refine held_take (i := 8) (v := ?_) rfl (by kernel_rfl) (by kernel_rfl) (by kernel_rfl) (fun _ _ _ h => h) (by rfl) ?_ (by assumption) ?_; rotate_left; (intro w hSw; (try dsimp only at hSw); (first | (go_simp; done) | (go_simp; with_reducible rfl))); (try simp only [Act.put, List.setIfInBounds_toArray, List.set_cons_zero, List.set_cons_succ]))
    (refine held_take (i := 9) (v := ?_) rfl (by kernel_rfl) (by kernel_rfl) (by kernel_rfl) (fun _ _ _ h => h) (by rfl) ?_ (by assumption) ?_; rotate_left; (intro w hSw; (try dsimp only at hSw); (first | (go_simp; done) | (go_simp; with_reducible rfl))); (try simp only [Act.put, List.setIfInBounds_toArray, List.set_cons_zero, List.set_cons_succ]))
    refine wpAnyH_ready (rs := [10]) (by kernel_rfl) (by simp) (held_cons rfl (fun K hK => ?_) AllReadyH.nil)
    rw [if_pos (by rfl)]
    have sx : w6.cell? ⟨C, o + 4, none⟩ = some (.int .i64 d.st) := (h6.dt 4 (by omega)).trans rfl
    have fx := h6.b.free (o + 4)
    go_wp2
    clear sx fx
    have hb6 := hb6.far (p := ⟨C, o + 4, none⟩) (by simp; omega) (.int .i64 3)
    have h6 := h6.set { d with st := 3 } (k := 4) (by omega) (v := .int .i64 3) rfl
    have HX6 := HX6.set (p := ⟨C, o + 4, none⟩) (.inl (by simp)) (.int .i64 3)
    generalize w6.setCell ⟨C, o + 4, none⟩ (.int .i64 3) = w6 at *
    refine hK.out _ _ (RG _ hb6) (fun hHeld => ?_)
    (try simp only [Act.put, List.setIfInBounds_toArray, List.set_cons_zero, List.set_cons_succ])
    (refine held_take (i := 11) (v := ?_) rfl (by kernel_rfl) (by kernel_rfl) (by kernel_rfl) (fun _ _ _ h => h) (by rfl) ?_ (by assumption) ?_; rotate_left; (intro w hSw; (try dsimp only at hSw); (first | (go_simp; done) | (go_simp; with_reducible rfl))); (try simp only [Act.put, List.setIfInBounds_toArray, List.set_cons_zero, List.set_cons_succ]))
    (refine held_take (i := 12) (v := ?_) rfl (by kernel_rfl) (by kernel_rfl) (by kernel_rfl) (fun _ _ _ h => h) (by rfl) ?_ (by assumption) ?_; rotate_left; (intro w hSw; (try dsimp only at hSw); (first | (go_simp; done) | (go_simp; with_reducible rfl))); (try simp only [Act.put, List.setIfInBounds_toArray, List.set_cons_zero, List.set_cons_succ]))
    refine wpAnyH_ready (rs := [13]) (by kernel_rfl) (by simp) (held_cons rfl (fun K hK => ?_) AllReadyH.nil)
    rw [if_pos (by rfl)]
    have sx : w6.cell? ⟨C, o + 7, none⟩ = some (.int .i64 d.va) := (h6.dt 7 (by omega)).trans rfl
    have fx := h6.b.free (o + 7)
    go_wp2
    clear sx fx
    have hb6 := hb6.far (p := ⟨C, o + 7, none⟩) (by simp; omega) (.int .i64 tv)
    have h6 := h6.set { d with st := 3, va := tv } (k := 7) (by omega) (v := .int .i64 tv) rfl
    have HX6 := HX6.set (p := ⟨C, o + 7, none⟩) (.inl (by simp)) (.int .i64 tv)
    generalize w6.setCell ⟨C, o + 7, none⟩ (.int .i64 tv) = w6 at *
    refine hK.out _ _ (RG _ hb6) (fun hHeld => ?_)
    (try simp only [Act.put, List.setIfInBounds_toArray, List.set_cons_zero, List.set_cons_succ])
    (refine held_take (i := 14) (v := ?_) rfl (by kernel_rfl) (by kernel_rfl) (by kernel_rfl) (fun _ _ _ h => h) (by rfl) ?_ (by assumption) ?_; rotate_left; (intro w hSw; (try dsimp only at hSw); (first | (go_simp; done) | (go_simp; with_reducible rfl))); (try simp only [Act.put, List.setIfInBounds_toArray, List.set_cons_zero, List.set_cons_succ]))
    (refine held_take (i := 15) (v := ?_) rfl (by kernel_rfl) (by kernel_rfl) (by kernel_rfl) (fun _ _ _ h => h) (by rfl) ?_ (by assumption) ?_; rotate_left; (intro w hSw; (try dsimp only at hSw); (first | (go_simp; done) | (go_simp; with_reducible rfl))); (try simp only [Act.put, List.setIfInBounds_toArray, List.set_cons_zero, List.set_cons_succ]))
    refine wpAnyH_ready (rs := [16]) (by kernel_rfl) (by simp) (held_cons rfl (fun K hK => ?_) AllReadyH.nil)
    rw [if_pos (by rfl)]
    have sx : w6.cell? ⟨C, o + 8, none⟩ = some (.int .i64 d.er) := (h6.dt 8 (by omega)).trans rfl
    have fx := h6.b.free (o + 8)
    go_wp2
    clear sx fx
    have hb6 := hb6.far (p := ⟨C, o + 8, none⟩) (by simp; omega) (.int .i64 r)
    have h6 := h6.set { d with st := 3, va := tv, er := r } (k := 8) (by omega) (v := .int .i64 r) rfl
    have HX6 := HX6.set (p := ⟨C, o + 8, none⟩) (.inl (by simp)) (.int .i64 r)
    generalize w6.setCell ⟨C, o + 8, none⟩ (.int .i64 r) = w6 at *
    refine hK.out _ _ (RG _ hb6) (fun hHeld => ?_)
    (try simp only [Act.put, List.setIfInBounds_toArray, List.set_cons_zero, List.set_cons_succ])
    refine wpAnyH_done (by kernel_rfl) ?_ _
    go_wp2_with fail
    go_end0
    rw [H2.out.again, H2.out.again] at h6
    subst E
    exact ⟨rfl, h6, HX6⟩
  · have q0 : (r == 0) = false := by simp at q4; simpa [q4] using k4
    go_enter Try.func62, Try.ntmps62
    go_upto_region 6 with fail
    refine wp_region_held_drew (S := fun w' => w'.rangeAt w.heap.size 0 [.int .i64 k, .int .i64 t, .int .i64 p, .int .i64 a, .int .i64 r] ∧ w'.cell? ⟨w.heap.size, 4, none⟩ = some (.int .i64 r)) (by kernel_rfl) (by exact RG _ HB.out) (fun hHeld => ?_)
    generalize (w.alloc (.cells #[Value.int .i64 k, .int .i64 t, .int .i64 p, .int .i64 a, .int .i64 r] 34)).drew = W1 at *
    (refine held_take (i := 0) (v := ?_) rfl (by kernel_rfl) (by kernel_rfl) (by kernel_rfl) (fun _ _ _ h => h) (by rfl) ?_ (by assumption) ?_; rotate_left; (intro w hSw; (try dsimp only at hSw); (first | (go_simp; done) | (go_simp; with_reducible rfl))); (try simp only [Act.put, List.setIfInBounds_toArray, List.set_cons_zero, List.set_cons_succ]))
    (refine held_take (i := 1) (v := ?_) rfl (by kernel_rfl) (by kernel_rfl) (by kernel_rfl) (fun _ _ _ h => h) (by rfl) ?_ (by assumption) ?_; rotate_left; (intro w hSw; (try dsimp only at hSw); (first | (go_simp; done) | (go_simp; with_reducible rfl))); (try simp only [Act.put, List.setIfInBounds_toArray, List.set_cons_zero, List.set_cons_succ]))
    (refine held_take (i := 2) (v := ?_) rfl (by kernel_rfl) (by kernel_rfl) (by kernel_rfl) (fun _ _ _ h => h) (by rfl) ?_ (by assumption) ?_; rotate_left; (intro w hSw; (try dsimp only at hSw); (first | (go_simp; done) | (go_simp; with_reducible rfl))); (try simp only [Act.put, List.setIfInBounds_toArray, List.set_cons_zero, List.set_cons_succ]))
    (refine held_take (i := 3) (v := ?_) rfl (by kernel_rfl) (by kernel_rfl) (by kernel_rfl) (fun _ _ _ h => h) (by rfl) ?_ (by assumption) ?_; rotate_left; (intro w hSw; (try dsimp only at hSw); (first | (go_simp; done) | (go_simp; with_reducible rfl))); (try simp only [Act.put, List.setIfInBounds_toArray, List.set_cons_zero, List.set_cons_succ]))
    refine wpAnyH_take (i := 4) (at_drop rfl) (by kernel_rfl) (by kernel_rfl) (by kernel_rfl) (fun _ _ _ h => h) (yieldsIf_load_mid (by rfl) 34 _ rfl w.heap.size 0 rfl [.int .i64 k, .int .i64 t, .int .i64 p, .int .i64 a, .int .i64 r] _ (fun w h => h.1) Try.underlying34 rfl LS) (by assumption) ?_
    (try simp only [Act.put, List.setIfInBounds_toArray, List.set_cons_zero, List.set_cons_succ])
    (refine held_take (i := 6) (v := ?_) rfl (by kernel_rfl) (by kernel_rfl) (by kernel_rfl) (fun _ _ _ h => h) (by rfl) ?_ (by assumption) ?_; rotate_left; (intro w hSw; (try dsimp only at hSw); (first | (go_simp; done) | (go_simp; with_reducible rfl))); (try simp only [Act.put, List.setIfInBounds_toArray, List.set_cons_zero, List.set_cons_succ]))
    (refine held_take (i := 7) (v := ?_) rfl (by kernel_rfl) (by kernel_rfl) (by kernel_rfl) (fun _ _ _ h => h) (by rfl) ?_ (by assumption) ?_; rotate_left; (intro w hSw; (try dsimp only at hSw); (first | (go_simp; done) | (go_simp; with_reducible rfl))); (try simp only [Act.put, List.setIfInBounds_toArray, List.set_cons_zero, List.set_cons_succ]))
    refine wpAnyH_ready (rs := [5]) (by kernel_rfl) (by simp) (held_cons rfl (fun K hK => ?_) AllReadyH.nil)
    rw [if_pos (by rfl)]
    go_simp
    go_at_call 75
    refine (CT _ H2.out.dt H2.out.b.lt).mono ?_
    rintro e w6 ⟨rfl, hx⟩
    have hb6 := HB.out.ext hx
    have h6 := H2.out.ext hx
    have HX6 := (HX2.out.trans hx).chg [C]
    clear hx
    go_simp
    refine hK.out _ _ (RG _ hb6) (fun hHeld => ?_)
    (try simp only [Act.put, List.setIfInBounds_toArray, List.set_cons_zero, List.set_cons_succ])
    (refine held_take (i := 8) (v := ?_) rfl (by kernel_rfl) (by kernel_rfl) (by kernel_rfl) (fun _ _ _ h => h) (by rfl) ?_ (by assumption) ?_; rotate_left; (intro w hSw; (try dsimp only at hSw); (first | (go_simp; done) | (go_simp; with_reducible rfl))); (try simp only [Act.put, List.setIfInBounds_toArray, List.set_cons_zero, List.set_cons_succ]))
    (refine held_take (i := 9) (v := ?_) rfl (by kernel_rfl) (by kernel_rfl) (by kernel_rfl) (fun _ _ _ h => h) (by rfl) ?_ (by assumption) ?_; rotate_left; (intro w hSw; (try dsimp only at hSw); (first | (go_simp; done) | (go_simp; with_reducible rfl))); (try simp only [Act.put, List.setIfInBounds_toArray, List.set_cons_zero, List.set_cons_succ]))
    refine wpAnyH_ready (rs := [10]) (by kernel_rfl) (by simp) (held_cons rfl (fun K hK => ?_) AllReadyH.nil)
    rw [if_pos (by rfl)]
    have sx : w6.cell? ⟨C, o + 4, none⟩ = some (.int .i64 d.st) := (h6.dt 4 (by omega)).trans rfl
    have fx := h6.b.free (o + 4)
    go_wp2
    clear sx fx
    have hb6 := hb6.far (p := ⟨C, o + 4, none⟩) (by simp; omega) (.int .i64 3)
    have h6 := h6.set { d with st := 3 } (k := 4) (by omega) (v := .int .i64 3) rfl
    have HX6 := HX6.set (p := ⟨C, o + 4, none⟩) (.inl (by simp)) (.int .i64 3)
    generalize w6.setCell ⟨C, o + 4, none⟩ (.int .i64 3) = w6 at *
    refine hK.out _ _ (RG _ hb6) (fun hHeld => ?_)
    (try simp only [Act.put, List.setIfInBounds_toArray, List.set_cons_zero, List.set_cons_succ])
    (refine held_take (i := 11) (v := ?_) rfl (by kernel_rfl) (by kernel_rfl) (by kernel_rfl) (fun _ _ _ h => h) (by rfl) ?_ (by assumption) ?_; rotate_left; (intro w hSw; (try dsimp only at hSw); (first | (go_simp; done) | (go_simp; with_reducible rfl))); (try simp only [Act.put, List.setIfInBounds_toArray, List.set_cons_zero, List.set_cons_succ]))
    (refine held_take (i := 12) (v := ?_) rfl (by kernel_rfl) (by kernel_rfl) (by kernel_rfl) (fun _ _ _ h => h) (by rfl) ?_ (by assumption) ?_; rotate_left; (intro w hSw; (try dsimp only at hSw); (first | (go_simp; done) | (go_simp; with_reducible rfl))); (try simp only [Act.put, List.setIfInBounds_toArray, List.set_cons_zero, List.set_cons_succ]))
    refine wpAnyH_ready (rs := [13]) (by kernel_rfl) (by simp) (held_cons rfl (fun K hK => ?_) AllReadyH.nil)
    rw [if_pos (by rfl)]
    have sx : w6.cell? ⟨C, o + 7, none⟩ = some (.int .i64 d.va) := (h6.dt 7 (by omega)).trans rfl
    have fx := h6.b.free (o + 7)
    go_wp2
    clear sx fx
    have hb6 := hb6.far (p := ⟨C, o + 7, none⟩) (by simp; omega) (.int .i64 tv)
    have h6 := h6.set { d with st := 3, va := tv } (k := 7) (by omega) (v := .int .i64 tv) rfl
    have HX6 := HX6.set (p := ⟨C, o + 7, none⟩) (.inl (by simp)) (.int .i64 tv)
    generalize w6.setCell ⟨C, o + 7, none⟩ (.int .i64 tv) = w6 at *
    refine hK.out _ _ (RG _ hb6) (fun hHeld => ?_)
    (try simp only [Act.put, List.setIfInBounds_toArray, List.set_cons_zero, List.set_cons_succ])
    (refine held_take (i := 14) (v := ?_) rfl (by kernel_rfl) (by kernel_rfl) (by kernel_rfl) (fun _ _ _ h => h) (by rfl) ?_ (by assumption) ?_; rotate_left; (intro w hSw; (try dsimp only at hSw); (first | (go_simp; done) | (go_simp; with_reducible rfl))); (try simp only [Act.put, List.setIfInBounds_toArray, List.set_cons_zero, List.set_cons_succ]))
    (refine held_take (i := 15) (v := ?_) rfl (by kernel_rfl) (by kernel_rfl) (by kernel_rfl) (fun _ _ _ h => h) (by rfl) ?_ (by assumption) ?_; rotate_left; (intro w hSw; (try dsimp only at hSw); (first | (go_simp; done) | (go_simp; with_reducible rfl))); (try simp only [Act.put, List.setIfInBounds_toArray, List.set_cons_zero, List.set_cons_succ]))
    refine wpAnyH_ready (rs := [16]) (by kernel_rfl) (by simp) (held_cons rfl (fun K hK => ?_) AllReadyH.nil)
    rw [if_pos (by rfl)]
    have sx : w6.cell? ⟨C, o + 8, none⟩ = some (.int .i64 d.er) := (h6.dt 8 (by omega)).trans rfl
    have fx := h6.b.free (o + 8)
    go_wp2
    clear sx fx
    have hb6 := hb6.far (p := ⟨C, o + 8, none⟩) (by simp; omega) (.int .i64 r)
    have h6 := h6.set { d with st := 3, va := tv, er := r } (k := 8) (by omega) (v := .int .i64 r) rfl
    have HX6 := HX6.set (p := ⟨C, o + 8, none⟩) (.inl (by simp)) (.int .i64 r)
    generalize w6.setCell ⟨C, o + 8, none⟩ (.int .i64 r) = w6 at *
    refine hK.out _ _ (RG _ hb6) (fun hHeld => ?_)
    (try simp only [Act.put, List.setIfInBounds_toArray, List.set_cons_zero, List.set_cons_succ])
    refine wpAnyH_done (by kernel_rfl) ?_ _
    go_wp2_with fail
    go_end0
    rw [H2.out.again, H2.out.again] at h6
    subst E
    exact ⟨rfl, h6, HX6⟩
end Go.Proofs.Ytacneghgimfklaa
