/- A log in memory: an entry is added. -/
import Derived.Test.YtacneghgimfklaaG8
import Derived.Test.YtacneghgimfklaaG9
namespace Go.Proofs.Ytacneghgimfklaa
open Go.RowKit Go.Maps
set_option linter.unusedSimpArgs false
set_option linter.unusedVariables false
set_option maxRecDepth 100000
set_option maxHeartbeats 4000000



/-- Entries, cell by cell. -/
def ecl (l : List Ent) : List Value := l.flatMap fun x => (ec x).toList
theorem ecl_len (l : List Ent) : (ecl l).length = l.length * 13 := by
  induction l with
  | nil => rfl
  | cons x l ih => simp only [ecl, List.flatMap_cons, List.length_append, List.length_cons] at ih ⊢; rw [ih]; show 13 + _ = _; omega
theorem ecl_app (l m : List Ent) : ecl (l ++ m) = ecl l ++ ecl m := by simp [ecl]
theorem ecl_one (x : Ent) : ecl [x] = (ec x).toList := by simp [ecl]
theorem ecl_at (l : List Ent) {k j : Nat} (hk : k < l.length) (hj : j < 13) : (ecl l)[k * 13 + j]? = (ec l[k])[j]? := by
  induction l generalizing k with
  | nil => simp at hk
  | cons x l ih =>
    have e : ecl (x :: l) = (ec x).toList ++ ecl l := by simp [ecl]
    rw [e]
    have h13 : (ec x).toList.length = 13 := rfl
    cases k with
    | zero => rw [List.getElem?_append_left (by rw [h13]; omega), Array.getElem?_toList]; simp
    | succ k =>
      rw [List.getElem?_append_right (by rw [h13]; omega), h13, show (k + 1) * 13 + j - 13 = k * 13 + j by omega, ih (by simpa using hk)]
      simp
/-- Only blocks from B on have turned. -/
def Up (B : Nat) (w w' : World) : Prop := ∃ T, (∀ t, t ∈ T → B ≤ t) ∧ Chg T w w'
theorem Ext.up {W w w' : World} {B : Nat} (h : Ext W w) (u : Up B w w') (hB : W.heap.size ≤ B) : Ext W w' := by
  obtain ⟨T, h1, h2⟩ := u
  exact h.turn h2 (fun t ht => by have := h1 t ht; omega)
theorem Ext.up0 {w w' : World} (h : Ext w w') (B : Nat) : Up B w w' := ⟨[], by simp, h.chg []⟩
theorem Up.trans {B : Nat} {a b c : World} (h : Up B a b) (k : Up B b c) : Up B a c := by
  obtain ⟨T, h1, h2⟩ := h
  obtain ⟨T', k1, k2⟩ := k
  exact ⟨T ++ T', fun t ht => by rcases List.mem_append.1 ht with q | q; exact h1 t q; exact k1 t q, (h2.mono (by simp +contextual)).trans (k2.mono (by simp +contextual))⟩
structure GT (w : World) (B C MB W L : Nat) (v : Value) (S : St) (D : Nat → Dg) (l : List Ent) : Prop where
  c : LT w C v MB W L S D
  o : w.ownsRow B 36 13 v l.length (ecl l)
  lo : B ≤ C ∧ B ≤ MB ∧ B ≤ W ∧ B ≤ L
section
variable {w w' : World} {B C MB W L : Nat} {v : Value} {S : St} {D : Nat → Dg} {l : List Ent}
theorem GT.ext (h : GT w B C MB W L v S D l) (x : Ext w w') : GT w' B C MB W L v S D l := ⟨h.c.ext x, own_ext h.o x, h.lo⟩
theorem GT.sl (h : GT w B C MB W L v S D l) : w.cell? ⟨C, 75, none⟩ = some v := by rw [h.c.b.cell]; exact gl_tl (i := 0)
/-- The row is none of the log's other blocks. -/
theorem GT.apart (h : GT w B C MB W L v S D l) : ∀ k, v.ownBlock = some k → k ≠ C ∧ k ≠ MB ∧ k ≠ W ∧ k ≠ L := by
  intro k hk
  obtain ⟨cs, hb⟩ := own_blk h.o k hk
  refine ⟨?_, ?_, ?_, ?_⟩
  · rintro rfl; have := Blk.type hb h.c.b; revert this; decide
  · rintro rfl; have := Blk.type hb h.c.m.b; revert this; decide
  · rintro rfl; exact h.c.m.wm.noC _ _ hb
  · rintro rfl; exact h.c.m.lm.noC _ _ hb
end
theorem inf_ge : (Try.prog.info? 36).map (fun i => (i.zero, i.size, i.bytes)) = some (some (.agg #[Value.int .i64 0, .int .i64 0, .int .i64 0, .int .i64 0, .int .i64 0, .int .i64 0, .int .i64 0, .int .i64 0, .int .i64 0, .int .i64 0, .int .i64 0, .int .i64 0, .int .i64 0]), 13, 104) := by kernel_rfl
theorem gl_tl1 (N M : Nat) (P : Option Addr) (D : Nat → Dg) (v u : Value) : (gl N M P D [v]).setIfInBounds 75 u = gl N M P D [u] := by
  unfold gl
  apply Array.ext_getElem?
  intro j
  rw [Array.getElem?_setIfInBounds]
  simp only [List.getElem?_toArray]
  split
  · rename_i e; subst e
    rw [if_pos (by simp), List.getElem?_append_right (by simp)]; simp
  · rename_i e
    by_cases hj : j < 75
    · rw [List.getElem?_append_left (by simpa using hj), List.getElem?_append_left (by simpa using hj)]
    · rw [List.getElem?_append_right (by simp; omega), List.getElem?_append_right (by simp; omega)]
      have : (List.map (cv N M P D) (List.range 75)).length = 75 := by simp
      rw [this]
      obtain ⟨k, hk⟩ : ∃ k, j - 75 = k + 1 := ⟨j - 76, by omega⟩
      rw [hk]; rfl
theorem ec_rng {w : World} {b : Nat} {x : Ent} (h : Blk w b (ec x) 36) : w.rangeAt b 0 (ec x).toList := fun j v hv => by rw [Nat.zero_add, h.cell, ← hv, Array.getElem?_toList]
theorem inf_ec (x : Ent) : (Try.prog.info? 36).map (·.size) = some (ec x).toList.length := by kernel_rfl
/-- The entries' slice is stored. -/
theorem gt_put {w : World} {B C MB W L : Nat} {v v' : Value} {S : St} {D : Nat → Dg} {l : List Ent} (h : LT w C v MB W L S D) (ho : w.ownsRow B 36 13 v' l.length (ecl l)) (lo : B ≤ C ∧ B ≤ MB ∧ B ≤ W ∧ B ≤ L) : GT (w.setCell ⟨C, 75, none⟩ v') B C MB W L v' S D l := by
  have hc := (Chg.refl [C] w).set (p := ⟨C, 75, none⟩) (.inl (by simp)) v'
  have hn := h.ne
  simp only [List.mem_cons, List.not_mem_nil, or_false, not_or] at hn
  refine ⟨⟨by have := h.b.set 75 v'; rwa [gl_tl1] at this, h.m.chg hc (by simp; omega) (by simp; omega) (by simp; omega), h.ne⟩, own_chgB ho hc (fun k hk => ?_), lo⟩
  obtain ⟨cs, hb⟩ := own_blk ho k hk
  simp only [List.mem_singleton]
  rintro rfl
  have := Blk.type hb h.b
  revert this; decide
theorem own_T {w w' : World} {row : Option Nat} (hg : w.grownBy w' row) : Chg row.toList w w' := Chg.grow1 hg (by rintro k rfl; simp)
theorem wp_build1 (x : Ent) {op : Oper} {a : Act} {w : World} {K : Act → World → Prop} {Q : Exit → Act → World → Prop} (o : Operand) (ho : op.op = .buildSlice 25 1 #[(0, o)]) (hx : a.eval o = .agg (ec x))
    (h : K (a.put op.dst (.slice (some ⟨w.heap.size, 0, none⟩) 1 1)) (w.alloc (.cells (ec x) 36))) : op.wp Try.prog a w K Q := by
  obtain ⟨kd, th, nu, ok, oo, oa, ek, et, eo, ea, er, va, rr⟩ := x
  unfold ec at *
  simp only at *
  unfold Oper.wp execOp
  simp only [ho, hx, List.map_toArray, List.map_cons, List.map_nil]
  go_simp
  exact h
theorem add_no {w : World} {p : Value} (h : NobL w p) (x : Ent) : Calls Try.prog 12 #[p, .agg (ec x)] w fun e w' => e = .returned (.int .i64 2) ∧ Ext w w' := by
  have HX := hide (Ext.alloc w (.cells (ec x) 36))
  have cg := ggiven_no (h.ext HX.out)
  generalize ec x = xc at *
  clear h
  go_enter Try.func12, Try.ntmps12
  go_wp2_with fail
  refine cg.mono ?_
  rintro e w1 ⟨rfl, rfl⟩
  go_wp2_with fail
  go_ret
  exact ⟨by simp, HX.out⟩
theorem add_any {w : World} {B C MB W L : Nat} {v : Value} {S : St} {D : Nat → Dg} {l : List Ent} (h : GT w B C MB W L v S D l) (x : Ent) (hwa : wfI x.ea) {n : Nat} (hb : Bd n D) (hn : n ≤ 1000000000) (hl : l.length ≤ 1000) (hB : B ≤ w.heap.size) :
    Calls Try.prog 12 #[.pointer (some ⟨C, 0, none⟩), .agg (ec x)] w fun e w' => e = .returned (.int .i64 (if takeB S D x = true then 0 else 15)) ∧ (∃ v', GT w' B C MB W L v' (takeS S D x) (takeD S D x) (if takeB S D x = true then l ++ [x] else l)) ∧ Up B w w' := by
  have HX := hide (Ext.alloc w (.cells (ec x) 36))
  have HB := hide (Blk.new w (ec x) 36)
  have H := hide (h.ext HX.out)
  have cg := ggiven_ok H.out.c
  have CT' := fun (w' : World) (h : LT w' C v MB W L S D) => take_any h x hwa hb hn
  have LTS := hide h.c.lt
  have lB : w.heap.size < (w.alloc (.cells (ec x) 36)).heap.size := by simp
  have ES : takeB S D x = false → takeS S D x = S ∧ takeD S D x = D := fun e => ⟨by unfold takeS; rw [e]; simp, by unfold takeD; rw [e]; simp⟩
  have ES := hide ES
  generalize takeS S D x = S' at *
  generalize takeD S D x = D' at *
  generalize takeB S D x = tb at *
  go_enter Try.func12, Try.ntmps12
  go_wp2_with fail
  refine cg.mono ?_
  rintro e w1 ⟨rfl, rfl⟩
  go_upto_region 3 with fail
  refine wp_region_held_drew (S := fun w' => w'.rangeAt w.heap.size 0 (ec x).toList) (by kernel_rfl) (by exact ec_rng (HB.out.ext (Ext.drew _))) (fun hHeld => ?_)
  have HB := hide (HB.out.ext (Ext.drew _))
  have H := hide (H.out.ext (Ext.drew _))
  have HX := hide (HX.out.trans (Ext.drew _))
  generalize (w.alloc (.cells (ec x) 36)).drew = W1 at *
  (refine held_take (i := 0) (v := ?_) rfl (by kernel_rfl) (by kernel_rfl) (by kernel_rfl) (fun _ _ _ h => h) (by rfl) ?_ (by assumption) ?_; rotate_left; (intro w hSw; (try dsimp only at hSw); (first | (go_simp; done) | (go_simp; with_reducible rfl))); (try simp only [Act.put, List.setIfInBounds_toArray, List.set_cons_zero, List.set_cons_succ]))
  (refine held_take (i := 1) (v := ?_) rfl (by kernel_rfl) (by kernel_rfl) (by kernel_rfl) (fun _ _ _ h => h) (by rfl) ?_ (by assumption) ?_; rotate_left; (intro w hSw; (try dsimp only at hSw); (first | (go_simp; done) | (go_simp; with_reducible rfl))); (try simp only [Act.put, List.setIfInBounds_toArray, List.set_cons_zero, List.set_cons_succ]))
  (refine held_take (i := 2) (v := ?_) rfl (by kernel_rfl) (by kernel_rfl) (by kernel_rfl) (fun _ _ _ h => h) (by rfl) ?_ (by assumption) ?_; rotate_left; (intro w hSw; (try dsimp only at hSw); (first | (go_simp; done) | (go_simp; with_reducible rfl))); (try simp only [Act.put, List.setIfInBounds_toArray, List.set_cons_zero, List.set_cons_succ]))
  refine wpAnyH_take (i := 3) (at_drop rfl) (by kernel_rfl) (by kernel_rfl) (by kernel_rfl) (fun _ _ _ h => h) (yieldsIf_load_mid (by rfl) 36 _ rfl w.heap.size 0 rfl (ec x).toList _ (fun w h => h) Try.underlying36 rfl (inf_ec x)) (by assumption) ?_
  rw [Array.toArray_toList]
  (try simp only [Act.put, List.setIfInBounds_toArray, List.set_cons_zero, List.set_cons_succ])
  refine wpAnyH_ready (rs := [4]) (by kernel_rfl) (by simp) (held_cons rfl (fun K hK => ?_) AllReadyH.nil)
  rw [if_pos (by rfl)]
  go_simp
  go_at_call 20
  refine (CT' _ H.out.c).mono ?_
  rintro e w2 ⟨rfl, h2, c2⟩
  have HB2 := hide (HB.out.chg c2 (by have := LTS.out; simp; omega))
  have H2 := hide h2
  have HO2 := hide (own_chgB H.out.o c2 (fun k hk => by have := H.out.apart k hk; simp; omega))
  have U2 := hide ((HX.out.up0 B).trans ⟨_, fun t ht => by have := h.lo; simp at ht; omega, c2⟩)
  have C2 := hide c2.size
  have X1 := hide HX.out.size
  have sv := (show w2.cell? ⟨C, 75, none⟩ = some v by rw [H2.out.b.cell]; exact gl_tl (i := 0))
  have sf := H2.out.b.free 75
  have nC : w2.heap.size ≠ C := by have := LTS.out; have := X1.out; have := C2.out; omega
  clear h2 c2 HB H HX cg CT'
  go_simp
  refine hK.out _ _ (ec_rng HB2.out) (fun hHeld => ?_)
  (try simp only [Act.put, List.setIfInBounds_toArray, List.set_cons_zero, List.set_cons_succ])
  (refine held_take (i := 5) (v := ?_) rfl (by kernel_rfl) (by kernel_rfl) (by kernel_rfl) (fun _ _ _ h => h) (by rfl) ?_ (by assumption) ?_; rotate_left; (intro w hSw; (try dsimp only at hSw); (first | (go_simp; done) | (go_simp; with_reducible rfl))); (try simp only [Act.put, List.setIfInBounds_toArray, List.set_cons_zero, List.set_cons_succ]))
  refine wpAnyH_done (by kernel_rfl) ?_ _
  cases tb
  · obtain ⟨rfl, rfl⟩ := ES.out rfl
    go_wp2_with fail
    go_ret
    exact ⟨by simp, ⟨v, H2.out, HO2.out, h.lo⟩, U2.out⟩
  · go_upto_region 5 with fail
    refine wp_region_held_drew (S := fun w' => w'.rangeAt w.heap.size 0 (ec x).toList) (by kernel_rfl) (by exact ec_rng (HB2.out.ext (Ext.drew _))) (fun hHeld => ?_)
    have HB := hide (HB2.out.ext (Ext.drew _))
    have H := hide (H2.out.ext (Ext.drew _))
    have HO := hide (own_ext HO2.out (Ext.drew _))
    have U := hide (U2.out.trans ((Ext.drew _).up0 B))
    have sv := (show w2.drew.cell? ⟨C, 75, none⟩ = some v by rw [H.out.b.cell]; exact gl_tl (i := 0))
    have hs2 : w2.drew.heap.size = w2.heap.size := rfl
    have BS := hide (show B ≤ w2.drew.heap.size by have := X1.out; have := C2.out; omega)
    have NC := hide (show w2.drew.heap.size ≠ C by exact nC)
    clear HB2 H2 HO2 U2 nC sf hs2
    generalize w2.drew = W2 at *
    (refine held_take (i := 0) (v := ?_) rfl (by kernel_rfl) (by kernel_rfl) (by kernel_rfl) (fun _ _ _ h => h) (by rfl) ?_ (by assumption) ?_; rotate_left; (intro w hSw; (try dsimp only at hSw); (first | (go_simp; done) | (go_simp; with_reducible rfl))); (try simp only [Act.put, List.setIfInBounds_toArray, List.set_cons_zero, List.set_cons_succ]))
    (refine held_take (i := 1) (v := ?_) rfl (by kernel_rfl) (by kernel_rfl) (by kernel_rfl) (fun _ _ _ h => h) (by rfl) ?_ (by assumption) ?_; rotate_left; (intro w hSw; (try dsimp only at hSw); (first | (go_simp; done) | (go_simp; with_reducible rfl))); (try simp only [Act.put, List.setIfInBounds_toArray, List.set_cons_zero, List.set_cons_succ]))
    (refine held_take (i := 2) (v := ?_) rfl (by kernel_rfl) (by kernel_rfl) (by kernel_rfl) (fun _ _ _ h => h) (by rfl) ?_ (by assumption) ?_; rotate_left; (intro w hSw; (try dsimp only at hSw); (first | (go_simp; done) | (go_simp; with_reducible rfl))); (try simp only [Act.put, List.setIfInBounds_toArray, List.set_cons_zero, List.set_cons_succ]))
    (refine held_take (i := 3) (v := ?_) rfl (by kernel_rfl) (by kernel_rfl) (by kernel_rfl) (fun _ _ _ h => h) (by rfl) ?_ (by assumption) ?_; rotate_left; (intro w hSw; (try dsimp only at hSw); (first | (go_simp; done) | (go_simp; with_reducible rfl))); (try simp only [Act.put, List.setIfInBounds_toArray, List.set_cons_zero, List.set_cons_succ]))
    refine wpAnyH_take (i := 5) (at_drop rfl) (by kernel_rfl) (by kernel_rfl) (by kernel_rfl) (fun _ _ _ h => h) (yieldsIf_load_mid (by rfl) 36 _ rfl w.heap.size 0 rfl (ec x).toList _ (fun w h => h) Try.underlying36 rfl (inf_ec x)) (by assumption) ?_
    rw [Array.toArray_toList]
    (try simp only [Act.put, List.setIfInBounds_toArray, List.set_cons_zero, List.set_cons_succ])
    have LO := hide (own_lt h.o)
    obtain ⟨ti, hi, hz, hsize, hby⟩ := info_parts inf_ge
    refine wpAnyH_ready (rs := [4, 6]) (by kernel_rfl) (by simp) (held_cons rfl (fun K hK => ?_) (held_cons rfl (fun K hK => ?_) AllReadyH.nil))
    · rw [if_pos (by rfl)]
      go_wp2
      refine hK.out _ _ (ec_rng HB.out) (fun hHeld => ?_)
      (try simp only [Act.put, List.setIfInBounds_toArray, List.set_cons_zero, List.set_cons_succ])
      refine wpAnyH_ready (rs := [6]) (by kernel_rfl) (by simp) (held_cons rfl (fun K hK => ?_) AllReadyH.nil)
      rw [if_pos (by rfl)]
      refine wp_build1 x _ rfl rfl ?_
      have HB3 := hide (HB.out.ext (Ext.alloc W2 (.cells (ec x) 36)))
      have H3 := hide (H.out.ext (Ext.alloc W2 (.cells (ec x) 36)))
      have HO3 := hide (own_ext HO.out (Ext.alloc W2 (.cells (ec x) 36)))
      have U3 := hide (U.out.trans ((Ext.alloc W2 (.cells (ec x) 36)).up0 B))
      have HN3 := hide (Blk.new W2 (ec x) 36)
      have BS3 := hide (show B ≤ (W2.alloc (.cells (ec x) 36)).heap.size by have := BS.out; simp; omega)
      have sv := (show (W2.alloc (.cells (ec x) 36)).cell? ⟨C, 75, none⟩ = some v by rw [H3.out.b.cell]; exact gl_tl (i := 0))
      generalize W2.alloc (.cells (ec x) 36) = W3 at *
      refine hK.out _ _ (ec_rng HB3.out) (fun hHeld => ?_)
      (try simp only [Act.put, List.setIfInBounds_toArray, List.set_cons_zero, List.set_cons_succ])
      refine wpAnyH_ready (rs := [7]) (by kernel_rfl) (by simp) (held_cons rfl (fun K hK => ?_) AllReadyH.nil)
      rw [if_pos (by rfl)]
      refine wp_append_own W3 _ _ 25 rfl B 36 ti _ 13 104 Try.underlying25 hi hz hsize hby rfl (by omega) v l.length (ecl l) rfl HO3.out ⟨W2.heap.size, 0, none⟩ 1 1 (ec x).toList rfl rfl (fun j u hu => by rw [Addr.add_mid, Nat.zero_add, HN3.out.cell, ← hu, Array.getElem?_toList]) (by simp [ec, Value.oneCell']) (by unfold maxLen; omega) (by omega) BS3.out ?_
      intro v' w4 ho4 hg4 _
      obtain ⟨A', c', rfl⟩ := own_sl ho4
      have c4 := own_T hg4
      have ap := (GT.mk H3.out HO3.out h.lo).apart
      have H4 := H3.out.chg c4 (by simp only [Option.mem_toList]; intro q; exact (ap _ q).1 rfl) (by simp only [Option.mem_toList]; intro q; exact (ap _ q).2.1 rfl) (by simp only [Option.mem_toList]; intro q; exact (ap _ q).2.2.1 rfl) (by simp only [Option.mem_toList]; intro q; exact (ap _ q).2.2.2 rfl)
      have HB4 := HB3.out.chg c4 (by simp only [Option.mem_toList]; intro q; have := LO.out _ q; omega)
      have U4 := U3.out.trans ⟨_, fun t ht => own_row HO3.out t (by simpa using ht), c4⟩
      have e13 : ecl l ++ (ec x).toList = ecl (l ++ [x]) := by rw [ecl_app, ecl_one]
      rw [e13] at ho4
      have ho4 : w4.ownsRow B 36 13 (.slice A' (l.length + 1) c') (l ++ [x]).length (ecl (l ++ [x])) := by rw [List.length_append]; exact ho4
      have sv4 : w4.cell? ⟨C, 75, none⟩ = some v := by rw [H4.b.cell]; exact gl_tl (i := 0)
      have sf4 := H4.b.free 75
      have G5 := gt_put H4 ho4 h.lo
      have U5 := U4.trans ⟨[C], fun t ht => by simp at ht; have := h.lo; omega, (Chg.refl [C] w4).set (p := ⟨C, 75, none⟩) (.inl (by simp)) (.slice A' (l.length + 1) c')⟩
      have HB5 := HB4.far (p := ⟨C, 75, none⟩) (by have := LTS.out; simp; omega) (.slice A' (l.length + 1) c')
      have HG := hide G5
      have HU := hide U5
      have HBB := hide HB5; clear HB5
      clear c4 ap H4 U4 e13 ho4 G5 U5 sv
      refine hK.out _ _ (ec_rng HB4) (fun hHeld => ?_)
      (try simp only [Act.put, List.setIfInBounds_toArray, List.set_cons_zero, List.set_cons_succ])
      (refine held_take (i := 8) (v := ?_) rfl (by kernel_rfl) (by kernel_rfl) (by kernel_rfl) (fun _ _ _ h => h) (by rfl) ?_ (by assumption) ?_; rotate_left; (intro w hSw; (try dsimp only at hSw); (first | (go_simp; done) | (go_simp; with_reducible rfl))); (try simp only [Act.put, List.setIfInBounds_toArray, List.set_cons_zero, List.set_cons_succ]))
      (refine held_take (i := 9) (v := ?_) rfl (by kernel_rfl) (by kernel_rfl) (by kernel_rfl) (fun _ _ _ h => h) (by rfl) ?_ (by assumption) ?_; rotate_left; (intro w hSw; (try dsimp only at hSw); (first | (go_simp; done) | (go_simp; with_reducible rfl))); (try simp only [Act.put, List.setIfInBounds_toArray, List.set_cons_zero, List.set_cons_succ]))
      refine wpAnyH_ready (rs := [10]) (by kernel_rfl) (by simp) (held_cons rfl (fun K hK => ?_) AllReadyH.nil)
      rw [if_pos (by rfl)]
      go_wp2
      refine hK.out _ _ (ec_rng HBB.out) (fun hHeld => ?_)
      (try simp only [Act.put, List.setIfInBounds_toArray, List.set_cons_zero, List.set_cons_succ])
      refine wpAnyH_done (by kernel_rfl) ?_ _
      clear sv4 sf4 HB4
      go_wp2_with fail
      go_ret
      exact ⟨by simp, ⟨_, HG.out⟩, HU.out⟩
    · rw [if_pos (by rfl)]
      refine wp_build1 x _ rfl rfl ?_
      have HB3 := hide (HB.out.ext (Ext.alloc W2 (.cells (ec x) 36)))
      have H3 := hide (H.out.ext (Ext.alloc W2 (.cells (ec x) 36)))
      have HO3 := hide (own_ext HO.out (Ext.alloc W2 (.cells (ec x) 36)))
      have U3 := hide (U.out.trans ((Ext.alloc W2 (.cells (ec x) 36)).up0 B))
      have HN3 := hide (Blk.new W2 (ec x) 36)
      have BS3 := hide (show B ≤ (W2.alloc (.cells (ec x) 36)).heap.size by have := BS.out; simp; omega)
      have sv := (show (W2.alloc (.cells (ec x) 36)).cell? ⟨C, 75, none⟩ = some v by rw [H3.out.b.cell]; exact gl_tl (i := 0))
      generalize W2.alloc (.cells (ec x) 36) = W3 at *
      refine hK.out _ _ (ec_rng HB3.out) (fun hHeld => ?_)
      (try simp only [Act.put, List.setIfInBounds_toArray, List.set_cons_zero, List.set_cons_succ])
      refine wpAnyH_ready (rs := [4]) (by kernel_rfl) (by simp) (held_cons rfl (fun K hK => ?_) AllReadyH.nil)
      rw [if_pos (by rfl)]
      go_wp2
      refine hK.out _ _ (ec_rng HB3.out) (fun hHeld => ?_)
      (try simp only [Act.put, List.setIfInBounds_toArray, List.set_cons_zero, List.set_cons_succ])
      refine wpAnyH_ready (rs := [7]) (by kernel_rfl) (by simp) (held_cons rfl (fun K hK => ?_) AllReadyH.nil)
      rw [if_pos (by rfl)]
      refine wp_append_own W3 _ _ 25 rfl B 36 ti _ 13 104 Try.underlying25 hi hz hsize hby rfl (by omega) v l.length (ecl l) rfl HO3.out ⟨W2.heap.size, 0, none⟩ 1 1 (ec x).toList rfl rfl (fun j u hu => by rw [Addr.add_mid, Nat.zero_add, HN3.out.cell, ← hu, Array.getElem?_toList]) (by simp [ec, Value.oneCell']) (by unfold maxLen; omega) (by omega) BS3.out ?_
      intro v' w4 ho4 hg4 _
      obtain ⟨A', c', rfl⟩ := own_sl ho4
      have c4 := own_T hg4
      have ap := (GT.mk H3.out HO3.out h.lo).apart
      have H4 := H3.out.chg c4 (by simp only [Option.mem_toList]; intro q; exact (ap _ q).1 rfl) (by simp only [Option.mem_toList]; intro q; exact (ap _ q).2.1 rfl) (by simp only [Option.mem_toList]; intro q; exact (ap _ q).2.2.1 rfl) (by simp only [Option.mem_toList]; intro q; exact (ap _ q).2.2.2 rfl)
      have HB4 := HB3.out.chg c4 (by simp only [Option.mem_toList]; intro q; have := LO.out _ q; omega)
      have U4 := U3.out.trans ⟨_, fun t ht => own_row HO3.out t (by simpa using ht), c4⟩
      have e13 : ecl l ++ (ec x).toList = ecl (l ++ [x]) := by rw [ecl_app, ecl_one]
      rw [e13] at ho4
      have ho4 : w4.ownsRow B 36 13 (.slice A' (l.length + 1) c') (l ++ [x]).length (ecl (l ++ [x])) := by rw [List.length_append]; exact ho4
      have sv4 : w4.cell? ⟨C, 75, none⟩ = some v := by rw [H4.b.cell]; exact gl_tl (i := 0)
      have sf4 := H4.b.free 75
      have G5 := gt_put H4 ho4 h.lo
      have U5 := U4.trans ⟨[C], fun t ht => by simp at ht; have := h.lo; omega, (Chg.refl [C] w4).set (p := ⟨C, 75, none⟩) (.inl (by simp)) (.slice A' (l.length + 1) c')⟩
      have HB5 := HB4.far (p := ⟨C, 75, none⟩) (by have := LTS.out; simp; omega) (.slice A' (l.length + 1) c')
      have HG := hide G5
      have HU := hide U5
      have HBB := hide HB5; clear HB5
      clear c4 ap H4 U4 e13 ho4 G5 U5 sv
      refine hK.out _ _ (ec_rng HB4) (fun hHeld => ?_)
      (try simp only [Act.put, List.setIfInBounds_toArray, List.set_cons_zero, List.set_cons_succ])
      (refine held_take (i := 8) (v := ?_) rfl (by kernel_rfl) (by kernel_rfl) (by kernel_rfl) (fun _ _ _ h => h) (by rfl) ?_ (by assumption) ?_; rotate_left; (intro w hSw; (try dsimp only at hSw); (first | (go_simp; done) | (go_simp; with_reducible rfl))); (try simp only [Act.put, List.setIfInBounds_toArray, List.set_cons_zero, List.set_cons_succ]))
      (refine held_take (i := 9) (v := ?_) rfl (by kernel_rfl) (by kernel_rfl) (by kernel_rfl) (fun _ _ _ h => h) (by rfl) ?_ (by assumption) ?_; rotate_left; (intro w hSw; (try dsimp only at hSw); (first | (go_simp; done) | (go_simp; with_reducible rfl))); (try simp only [Act.put, List.setIfInBounds_toArray, List.set_cons_zero, List.set_cons_succ]))
      refine wpAnyH_ready (rs := [10]) (by kernel_rfl) (by simp) (held_cons rfl (fun K hK => ?_) AllReadyH.nil)
      rw [if_pos (by rfl)]
      go_wp2
      refine hK.out _ _ (ec_rng HBB.out) (fun hHeld => ?_)
      (try simp only [Act.put, List.setIfInBounds_toArray, List.set_cons_zero, List.set_cons_succ])
      refine wpAnyH_done (by kernel_rfl) ?_ _
      clear sv4 sf4 HB4
      go_wp2_with fail
      go_ret
      exact ⟨by simp, ⟨_, HG.out⟩, HU.out⟩
end Go.Proofs.Ytacneghgimfklaa
