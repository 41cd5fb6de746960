/- The threads of those at an object, rising: gathered out of a map, sorted. -/
import Derived.Test.YtpielknodjppgaaP1
import Derived.Test.YtpielknodjppgaaGrow
import Derived.Test.YtpielknodjppgaaShelf
namespace Go.Proofs.Ytpielknodjppgaa
open Go.RowKit Go.Maps
set_option linter.unusedSimpArgs false
set_option linter.unusedVariables false
set_option maxRecDepth 100000
set_option maxHeartbeats 4000000


/-- Those at an object. -/
def atL {α : Type} (f : Int → Int → Option α) (o : Nat) : List Int := ((List.range 8).filter fun t : Nat => (f o t).isSome).map Int.ofNat
theorem atL_mem {α : Type} {f : Int → Int → Option α} (hd : Dom f) (o : Nat) (y : Int) : y ∈ atL f o ↔ (f o y).isSome = true := by
  unfold atL
  rw [List.mem_map]
  constructor
  · rintro ⟨t, ht, rfl⟩
    exact (List.mem_filter.1 ht).2
  · intro h
    have b := hd _ _ h
    refine ⟨y.toNat, List.mem_filter.2 ⟨List.mem_range.2 (by omega), ?_⟩, by show ((y.toNat : Nat) : Int) = y; omega⟩
    rw [show ((y.toNat : Nat) : Int) = y by omega]; exact h
theorem atL_asc {α : Type} (f : Int → Int → Option α) (o : Nat) : (atL f o).Pairwise (· < ·) := by
  unfold atL
  rw [List.pairwise_map]
  refine List.Pairwise.imp ?_ (List.pairwise_lt_range.filter _)
  intro a b h
  show (a : Int) < (b : Int)
  omega
theorem atL_len {α : Type} (f : Int → Int → Option α) (o : Nat) : (atL f o).length ≤ 8 := by
  unfold atL
  rw [List.length_map]
  have := List.length_filter_le (fun t : Nat => (f o t).isSome) (List.range 8)
  rwa [List.length_range] at this
theorem asc_one {α : Type} {r : α → α → Prop} (ha : ∀ x y, r x y → ¬ r y x) : ∀ l l' : List α, l.Pairwise r → l'.Pairwise r → (∀ x, x ∈ l ↔ x ∈ l') → l = l'
  | [], [], _, _, _ => rfl
  | [], b :: l', _, _, h => absurd ((h b).2 (by simp)) (by simp)
  | a :: l, [], _, _, h => absurd ((h a).1 (by simp)) (by simp)
  | a :: l, b :: l', h1, h2, h => by
    obtain ⟨p1, p2⟩ := List.pairwise_cons.1 h1
    obtain ⟨q1, q2⟩ := List.pairwise_cons.1 h2
    have e : a = b := by
      rcases List.mem_cons.1 ((h a).1 (by simp)) with e | e
      · exact e
      · rcases List.mem_cons.1 ((h b).2 (by simp)) with e2 | e2
        · exact e2.symm
        · exact absurd (q1 a e) (ha _ _ (p1 b e2))
    subst e
    rw [asc_one ha l l' p2 q2 fun x => ?_]
    constructor
    · intro hx
      rcases List.mem_cons.1 ((h x).1 (List.mem_cons_of_mem _ hx)) with e | e
      · subst e; exact absurd (p1 x hx) (ha _ _ (p1 x hx))
      · exact e
    · intro hx
      rcases List.mem_cons.1 ((h x).2 (List.mem_cons_of_mem _ hx)) with e | e
      · subst e; exact absurd (q1 x hx) (ha _ _ (q1 x hx))
      · exact e
/-- What rounds of a range have gathered. -/
structure Coll {α : Type} (f : Int → Int → Option α) (o : Nat) (left : Lit → Bool) (ss : List Int) : Prop where
  nd : ss.Nodup
  mem : ∀ y, y ∈ ss ↔ ((f o y).isSome = true ∧ left (sk o y) = false)
section
variable {α : Type} {f : Int → Int → Option α} {o : Nat} {left : Lit → Bool} {ss : List Int} {dat : α → DataW Unit} {D : DataW Unit}
theorem Dom.wf (hd : Dom f) {x y : Int} (h : (f x y).isSome = true) : wfI x ∧ wfI y := by
  have b := hd _ _ h
  exact ⟨wfI_of (by omega) (by omega), wfI_of (by omega) (by omega)⟩
theorem Coll.start (hd : Dom f) (h : Rep dat D f) : Coll f o (Maps.has D) [] := by
  refine ⟨List.nodup_nil, fun x => ⟨fun h => by simp at h, fun ⟨h1, h3⟩ => ?_⟩⟩
  obtain ⟨w1, w2⟩ := hd.wf h1
  rw [h.has _ _ w1 w2, h1] at h3
  cases h3
theorem left_iff (hd : Dom f) {x y z : Int} (hx : wfI x) (hy : wfI y) (hz : (f o z).isSome = true) : (left (sk o z) && !(sk o z).sameKey (sk x y)) = false ↔ left (sk o z) = false ∨ ((o : Int) = x ∧ z = y) := by
  obtain ⟨w1, w2⟩ := hd.wf hz
  simp only [Bool.and_eq_false_iff, Bool.not_eq_false', same_sk w1 w2 hx hy, decide_eq_true_iff]
theorem Coll.took (hd : Dom f) (h : Coll f o left ss) {y : Int} (hy : wfI y) (hl : left (sk o y) = true) (hf : (f o y).isSome = true) : Coll f o (fun z => left z && !z.sameKey (sk o y)) (ss ++ [y]) := by
  obtain ⟨w1, _⟩ := hd.wf hf
  refine ⟨?_, fun x => ?_⟩
  · rw [List.nodup_append]
    refine ⟨h.nd, by simp, fun a ha b hb e => ?_⟩
    simp at hb
    subst hb e
    obtain ⟨_, h3⟩ := (h.mem a).1 ha
    rw [hl] at h3
    cases h3
  · rw [List.mem_append, h.mem, List.mem_singleton]
    constructor
    · rintro (⟨h1, h2⟩ | rfl)
      · exact ⟨h1, (left_iff hd w1 hy h1).2 (.inl h2)⟩
      · exact ⟨hf, (left_iff hd w1 hy hf).2 (.inr ⟨rfl, rfl⟩)⟩
    · rintro ⟨h1, h2⟩
      rcases (left_iff hd w1 hy h1).1 h2 with h3 | ⟨_, h3⟩
      · exact .inl ⟨h1, h3⟩
      · exact .inr h3
theorem Coll.skip (hd : Dom f) (h : Coll f o left ss) {x y : Int} (hx : wfI x) (hy : wfI y) (hne : x ≠ o) : Coll f o (fun z => left z && !z.sameKey (sk x y)) ss := by
  refine ⟨h.nd, fun z => ?_⟩
  rw [h.mem]
  constructor
  · rintro ⟨h1, h2⟩; exact ⟨h1, (left_iff hd hx hy h1).2 (.inl h2)⟩
  · rintro ⟨h1, h2⟩
    rcases (left_iff hd hx hy h1).1 h2 with h3 | ⟨h3, _⟩
    · exact ⟨h1, h3⟩
    · exact absurd h3.symm hne
theorem Coll.fin (hd : Dom f) (h : Coll f o left ss) (hl : ∀ kl, left kl = false) : ss.mergeSort (fun x y => decide (x ≤ y)) = atL f o := by
  have hp : (ss.mergeSort (fun x y => decide (x ≤ y))).Perm ss := List.mergeSort_perm _ _
  have hs : (ss.mergeSort (fun x y => decide (x ≤ y))).Pairwise (fun x y => x ≤ y) := by
    have := List.pairwise_mergeSort (le := fun x y : Int => decide (x ≤ y)) (fun a b c h1 h2 => by simp at h1 h2 ⊢; omega) (fun a b => by simp; omega) ss
    exact this.imp (fun h => by simpa using h)
  have hn : (ss.mergeSort (fun x y => decide (x ≤ y))).Nodup := hp.nodup_iff.2 h.nd
  refine asc_one (r := fun a b : Int => a < b) (fun x y h => by omega) _ _ ?_ (atL_asc f o) (fun x => ?_)
  · have hn' : (ss.mergeSort (fun x y => decide (x ≤ y))).Pairwise (fun a b => a ≠ b) := hn
    exact (hs.and hn').imp (fun ⟨h1, h2⟩ => by omega)
  · rw [hp.mem_iff, h.mem, atL_mem hd, hl]
    simp
end
theorem put_chg {α : Type} [Inhabited α] (enc : α → Value) (w : World) (blk off m : Nat) (dk : Array α) (os : Array Obj) : Chg [blk] w (Sort.grow (Sort.putRow enc (Sort.ahead w m) blk off dk) os) := by
  refine ⟨rfl, rfl, rfl, ?_, fun k hk hT => ?_⟩
  · show w.heap.size ≤ ((w.heap.modify blk (Sort.onCells (Sort.putCells enc off dk))) ++ os).size
    simp
  · show ((w.heap.modify blk (Sort.onCells (Sort.putCells enc off dk))) ++ os)[k]? = w.heap[k]?
    rw [Array.getElem?_append_left (by simpa using hk), Array.getElem?_modify, if_neg (by rintro rfl; simp at hT)]
theorem own_put {w : World} {base g cap n k : Nat} {os : Array Obj} {cur : Array Value} {d : List Int} (hbase : base ≤ g) (hb : w.heap[g]? = some (.cells cur 3 (0, 0)))
    (h1 : d.length ≤ cap) (h2 : cap ≤ maxLen) (h3 : cur.size = cap * 1) (hk : k ≤ d.length) :
    (Sort.grow (Sort.putRow enJ (Sort.ahead w n) g 0 d.toArray) os).ownsRow base 3 1 (.slice (some ⟨g, 0, none⟩) k cap) k ((d.take k).map enJ) := by
  have hg : g < w.heap.size := (Array.getElem?_eq_some_iff.1 hb).1
  refine ⟨by simp; omega, .inr ⟨g, cap, Sort.putCells enJ 0 d.toArray cur, rfl, hbase, ?_, by omega, h2, by simp [Sort.putCells, h3], ?_⟩⟩
  · rw [Sort.heap_grow_old _ _ (by simpa [Sort.putRow, Sort.mapBlock, Sort.ahead] using hg)]
    simp [Sort.putRow, Sort.mapBlock, Sort.ahead, Array.getElem?_modify, hb, Sort.onCells]
  · rw [Nat.mul_one]
    apply List.ext_getElem?
    intro j
    by_cases hj : j < k
    · rw [List.getElem?_take_of_lt hj, Array.getElem?_toList, List.getElem?_map, List.getElem?_take_of_lt hj]
      have hjd : j < d.length := by omega
      simp [Sort.putCells, hjd, show j < cur.size by omega]
    · rw [List.getElem?_take_eq_none (by omega), List.getElem?_eq_none (by simp; omega)]
theorem holds_own {w : World} {g : Nat} {cur : Array Value} {ss : List Int} (hb : w.heap[g]? = some (.cells cur 3 (0, 0))) (ht : cur.toList.take ss.length = ss.map enJ) : Sort.Holds (Value.int .i64) w g 0 ss.toArray := by
  intro j hj
  have hj' : j < ss.length := by simpa using hj
  refine ⟨?_, by simp [World.frozen?, hb]⟩
  have h1 : (cur.toList.take ss.length)[j]? = (ss.map enJ)[j]? := by rw [ht]
  rw [List.getElem?_take_of_lt hj', List.getElem?_map, List.getElem?_eq_getElem hj'] at h1
  rw [Nat.zero_add, cell_of_row w g j cur 3 (0, 0) hb, ← Array.getElem?_toList, h1, getElem!_pos ss.toArray j hj]
  simp
theorem rg_ext {H : Type} {P : Program} {k : TypeId} {R : Value → Option (DataW H × List MemPlace)} {w w' : World} {b r n : Nat} {D : DataW H} {left : Lit → Bool} {cnt : Nat} (h : w.ranges P k R b r n D left cnt) (x : Ext w w') : w'.ranges P k R b r n D left cnt :=
  h.kept (row := none) ⟨x.os, x.tape, x.output, x.size, fun k hk _ => x.block k hk⟩ (by simp) (by simp)
/-- The step of a range over such a map. -/
theorem wpList_next_sp (w : World) {ops : Array Oper} {rest : List Oper} {op : Oper} {a : Act} {Q : Exit → Act → World → Prop} (hg : op.guard = none) (it : Operand) (hop : op.op = Op.next it false) (R : Value → Option (DataW Unit × List MemPlace)) (b r n : Nat) (D : DataW Unit) (left : Lit → Bool) (cnt : Nat)
    (hit : a.eval it = .pointer (some ⟨r, 0, none⟩)) (h : w.ranges Try.prog 105 R b r n D left cnt)
    (hDone : cnt = 0 → (∀ kl, left kl = false) → wpList Try.prog ops Q rest (a.put op.dst (.tuple #[.bool false])) w)
    (hMore : ∀ (x y : Int) (v : Value) (d : DataW Unit) (ps : List MemPlace) (w' : World) (cnt' : Nat), wfI x → wfI y → left (sk x y) = true → R v = some (d, ps) → (∀ zd, D.atKey (sk x y) zd = d) → w'.ranges Try.prog 105 R b r n D (fun z => left z && !z.sameKey (sk x y)) cnt' → cnt' < cnt →
      w.grownBy w' (some r) → w'.heap.size = w.heap.size → (Instr.entry (.pointer (some ⟨r, 0, none⟩))).run Try.prog w' = .ok (.tuple #[(Value.agg #[.int .i64 x, .int .i64 y]), v]) w' → wpList Try.prog ops Q rest (a.put op.dst (.tuple #[.bool true, (Value.agg #[.int .i64 x, .int .i64 y]), v])) w') :
    wpList Try.prog ops Q (op :: rest) a w :=
  wpList_next_ranges w hg it hop 105 kS R (fun p : Int × Int => (Value.agg #[.int .i64 p.1, .int .i64 p.2])) id (fun key kl hkey => by obtain ⟨x, y, rfl, _⟩ := sk_inv hkey; exact ⟨(x, y), rfl⟩) (fun v y hv => ⟨v, rfl⟩)
    b r n D left cnt hit h hDone (fun p v kl dd w' cnt' hkey hlk hv hat hrg hlt hgr hsz hen => by
      obtain ⟨x, y, e, rfl, wx, wy⟩ := sk_inv hkey
      obtain ⟨p1, p2⟩ := p
      simp at e
      obtain ⟨rfl, rfl⟩ := e
      exact hMore p1 p2 v dd.1 dd.2 w' cnt' wx wy hlk hv hat hrg hlt hgr hsz hen)
theorem atI_any {w : World} {m : Nat} {f : Int → Int → Option Int} (hd : Dom f) (h : MI w m f) (o : Nat) (ho : o < 8) : Calls Try.prog 62 #[.map (some m), .int .i64 (o : Int)] w fun e w' => ∃ v, e = .returned v ∧ w'.ownsRow w.heap.size 3 1 v (atL f o).length ((atL f o).map enJ) ∧ Ext w w' := by
  obtain ⟨D, hown, rep⟩ := h
  have hml := hown.lt
  have SZ := hide rep.size
  have REP := hide rep
  have HD := hide hd
  have LE := hide (cntF_le f)
  clear rep
  go_enter Try.func62, Try.ntmps62
  go_wp2_with (first
    | (at_range; refine wpList_range_own _ rfl _ 79 rfl 105 3 kS Try.underlying79 rdI m 64 D rfl hown ?_; intro w0 hrg0 hg0 hs0)
    | go_in)
  go_frame
  have HX := hide (Ext.grown (Ext.refl w) hg0 (by intro k hk; cases hk))
  have HS := hide hs0
  clear hg0 hs0
  obtain ⟨r, hr⟩ : ∃ r, r = w.heap.size := ⟨_, rfl⟩
  rw [← hr] at hrg0 ⊢
  have HR := hide hr
  clear hr
  go_loopw [5] (fun v wr => ∃ (left : Lit → Bool) (cnt : Nat) (ss : List Int), wr.ranges Try.prog 105 rdI m r 64 D left cnt ∧ Coll f o left ss ∧ ss.length + cnt ≤ 64 ∧ wr.ownsRow w0.heap.size 3 1 v ss.length (ss.map enJ) ∧ Chg [r] w0 wr) (fun _ wr => wr.rangeLeft m r)
  case atStart => exact ⟨_, _, [], hrg0, Coll.start HD.out REP.out, by have := LE.out; simp [SZ.out]; omega, own_nil _ _ _ _, Chg.refl _ _⟩
  case round =>
    clear hrg0
    obtain ⟨left, cnt, ss, hrg, hC, hcs, hrow, hch⟩ := hrel
    go_wp2_with (first
      | (at_next; refine wpList_next_sp _ rfl _ rfl rdI m r 64 D left cnt rfl hrg ?_ ?_)
      | go_in)
    · intro hc0 hl0
      have HF := hide (hC.fin HD.out hl0)
      have r1 := HR.out
      have s0 := HS.out
      have hX := HX.out.turn hch (by simp; omega)
      rcases hrow.2 with ⟨rfl, hn0⟩ | ⟨g, cap, cur, rfl, hbase, hb, h1, h3, h4, h5⟩
      · obtain rfl : ss = [] := List.eq_nil_of_length_eq_zero hn0
        have hcon := Proofs.AnyG.slices_Sort_int_none { sortL with } none 0 wr
        change Calls Try.prog 64 _ _ _ at hcon
        have HZ := hide (show atL f o = [] by rw [← HF.out]; simp)
        clear hrg hrow hch r1 s0
        go_wp2_with fail
        refine hcon.mono ?_
        rintro e w' ⟨rfl, rfl⟩
        go_wp2_with fail
        go_ret
        exact ⟨_, rfl, by rw [HZ.out]; exact own_nil _ _ _ _, hX⟩
      · have hgl : g < wr.heap.size := (Array.getElem?_eq_some_iff.1 hb).1
        have hcon := Proofs.AnyG.slices_Sort_int sortL g 0 cap ss wr (holds_own hb (by simpa using h5)) hgl (by omega)
        change Calls Try.prog 64 _ _ _ at hcon
        have HB := hide hb
        clear hrg hrow hch r1 hb h5 hC
        go_wp2_with fail
        refine hcon.mono ?_
        rintro e w' ⟨rfl, nn, os, hw3⟩
        have hcg : Chg [g] wr w' := by rw [hw3]; exact put_chg enJ wr g 0 nn _ os
        have hlen : (ss.mergeSort fun x y => decide (x ≤ y)).length = ss.length := by simp
        have hown3 : w'.ownsRow w.heap.size 3 1 (.slice (some ⟨g, 0, none⟩) ss.length cap) ss.length ((ss.mergeSort fun x y => decide (x ≤ y)).map enJ) := by
          have q := own_put (base := w.heap.size) (n := nn) (os := os) (d := ss.mergeSort fun x y => decide (x ≤ y)) (k := ss.length) (by omega) HB.out (by rw [hlen]; exact h1) h3 h4 (by rw [hlen]; exact Nat.le_refl _)
          rw [List.take_of_length_le (by rw [hlen]; exact Nat.le_refl _), ← hw3] at q
          exact q
        rw [HF.out] at hown3 hlen
        have HO := hide hown3
        have HX3 := hide (hX.turn hcg (by simp; omega))
        have HL := hide hlen
        clear hown3 hcg hw3 hlen hcon
        go_wp2_with fail
        go_ret
        exact ⟨_, rfl, by rw [HL.out]; exact HO.out, HX3.out⟩
    · intro x y vv dd ps w2 cnt2 wx wy hlx hrv hat hrg2 hlt hg2 hs2 hen
      have hch2 := hch.trans (Chg.of_grown hg2 (T := [r]) (by simp))
      have r1 := HR.out
      have s0 := HS.out
      have hh : (f x y).isSome = true := by rw [← REP.out.has x y wx wy]; exact Maps.has_true_of_atKey hat
      have hrow2 := own_chg hrow (Chg.of_grown hg2 (T := [r]) (by simp)) (by simp; omega)
      have hsz := hch2.size
      have HL := hide hlx
      have HC := hide hC
      have HG := hide hrg
      have HR2 := hide (rg_ext hrg2 (Ext.alloc w2 (.cells #[.int .i64 x, .int .i64 y] 105)))
      have HW := hide (own_ext hrow2 (Ext.alloc w2 (.cells #[.int .i64 x, .int .i64 y] 105)))
      have HC2 := hide (hch2.trans (Chg.alloc _ _ (.cells #[.int .i64 x, .int .i64 y] 105)))
      have HH := hide hh
      clear hs2 hg2 hat hrg hrow hch hlx hC hown r1 s0 hch2 hrg2 hrow2 hh hrv
      have hbw : w0.heap.size ≤ (w2.alloc (.cells #[.int .i64 x, .int .i64 y] 105)).heap.size := by simp; omega
      by_cases hxo : x = o
      · subst hxo
        go_wp2_with (first
          | (at_builtin; (refine wpList_app2 (g := w2.heap.size + 1) rfl rfl Try.underlying30 inf_int rfl (by omega) rfl HW.out hbw rfl (by simp) rfl (by simp [Value.oneCell']) (by unfold maxLen; omega) (by omega) ?_; intro v' w4 hown' hg3; go_frame))
          | go_in)
        have row := own_row HW.out
        have s0 := HS.out
        have r1 := HR.out
        have hrg3 := (HR2.out.alloc (.cells #[.int .i64 y] 3)).kept hg3 (fun e => by have := row m e.symm; omega) (fun e => by have := row r e.symm; omega)
        go_roundw
        case rel => exact ⟨_, cnt2, ss ++ [y], hrg3, HC.out.took HD.out wy HL.out HH.out, by simp; omega, by rw [List.map_append]; simpa using hown', (HC2.out.trans (Chg.alloc _ _ _)).of_row hg3 row⟩
        case measure => rw [hrg3.left_eq, HG.out.left_eq]; exact hlt
      · have hq : (x == (o : Int)) = false := by simpa using hxo
        go_wp2_with fail
        go_roundw
        case rel => exact ⟨_, cnt2, ss, HR2.out, HC.out.skip HD.out wx wy hxo, by omega, HW.out, HC2.out⟩
        case measure => rw [HR2.out.left_eq, HG.out.left_eq]; exact hlt
theorem Ok.domW {S : St} (h : Ok S) : Dom S.wt := fun x y hs => by
  obtain ⟨c, hc⟩ := Option.isSome_iff_exists.1 hs
  have := h.wt _ _ _ hc
  have := h.n1
  have := h.m1
  omega
theorem Ok.domL {S : St} (h : Ok S) : Dom S.lf := fun x y hs => by
  obtain ⟨c, hc⟩ := Option.isSome_iff_exists.1 hs
  have := h.lf _ _ _ hc
  have := h.n1
  have := h.m1
  omega
def watL (g : Bool) (S : St) (z : Int) : List Int := if (g && isO S z) = true then atL S.wt z.toNat else []
def lefL (g : Bool) (S : St) (z : Int) : List Int := if (g && isO S z) = true then atL S.lf z.toNat else []
theorem noW_eq {S : St} (ok : Ok S) (o : Nat) : noW S o = ((atL S.wt o).length == 0) := by
  have h2 : ((atL S.wt o).length == 0) = true ↔ ∀ y, (S.wt o y).isSome = false := by
    rw [beq_iff_eq, List.length_eq_zero_iff, List.eq_nil_iff_forall_not_mem]
    constructor
    · intro h y; have := h y; rw [atL_mem ok.domW] at this; simpa using this
    · intro h y; rw [atL_mem ok.domW, h y]; simp
  have h1 : noW S o = true ↔ ∀ y, (S.wt o y).isSome = false := by
    unfold noW
    rw [List.all_eq_true]
    constructor
    · intro h y
      cases e : S.wt o y with
      | none => rfl
      | some c =>
        have b := ok.wt _ _ _ e
        have := h y.toNat (List.mem_range.2 (by omega))
        rw [show ((y.toNat : Nat) : Int) = y by omega, e] at this
        simp at this
    · intro h t _; rw [h t]; rfl
  exact Bool.eq_iff_iff.2 (h1.trans h2.symm)
theorem nonew_any {w : World} {B W L : Nat} {S : St} (h : ModT w B W L S) {o : Nat} (ho : o < S.M) : Calls Try.prog 56 #[.pointer (some ⟨B, 0, none⟩), .int .i64 (o : Int)] w fun e w' => e = .returned (.bool (noW S o)) ∧ Ext w w' := by
  have m1 := h.ok.m1
  have r1 : w.cell? ⟨B, 35, none⟩ = some (.map (some W)) := h.c (by omega)
  have hc := atI_any h.ok.domW h.wm o (by omega)
  have E := hide (noW_eq h.ok o)
  rw [E.out]
  generalize (atL S.wt o) = l at *
  go_enter Try.func56, Try.ntmps56
  go_wp2_with fail
  refine hc.mono ?_
  rintro e w2 ⟨v, rfl, hown, hx⟩
  obtain ⟨A, c, rfl⟩ := own_sl hown
  obtain ⟨n, hn⟩ : ∃ n, n = l.length := ⟨_, rfl⟩
  rw [← hn]
  rw [← hn] at hown
  have HN := hide hn
  clear hown hc E hn
  go_wp2_with fail
  go_ret
  exact ⟨by rw [show ((n : Int) == 0) = (n == 0) by rw [Bool.eq_iff_iff]; simp]; simp [HN.out], hx⟩
theorem mtell_any {w : World} {B W L : Nat} {S : St} (h : ModT w B W L S) (k : Int) (t : Nat) {o : Nat} (a r : Int) (ho : o < S.M) : Calls Try.prog 57 #[.pointer (some ⟨B, 0, none⟩), (Value.agg #[.int .i64 k, .int .i64 (t : Int), .int .i64 (o : Int), .int .i64 a, .int .i64 r])] w fun e w' => e = .returned (.bool (telB S o a)) ∧ Ext w w' := by
  have E := hide (show telB S o a = (isT S a || (a == -1 && noW S o)) from rfl)
  have hx := Ext.alloc w (.cells #[Value.int .i64 k, .int .i64 (t : Int), .int .i64 (o : Int), .int .i64 a, .int .i64 r] 36)
  have c1 := hasT_any (h.ext hx).any a
  have c2 := nonew_any (h.ext hx) ho
  simp only [Bool.true_and] at c1
  generalize telB S o a = res at *
  generalize noW S o = nb at *
  cases q1 : isT S a
  · cases q2 : (a == -1)
    all_goals
      rw [q1, q2] at E
      rw [q1] at c1
      go_enter Try.func57, Try.ntmps57
      go_wp2_with fail
      refine c1.mono ?_
      rintro e w1 ⟨rfl, rfl⟩
      go_wp2_with (refine c2.mono ?_; rintro e w2 ⟨rfl, hx2⟩)
      go_ret
      first
      | exact ⟨by rw [E.out]; simp, hx.trans hx2⟩
      | exact ⟨by rw [E.out]; simp, hx⟩
  · rw [q1] at E c1
    go_enter Try.func57, Try.ntmps57
    go_wp2_with fail
    refine c1.mono ?_
    rintro e w1 ⟨rfl, rfl⟩
    go_wp2_with fail
    go_ret
    exact ⟨by rw [E.out]; simp, hx⟩
end Go.Proofs.Ytpielknodjppgaa
