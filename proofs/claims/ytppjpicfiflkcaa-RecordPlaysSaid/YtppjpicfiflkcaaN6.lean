/- Of which objects there are records: gathered by a closure, sorted, each once. -/
import Derived.Test.YtppjpicfiflkcaaN5
import Derived.Test.YtppjpicfiflkcaaShelf
namespace Go.Proofs.Ytppjpicfiflkcaa
open Go.RowKit
set_option linter.unusedSimpArgs false
set_option linter.unusedVariables false

abbrev enJ (x : Int) : Value := .int .i64 x
theorem inf_int : (Try.prog.info? 3).map (fun i => (i.zero, i.size, i.bytes)) = some (some (.int .i64 0), 1, 8) := by kernel_rfl
/-- 'out = append(out, x)', where the row may lie among older blocks. -/
theorem wpList_app2 {P : Program} {w : World} {base : Nat} {ops : Array Oper} {rest : List Oper} {o : Oper} {a : Act} {Q : Exit → Act → World → Prop} {s x : Operand} {t : TypeId} (hgd : o.guard = none)
    (ho : o.op = .call { callee := .builtin .append, args := #[s, x], argTypes := #[t, t] })
    {e : TypeId} {z : Value} {size bytes : Nat} (ht : P.underlying t = some (.slice e)) (hinf : (P.info? e).map (fun i => (i.zero, i.size, i.bytes)) = some (some z, size, bytes))
    (hzs : z.cells.size = size) (hsz : 0 < size)
    {v : Value} {n : Nat} {xs : List Value} (hs : a.eval s = v) (hown : w.ownsRow base e size v n xs) (hbase : base ≤ w.heap.size)
    {cs : Array Value} {c g : Nat} (hx : a.eval x = .slice (some ⟨g, 0, none⟩) 1 c) (hg : g = w.heap.size) (hcs : cs.size = size) (h1 : ∀ u ∈ cs.toList, u.oneCell' = true)
    (hn : n + 1 ≤ maxLen) (hby : (n + 1) * bytes ≤ 140737488355328)
    (h : ∀ v' w', w'.ownsRow base e size v' (n + 1) (xs ++ cs.toList) → (w.alloc (.cells cs e)).grownBy w' v.ownBlock → wpList P ops Q rest (a.put o.dst v') w') :
    wpList P ops Q (o :: rest) a (w.alloc (.cells cs e)) := by
  subst hg
  obtain ⟨i, hi, hz, hsize, hb⟩ := info_parts hinf
  refine wpList_append_own _ hgd s x t ho base e i z size bytes ht hi hz hsize hb hzs hsz v n xs hs (own_ext hown (Ext.alloc _ _)) ⟨w.heap.size, 0, none⟩ 1 c cs.toList hx (by simp [hcs]) ?_ h1 hn hby (by simp; omega) ?_
  · intro j u hu
    have : (w.alloc (.cells cs e)).cell? ⟨w.heap.size, j, none⟩ = cs[j]? := cell_of_row _ _ j cs e (0, 0) (heap_alloc_new w _)
    rw [Array.getElem?_toList] at hu
    rw [← hu, ← this]
    unfold Addr.add
    by_cases hj : j = 0
    · rw [if_pos hj, hj]
    · rw [if_neg hj, Nat.zero_add]
  · intro v' w' h2 hg _
    exact h v' w' h2 hg
theorem Chg.of_row {T : List Nat} {w0 w w' : World} {row : Option Nat} (h : Chg T w0 w) (hg : w.grownBy w' row) (hr : ∀ k, row = some k → w0.heap.size ≤ k) : Chg T w0 w' :=
  ⟨hg.os.trans h.os, hg.tape.trans h.tape, hg.output.trans h.output, Nat.le_trans h.size hg.size, fun k hk hT => (hg.block k (Nat.lt_of_lt_of_le hk h.size) (fun e => by have := hr k e.symm; omega)).trans (h.block k hk hT)⟩
theorem Blk.grown {w w' : World} {g : Nat} {cs : Array Value} {t : TypeId} {row : Option Nat} (h : Blk w g cs t) (hg : w.grownBy w' row) (hr : ∀ k, row = some k → k ≠ g) : Blk w' g cs t :=
  (hg.block g h.lt (fun e => hr g e.symm rfl)).trans h
theorem own_sl {w : World} {base n size : Nat} {e : TypeId} {v : Value} {xs : List Value} (h : w.ownsRow base e size v n xs) : ∃ A c, v = .slice A n c := by
  rcases h.2 with ⟨rfl, h0⟩ | ⟨g, cap, cur, rfl, _⟩
  · exact ⟨none, 0, by rw [h0]⟩
  · exact ⟨_, _, rfl⟩
set_option maxRecDepth 100000 in
theorem objectsF_any (O n : Nat) (v : Value) (xs : List Int) (o s : Int) (W w : World) (hn : n ≤ 1000) (hx : xs.length = n) (hO : O < W.heap.size) (hC : Chg [O] W w) (hb : Blk w O #[v] 55) (hown : w.ownsRow W.heap.size 3 1 v n (xs.map enJ)) :
    Calls Try.prog 35 #[.agg #[.int .i64 o, .int .u64 s], (.pointer (some ⟨O, 0, none⟩))] w fun e w' => e = .returned (.bool true) ∧ ∃ v', Blk w' O #[v'] 55 ∧ w'.ownsRow W.heap.size 3 1 v' (n + 1) ((xs ++ [o]).map enJ) ∧ Chg [O] W w' := by
  obtain ⟨A, c, rfl⟩ := own_sl hown
  have hX := Ext.alloc w (.cells #[.int .i64 o, .int .u64 s] 38)
  have r1 := fun x => (hb.ext (Ext.alloc w x)).cell
  have hown2 := own_ext hown hX
  have hb2 := hb.ext (hX.trans (Ext.alloc _ (.cells #[.int .i64 o] 3)))
  have hC2 := (hC.trans (hX.chg _)).trans (Chg.alloc _ _ (.cells #[.int .i64 o] 3))
  have sz := (hC.trans (hX.chg _)).size
  have HB := hide hb2
  have HC := hide hC2
  have HR := hide (own_row hown)
  have HS := hide sz
  clear hb hown hC hX hb2 hC2 sz
  go_enter Try.func35, Try.ntmps35
  go_wp2_with (first
    | (at_builtin; (refine wpList_app2 (g := w.heap.size + 1) rfl rfl Try.underlying55 inf_int rfl (by omega) rfl hown2 HS.out rfl (by simp) rfl (by simp [Value.oneCell']) (by unfold maxLen; omega) (by omega) ?_; intro v' w3 hown' hg3; obtain ⟨A3, c3, rfl⟩ := own_sl hown'; have HO := hide hown'; have HB3 := hide (HB.out.grown hg3 (fun k e => by have := HR.out k e; omega)); have HC3 := hide (HC.out.of_row hg3 HR.out); have q1 := HB3.out.cell; have q2 := HB3.out.free; clear hown' hg3 hown2; go_frame))
    | go_in)
  go_ret
  have hb := HB3.out.set 0 (.slice A3 (n + 1) c3)
  have hc := HC3.out.set (p := ⟨O, 0, none⟩) (.inl (by simp)) (.slice A3 (n + 1) c3)
  refine ⟨rfl, _, by simpa using hb, ?_, hc⟩
  have hx := own_chg HO.out ((Chg.refl [O] w3).set (p := ⟨O, 0, none⟩) (.inl (by simp)) (.slice A3 (n + 1) c3)) (by simpa using hO)
  simpa using hx
theorem objL_snoc (l : List Rec) (k : Nat) (hk : k < l.length) : (l.take (k + 1)).map (·.1) = (l.take k).map (·.1) ++ [(l[k]).1] := by
  rw [List.take_succ_eq_append_getElem hk, List.map_append]; rfl
set_option maxRecDepth 100000 in
/-- The iterator over the records, handed the gathering. -/
theorem valF_objs (l : List Rec) (S O c B : Nat) (X : Option Addr) (w : World) (hl : l.length ≤ 1000) (hS : Blk w S #[.slice X l.length c] 53) (hO : Blk w O #[.slice none 0 0] 55)
    (hSO : S ≠ O) (hs : Sl w B 2 X l.length (rcells l)) (hB : B ≤ w.heap.size) (hBO : B ≤ O) :
    Calls Try.prog 41 #[.func (.func 35) #[] #[(.pointer (some ⟨O, 0, none⟩))], (.pointer (some ⟨S, 0, none⟩))] w fun e w' => e = .returned (.tuple #[]) ∧ ∃ v, Blk w' O #[v] 55 ∧ w'.ownsRow w.heap.size 3 1 v l.length ((l.map (·.1)).map enJ) ∧ Chg [O] w w' := by
  have r1 := hS.cell
  have lO := hO.lt
  go_enter Try.func41, Try.ntmps41
  go_wp2_with fail
  go_loopw [7] (fun i wr => ∃ (k : Nat) (v : Value), k ≤ l.length ∧ i = .int .i64 k ∧ Blk wr O #[v] 55 ∧ wr.ownsRow w.heap.size 3 1 v k (((l.take k).map (·.1)).map enJ) ∧ Chg [O] w wr) (fun i _ => l.length - (intOf i).toNat)
  case atStart => exact ⟨0, _, by omega, rfl, hO, own_nil _ _ _ _, Chg.refl _ _⟩
  case round =>
    clear hO r1
    obtain ⟨k, v, hk, rfl, hO, hown, hC⟩ := hrel
    by_cases hlt : k < l.length
    · have hs2 := hs.chg hC hB (by simp; omega)
      obtain ⟨b, off, rfl, hb, c0, c1⟩ := hs2.rec hlt
      have HE := hide (objL_snoc l k hlt)
      have lO2 := hO.lt
      have hX := Ext.alloc wr (Obj.cells #[.int .i64 (l[k]).1, .int .u64 (l[k]).2] 38)
      have hcall := objectsF_any O k v ((l.take k).map (·.1)) (l[k]).1 (l[k]).2 w _ (by omega) (by simp; omega) lO (hC.trans (hX.chg _)) (hO.ext hX) (own_ext hown hX)
      clear hO hown hX
      go_wp2_with fail
      refine hcall.mono ?_
      rintro e w2 ⟨rfl, v2, hO2, hown2, hC2⟩
      clear hcall
      rw [← HE.out] at hown2
      go_wp2_with fail
      go_roundw
      case rel => exact ⟨k + 1, v2, by omega, by go_num, hO2, hown2, hC2⟩
      case measure => simp [intOf]; omega
    · obtain rfl : k = l.length := by omega
      rw [List.take_length] at hown
      go_wp2_with fail
      go_end0
      exact ⟨rfl, v, hO, hown, hC⟩
theorem put_chg {α : Type} [Inhabited α] (enc : α → Value) (w : World) (blk off m : Nat) (dk : Array α) (os : Array Obj) : Chg [blk] w (Sort.grow (Sort.putRow enc (Sort.ahead w m) blk off dk) os) := by
  refine ⟨rfl, rfl, rfl, ?_, fun k hk hT => ?_⟩
  · show w.heap.size ≤ ((w.heap.modify blk (Sort.onCells (Sort.putCells enc off dk))) ++ os).size
    simp
  · show ((w.heap.modify blk (Sort.onCells (Sort.putCells enc off dk))) ++ os)[k]? = w.heap[k]?
    rw [Array.getElem?_append_left (by simpa using hk), Array.getElem?_modify, if_neg (by rintro rfl; simp at hT)]
theorem own_put {w : World} {base g cap n k : Nat} {os : Array Obj} {cur : Array Value} {d : List Int} (hbase : base ≤ g) (hb : w.heap[g]? = some (.cells cur 3 (0, 0)))
    (h1 : d.length ≤ cap) (h2 : cap ≤ maxLen) (h3 : cur.size = cap * 1) (hk : k ≤ d.length) :
    (Sort.grow (Sort.putRow enJ (Sort.ahead w n) g 0 d.toArray) os).ownsRow base 3 1 (.slice (some ⟨g, 0, none⟩) k cap) k ((d.take k).map enJ) := by
  have hg : g < w.heap.size := (Array.getElem?_eq_some_iff.1 hb).1
  refine ⟨by simp; omega, .inr ⟨g, cap, Sort.putCells enJ 0 d.toArray cur, rfl, hbase, ?_, by omega, h2, by simp [Sort.putCells, h3], ?_⟩⟩
  · rw [Sort.heap_grow_old _ _ (by simpa [Sort.putRow, Sort.mapBlock, Sort.ahead] using hg)]
    simp [Sort.putRow, Sort.mapBlock, Sort.ahead, Array.getElem?_modify, hb, Sort.onCells]
  · rw [Nat.mul_one]
    apply List.ext_getElem?
    intro j
    by_cases hj : j < k
    · rw [List.getElem?_take_of_lt hj, Array.getElem?_toList, List.getElem?_map, List.getElem?_take_of_lt hj]
      have hjd : j < d.length := by omega
      simp [Sort.putCells, hjd, show j < cur.size by omega]
    · rw [List.getElem?_take_eq_none (by omega), List.getElem?_eq_none (by simp; omega)]
theorem holds_own {w : World} {g : Nat} {cur : Array Value} {ss : List Int} (hb : w.heap[g]? = some (.cells cur 3 (0, 0))) (ht : cur.toList.take ss.length = ss.map enJ) : Sort.Holds (Value.int .i64) w g 0 ss.toArray := by
  intro j hj
  have hj' : j < ss.length := by simpa using hj
  refine ⟨?_, by simp [World.frozen?, hb]⟩
  have h1 : (cur.toList.take ss.length)[j]? = (ss.map enJ)[j]? := by rw [ht]
  rw [List.getElem?_take_of_lt hj', List.getElem?_map, List.getElem?_eq_getElem hj'] at h1
  rw [Nat.zero_add, cell_of_row w g j cur 3 (0, 0) hb, ← Array.getElem?_toList, h1, getElem!_pos ss.toArray j hj]
  simp
theorem mapf_len (l : List Rec) : (l.map (·.1)).length = l.length := by simp
set_option maxRecDepth 100000 in
theorem objects_any {w : World} {p : Value} {N : Int} {l : List Rec} (h : Lst w p N l) (hl : l.length ≤ 1000) :
    Calls Try.prog 23 #[p] w fun e w' => ∃ v, e = .returned v ∧ w'.ownsRow w.heap.size 3 1 v (objL l).length ((objL l).map enJ) ∧ Ext w w' := by
  have hX := Ext.alloc w (.cells #[.slice none 0 0] 55)
  have bO := Blk.new w #[.slice none 0 0] 55
  have sz : (w.alloc (.cells #[.slice none 0 0] 55)).heap.size = w.heap.size + 1 := by simp
  go_enter Try.func23, Try.ntmps23
  go_wp2_with fail
  generalize w.alloc (.cells #[.slice none 0 0] 55) = W0 at *
  refine (all_any2 h hX).mono ?_
  rintro e w1 ⟨A, c, rfl, hs, rfl⟩
  go_wp2_with fail
  refine (sval_any _ _ _ _).mono ?_
  rintro e w1 ⟨S, rfl, hS, hS2, hx⟩
  have sz1 := hx.size
  have hcall := valF_objs l S w.heap.size c w.heap.size A w1 hl hS (bO.ext hx) (by omega) (hs.ext hx (by omega)) (by omega) (by omega)
  clear hs bO hS
  go_wp2_with fail
  refine hcall.mono ?_
  rintro e w2 ⟨rfl, v, hO, hown, hC⟩
  clear hcall
  have HX := hide ((hX.trans hx).turn hC (by simp))
  clear hC
  have hb2 := hown.2
  rcases hb2 with ⟨rfl, hn0⟩ | ⟨g, cap, cur, rfl, hbase, hb, h1, h2, h3, h4⟩
  · obtain rfl : l = [] := List.eq_nil_of_length_eq_zero hn0
    have r := hO.cell
    have hcon := Proofs.AnyG.slices_Sort_int_none { sortL with } none 0 w2
    have hcon2 := Proofs.AnyG.slices_Compact_int_empty { compL with } none 0 w2
    change Calls Try.prog 36 _ _ _ at hcon
    change Calls Try.prog 37 _ _ _ at hcon2
    clear hown
    go_wp2_with fail
    refine hcon.mono ?_
    rintro e w3 ⟨rfl, rfl⟩
    go_wp2_with fail
    refine hcon2.mono ?_
    rintro e w4 ⟨rfl, rfl⟩
    go_wp2_with fail
    go_ret
    rw [objL_nil]
    exact ⟨_, by simp, own_nil _ _ _ _, HX.out⟩
  · have r := hO.cell
    have hgl : g < w2.heap.size := (Array.getElem?_eq_some_iff.1 hb).1
    have hcon := Proofs.AnyG.slices_Sort_int sortL g 0 cap (l.map (·.1)) w2 (holds_own hb (by rw [mapf_len]; simpa using h4)) hgl (by rw [mapf_len]; omega)
    change Calls Try.prog 36 _ _ _ at hcon
    rw [mapf_len] at hcon
    have e0 := HX.out.size
    have hgO : w.heap.size ∉ [g] := by simp; omega
    have HB := hide hb
    have HM := hide hbase
    have HOb := hide hO
    clear hown hb h4 hO
    go_wp2_with fail
    refine hcon.mono ?_
    rintro e w3 ⟨rfl, nn, os, hw3⟩
    have hch : Chg [g] w2 w3 := by rw [hw3]; exact put_chg enJ w2 g 0 nn _ os
    have hlen : ((l.map (·.1)).mergeSort fun x y => decide (x ≤ y)).length = l.length := by simp
    have hown3 : w3.ownsRow w.heap.size 3 1 (.slice (some ⟨g, 0, none⟩) l.length cap) l.length (((l.map (·.1)).mergeSort fun x y => decide (x ≤ y)).map enJ) := by
      have q := own_put (base := w.heap.size) (n := nn) (os := os) (d := (l.map (·.1)).mergeSort fun x y => decide (x ≤ y)) (k := l.length) (by have := HM.out; omega) HB.out (by rw [hlen]; exact h1) h2 h3 (by rw [hlen]; exact Nat.le_refl _)
      rw [List.take_of_length_le (by rw [hlen]; exact Nat.le_refl _), ← hw3] at q
      exact q
    clear hw3 hcon
    have r3 := (HOb.out.chg hch hgO).cell
    have HX3 := hide (HX.out.turn hch (by have := HM.out; simp; omega))
    obtain ⟨_, _, cur3, hv3, hbase3, hb3, _, _, h33, h34⟩ := hown3.2.resolve_left (by simp)
    simp only [Value.slice.injEq, Option.some.injEq, Addr.mk.injEq, and_true, true_and] at hv3
    obtain ⟨rfl, rfl⟩ := hv3
    have hcon2 := Proofs.AnyG.slices_Compact_int compL g 0 cap ((l.map (·.1)).mergeSort fun x y => decide (x ≤ y)) w3 (holds_own hb3 (by rw [hlen]; simpa using h34)) (by omega) (by omega)
    change Calls Try.prog 37 _ _ _ at hcon2
    rw [hlen] at hcon2
    rw [show Lib.compact ((l.map (·.1)).mergeSort fun x y => decide (x ≤ y)) = objL l from rfl] at hcon2
    have HB3 := hide hb3
    have HM3 := hide hbase3
    clear hown3 hch hb3 h34 r hbase3
    go_wp2_with fail
    refine hcon2.mono ?_
    rintro e w4 ⟨rfl, q, hq4⟩
    have ol := objL_len l
    have hw4 : w4 = Sort.grow (Sort.putRow (Value.int .i64) (Sort.ahead w3 q) g 0 (objL l ++ List.replicate (l.length - (objL l).length) 0).toArray) #[] := by rw [hq4, Sort.grow_empty]
    have hch : Chg [g] w3 w4 := by rw [hw4]; exact put_chg enJ w3 g 0 q _ #[]
    have hlen4 : (objL l ++ List.replicate (l.length - (objL l).length) 0).length = l.length := by simp; omega
    have hown4 : w4.ownsRow w.heap.size 3 1 (.slice (some ⟨g, 0, none⟩) (objL l).length cap) (objL l).length ((objL l).map enJ) := by
      have t := own_put (base := w.heap.size) (n := q) (os := #[]) (d := objL l ++ List.replicate (l.length - (objL l).length) 0) (k := (objL l).length) HM3.out HB3.out (by rw [hlen4]; exact h1) h2 h33 (by rw [hlen4]; exact ol)
      rw [List.take_left, ← hw4] at t
      exact t
    have HO4 := hide hown4
    have HX4 := hide (HX3.out.turn hch (by have := HM.out; simp; omega))
    clear hown4 hch hw4 hq4 hlen4 hcon2
    go_wp2_with fail
    go_ret
    exact ⟨_, by simp, HO4.out, HX4.out⟩
end Go.Proofs.Ytppjpicfiflkcaa
