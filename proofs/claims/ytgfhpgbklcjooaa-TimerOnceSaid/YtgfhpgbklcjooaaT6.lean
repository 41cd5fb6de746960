/- Those that are due, collected and sorted: the walk. -/
import Derived.Test.YtgfhpgbklcjooaaT5
import Derived.Shelf.SlSortCmp.NoneTotal
namespace Go.Proofs.Ytgfhpgbklcjooaa
open Go.RowKit Go.Maps
set_option linter.unusedSimpArgs false
set_option linter.unusedVariables false

def enI (x : Nat) : Value := .int .i64 (x : Int)
theorem enT_of {x : Nat} (h : x < 256) : enT x = enI x := by unfold enT enI; rw [Nat.mod_eq_of_lt h]
theorem inf_int : (Try.prog.info? 3).map (fun i => (i.zero, i.size, i.bytes)) = some (some (.int .i64 0), 1, 8) := by kernel_rfl
/-- 'out = append(out, x)', where the row may lie among older blocks. -/
theorem wpList_app2 {P : Program} {w : World} {base : Nat} {ops : Array Oper} {rest : List Oper} {o : Oper} {a : Act} {Q : Exit → Act → World → Prop} {s x : Operand} {t : TypeId} (hgd : o.guard = none)
    (ho : o.op = .call { callee := .builtin .append, args := #[s, x], argTypes := #[t, t] })
    {e : TypeId} {z : Value} {size bytes : Nat} (ht : P.underlying t = some (.slice e)) (hinf : (P.info? e).map (fun i => (i.zero, i.size, i.bytes)) = some (some z, size, bytes))
    (hzs : z.cells.size = size) (hsz : 0 < size)
    {v : Value} {n : Nat} {xs : List Value} (hs : a.eval s = v) (hown : w.ownsRow base e size v n xs) (hbase : base ≤ w.heap.size)
    {cs : Array Value} {c g : Nat} (hx : a.eval x = .slice (some ⟨g, 0, none⟩) 1 c) (hg : g = w.heap.size) (hcs : cs.size = size) (h1 : ∀ u ∈ cs.toList, u.oneCell' = true)
    (hn : n + 1 ≤ maxLen) (hby : (n + 1) * bytes ≤ 140737488355328)
    (h : ∀ v' w', w'.ownsRow base e size v' (n + 1) (xs ++ cs.toList) → (w.alloc (.cells cs e)).grownBy w' v.ownBlock → wpList P ops Q rest (a.put o.dst v') w') :
    wpList P ops Q (o :: rest) a (w.alloc (.cells cs e)) := by
  subst hg
  obtain ⟨i, hi, hz, hsize, hb⟩ := info_parts hinf
  refine wpList_append_own _ hgd s x t ho base e i z size bytes ht hi hz hsize hb hzs hsz v n xs hs (own_ext hown (Ext.alloc _ _)) ⟨w.heap.size, 0, none⟩ 1 c cs.toList hx (by simp [hcs]) ?_ h1 hn hby (by simp; omega) ?_
  · intro j u hu
    have : (w.alloc (.cells cs e)).cell? ⟨w.heap.size, j, none⟩ = cs[j]? := cell_of_row _ _ j cs e (0, 0) (heap_alloc_new w _)
    rw [Array.getElem?_toList] at hu
    rw [← hu, ← this]
    unfold Addr.add
    by_cases hj : j = 0
    · rw [if_pos hj, hj]
    · rw [if_neg hj, Nat.zero_add]
  · intro v' w' h2 hg _
    exact h v' w' h2 hg
theorem Chg.of_row {T : List Nat} {w0 w w' : World} {row : Option Nat} (h : Chg T w0 w) (hg : w.grownBy w' row) (hr : ∀ k, row = some k → w0.heap.size ≤ k) : Chg T w0 w' :=
  ⟨hg.os.trans h.os, hg.tape.trans h.tape, hg.output.trans h.output, Nat.le_trans h.size hg.size, fun k hk hT => (hg.block k (Nat.lt_of_lt_of_le hk h.size) (fun e => by have := hr k e.symm; omega)).trans (h.block k hk hT)⟩

theorem enT_one : Proofs.OneCell enT := fun _ => rfl
theorem map_enT {ss : List Nat} (h : ∀ x ∈ ss, x < 256) : ss.map enT = ss.map enI := List.map_congr_left fun x hx => enT_of (h x hx)
theorem holds_row {w : World} {g : Nat} {cur : Array Value} {ss : List Nat} (h : ∀ x ∈ ss, x < 256) (hb : w.heap[g]? = some (.cells cur 3 (0, 0))) (ht : cur.toList.take ss.length = ss.map enI) : Sort.Holds enT w g 0 ss.toArray := by
  intro j hj
  have hj' : j < ss.length := by simpa using hj
  refine ⟨?_, by simp [World.frozen?, hb]⟩
  have h1 : (cur.toList.take ss.length)[j]? = (ss.map enI)[j]? := by rw [ht]
  rw [List.getElem?_take_of_lt hj'] at h1
  rw [Nat.zero_add, cell_of_row w g j cur 3 (0, 0) hb, ← Array.getElem?_toList, h1, List.getElem?_map, List.getElem?_eq_getElem hj', getElem!_pos ss.toArray j hj]
  simp only [Option.map_some, List.getElem_toArray]
  rw [enT_of (h _ (List.getElem_mem hj'))]
theorem own_sorted {w : World} {base g cap n : Nat} {os : Array Obj} {cur : Array Value} {d : Array Nat} {k : Nat} (hl : d.size = k) (h : ∀ x ∈ d.toList, x < 256) (hbase : base ≤ g) (hb : w.heap[g]? = some (.cells cur 3 (0, 0)))
    (h1 : k ≤ cap) (h2 : cap ≤ maxLen) (h3 : cur.size = cap * 1) :
    (Proofs.sortWorld enT w g 0 n d os).ownsRow base 3 1 (.slice (some ⟨g, 0, none⟩) k cap) k (d.toList.map enI) := by
  subst hl
  have hg : g < w.heap.size := (Array.getElem?_eq_some_iff.1 hb).1
  refine ⟨by simp, .inr ⟨g, cap, Sort.putCells enT 0 d cur, rfl, hbase, ?_, h1, h2, by simp [Sort.putCells, h3], ?_⟩⟩
  · unfold Proofs.sortWorld
    rw [Sort.heap_grow_old _ _ (by simpa [Sort.putRow, Sort.mapBlock, Sort.ahead] using hg)]
    simp [Sort.putRow, Sort.mapBlock, Sort.ahead, Array.getElem?_modify, hb, Sort.onCells]
  · rw [Nat.mul_one, ← map_enT h]
    apply List.ext_getElem?
    intro j
    by_cases hj : j < d.size
    · rw [List.getElem?_take_of_lt hj, Array.getElem?_toList]
      simp [Sort.putCells, hj, show j < cur.size by omega]
    · rw [List.getElem?_take_eq_none (by omega), List.getElem?_eq_none (by simp; omega)]
theorem egF : ∀ args w, (callFunc 28 args).run Try.prog w = .ok (.enter 28 args) w := Proofs.enters_of Try.func28 (by kernel_rfl) rfl

set_option maxRecDepth 100000 in
theorem due_any {w : World} {C m : Nat} {now : Int} {f : Al} (h : ClkT w C m now f) :
    Calls Try.prog 26 #[.pointer (some ⟨C, 0, none⟩)] w fun e w' => ∃ v l, e = .returned v ∧ DueL f now l ∧ w'.ownsRow w.heap.size 3 1 v l.length (l.map enI) ∧ Ext w w' := by
  have H0 := hide h
  have hA := fun o => (h.ext (Ext.alloc w o)).c.cell
  have hne := h.ne
  have hCl := h.c.lt
  obtain ⟨D, hown, rep⟩ := h.mp
  have hml := hown.lt
  have hownA := fun o => hown.alloc o
  have HB := hide (Blk.new w #[.pointer (some ⟨C, 0, none⟩)] 23)
  have SZ := hide (show size D ≤ 256 by rw [rep.size]; exact cnt_le f)
  go_enter Try.func26, Try.ntmps26
  go_wp2_with (first
    | (at_range; refine wpList_range_own _ rfl _ 45 rfl 3 2 kI Try.underlying45 (plainElem (H := Unit) Try.prog 2) m 256 D rfl (hownA _) ?_; intro w0 hrg0 hg0 hs0)
    | go_in)
  go_frame
  have e1 : (w.alloc (Obj.cells #[.pointer (some ⟨C, 0, none⟩)] 23)).heap.size = w.heap.size + 1 := by simp
  rw [e1] at hs0 hrg0 ⊢
  have hx0 : Ext (w.alloc (Obj.cells #[.pointer (some ⟨C, 0, none⟩)] 23)) w0 := Ext.grown (Ext.refl _) hg0 (by intro k hk; cases hk)
  have HK := hide (H0.out.ext ((Ext.alloc _ _).trans hx0))
  have HB := hide (HB.out.ext hx0)
  have HX := hide ((Ext.alloc w (Obj.cells #[.pointer (some ⟨C, 0, none⟩)] 23)).trans hx0)
  have HS := hide hs0
  clear hA hownA e1 hx0 hs0 hg0
  obtain ⟨r, hr⟩ : ∃ r, r = w.heap.size + 1 := ⟨_, rfl⟩
  rw [← hr] at hrg0 ⊢
  have HR := hide hr
  clear hr
  go_loopw [3] (fun v wr => ∃ (left : Lit → Bool) (cnt : Nat) (ss : List Nat), wr.ranges Try.prog 3 (plainElem (H := Unit) Try.prog 2) m r 256 D left cnt ∧ Coll f now left ss ∧ ss.length + cnt ≤ size D ∧ wr.ownsRow w0.heap.size 3 1 v ss.length (ss.map enI) ∧ Chg [r] w0 wr) (fun _ wr => wr.rangeLeft m r)
  case atStart => exact ⟨_, _, [], hrg0, Coll.start H0.out.ok rep, by simp, own_nil _ _ _ _, Chg.refl _ _⟩
  case round =>
    clear hrg0
    obtain ⟨left, cnt, ss, hrg, hC, hcs, hrow, hch⟩ := hrel
    go_wp2_with (first
      | (at_next; refine wpList_next_ranges_ii _ rfl _ rfl 3 2 .i64 .i64 kI Try.underlying3 Try.underlying2 m r 256 D left cnt rfl hrg ?_ ?_)
      | go_in)
    · intro hc0 hl0
      have hfin := hC.fin hl0
      have r1 := HR.out
      have hCr : C ∉ [r] := by simp; omega
      have hmr : m ∉ [r] := by simp; omega
      have hBr : w.heap.size ∉ [r] := by simp; omega
      have hk := HK.out.chg hch hCr hmr
      have hbB := HB.out.chg hch hBr
      have hX := HX.out.turn hch (by simp; omega)
      rcases hrow.2 with ⟨rfl, hn0⟩ | ⟨g, cap, cur, rfl, hbase, hb, h1, h2, h3, h4⟩
      · obtain rfl : ss = [] := List.eq_nil_of_length_eq_zero hn0
        have hcon := Proofs.AnyF.slices_SortFunc_none { sortL with } none 0 (.func (.func 28) #[] #[.pointer (some ⟨w.heap.size, 0, none⟩)]) wr
        change Calls Try.prog 27 _ _ _ at hcon
        clear hrg hrow hch hk hbB r1
        go_wp2_with (go_at_call 27; refine hcon.mono ?_; rintro e w' ⟨rfl, rfl⟩)
        go_ret
        exact ⟨_, [], rfl, ⟨hfin, List.Pairwise.nil⟩, own_nil _ _ _ _, hX⟩
      · have hb0 := HS.out
        have hgw : w.heap.size ∉ [g] := by simp; omega
        have hgC : C ∉ [g] := by simp; omega
        have hgm : m ∉ [g] := by simp; omega
        have lt : ∀ x ∈ ss, x < 256 := fun x hx => by
          rcases Nat.lt_or_ge x 256 with q | q
          · exact q
          · exact absurd (H0.out.ok.th x q) ((hfin x).1 hx).1
        have hcmp : Proofs.CmpLays1 Try.prog 28 #[.pointer (some ⟨w.heap.size, 0, none⟩)] enT (cfA f) g 0 ss.toArray.size wr := by
          intro mm os dk _ x y
          have sc := sort_chg enT wr g 0 mm dk os
          refine (duef_any x y (hk.chg sc hgC hgm) ((hbB.chg sc hgw).cell 0)).mono fun e w' ⟨he, o, hw⟩ => ⟨he, 1, #[o], ?_⟩
          rw [hw, Sort.alloc_eq_grow]; rfl
        have hgl : g < wr.heap.size := (Array.getElem?_eq_some_iff.1 hb).1
        have s1 := SZ.out
        have hcon := Proofs.Any.slices_SortFunc sortL enT enT_one (cfA f) (swoA f) 28 #[.pointer (some ⟨w.heap.size, 0, none⟩)] g 0 cap ss.toArray wr egF hcmp (holds_row lt hb (by simpa using h4)) hgl (by simp; omega)
        change Calls Try.prog 27 _ _ _ at hcon
        rw [List.size_toArray] at hcon
        have HN := hide hC.nd
        have HF := hide hfin
        have HB0 := hide hb
        clear hrg hrow hch hk hbB r1 hb hcmp hC hfin hb0
        go_wp2_with (go_at_call 27; refine hcon.mono ?_; rintro e w' ⟨rfl, d', nn, os, hp, hs, rfl⟩)
        go_ret
        have eS : ss.toArray.size = ss.length := by simp
        rw [← eS] at hp hs
        have hd := due_sorted H0.out.ok HN.out HF.out hp hs
        have hl : d'.size = ss.length := by have := hp.1; simpa using this
        have hl2 : d'.toList.length = ss.length := by simpa using hl
        have hb0 := HS.out
        refine ⟨_, d'.toList, rfl, hd, ?_, hX.turn (sort_chg enT wr g 0 nn d' os) (by simp; omega)⟩
        rw [hl2]
        exact own_low (own_sorted hl (hd.lt H0.out.ok) hbase HB0.out h1 h2 h3) (by omega)
    · intro x c w2 cnt2 hwx hwc hlx hat hrg2 hlt hg2 hs2 hen
      have hch2 := hch.trans (Chg.of_grown hg2 (T := [r]) (by simp))
      have r1 := HR.out
      have hCr : C ∉ [r] := by simp; omega
      have hmr : m ∉ [r] := by simp; omega
      have hBr : w.heap.size ∉ [r] := by simp; omega
      have rC := (HK.out.chg hch2 hCr hmr).c.cell
      have rB := (HB.out.chg hch2 hBr).cell
      have hne0 : ix f x ≠ 0 := by
        have hh : Maps.has D (ky x) = true := Maps.has_true_of_atKey hat
        rw [rep.has x hwx] at hh
        simpa using hh
      have hc : c = ix f x := by
        have q := (rep.val x hwx hne0 .nil).symm.trans (hat .nil)
        simp only [DataW.lit.injEq, Lit.int.injEq, true_and] at q
        exact q.symm
      obtain ⟨t, rfl⟩ : ∃ t : Nat, x = (t : Int) := by
        rcases Int.lt_or_le x 0 with q | q
        · exact absurd (ix_neg f q) hne0
        · exact ⟨x.toNat, by omega⟩
      rw [ix_nat] at hne0 hc
      subst hc
      have hrow2 := own_chg hrow (Chg.of_grown hg2 (T := [r]) (by simp)) (by have := HS.out; simp; omega)
      have HL := hide hlx
      have HC := hide hC
      have HG := hide hrg
      have HR2 := hide hrg2
      have HW := hide hrow2
      have s0 := HS.out
      have s1 := SZ.out
      have hbw : w0.heap.size ≤ w2.heap.size := hch2.size
      have HSz := hide hs2
      have HE := hide hne0
      clear hs2 hg2 hat hrg hrow hch hlx hC hwc hwx hown r1 s0
      by_cases hle : f t ≤ now
      · go_wp2_with (first
          | (at_builtin; refine wpList_app2 rfl rfl Try.underlying33 inf_int rfl (by omega) rfl hrow2 hbw rfl rfl rfl (by simp [Value.oneCell']) (by unfold maxLen; omega) (by omega) ?_; intro v' w3 hown' hg3; go_frame)
          | go_in)
        have row := own_row HW.out
        have s0 := HS.out
        have r1 := HR.out
        have hrg3 := (HR2.out.alloc (.cells #[.int .i64 (t : Int)] 3)).kept hg3 (fun e => by have := row m e.symm; omega) (fun e => by have := row r e.symm; omega)
        clear hrg2
        go_roundw
        case rel => exact ⟨_, cnt2, ss ++ [t], hrg3, HC.out.took HL.out HE.out hle, by simp; omega, by simpa [enI] using hown', (hch2.trans (Chg.alloc _ _ _)).of_row hg3 row⟩
        case measure => rw [hrg3.left_eq, HG.out.left_eq]; exact hlt
      · go_wp2_with fail
        go_roundw
        case rel => exact ⟨_, cnt2, ss, HR2.out, HC.out.left hle, by omega, HW.out, hch2⟩
        case measure => rw [HR2.out.left_eq, HG.out.left_eq]; exact hlt
end Go.Proofs.Ytgfhpgbklcjooaa
