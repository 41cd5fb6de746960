/- Whether a script may be: the program's answer. -/
import Derived.Test.YtlgomkocalieeaaGreatDoorNB
import Derived.Test.YtlgomkocalieeaaGreatDoorO7
namespace Go.Proofs.YtlgomkocalieeaaGreatDoor
open Go.RowKit
set_option linter.unusedSimpArgs false
set_option linter.unusedVariables false
set_option maxRecDepth 100000
set_option maxHeartbeats 4000000

def noB (l : List Op3) : Bool := decide (packE l ≠ 0)
def notT (t : Int) (y : Tr) : Bool := !isT t y
def mayS (x : Cf) (ps : List (List Op3)) (ts : List Tr) : Int :=
  if newE x ps ≠ 0 then newE x ps else if ps.any noB = true then 1 else if 4096 < ts.length then 5 else if ts.any (notT x.t) = true then 1 else 0
theorem hasNo_any {w : World} {A : Option Addr} {l : List Op3} (c : Nat) (h : Ch w A l) : Calls Tryz.prog 25 #[.slice A l.length c] w fun e w' => e = .returned (.bool (noB l)) ∧ Ext w w' := by
  by_cases hw : wrongO l = 0
  · have hp := pack_ok c h hw
    cases hf : fits l with
    | true =>
      have E : noB l = false := by simp [noB, packE, hw, hf]
      rw [E]
      clear E
      go_enter Tryz.func25, Tryz.ntmps25
      go_wp2_with fail
      refine hp.mono ?_
      rintro e w' ⟨hr, hx⟩
      unfold PackR at hr
      rcases hr with ⟨_, A', c', rfl, _⟩ | ⟨h0, _⟩
      · go_wp2_with fail
        go_ret
        exact ⟨by simp, hx⟩
      · rw [hf] at h0; cases h0
    | false =>
      have E : noB l = true := by simp [noB, packE, hw, hf]
      rw [E]
      clear E
      go_enter Tryz.func25, Tryz.ntmps25
      go_wp2_with fail
      refine hp.mono ?_
      rintro e w' ⟨hr, hx⟩
      unfold PackR at hr
      rcases hr with ⟨h0, _⟩ | ⟨_, rfl⟩
      · rw [hf] at h0; cases h0
      · go_wp2_with fail
        go_ret
        exact ⟨by simp, hx⟩
  · have hp := pack_no c h hw
    have E : noB l = true := by simp [noB, packE, hw]
    rw [E]
    have hne : ¬ wrongO l = 0 := hw
    generalize wrongO l = q at *
    go_enter Tryz.func25, Tryz.ntmps25
    go_wp2_with fail
    refine hp.mono ?_
    rintro e w' ⟨rfl, hx⟩
    go_wp2_with fail
    go_ret
    exact ⟨by simp; exact hne, hx⟩
theorem isNone_any (x : Cf) (y : Tr) (S : Nat) (w : World) (h0 : w.cell? ⟨S, 0, none⟩ = some (.int .i64 x.t)) :
    Calls Tryz.prog 22 #[.agg #[.int .i64 y.1, .int .i64 y.2], .pointer (some ⟨S, 0, none⟩)] w fun e w' => e = .returned (.bool (notT x.t y)) ∧ Ext w w' := by
  obtain ⟨k, n⟩ := y
  have hb := World.block_lt_of_cell? w _ h0
  have q0 := ((Ext.alloc w (.cells #[.int .i64 k, .int .i64 n] 55)).oldCell _ _ hb).trans h0
  go_enter Tryz.func22, Tryz.ntmps22
  go_wp2_with (go_at_call 23; refine (isTurn_any (k, n) _ _).mono ?_; rintro e w' ⟨rfl, hb⟩)
  go_ret
  exact ⟨by simp [notT], (Ext.alloc _ _).trans hb⟩
/-- A script that is read. -/
structure Scr (w : World) (A B : Option Addr) (ps : List (List Op3)) (ts : List Tr) : Prop where
  p : Pr w A ps
  t : Tn w B ts
  pl : ps.length ≤ 9223372036854775807
  tl : ts.length ≤ 9223372036854775807
theorem Scr.ext {w w' : World} {A B : Option Addr} {ps : List (List Op3)} {ts : List Tr} (h : Scr w A B ps ts) (x : Ext w w') : Scr w' A B ps ts := ⟨h.p.ext x, h.t.ext x, h.pl, h.tl⟩
theorem smay_any {w : World} {A B : Option Addr} {ps : List (List Op3)} {ts : List Tr} (c d : Nat) (x : Cf) (hd0 : 0 ≤ x.d) (hd1 : x.d < 18446744073709551616) (h : Scr w A B ps ts) (hG : GlobW w) :
    Calls Tryz.prog 11 #[.agg #[.int .i64 x.t, .int .i64 x.o, .int .i64 x.c, .int .i64 x.s, .int .i64 x.p, .int .i64 x.n, .int .u8 x.b, .int .i64 x.r, .int .i64 x.v, .int .u64 x.d, .slice A ps.length c, .slice B ts.length d]] w fun e w' => e = .returned (.int .i64 (mayS x ps ts)) ∧ Ext w w' := by
  have H := hide h
  have hX0 := Ext.alloc w (.cells #[.int .i64 x.t, .int .i64 x.o, .int .i64 x.c, .int .i64 x.s, .int .i64 x.p, .int .i64 x.n, .int .u8 x.b, .int .i64 x.r, .int .i64 x.v, .int .u64 x.d, .slice A ps.length c, .slice B ts.length d] 37)
  have hb := Blk.new w #[.int .i64 x.t, .int .i64 x.o, .int .i64 x.c, .int .i64 x.s, .int .i64 x.p, .int .i64 x.n, .int .u8 x.b, .int .i64 x.r, .int .i64 x.v, .int .u64 x.d, .slice A ps.length c, .slice B ts.length d] 37
  have hnew := new_any c x hd0 hd1 (h.p.ext hX0) (hG.ext hX0)
  have hM : mayS x ps ts = if newE x ps ≠ 0 then newE x ps else if ps.any noB = true then 1 else if 4096 < ts.length then 5 else if ts.any (notT x.t) = true then 1 else 0 := rfl
  generalize newE x ps = er at *
  generalize mayS x ps ts = R at *
  have HM := hide hM
  clear hM h
  go_enter Tryz.func11, Tryz.ntmps11
  go_wp2_with fail
  refine hnew.mono ?_
  rintro e w1 ⟨p, rfl, hx1⟩
  have hb1 := hb.ext hx1
  have HX := hide (hX0.trans hx1)
  have q := hb1.cell
  clear hX0 hx1 hb hnew
  by_cases he : er = 0
  · subst he
    have E0 := hide (HM.out.trans (if_neg (show ¬ ((0 : Int) ≠ 0) from fun h => h rfl)))
    clear HM
    go_wp2_with fail
    have hcf : Calls Tryz.prog 24 #[.slice A ps.length c, .func (.func 25) #[] #[]] w1 (fun e w' => e = .returned (.bool (ps.any noB)) ∧ Ext w1 w') :=
      cfp_any 25 (fun _ _ => by kernel_rfl) none noB c H.out.pl (H.out.p.ext HX.out) (fun l hl w' hxx A' c' hl2 hch => hasNo_any c' hch)
    refine hcf.mono ?_
    rintro e w2 ⟨rfl, hx2⟩
    have hb2 := hb1.ext hx2
    have HX2 := hide (HX.out.trans hx2)
    clear hb1 q hx2 hcf
    have q := hb2.cell
    cases hno : ps.any noB with
    | true =>
      have E : R = 1 := by rw [E0.out, if_pos hno]
      subst E
      clear E0
      go_wp2_with fail
      go_ret
      exact ⟨by simp, HX2.out⟩
    | false =>
      have E1 := hide (E0.out.trans (if_neg (show ¬ (ps.any noB = true) by rw [hno]; simp)))
      clear E0
      by_cases h4 : 4096 < ts.length
      · have h4i : (4096 : Int) < (ts.length : Int) := by omega
        have E : R = 5 := E1.out.trans (if_pos h4)
        subst E
        clear E1
        go_wp2_with fail
        go_ret
        exact ⟨by simp, HX2.out⟩
      · have h4i : ¬ (4096 : Int) < (ts.length : Int) := by omega
        have E2 := hide (E1.out.trans (if_neg h4))
        clear E1
        have hct : Calls Tryz.prog 26 #[.slice B ts.length d, .func (.func 22) #[] #[.pointer (some ⟨w.heap.size, 0, none⟩)]] w2 (fun e w' => e = .returned (.bool (ts.any (notT x.t))) ∧ Ext w2 w') :=
          cft_any 22 (fun _ _ => by kernel_rfl) _ (notT x.t) d H.out.tl (H.out.t.ext HX2.out) (fun y hy w' hxx => isNone_any x y w.heap.size w' ((hb2.ext hxx).cell 0))
        cases hn : ts.any (notT x.t) with
        | true =>
          rw [hn] at hct
          have E : R = 1 := E2.out.trans (if_pos hn)
          subst E
          clear E2
          go_wp2_with fail
          refine hct.mono ?_
          rintro e w3 ⟨rfl, hx3⟩
          go_wp2_with fail
          go_ret
          exact ⟨by simp, HX2.out.trans hx3⟩
        | false =>
          rw [hn] at hct
          have E : R = 0 := E2.out.trans (if_neg (by rw [hn]; simp))
          subst E
          clear E2
          go_wp2_with fail
          refine hct.mono ?_
          rintro e w3 ⟨rfl, hx3⟩
          go_wp2_with fail
          go_ret
          exact ⟨by simp, HX2.out.trans hx3⟩
  · have E : R = er := by rw [HM.out, if_pos he]
    subst E
    clear HM
    go_wp2_with fail
    go_ret
    exact ⟨by simp, HX.out⟩
end Go.Proofs.YtlgomkocalieeaaGreatDoor

namespace Go.Proofs.YtlgomkocalieeaaGreatDoor
open Go.RowKit
set_option linter.unusedSimpArgs false
set_option linter.unusedVariables false
set_option maxRecDepth 100000
set_option maxHeartbeats 4000000

def cfN (x : Cf) (j : Nat) : Int := if j = 0 then x.t else if j = 1 then x.o else if j = 2 then x.c else if j = 3 then x.s else if j = 4 then x.p else if j = 5 then x.n else if j = 6 then x.b else if j = 7 then x.r else x.v
def u8 (n : Int) : UInt8 := UInt8.ofNat n.toNat
def sB (d : Int) (j : Nat) : Int := d / 2 ^ (8 * j) % 256
def nB (x : Cf) : List UInt8 := (List.range 9).map fun j => u8 (cfN x j)
def dB (x : Cf) : List UInt8 := (List.range 8).map fun j => u8 (sB x.d j)
theorem u8_val {n : Int} (h0 : 0 ≤ n) (h1 : n < 256) : ((u8 n).toNat : Int) = n := by
  unfold u8
  rw [UInt8.toNat_ofNat']
  have : n.toNat % 2 ^ 8 = n.toNat := Nat.mod_eq_of_lt (by omega)
  rw [this]; omega
theorem bcells_u8 {n : Int} (h0 : 0 ≤ n) (h1 : n < 256) : bcells [u8 n] = [.int .u8 n] := by simp only [bcells, List.map_cons, List.map_nil, u8_val h0 h1]
theorem range_take_succ {α : Type} (f : Nat → α) (n j : Nat) : (List.range (j + 1)).map f = (List.range j).map f ++ [f j] := by rw [List.range_succ, List.map_append]; rfl
theorem ix9_0 (x : Cf) (w : World) : (Instr.index 78 (.agg #[.int .i64 x.t, .int .i64 x.o, .int .i64 x.c, .int .i64 x.s, .int .i64 x.p, .int .i64 x.n, .int .i64 x.b, .int .i64 x.r, .int .i64 x.v]) (.int .i64 0)).run Tryz.prog w = .ok (.int .i64 (cfN x 0)) w := by kernel_rfl
theorem ix9_1 (x : Cf) (w : World) : (Instr.index 78 (.agg #[.int .i64 x.t, .int .i64 x.o, .int .i64 x.c, .int .i64 x.s, .int .i64 x.p, .int .i64 x.n, .int .i64 x.b, .int .i64 x.r, .int .i64 x.v]) (.int .i64 1)).run Tryz.prog w = .ok (.int .i64 (cfN x 1)) w := by kernel_rfl
theorem ix9_2 (x : Cf) (w : World) : (Instr.index 78 (.agg #[.int .i64 x.t, .int .i64 x.o, .int .i64 x.c, .int .i64 x.s, .int .i64 x.p, .int .i64 x.n, .int .i64 x.b, .int .i64 x.r, .int .i64 x.v]) (.int .i64 2)).run Tryz.prog w = .ok (.int .i64 (cfN x 2)) w := by kernel_rfl
theorem ix9_3 (x : Cf) (w : World) : (Instr.index 78 (.agg #[.int .i64 x.t, .int .i64 x.o, .int .i64 x.c, .int .i64 x.s, .int .i64 x.p, .int .i64 x.n, .int .i64 x.b, .int .i64 x.r, .int .i64 x.v]) (.int .i64 3)).run Tryz.prog w = .ok (.int .i64 (cfN x 3)) w := by kernel_rfl
theorem ix9_4 (x : Cf) (w : World) : (Instr.index 78 (.agg #[.int .i64 x.t, .int .i64 x.o, .int .i64 x.c, .int .i64 x.s, .int .i64 x.p, .int .i64 x.n, .int .i64 x.b, .int .i64 x.r, .int .i64 x.v]) (.int .i64 4)).run Tryz.prog w = .ok (.int .i64 (cfN x 4)) w := by kernel_rfl
theorem ix9_5 (x : Cf) (w : World) : (Instr.index 78 (.agg #[.int .i64 x.t, .int .i64 x.o, .int .i64 x.c, .int .i64 x.s, .int .i64 x.p, .int .i64 x.n, .int .i64 x.b, .int .i64 x.r, .int .i64 x.v]) (.int .i64 5)).run Tryz.prog w = .ok (.int .i64 (cfN x 5)) w := by kernel_rfl
theorem ix9_6 (x : Cf) (w : World) : (Instr.index 78 (.agg #[.int .i64 x.t, .int .i64 x.o, .int .i64 x.c, .int .i64 x.s, .int .i64 x.p, .int .i64 x.n, .int .i64 x.b, .int .i64 x.r, .int .i64 x.v]) (.int .i64 6)).run Tryz.prog w = .ok (.int .i64 (cfN x 6)) w := by kernel_rfl
theorem ix9_7 (x : Cf) (w : World) : (Instr.index 78 (.agg #[.int .i64 x.t, .int .i64 x.o, .int .i64 x.c, .int .i64 x.s, .int .i64 x.p, .int .i64 x.n, .int .i64 x.b, .int .i64 x.r, .int .i64 x.v]) (.int .i64 7)).run Tryz.prog w = .ok (.int .i64 (cfN x 7)) w := by kernel_rfl
theorem ix9_8 (x : Cf) (w : World) : (Instr.index 78 (.agg #[.int .i64 x.t, .int .i64 x.o, .int .i64 x.c, .int .i64 x.s, .int .i64 x.p, .int .i64 x.n, .int .i64 x.b, .int .i64 x.r, .int .i64 x.v]) (.int .i64 8)).run Tryz.prog w = .ok (.int .i64 (cfN x 8)) w := by kernel_rfl
theorem ix9 (x : Cf) (j : Nat) (hj : j < 9) (w : World) : (Instr.index 78 (.agg #[.int .i64 x.t, .int .i64 x.o, .int .i64 x.c, .int .i64 x.s, .int .i64 x.p, .int .i64 x.n, .int .i64 x.b, .int .i64 x.r, .int .i64 x.v]) (.int .i64 (j : Int))).run Tryz.prog w = .ok (.int .i64 (cfN x j)) w := by
  match j, hj with
  | 0, _ => exact ix9_0 x w
  | 1, _ => exact ix9_1 x w
  | 2, _ => exact ix9_2 x w
  | 3, _ => exact ix9_3 x w
  | 4, _ => exact ix9_4 x w
  | 5, _ => exact ix9_5 x w
  | 6, _ => exact ix9_6 x w
  | 7, _ => exact ix9_7 x w
  | 8, _ => exact ix9_8 x w
theorem cfN_bd {x : Cf} (h : mayC x = true) (hb0 : 0 ≤ x.b) (hb1 : x.b < 256) (j : Nat) : 0 ≤ cfN x j ∧ cfN x j < 256 := by
  have := may_n h
  unfold cfN
  repeat' split
  all_goals omega
/-- A row of bytes of one's own. -/
def RB (w : World) (B : Nat) (v : Value) (l : List UInt8) : Prop := w.ownsRow B 5 1 v l.length (bcells l)
theorem RB.of {w : World} {B n : Nat} {v : Value} {l : List UInt8} (h : w.ownsRow B 5 1 v n (bcells l)) : RB w B v l := by
  have e : n = l.length := by have := h.1; simp [bcells] at this; omega
  subst e
  exact h
/-- A row of bytes of one's own, and bytes behind it that have just been made. -/
theorem wpList_bapp {w : World} {B : Nat} {ops : Array Oper} {rest : List Oper} {o : Oper} {a : Act} {Q : Exit → Act → World → Prop} {s x : Operand} (m : Nat) (hgd : o.guard = none)
    (ho : o.op = .call { callee := .builtin .append, args := #[s, x], argTypes := #[31, 31] }) {v : Value} {n : Nat} {xs : List Value} (hs : a.eval s = v) (hown : w.ownsRow B 5 1 v n xs) (hB : B ≤ w.heap.size)
    {cs : Array Value} {c g : Nat} (hx : a.eval x = .slice (some ⟨g, 0, none⟩) m c) (hg : g = w.heap.size) (hcs : cs.size = m) (h1 : ∀ u ∈ cs.toList, u.oneCell' = true)
    (hn : n + m ≤ 200000)
    (h : ∀ v' w', w'.ownsRow B 5 1 v' (n + m) (xs ++ cs.toList) → Kp [5] B w w' → (∀ g, g < w.heap.size → v.ownBlock ≠ some g → w'.heap[g]? = w.heap[g]?) → wpList Tryz.prog ops Q rest (a.put o.dst v') w') :
    wpList Tryz.prog ops Q (o :: rest) a (w.alloc (.cells cs 5)) := by
  subst hg
  obtain ⟨i, hi, hz, hsize, hb⟩ := info_parts inf_u8
  have ho2 := own_ext hown (Ext.alloc w (.cells cs 5))
  refine wpList_append_own _ hgd s x 31 ho B 5 i _ 1 1 Tryz.underlying31 hi hz hsize hb rfl (by omega) v n xs hs ho2 ⟨w.heap.size, 0, none⟩ m c cs.toList hx (by simp [hcs]) (news_new w cs 5) h1 (by unfold maxLen; omega) (by omega) (by simp; omega) ?_
  intro v' w' h2 hg _
  exact h v' w' h2 (((Ext.alloc w (.cells cs 5)).kp _ _).trans (Kp.of_grow hg ho2 (by simp))) (fun g hgl hne => (hg.block g (by simp; omega) (fun e => hne e.symm)).trans ((Ext.alloc w (.cells cs 5)).block g hgl))
theorem by_cells {w : World} {b : Addr} {l : List UInt8} (h : By w (some b) l) : ∀ j u, (bcells l)[j]? = some u → w.cell? (b.add j) = some u := by
  intro j u hu
  have hj : j < l.length := by have := (List.getElem?_eq_some_iff.1 hu).1; simpa [bcells] using this
  rcases h with h | ⟨g, off, ha, hb, hc⟩
  · omega
  · cases ha
    have e : (⟨g, off, none⟩ : Addr).add j = ⟨g, off + j, none⟩ := by
      unfold Addr.add
      split <;> simp_all
    rw [e, hc j hj, ← hu]
    simp [bcells, hj]
theorem bcells_one (l : List UInt8) : ∀ u ∈ bcells l, u.oneCell' = true := by
  intro u hu
  obtain ⟨x, _, rfl⟩ := List.mem_map.1 hu
  rfl
/-- .. and bytes that are read. -/
theorem wpList_bapp2 {w : World} {B : Nat} {ops : Array Oper} {rest : List Oper} {o : Oper} {a : Act} {Q : Exit → Act → World → Prop} {s x : Operand} (hgd : o.guard = none)
    (ho : o.op = .call { callee := .builtin .append, args := #[s, x], argTypes := #[31, 31] }) {v : Value} {n : Nat} {xs : List Value} (hs : a.eval s = v) (hown : w.ownsRow B 5 1 v n xs) (hB : B ≤ w.heap.size)
    {A : Option Addr} {l : List UInt8} {c : Nat} (hx : a.eval x = .slice A l.length c) (hl : By w A l) (hn : n + l.length ≤ 200000)
    (h : ∀ v' w', w'.ownsRow B 5 1 v' (n + l.length) (xs ++ bcells l) → Kp [5] B w w' → wpList Tryz.prog ops Q rest (a.put o.dst v') w') :
    wpList Tryz.prog ops Q (o :: rest) a w := by
  obtain ⟨i, hi, hz, hsize, hb⟩ := info_parts inf_u8
  rcases A with _ | b
  · have h0 : l = [] := by
      rcases hl with h | ⟨_, _, e, _⟩
      · exact List.eq_nil_of_length_eq_zero h
      · cases e
    subst h0
    have hrun : (Builtin.append_ #[31, 31] o.type #[v, .slice none 0 c]).run Tryz.prog w = .ok v w := by
      rcases hown.2 with ⟨rfl, rfl⟩ | ⟨g', cap, cur, rfl, _, _, hnc, _⟩
      · simp [Builtin.append_, run_underlying Tryz.underlying31, Builtin.lenOf, Builtin.firstCells]
      · simp [Builtin.append_, run_underlying Tryz.underlying31, Builtin.lenOf, Builtin.firstCells, hnc, storeCells]
    refine wpList_plain hgd fun K hK => ?_
    unfold Oper.wp execOp
    simp only [ho, resolve, invoke, builtin, Sem.run_bind, Sem.run_pure, Result.andThen_ok, List.map_toArray, List.map_cons, List.map_nil, hs, hx, List.length_nil, hrun]
    exact hK _ _ (h v w (by simpa [bcells] using hown) (Kp.refl _ _ _))
  · refine wpList_append_own _ hgd s x 31 ho B 5 i _ 1 1 Tryz.underlying31 hi hz hsize hb rfl (by omega) v n xs hs hown b l.length c (bcells l) hx (by simp [bcells]) (by_cells hl) (bcells_one l) (by unfold maxLen; omega) (by omega) hB ?_
    intro v' w' h2 hg _
    exact h v' w' h2 (Kp.of_grow hg hown (by simp))
theorem sB_bd {d : Int} (h : 0 ≤ d) {j : Nat} : 0 ≤ sB d j ∧ sB d j < 256 := by unfold sB; omega
theorem withConf_any {w : World} {B : Nat} {v0 : Value} {l : List UInt8} (x : Cf) (hm : mayC x = true) (hb0 : 0 ≤ x.b) (hb1 : x.b < 256) (hd0 : 0 ≤ x.d) (hd1 : x.d < 18446744073709551616) (hl : l.length ≤ 100000)
    (hrb : RB w B v0 l) (hB : B ≤ w.heap.size) :
    Calls Tryz.prog 17 #[v0, .agg #[.int .i64 x.t, .int .i64 x.o, .int .i64 x.c, .int .i64 x.s, .int .i64 x.p, .int .i64 x.n, .int .u8 x.b, .int .i64 x.r, .int .i64 x.v, .int .u64 x.d]] w fun e w' => ∃ v', e = .returned v' ∧ RB w' B v' (l ++ (nB x ++ dB x)) ∧ Kp [5] B w w' := by
  have hown : w.ownsRow B 5 1 v0 l.length (bcells l) := hrb
  have HB := hide (cfN_bd hm hb0 hb1)
  have HIX := hide (ix9 x)
  have hX0 := Ext.alloc w (.cells #[.int .i64 x.t, .int .i64 x.o, .int .i64 x.c, .int .i64 x.s, .int .i64 x.p, .int .i64 x.n, .int .u8 x.b, .int .i64 x.r, .int .i64 x.v, .int .u64 x.d] 24)
  have hb := Blk.new w #[.int .i64 x.t, .int .i64 x.o, .int .i64 x.c, .int .i64 x.s, .int .i64 x.p, .int .i64 x.n, .int .u8 x.b, .int .i64 x.r, .int .i64 x.v, .int .u64 x.d] 24
  have HO := hide (own_ext hown hX0)
  have HK := hide (hX0.kp [5] B)
  have HBK := hide hb
  have hBs : B ≤ (w.alloc (.cells #[.int .i64 x.t, .int .i64 x.o, .int .i64 x.c, .int .i64 x.s, .int .i64 x.p, .int .i64 x.n, .int .u8 x.b, .int .i64 x.r, .int .i64 x.v, .int .u64 x.d] 24)).heap.size := Nat.le_trans hB hX0.size
  obtain ⟨A0, c0, rfl⟩ := own_sl hown
  have hc := hb.cell
  clear hown hb hX0 hrb
  go_enter Tryz.func17, Tryz.ntmps17
  go_wp2_with fail
  clear hc
  generalize w.alloc (.cells #[.int .i64 x.t, .int .i64 x.o, .int .i64 x.c, .int .i64 x.s, .int .i64 x.p, .int .i64 x.n, .int .u8 x.b, .int .i64 x.r, .int .i64 x.v, .int .u64 x.d] 24) = w0 at *
  go_loopw [0, 28] (fun v i wr => ∃ j : Nat, j ≤ 9 ∧ i = .int .i64 (j : Int) ∧ wr.ownsRow B 5 1 v (l.length + j) (bcells (l ++ (List.range j).map (fun j => u8 (cfN x j)))) ∧ Kp [5] B w0 wr) (fun _ i _ => 9 - (intOf i).toNat)
  case atStart => exact ⟨0, by omega, rfl, by simpa using HO.out, Kp.refl _ _ _⟩
  case round =>
    obtain ⟨j, hj, rfl, hown, hk⟩ := hrel
    have hs := hk.size
    obtain ⟨A1, c1, rfl⟩ := own_sl hown
    have HO1 := hide hown
    have HK1 := hide hk
    clear hown hk
    by_cases hlt : j < 9
    · obtain ⟨y0, y1⟩ := HB.out j
      have hixj := HIX.out j hlt
      have HR := hide (range_take_succ (fun j => u8 (cfN x j)) 0 j)
      have HU := hide (bcells_u8 y0 y1)
      have hltI : (j : Int) < 9 := by omega
      generalize cfN x j = y at *
      have hmd : y % 256 = y := by omega
      go_wp2_with (at_builtin; refine wpList_bapp 1 rfl rfl rfl HO1.out (by omega) rfl rfl rfl (by simp [Value.oneCell']) (by omega) ?_; intro v' w2 hown' hk2 _; go_frame)
      go_roundw
      case rel => exact ⟨j + 1, by omega, by go_num, by rw [HR.out, ← List.append_assoc, bcells_app, HU.out]; simpa [Nat.add_assoc] using hown', HK1.out.trans hk2⟩
      case measure => simp [intOf]; omega
    · obtain rfl : j = 9 := by omega
      have hb9 := (HK1.out.blk HBK.out (by decide)).cell
      have e9 : (List.range 9).map (fun j => u8 (cfN x j)) = nB x := rfl
      rw [e9] at HO1
      go_wp2_with fail
      clear hb9
      go_loopw [0, 37] (fun v i wz => ∃ j : Nat, j ≤ 8 ∧ i = .int .i64 (j : Int) ∧ wz.ownsRow B 5 1 v (l.length + 9 + j) (bcells (l ++ nB x ++ (List.range j).map (fun j => u8 (sB x.d j)))) ∧ Kp [5] B w0 wz) (fun _ i _ => 8 - (intOf i).toNat)
      case atStart => exact ⟨0, by omega, rfl, by simpa using HO1.out, HK1.out⟩
      case round =>
        obtain ⟨j, hj, rfl, hown, hk⟩ := hrel
        have hs := hk.size
        obtain ⟨A2, c2, rfl⟩ := own_sl hown
        have HO2 := hide hown
        have HK2 := hide hk
        have hc9 := (hk.blk HBK.out (by decide)).cell 9
        clear hown hk
        by_cases hlt : j < 8
        · have hw8 : IntKind.i64.wrap (8 * (j : Int)) = 8 * (j : Int) := by rw [IntKind.wrap_i64]; omega
          have h80 : ¬ 8 * (j : Int) < 0 := by omega
          go_wp2_with (at_builtin; refine wpList_bapp 1 rfl rfl rfl HO2.out (by omega) rfl rfl rfl (by simp [Value.oneCell']) (by omega) ?_; intro v' w2 hown' hk2 _; go_frame)
          go_roundw
          case rel => exact ⟨j + 1, by omega, by go_num, by rw [range_take_succ _ 0 j, ← List.append_assoc, bcells_app, bcells_u8 (n := sB x.d j) (sB_bd hd0).1 (sB_bd hd0).2]; exact hown', HK2.out.trans hk2⟩
          case measure => simp [intOf]; omega
        · obtain rfl : j = 8 := by omega
          have e8 : (List.range 8).map (fun j => u8 (sB x.d j)) = dB x := rfl
          rw [e8] at HO2
          go_wp2_with fail
          go_ret
          exact ⟨_, rfl, RB.of (by rw [← List.append_assoc]; exact HO2.out), HK.out.trans HK2.out⟩
theorem By.far {w w' : World} {A : Option Addr} {l : List UInt8} (h : By w A l) (hs : w.heap.size ≤ w'.heap.size) (hh : ∀ b, A = some b → b.block < w.heap.size → w'.heap[b.block]? = w.heap[b.block]?) : By w' A l := by
  rcases h with h | ⟨b, off, rfl, h2, h3⟩
  · exact .inl h
  · exact .inr ⟨b, off, rfl, Nat.lt_of_lt_of_le h2 hs, fun j hj => (World.cell?_of_block (a := ⟨b, off + j, none⟩) (hh ⟨b, off, none⟩ rfl h2)).trans (h3 j hj)⟩
/-- .. of a program. -/
def pB (l : List Op3) : List UInt8 := u8 (3 * l.length : Nat) :: bytesO l
theorem withProg_any {w : World} {B : Nat} {v0 : Value} {l : List UInt8} {p : List Op3} {A : Option Addr} (c : Nat) (hp : Ch w A p) (hw : wrongO p = 0) (hf : fits p = true) (hl : l.length ≤ 100000)
    (hrb : RB w B v0 l) (hB : B ≤ w.heap.size) :
    Calls Tryz.prog 18 #[v0, .slice A p.length c] w fun e w' => ∃ v', e = .returned v' ∧ RB w' B v' (l ++ pB p) ∧ Kp [5] B w w' := by
  have hown : w.ownsRow B 5 1 v0 l.length (bcells l) := hrb
  have hk := pack_ok2 c hp hw
  have h64 := (wrong_out hw).1
  have hbl := bytesO_length p
  have HO := hide hown
  have hlt0 : ∀ k, v0.ownBlock = some k → k < w.heap.size := fun k hk => by obtain ⟨cs, hb⟩ := own_blk hown k hk; exact Blk.lt hb
  have HLT := hide hlt0
  obtain ⟨A0, c0, rfl⟩ := own_sl hown
  clear hown hlt0 hrb
  go_enter Tryz.func18, Tryz.ntmps18
  go_wp2_with fail
  refine hk.mono ?_
  rintro e w1 ⟨hr, hx⟩
  unfold PackR2 at hr
  rcases hr with ⟨_, A', c', rfl, hle, hmx, hby, hlo⟩ | ⟨h0, _⟩
  · have HX := hide hx
    have HBY := hide hby
    have HLO := hide hlo
    have hs := hx.size
    have HBL := hide hbl
    have hmd : ((bytesO p).length : Int) % 256 = ((bytesO p).length : Int) := by omega
    have HU := hide (bcells_u8 (n := ((bytesO p).length : Int)) (by omega) (by omega))
    clear hx hby hlo hk hbl
    go_wp2_with (at_builtin; (first
      | (refine wpList_bapp 1 rfl rfl rfl (own_ext HO.out HX.out) (by omega) rfl rfl rfl (by simp [Value.oneCell']) (by omega) ?_; intro v' w2 hown' hk2 hfar; have HO2 := hide hown'; have HK2 := hide hk2; have HB2 := hide (HBY.out.far hk2.size (fun b e hb => hfar _ hb (fun q => by have := HLO.out b e; have := HLT.out _ q; omega))); clear hown' hk2 hfar; go_frame)
      | (refine wpList_bapp2 (l := bytesO p) rfl rfl rfl HO2.out (by have := HK2.out.size; omega) rfl HB2.out (by omega) ?_; intro v3 w3 hown3 hk3; go_frame)))
    go_ret
    refine ⟨v3, rfl, RB.of (n := l.length + 1 + (bytesO p).length) ?_, ((HX.out.kp _ _).trans HK2.out).trans hk3⟩
    have e : l ++ pB p = l ++ [u8 ((bytesO p).length : Int)] ++ bytesO p := by
      have e2 : ((3 * p.length : Nat) : Int) = ((bytesO p).length : Int) := by have := HBL.out; omega
      unfold pB
      rw [e2]
      simp
    rw [e, bcells_app, bcells_app, HU.out]
    exact hown3
  · rw [hf] at h0; cases h0
def tB (x : Tr) : List UInt8 := if x.1 = 2 then [100, u8 x.2] else if x.1 = 3 then [101] else [u8 x.2]
theorem withTurn_any {w : World} {B : Nat} {v0 : Value} {l : List UInt8} (x : Tr) {t : Int} (ht : t ≤ 8) (hx : isT t x = true) (hl : l.length ≤ 100000) (hrb : RB w B v0 l) (hB : B ≤ w.heap.size) :
    Calls Tryz.prog 19 #[v0, .agg #[.int .i64 x.1, .int .i64 x.2]] w fun e w' => ∃ v', e = .returned v' ∧ RB w' B v' (l ++ tB x) ∧ Kp [5] B w w' := by
  obtain ⟨k, n⟩ := x
  have hX0 := Ext.alloc w (.cells #[.int .i64 k, .int .i64 n] 55)
  have HO := hide (own_ext (show w.ownsRow B 5 1 v0 l.length (bcells l) from hrb) hX0)
  have HK := hide (hX0.kp [5] B)
  have hBs : B ≤ (w.alloc (.cells #[.int .i64 k, .int .i64 n] 55)).heap.size := Nat.le_trans hB hX0.size
  have hc := (Blk.new w #[.int .i64 k, .int .i64 n] 55).cell
  obtain ⟨A0, c0, rfl⟩ := own_sl (show w.ownsRow B 5 1 v0 l.length (bcells l) from hrb)
  have hbd : 0 ≤ n ∧ n < 256 := by
    unfold isT at hx
    split at hx
    · have := of_decide_eq_true hx; simp only at this; omega
    · split at hx
      · have := of_decide_eq_true hx; simp only at this; omega
      · split at hx
        · have : n = 0 := by simpa using hx
          omega
        · cases hx
  obtain ⟨n0, n1⟩ := hbd
  have hmd : n % 256 = n := by omega
  have HU := hide (bcells_u8 n0 n1)
  clear hrb hX0 hx
  by_cases h2 : k = 2
  · subst h2
    have E := hide (show tB (2, n) = [100, u8 n] from rfl)
    go_enter Tryz.func19, Tryz.ntmps19
    go_wp2_with (at_builtin; refine wpList_bapp 2 rfl rfl rfl HO.out (by omega) rfl (by simp) rfl (by simp [Value.oneCell']) (by omega) ?_; intro v' w2 hown' hk2 _; go_frame)
    go_ret
    exact ⟨_, rfl, RB.of (n := l.length + 2) (by rw [E.out, show [100, u8 n] = [100] ++ [u8 n] from rfl, bcells_app, bcells_app, HU.out]; exact hown'), HK.out.trans hk2⟩
  · by_cases h3 : k = 3
    · subst h3
      have E := hide (show tB (3, n) = [101] from rfl)
      go_enter Tryz.func19, Tryz.ntmps19
      go_wp2_with (at_builtin; refine wpList_bapp 1 rfl rfl rfl HO.out (by omega) rfl (by simp) rfl (by simp [Value.oneCell']) (by omega) ?_; intro v' w2 hown' hk2 _; go_frame)
      go_ret
      exact ⟨_, rfl, RB.of (n := l.length + 1) (by rw [E.out, bcells_app]; exact hown'), HK.out.trans hk2⟩
    · have E := hide (show tB (k, n) = [u8 n] by simp [tB, h2, h3])
      go_enter Tryz.func19, Tryz.ntmps19
      go_wp2_with (at_builtin; refine wpList_bapp 1 rfl rfl rfl HO.out (by omega) rfl (by simp) rfl (by simp [Value.oneCell']) (by omega) ?_; intro v' w2 hown' hk2 _; go_frame)
      go_ret
      exact ⟨_, rfl, RB.of (n := l.length + 1) (by rw [E.out, bcells_app, HU.out]; exact hown'), HK.out.trans hk2⟩
end Go.Proofs.YtlgomkocalieeaaGreatDoor

namespace Go.Proofs.YtlgomkocalieeaaGreatDoor
open Go.RowKit
set_option linter.unusedSimpArgs false
set_option linter.unusedVariables false
set_option maxRecDepth 100000
set_option maxHeartbeats 4000000

def hB (x : Cf) : List UInt8 := 77 :: (nB x ++ dB x)
def scB (x : Cf) (ps : List (List Op3)) (ts : List Tr) : List UInt8 := hB x ++ ps.flatMap pB ++ ts.flatMap tB
theorem flat_take_succ {α : Type} (f : α → List UInt8) (l : List α) {j : Nat} (hj : j < l.length) : (l.take (j + 1)).flatMap f = (l.take j).flatMap f ++ f l[j] := by
  rw [List.take_add_one, List.getElem?_eq_getElem hj, List.flatMap_append]; simp
theorem flat_len {α : Type} (f : α → List UInt8) (m : Nat) (l : List α) (h : ∀ x, x ∈ l → (f x).length ≤ m) : (l.flatMap f).length ≤ l.length * m := by
  induction l with
  | nil => simp
  | cons x l ih =>
    have h1 := h x (List.mem_cons_self ..)
    have h2 := ih (fun y hy => h y (List.mem_cons_of_mem _ hy))
    rw [List.flatMap_cons, List.length_append, List.length_cons, Nat.add_mul]
    omega
theorem hB_len (x : Cf) : (hB x).length = 18 := by simp [hB, nB, dB]
theorem pB_len {p : List Op3} (h : wrongO p = 0) : (pB p).length ≤ 193 := by
  have := (wrong_out h).1
  simp only [pB, List.length_cons, bytesO_length]; omega
theorem tB_len (y : Tr) : (tB y).length ≤ 2 := by unfold tB; split; simp; split <;> simp
structure MayOk (x : Cf) (ps : List (List Op3)) (ts : List Tr) : Prop where
  c : mayC x = true
  n : (ps.length : Int) = x.t
  p : ∀ p, p ∈ ps → wrongO p = 0 ∧ fits p = true ∧ p.any (isNo x.t x.o) = false
  t : ts.length ≤ 4096
  y : ∀ y, y ∈ ts → isT x.t y = true
theorem may_ok {x : Cf} {ps : List (List Op3)} {ts : List Tr} (h : mayS x ps ts = 0) : MayOk x ps ts := by
  unfold mayS at h
  split at h
  · exact absurd h ‹_›
  · rename_i h1
    have hE : newE x ps = 0 := by simpa using h1
    split at h
    · cases h
    · rename_i h2
      split at h
      · cases h
      · rename_i h3
        split at h
        · cases h
        · rename_i h4
          unfold newE at hE
          split at hE
          · rename_i hq
            split at hE
            · cases hE
            · rename_i h5
              refine ⟨hq.1, hq.2, fun p hp => ?_, by omega, fun y hy => ?_⟩
              · have hn : noB p = false := by
                  rw [Bool.eq_false_iff]; intro q; exact h2 (List.any_eq_true.2 ⟨p, hp, q⟩)
                have hw : wrongP x.t x.o p = false := by
                  rw [Bool.eq_false_iff]; intro q; exact h5 (List.any_eq_true.2 ⟨p, hp, q⟩)
                have hk : packE p = 0 := by simpa [noB] using hn
                unfold packE at hk
                split at hk
                · split at hk
                  · exact ⟨‹_›, ‹_›, (wrongP_no hw).2⟩
                  · cases hk
                · exact absurd hk ‹_›
              · have : notT x.t y = false := by
                  rw [Bool.eq_false_iff]; intro q; exact h4 (List.any_eq_true.2 ⟨y, hy, q⟩)
                simpa [notT] using this
          · cases hE
/-- What Lay answers. -/
def LayR (x : Cf) (ps : List (List Op3)) (ts : List Tr) (e : Ending) (w' : World) : Prop :=
  (mayS x ps ts ≠ 0 ∧ e = .returned (.tuple #[.slice none 0 0, .int .i64 (mayS x ps ts)])) ∨
  (mayS x ps ts = 0 ∧ ∃ A c, e = .returned (.tuple #[.slice A (scB x ps ts).length c, .int .i64 0]) ∧ (scB x ps ts).length ≤ c ∧ c ≤ maxLen ∧ By w' A (scB x ps ts))
theorem lay_any {w : World} {A B : Option Addr} {ps : List (List Op3)} {ts : List Tr} (c d : Nat) (x : Cf) (hb0 : 0 ≤ x.b) (hb1 : x.b < 256) (hd0 : 0 ≤ x.d) (hd1 : x.d < 18446744073709551616) (h : Scr w A B ps ts) (hG : GlobW w) :
    Calls Tryz.prog 8 #[.agg #[.int .i64 x.t, .int .i64 x.o, .int .i64 x.c, .int .i64 x.s, .int .i64 x.p, .int .i64 x.n, .int .u8 x.b, .int .i64 x.r, .int .i64 x.v, .int .u64 x.d, .slice A ps.length c, .slice B ts.length d]] w fun e w' => LayR x ps ts e w' ∧ Ext w w' := by
  have H := hide h
  have hX0 := Ext.alloc w (.cells #[.int .i64 x.t, .int .i64 x.o, .int .i64 x.c, .int .i64 x.s, .int .i64 x.p, .int .i64 x.n, .int .u8 x.b, .int .i64 x.r, .int .i64 x.v, .int .u64 x.d, .slice A ps.length c, .slice B ts.length d] 37)
  have hb := Blk.new w #[.int .i64 x.t, .int .i64 x.o, .int .i64 x.c, .int .i64 x.s, .int .i64 x.p, .int .i64 x.n, .int .u8 x.b, .int .i64 x.r, .int .i64 x.v, .int .u64 x.d, .slice A ps.length c, .slice B ts.length d] 37
  have hmay := smay_any c d x hd0 hd1 (h.ext hX0) (hG.ext hX0)
  by_cases he : mayS x ps ts = 0
  · have hok := may_ok he
    rw [he] at hmay
    have HOK := hide hok
    have hps : ps.length ≤ 8 := by have := may_n hok.c; have := hok.n; omega
    have hts := hok.t
    have HE := hide he
    clear h he hok
    go_enter Tryz.func8, Tryz.ntmps8
    go_wp2_with fail
    refine hmay.mono ?_
    rintro e w1 ⟨rfl, hx1⟩
    have hb1' := hb.ext hx1
    have HX := hide (hX0.trans hx1)
    have hs1 : w.heap.size ≤ w1.heap.size := (hX0.trans hx1).size
    have HB := hide hb1'
    have q := hb1'.cell
    clear hX0 hx1 hb hmay hb1'
    have hrow : (w1.alloc (.cells #[.int .u8 77] 5)).ownsRow w.heap.size 5 1 (.slice (some ⟨w1.heap.size, 0, none⟩) 1 1) 1 (bcells [77]) :=
      ⟨by simp [bcells], .inr ⟨_, 1, #[.int .u8 77], rfl, hs1, heap_alloc_new _ _, Nat.le_refl _, by unfold maxLen; omega, by simp, by simp [bcells]⟩⟩
    have hxa := Ext.alloc w1 (.cells #[.int .u8 77] 5)
    have q2 := (HB.out.ext hxa).cell
    have HROW := hide hrow
    clear hrow
    go_wp2_with fail
    refine (withConf_any (B := w.heap.size) (l := [77]) x HOK.out.c hb0 hb1 hd0 hd1 (by simp) (RB.of HROW.out) (by simp; omega)).mono ?_
    rintro e w2 ⟨v2, rfl, hrb2, hk2⟩
    have hK2 := (hxa.kp [5] w.heap.size).trans hk2
    have q3 := (hK2.blk HB.out (by decide)).cell
    have HRB := hide hrb2
    have HK2 := hide hK2
    clear q q2 hk2 hrb2 hK2 hxa HROW
    go_wp2_with fail
    clear q3
    go_loopw [5, 22] (fun v i wr => ∃ j : Nat, j ≤ ps.length ∧ i = .int .i64 (j : Int) ∧ RB wr w.heap.size v (hB x ++ (ps.take j).flatMap pB) ∧ Kp [5] w.heap.size w1 wr) (fun _ i _ => ps.length - (intOf i).toNat)
    case atStart => exact ⟨0, by omega, rfl, by simpa [hB] using HRB.out, HK2.out⟩
    case round =>
      obtain ⟨j, hj, rfl, hrb, hk⟩ := hrel
      have hE : Ext w wr := hk.ext HX.out (Nat.le_refl _)
      by_cases hlt : j < ps.length
      · obtain ⟨b1, o1, A', c', rfl, hbl, r1, hl2, hch⟩ := (H.out.p.ext hE).at_ hlt
        obtain ⟨p1, p2, p3⟩ := HOK.out.p ps[j] (List.getElem_mem hlt)
        have HF := hide (flat_take_succ pB ps hlt)
        have hln : (hB x ++ (ps.take j).flatMap pB).length ≤ 100000 := by
          rw [List.length_append, hB_len]
          have := flat_len pB 193 (ps.take j) (fun y hy => pB_len (HOK.out.p y (List.mem_of_mem_take hy)).1)
          rw [List.length_take] at this
          omega
        have hbs : w.heap.size ≤ wr.heap.size := hE.size
        generalize ps[j] = p at *
        have hpr := withProg_any (B := w.heap.size) c' hch p1 p2 hln hrb hbs
        have HK := hide hk
        clear hrb hk hE hch hl2
        go_wp2_with fail
        refine hpr.mono ?_
        rintro e w4 ⟨v4, rfl, hrb4, hk4⟩
        go_wp2_with fail
        go_roundw
        case rel => exact ⟨j + 1, by omega, by go_num, by rw [HF.out, ← List.append_assoc]; exact hrb4, HK.out.trans hk4⟩
        case measure => simp [intOf]; omega
      · obtain rfl : j = ps.length := by omega
        rw [List.take_length] at hrb
        have q4 := (hk.blk HB.out (by decide)).cell
        have HK3 := hide hk
        have HRB3 := hide hrb
        have h3 : ¬ (ps.length : Int) < (ps.length : Int) := by omega
        clear hrb hk hE
        go_wp2_with fail
        clear q4
        go_loopw [5, 33] (fun v i wz => ∃ j : Nat, j ≤ ts.length ∧ i = .int .i64 (j : Int) ∧ RB wz w.heap.size v (hB x ++ ps.flatMap pB ++ (ts.take j).flatMap tB) ∧ Kp [5] w.heap.size w1 wz) (fun _ i _ => ts.length - (intOf i).toNat)
        case atStart => exact ⟨0, by omega, rfl, by simpa using HRB3.out, HK3.out⟩
        case round =>
          obtain ⟨j, hj, rfl, hrb, hk⟩ := hrel
          have hE : Ext w wr := hk.ext HX.out (Nat.le_refl _)
          by_cases hlt : j < ts.length
          · obtain ⟨b1, o1, rfl, hbl, r0, r1⟩ := (H.out.t.ext hE).at_ hlt
            have hy := HOK.out.y ts[j] (List.getElem_mem hlt)
            have HF := hide (flat_take_succ tB ts hlt)
            have hln : (hB x ++ ps.flatMap pB ++ (ts.take j).flatMap tB).length ≤ 100000 := by
              rw [List.length_append, List.length_append, hB_len]
              have := flat_len pB 193 ps (fun y hy => pB_len (HOK.out.p y hy).1)
              have := flat_len tB 2 (ts.take j) (fun y _ => tB_len y)
              rw [List.length_take] at this
              omega
            have hbs : w.heap.size ≤ wr.heap.size := hE.size
            generalize ts[j] = y at *
            obtain ⟨k, n⟩ := y
            have hxa := Ext.alloc wr (.cells #[.int .i64 k, .int .i64 n] 55)
            have hpr := withTurn_any (B := w.heap.size) (k, n) (by have := may_n HOK.out.c; omega) hy hln (own_ext (show wr.ownsRow w.heap.size 5 1 _ _ _ from hrb) hxa) (Nat.le_trans hbs hxa.size)
            have qa := (Blk.new wr #[.int .i64 k, .int .i64 n] 55).cell
            have HK := hide hk
            have HXA := hide (hxa.kp [5] w.heap.size)
            clear hrb hk hE hxa hy
            go_wp2_with fail
            refine hpr.mono ?_
            rintro e w4 ⟨v4, rfl, hrb4, hk4⟩
            go_wp2_with fail
            go_roundw
            case rel => exact ⟨j + 1, by omega, by go_num, by rw [HF.out, ← List.append_assoc]; exact hrb4, (HK.out.trans HXA.out).trans hk4⟩
            case measure => simp [intOf]; omega
          · obtain rfl : j = ts.length := by omega
            rw [List.take_length] at hrb
            rw [show hB x ++ ps.flatMap pB ++ ts.flatMap tB = scB x ps ts from rfl] at hrb
            generalize hS : scB x ps ts = S at *
            have HS := hide hS
            clear hS
            obtain ⟨A9, c9, rfl, hle, hmx, hby⟩ := By.of_own (show wr.ownsRow w.heap.size 5 1 _ _ _ from hrb)
            have HE9 := hide hE
            have h4 : ¬ (ts.length : Int) < (ts.length : Int) := by omega
            have HBY := hide hby
            clear hrb hk hE hby
            go_wp2_with fail
            go_ret2
            exact ⟨.inr ⟨HE.out, A9, c9, by rw [HS.out]; rfl, by rw [HS.out]; exact hle, hmx, by rw [HS.out]; exact HBY.out⟩, HE9.out⟩
  · have HE := hide he
    generalize hR : mayS x ps ts = R at *
    have HR := hide hR
    clear h hR
    go_enter Tryz.func8, Tryz.ntmps8
    go_wp2_with fail
    refine hmay.mono ?_
    rintro e w1 ⟨rfl, hx1⟩
    have HX := hide (hX0.trans hx1)
    clear hX0 hx1 hb hmay
    go_wp2_with fail
    go_ret2
    exact ⟨.inl ⟨by rw [HR.out]; exact HE.out, by rw [HR.out]; rfl⟩, HX.out⟩
end Go.Proofs.YtlgomkocalieeaaGreatDoor
