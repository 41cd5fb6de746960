/- Bytes: what a program is packed into; Pack. -/
import Derived.Test.YtlgomkocalieeaaGreatDoorO3
import Derived.Test.YtlgomkocalieeaaGreatDoorGrow
import Derived.Laws.MakeOwn
namespace Go.Proofs.YtlgomkocalieeaaGreatDoor
open Go.RowKit
set_option linter.unusedSimpArgs false
set_option linter.unusedVariables false
set_option maxRecDepth 100000

/-- What one that may be is. -/
theorem may_out {x : Op3} (h : mayO x = true) : 0 ≤ x.2.1 ∧ x.2.1 < 8 ∧ 0 ≤ x.2.2 ∧ x.2.2 ≤ 1000000 ∧ (x.1 = 1 ∨ x.1 = 2 ∨ x.1 = 3 ∨ x.1 = 4 ∨ x.1 = 5 ∨ x.1 = 6 ∨ x.1 = 7 ∨ x.1 = 8 ∨ x.1 = 9) ∧ (x.1 ≠ 4 → x.1 ≠ 9 → x.2.2 = 0) ∧ (x.1 = 9 → x.2.1 = 0 ∧ x.2.2 < 8) := by
  obtain ⟨k, o, a⟩ := x
  simp only [mayO, mayI, Bool.and_eq_true, decide_eq_true_eq] at h ⊢
  obtain ⟨⟨h1, h2, h3, h4⟩, h5⟩ := h
  unfold mayK at h5
  split at h5
  · simp at h5; exact ⟨h1, h2, h3, h4, by omega, fun _ _ => h5, fun _ => by omega⟩
  · split at h5
    · exact ⟨h1, h2, h3, h4, by omega, by omega, fun _ => by omega⟩
    · split at h5
      · simp at h5; exact ⟨h1, h2, h3, h4, by omega, by omega, fun _ => h5⟩
      · cases h5
/-- 'make([]E, 0, n)': a row of one's own. -/
theorem make_own (t e : TypeId) {z : Value} {size bytes : Nat} (ht : Tryz.prog.underlying t = some (.slice e)) (hinf : (Tryz.prog.info? e).map (fun i => (i.zero, i.size, i.bytes)) = some (some z, size, bytes)) (w : World) (c : Nat) (hb : bytes * c ≤ 281474976710656) (hc : c ≤ maxLen) (base : Nat) (hbase : base ≤ w.heap.size) :
    ∃ w', (Instr.makeSlice t (.int .i64 0) (.int .i64 (c : Int))).run Tryz.prog w = .ok (.slice (some ⟨w.heap.size, 0, none⟩) 0 c) w' ∧ w'.ownsRow base e size (.slice (some ⟨w.heap.size, 0, none⟩) 0 c) 0 [] ∧ Ext w w' := by
  obtain ⟨i, hi, hz, hsize, hb2⟩ := info_parts hinf
  obtain ⟨w', h1, h2, h3⟩ := run_make_own (P := Tryz.prog) w base t e i z size ht hi hz hsize .i64 .i64 c (by rw [hb2]; exact hb) hc hbase
  exact ⟨w', h1, h2, Ext.grown (Ext.refl w) h3 (fun k e => by cases e)⟩
def fitO (x : Op3) : Bool := decide (x.2.2 ≤ 65535)
def fits (l : List Op3) : Bool := l.all fitO
def pbO (x : Op3) : List UInt8 := [UInt8.ofNat (x.1 + 16 * x.2.1).toNat, UInt8.ofNat (x.2.2 % 256).toNat, UInt8.ofNat (x.2.2 / 256).toNat]
def bytesO (l : List Op3) : List UInt8 := l.flatMap pbO
def packE (l : List Op3) : Int := if wrongO l = 0 then (if fits l then 0 else 1) else wrongO l
def bcells (l : List UInt8) : List Value := l.map fun b => .int .u8 (b.toNat : Int)
theorem bytesO_length (l : List Op3) : (bytesO l).length = l.length * 3 := by
  induction l with
  | nil => rfl
  | cons x l ih => simp only [bytesO, List.flatMap_cons, List.length_append] at ih ⊢; rw [ih]; simp [pbO]; omega
theorem bytes_succ (l : List Op3) {j : Nat} (hj : j < l.length) : bytesO (l.take (j + 1)) = bytesO (l.take j) ++ pbO l[j] := by
  unfold bytesO
  rw [List.take_add_one, List.getElem?_eq_getElem hj, List.flatMap_append]; simp
theorem fit_succ (l : List Op3) {j : Nat} (hj : j < l.length) : fits (l.take (j + 1)) = (fits (l.take j) && fitO l[j]) := by
  unfold fits
  rw [List.take_add_one, List.getElem?_eq_getElem hj, List.all_append]; simp
theorem fit_no {l : List Op3} {j : Nat} (hj : j < l.length) (h : fitO l[j] = false) : fits l = false := by
  unfold fits
  rw [Bool.eq_false_iff]; intro q
  rw [List.all_eq_true.1 q _ (List.getElem_mem hj)] at h; cases h
theorem pbO_cells {x : Op3} (h : mayO x = true) (hf : fitO x = true) : bcells (pbO x) = [.int .u8 (x.1 + 16 * x.2.1), .int .u8 (x.2.2 % 256), .int .u8 (x.2.2 / 256)] := by
  obtain ⟨h1, h2, h3, h4, h5, _⟩ := may_out h
  have hf : x.2.2 ≤ 65535 := of_decide_eq_true hf
  have e : ∀ n : Int, 0 ≤ n → n < 256 → ((UInt8.ofNat n.toNat).toNat : Int) = n := by
    intro n q1 q2
    rw [UInt8.toNat_ofNat']
    have : n.toNat % 2 ^ 8 = n.toNat := Nat.mod_eq_of_lt (by omega)
    rw [this]; omega
  simp only [bcells, pbO, List.map_cons, List.map_nil]
  rw [e _ (by omega) (by omega), e _ (by omega) (by omega), e _ (by omega) (by omega)]
theorem bcells_app (l m : List UInt8) : bcells (l ++ m) = bcells l ++ bcells m := by simp [bcells]
theorem or_lo (k o : Int) (h1 : 1 ≤ k) (h2 : k ≤ 9) (h3 : 0 ≤ o) (h4 : o < 8) : bits .or .i64 k (o * 16) = k + 16 * o := by
  have hk : k = 1 ∨ k = 2 ∨ k = 3 ∨ k = 4 ∨ k = 5 ∨ k = 6 ∨ k = 7 ∨ k = 8 ∨ k = 9 := by omega
  have ho : o = 0 ∨ o = 1 ∨ o = 2 ∨ o = 3 ∨ o = 4 ∨ o = 5 ∨ o = 6 ∨ o = 7 := by omega
  rcases ho with rfl | rfl | rfl | rfl | rfl | rfl | rfl | rfl <;> rcases hk with rfl | rfl | rfl | rfl | rfl | rfl | rfl | rfl | rfl <;> decide
/-- A slice of bytes that reads as l. -/
def By (w : World) (A : Option Addr) (l : List UInt8) : Prop :=
  l.length = 0 ∨ ∃ b off, A = some ⟨b, off, none⟩ ∧ b < w.heap.size ∧ ∀ j (h : j < l.length), w.cell? ⟨b, off + j, none⟩ = some (.int .u8 (l[j].toNat : Int))
section
variable {w w' : World} {A : Option Addr} {l : List UInt8}
theorem By.ext (h : By w A l) (x : Ext w w') : By w' A l := by
  rcases h with h | ⟨b, off, h1, h2, h3⟩
  · exact .inl h
  · exact .inr ⟨b, off, h1, Nat.lt_of_lt_of_le h2 x.size, fun j hj => (x.oldCell _ _ h2).trans (h3 j hj)⟩
theorem By.of_own {base n : Nat} {v : Value} (h : w.ownsRow base 5 1 v n (bcells l)) : ∃ A c, v = .slice A l.length c ∧ l.length ≤ c ∧ c ≤ maxLen ∧ By w A l := by
  have hl : n = l.length := by have := h.1; simp [bcells] at this; omega
  subst hl
  rcases h.2 with ⟨rfl, h0⟩ | ⟨g, cap, cur, rfl, hb, hh, h3, h4, h5, h6⟩
  · exact ⟨none, 0, by rw [h0], by omega, Nat.zero_le _, .inl h0⟩
  · have hbk : Blk w g cur 5 := hh
    refine ⟨_, _, rfl, h3, h4, .inr ⟨g, 0, rfl, hbk.lt, fun j hj => ?_⟩⟩
    rw [Nat.zero_add, hbk.cell, ← Array.getElem?_toList, ← List.getElem?_take_of_lt (by omega : j < l.length * 1), h6]
    simp [bcells, hj]
end
theorem inf_u8 : (Tryz.prog.info? 5).map (fun i => (i.zero, i.size, i.bytes)) = some (some (.int .u8 0), 1, 1) := by kernel_rfl
/-- 'out = append(out, x, y, ..)': m elements, their cells in the block that was made for them. -/
theorem wpList_appm {P : Program} {w W0 : World} {ops : Array Oper} {rest : List Oper} {o : Oper} {a : Act} {Q : Exit → Act → World → Prop} {s x : Operand} {t : TypeId} (m : Nat) (hgd : o.guard = none)
    (ho : o.op = .call { callee := .builtin .append, args := #[s, x], argTypes := #[t, t] })
    {e : TypeId} {z : Value} {size bytes : Nat} (ht : P.underlying t = some (.slice e)) (hinf : (P.info? e).map (fun i => (i.zero, i.size, i.bytes)) = some (some z, size, bytes))
    (hzs : z.cells.size = size) (hsz : 0 < size)
    {v : Value} {n : Nat} {xs : List Value} (hs : a.eval s = v) (hown : w.ownsRow W0.heap.size e size v n xs) (hW : Ext W0 w)
    {cs : Array Value} {c g : Nat} (hx : a.eval x = .slice (some ⟨g, 0, none⟩) m c) (hg : g = w.heap.size) (hcs : cs.size = m * size) (h1 : ∀ u ∈ cs.toList, u.oneCell' = true)
    (hn : n + m ≤ maxLen) (hby : (n + m) * bytes ≤ 140737488355328)
    (h : ∀ v' w', w'.ownsRow W0.heap.size e size v' (n + m) (xs ++ cs.toList) → Ext W0 w' → wpList P ops Q rest (a.put o.dst v') w') :
    wpList P ops Q (o :: rest) a (w.alloc (.cells cs e)) := by
  subst hg
  obtain ⟨i, hi, hz, hsize, hb⟩ := info_parts hinf
  refine wpList_append_own _ hgd s x t ho W0.heap.size e i z size bytes ht hi hz hsize hb hzs hsz v n xs hs (own_ext hown (Ext.alloc _ _)) ⟨w.heap.size, 0, none⟩ m c cs.toList hx (by simp [hcs]) ?_ h1 hn hby (by have := hW.size; simp; omega) ?_
  · intro j u hu
    have : (w.alloc (.cells cs e)).cell? ⟨w.heap.size, j, none⟩ = cs[j]? := cell_of_row _ _ j cs e (0, 0) (heap_alloc_new w _)
    rw [Array.getElem?_toList] at hu
    rw [← hu, ← this]
    unfold Addr.add
    by_cases hj : j = 0
    · rw [if_pos hj, hj]
    · rw [if_neg hj, Nat.zero_add]
  · intro v' w' h2 hg _
    exact h v' w' h2 (Ext.grown (hW.trans (Ext.alloc _ _)) hg (own_row hown))
/-- What Pack answers of a program that may be. -/
def PackR (l : List Op3) (e : Ending) (w' : World) : Prop := (fits l = true ∧ ∃ A' c', e = .returned (.tuple #[.slice A' (bytesO l).length c', .int .i64 0]) ∧ (bytesO l).length ≤ c' ∧ c' ≤ maxLen ∧ By w' A' (bytesO l)) ∨ (fits l = false ∧ e = .returned (.tuple #[.slice none 0 0, .int .i64 1]))
theorem pack_no {w : World} {A : Option Addr} {l : List Op3} (c : Nat) (h : Ch w A l) (hw : wrongO l ≠ 0) :
    Calls Tryz.prog 34 #[.slice A l.length c] w fun e w' => e = .returned (.tuple #[.slice none 0 0, .int .i64 (wrongO l)]) ∧ Ext w w' := by
  have hc := wrong_any c h
  generalize wrongO l = e0 at *
  go_enter Tryz.func34, Tryz.ntmps34
  go_wp2_with (go_at_call 52; refine hc.mono ?_; rintro e w' ⟨rfl, hb⟩)
  go_ret2
  exact ⟨rfl, hb⟩
theorem pack_ok {w : World} {A : Option Addr} {l : List Op3} (c : Nat) (h : Ch w A l) (hw : wrongO l = 0) :
    Calls Tryz.prog 34 #[.slice A l.length c] w fun e w' => PackR l e w' ∧ Ext w w' := by
  have hc := wrong_any c h
  rw [hw] at hc
  obtain ⟨h64, hall⟩ := wrong_out hw
  have HALL := hide hall
  have H := hide h
  have h64i : (l.length : Int) ≤ 64 := by omega
  have hwr : IntKind.i64.wrap (3 * (l.length : Int)) = ((3 * l.length : Nat) : Int) := by rw [IntKind.wrap_i64]; omega
  clear h hall
  go_enter Tryz.func34, Tryz.ntmps34
  go_wp2_with (go_at_call 52; refine hc.mono ?_; rintro e w1 ⟨rfl, hb⟩)
  obtain ⟨w2, hmk, hown, hx⟩ := make_own 31 5 Tryz.underlying31 inf_u8 w1 (3 * l.length) (by omega) (by unfold maxLen; omega) w.heap.size hb.size
  rw [show ((3 * l.length : Nat) : Int) = 3 * (l.length : Int) by omega] at hmk
  rw [hmk]
  have hX2 := hb.trans hx
  clear hmk hx hc hb hwr
  generalize some (⟨w1.heap.size, 0, none⟩ : Addr) = A0 at *
  go_wp2_with fail
  go_loopw [5, 19] (fun v i wr => ∃ j : Nat, j ≤ l.length ∧ i = .int .i64 (j : Int) ∧ Ext w wr ∧ wr.ownsRow w.heap.size 5 1 v (j * 3) (bcells (bytesO (l.take j))) ∧ fits (l.take j) = true) (fun _ i _ => l.length - (intOf i).toNat)
  case atStart => exact ⟨0, by omega, rfl, hX2, by simpa [bcells, bytesO] using hown, rfl⟩
  case round =>
    clear hX2 hown
    obtain ⟨j, hj, rfl, hW0, hown, hfit⟩ := hrel
    by_cases hlt : j < l.length
    · have hs := fit_succ l hlt
      rw [hfit, Bool.true_and] at hs
      have HS := hide (bytes_succ l hlt)
      have HF := hide hs
      have HN := hide (@fit_no l j hlt)
      have hm : mayO l[j] = true := List.all_eq_true.1 HALL.out _ (List.getElem_mem hlt)
      have HP := hide (@pbO_cells l[j] hm)
      obtain ⟨b1, o1, rfl, r1⟩ := (H.out.ext hW0).at_ hlt
      have hmo := may_out hm
      generalize l[j] = x at *
      obtain ⟨k, o, a⟩ := x
      have q1 := fun w' (x : Ext wr w') => (r1 w' x).1
      have q2 := fun w' (x : Ext wr w') => (r1 w' x).2.1
      have q3 := fun w' (x : Ext wr w') => (r1 w' x).2.2
      clear r1 hs hfit
      obtain ⟨A3, c3, rfl⟩ := own_sl hown
      have HO := hide hown
      have HW := hide hW0
      have hx := Ext.refl wr
      obtain ⟨h1, h2, h3, h4, h5, h6, h7⟩ := hmo
      simp only at h1 h2 h3 h4 h5 h6 h7
      have HM := hide h5
      have HOR := hide (or_lo k o (by omega) (by omega) h1 h2)
      clear hown hW0 h5 h6 h7
      cases hf : fitO (k, o, a) with
      | false =>
        have ha : (65535 : Int) < a := by simpa [fitO] using hf
        go_wp2_with fail
        go_ret2
        exact ⟨by unfold PackR; exact .inr ⟨HN.out hf, rfl⟩, HW.out.trans (Ext.alloc _ _)⟩
      | true =>
        have ha : ¬ (65535 : Int) < a := by simpa [fitO] using hf
        have hor := HOR.out
        have hmd : (k + 16 * o) % 256 = k + 16 * o := by have := HM.out; omega
        rw [hf] at HF
        have HO2 := hide (own_ext HO.out (Ext.alloc wr (.cells #[.int .i64 k, .int .i64 o, .int .i64 a] 53)))
        go_wp2_with (at_builtin; refine wpList_appm (W0 := w) 3 rfl rfl Tryz.underlying31 inf_u8 rfl (by omega) rfl HO2.out (HW.out.trans (Ext.alloc _ _)) rfl (by simp) rfl (by simp [Value.oneCell']) (by unfold maxLen; omega) (by omega) ?_; intro v' w4 hown' hW4; go_frame)
        go_roundw
        case rel => exact ⟨j + 1, by omega, by simp, hW4, by rw [HS.out, bcells_app, HP.out hf, show (j + 1) * 3 = j * 3 + 3 by omega]; exact hown', HF.out⟩
        case measure => simp [intOf]; omega
    · obtain rfl : j = l.length := by omega
      have h3 : ¬ (l.length : Int) < (l.length : Int) := by omega
      rw [List.take_length] at hown hfit
      obtain ⟨A3, c3, rfl, hle, hmx, hby⟩ := By.of_own hown
      clear hown
      go_wp2_with fail
      go_ret2
      exact ⟨by unfold PackR; exact .inl ⟨hfit, A3, c3, rfl, hle, hmx, hby⟩, hW0⟩
end Go.Proofs.YtlgomkocalieeaaGreatDoor
