/- Top, First, Count, Get, Save. -/
import Derived.Test.YtppjpicfiflkcaaN3
import Derived.Test.YtppjpicfiflkcaaN4
namespace Go.Proofs.Ytppjpicfiflkcaa
open Go.RowKit
set_option linter.unusedSimpArgs false
set_option linter.unusedVariables false

theorem top_any {w : World} {p : Value} {N : Int} {l : List Rec} (a : Int) (h : Lst w p N l) (hl : l.length ≤ 1000) :
    Calls Try.prog 20 #[p, .int .i64 a] w fun e w' => e = .returned (.tuple #[.int .i64 (topI l a), .bool (decide (0 ≤ topI l a))]) ∧ Ext w w' := by
  go_enter Try.func20, Try.ntmps20
  go_wp2_with fail
  refine (all_any h).mono ?_
  rintro e w1 ⟨A, c, rfl, hs, rfl⟩
  go_wp2_with fail
  refine (back_any _ _ _ _).mono ?_
  rintro e w1 ⟨S, rfl, hS, _, hx⟩
  go_wp2_with fail
  refine (find_top l S c _ A a _ hl hS (hs.ext hx (Nat.le_refl _)) hx.size).mono ?_
  rintro e w2 ⟨i, hi, rfl, hx2⟩
  have E := hide hi.eq
  clear hi
  go_wp2_with fail
  go_ret2
  exact ⟨by rw [← E.out]; simp, hx.trans hx2⟩
theorem first_any {w : World} {p : Value} {N : Int} {l : List Rec} (a : Int) (h : Lst w p N l) (hl : l.length ≤ 1000) :
    Calls Try.prog 21 #[p, .int .i64 a] w fun e w' => e = .returned (.tuple #[.int .i64 (firI l a), .bool (decide (0 ≤ firI l a))]) ∧ Ext w w' := by
  go_enter Try.func21, Try.ntmps21
  go_wp2_with fail
  refine (all_any h).mono ?_
  rintro e w1 ⟨A, c, rfl, hs, rfl⟩
  go_wp2_with fail
  refine (sall_any _ _ _ _).mono ?_
  rintro e w1 ⟨S, rfl, hS, _, hx⟩
  go_wp2_with fail
  refine (find_fir l S c _ A a _ hl hS (hs.ext hx (Nat.le_refl _)) hx.size).mono ?_
  rintro e w2 ⟨i, hi, rfl, hx2⟩
  have E := hide hi.eq
  clear hi
  go_wp2_with fail
  go_ret2
  exact ⟨by rw [← E.out]; simp, hx.trans hx2⟩
/-- One more, if the object is the one. -/
def oneA (o a : Int) (n : Nat) : Nat := if o = a then n + 1 else n
theorem countF_any (A F n : Nat) (a o s : Int) (w : World) (hn : n ≤ 1000) (hA : Blk w A #[.int .i64 a] 3) (hF : Blk w F #[.int .i64 n] 3) (hne : A ≠ F) :
    Calls Try.prog 34 #[.agg #[.int .i64 o, .int .u64 s], (.pointer (some ⟨A, 0, none⟩)), (.pointer (some ⟨F, 0, none⟩))] w fun e w' => e = .returned (.bool true) ∧ Blk w' F #[.int .i64 (oneA o a n)] 3 ∧ Chg [F] w w' := by
  have r1 := fun x => (hA.ext (Ext.alloc w x)).cell
  have r2 := fun x => (hF.ext (Ext.alloc w x)).cell
  have r3 := fun x => (hF.ext (Ext.alloc w x)).free
  have HF := hide hF
  clear hA hF
  by_cases he : o = a
  · have E := hide (show oneA o a n = n + 1 from if_pos he)
    subst he
    go_enter Try.func34, Try.ntmps34
    go_wp2_with fail
    go_ret
    rw [E.out]
    have hb := (HF.out.ext (Ext.alloc w (Obj.cells #[.int .i64 o, .int .u64 s] 38))).set 0 (.int .i64 ((n : Int) + 1))
    exact ⟨by simp, by simpa using hb, (Chg.alloc _ _ _).set (.inl (by simp)) _⟩
  · have E := hide (show oneA o a n = n from if_neg he)
    go_enter Try.func34, Try.ntmps34
    go_wp2_with fail
    go_ret
    rw [E.out]
    exact ⟨by simp, HF.out.ext (Ext.alloc _ _), Chg.alloc _ _ _⟩
theorem valF_count (l : List Rec) (S A F c B : Nat) (X : Option Addr) (a : Int) (w : World) (hl : l.length ≤ 1000) (hS : Blk w S #[.slice X l.length c] 53) (hA : Blk w A #[.int .i64 a] 3) (hF : Blk w F #[.int .i64 0] 3)
    (hne : A ≠ F) (hSF : S ≠ F) (hs : Sl w B 2 X l.length (rcells l)) (hB : B ≤ w.heap.size) (hBF : B ≤ F) :
    Calls Try.prog 41 #[.func (.func 34) #[] #[(.pointer (some ⟨A, 0, none⟩)), (.pointer (some ⟨F, 0, none⟩))], (.pointer (some ⟨S, 0, none⟩))] w fun e w' => e = .returned (.tuple #[]) ∧ Blk w' F #[.int .i64 (cntL l a)] 3 ∧ Chg [F] w w' := by
  have r1 := hS.cell
  go_enter Try.func41, Try.ntmps41
  go_wp2_with fail
  go_loopw [7] (fun i wr => ∃ k : Nat, k ≤ l.length ∧ i = .int .i64 k ∧ Blk wr F #[.int .i64 ((ofL l a k).length : Nat)] 3 ∧ Chg [F] w wr) (fun i _ => l.length - (intOf i).toNat)
  case atStart => exact ⟨0, by omega, rfl, hF, Chg.refl _ _⟩
  case round =>
    clear hF r1
    obtain ⟨k, hk, rfl, hF, hC⟩ := hrel
    by_cases hlt : k < l.length
    · have hs2 := hs.chg hC hB (by simp; omega)
      obtain ⟨b, off, rfl, hb, c0, c1⟩ := hs2.rec hlt
      have hA2 := hA.chg hC (by simpa using hne)
      have hq := ofL_len l a k
      have E : (ofL l a (k + 1)).length = oneA (l[k]).1 a (ofL l a k).length := by
        unfold oneA
        by_cases he : (l[k]).1 = a
        · rw [if_pos he, ofL_yes hlt he]; simp
        · rw [if_neg he, ofL_no hlt he]
      have HE := hide E
      clear E
      have lA := hA2.lt
      have lF := hF.lt
      go_wp2_with fail
      have hX := Ext.alloc wr (Obj.cells #[.int .i64 (l[k]).1, .int .u64 (l[k]).2] 38)
      refine (countF_any A F _ a _ _ _ (by omega) (hA2.ext hX) (hF.ext hX) hne).mono ?_
      rintro e w2 ⟨rfl, hF2, hC2⟩
      have hC3 := (hC.trans (hX.chg _)).trans hC2
      clear hX hC2
      go_wp2_with fail
      go_roundw
      case rel => exact ⟨k + 1, by omega, by go_num, by rw [HE.out]; exact hF2, hC3⟩
      case measure => simp [intOf]; omega
    · obtain rfl : k = l.length := by omega
      go_wp2_with fail
      go_end0
      exact ⟨rfl, hF, hC⟩
theorem count_any {w : World} {p : Value} {N : Int} {l : List Rec} (a : Int) (h : Lst w p N l) (hl : l.length ≤ 1000) :
    Calls Try.prog 22 #[p, .int .i64 a] w fun e w' => e = .returned (.int .i64 (cntL l a)) ∧ Ext w w' := by
  have bA := Blk.new w #[.int .i64 a] 3
  have bF := Blk.new (w.alloc (.cells #[.int .i64 a] 3)) #[.int .i64 0] 3
  have hX := (Ext.alloc w (.cells #[.int .i64 a] 3)).trans (Ext.alloc _ (.cells #[.int .i64 0] 3))
  simp only [World.size_alloc] at bF
  have bA := bA.ext (Ext.alloc (w.alloc (.cells #[.int .i64 a] 3)) (.cells #[.int .i64 0] 3))
  have HX := hide hX
  have HA := hide bA
  have HF := hide bF
  have sz : ((w.alloc (.cells #[.int .i64 a] 3)).alloc (.cells #[.int .i64 0] 3)).heap.size = w.heap.size + 2 := by simp
  clear hX bA bF
  go_enter Try.func22, Try.ntmps22
  go_wp2_with fail
  generalize (w.alloc (.cells #[.int .i64 a] 3)).alloc (.cells #[.int .i64 0] 3) = W0 at *
  refine (all_any2 h HX.out).mono ?_
  rintro e w1 ⟨A, c, rfl, hs, rfl⟩
  go_wp2_with fail
  refine (sval_any _ _ _ _).mono ?_
  rintro e w1 ⟨S, rfl, hS, hS2, hx⟩
  go_wp2_with fail
  have hA := HA.out.ext hx
  refine (valF_count l S w.heap.size (w.heap.size + 1) c w.heap.size A a _ hl hS hA (HF.out.ext hx) (by omega) (by omega) (hs.ext hx (by omega)) (by have := hx.size; omega) (by omega)).mono ?_
  rintro e w2 ⟨rfl, hF, hC⟩
  have r := hF.cell
  have HY := hide ((HX.out.trans hx).turn hC (by simp))
  clear hC
  go_wp2_with fail
  go_ret
  exact ⟨by simp, HY.out⟩
/-- What Get tells. -/
def getR (N : Int) (l : List Rec) (z : Int) : Rec := if 0 < N ∧ 0 ≤ z ∧ z < l.length then l.getD z.toNat (0, 0) else (0, 0)
theorem getR_in {N : Int} {l : List Rec} {k : Nat} (h0 : 0 < N) (hk : k < l.length) : getR N l (k : Int) = l[k] := by
  unfold getR
  rw [if_pos ⟨h0, by omega, by omega⟩]
  simp [List.getD_eq_getElem?_getD, hk]
theorem getR_out {N : Int} {l : List Rec} {z : Int} (h : ¬ (0 < N ∧ 0 ≤ z ∧ z < l.length)) : getR N l z = (0, 0) := if_neg h
theorem erA_in {N : Int} {l : List Rec} {k : Nat} (h0 : 0 < N) (hk : k < l.length) : erA N l (k : Int) = 0 := by
  unfold erA
  rw [if_pos h0, if_pos ⟨by omega, by omega⟩]
theorem get_out {w : World} {p : Value} {N : Int} {l : List Rec} {z : Int} (h : Lst w p N l) (ho : ¬ (0 < N ∧ 0 ≤ z ∧ z < l.length)) :
    Calls Try.prog 19 #[p, .int .i64 z] w fun e w' => e = .returned (.tuple #[.agg #[.int .i64 (getR N l z).1, .int .u64 (getR N l z).2], .int .i64 (erA N l z)]) ∧ Ext w w' := by
  rw [getR_out ho]
  have E2 : ¬ erA N l z = 0 := by
    unfold erA
    by_cases h0 : 0 < N
    · rw [if_pos h0, if_neg fun q => ho ⟨h0, q⟩]; decide
    · rw [if_neg h0]; decide
  have hX := Ext.alloc w (.cells #[.int .i64 0, .int .u64 0] 38)
  go_enter Try.func19, Try.ntmps19
  go_wp2_with fail
  refine (stands_out (h.ext hX) ho).mono ?_
  rintro e w1 ⟨rfl, rfl⟩
  go_wp2_with fail
  refine bodyPost_ret (v := .tuple #[.agg #[.int .i64 0, .int .u64 0], .int .i64 (erA N l z)]) (by simp [results, Try.results19, go_sem, *]) rfl ⟨rfl, ?_⟩
  ((repeat (with_reducible refine Ext.set ?_ (by simp) _)); exact Ext.alloc _ _)
theorem get_in {w : World} {M g k : Nat} {N : Int} {l : List Rec} (h : St 58 38 w M g N l) (h0 : 0 < N) (hk : k < l.length) :
    Calls Try.prog 19 #[(.pointer (some ⟨M, 0, none⟩)), .int .i64 (k : Int)] w fun e w' => e = .returned (.tuple #[.agg #[.int .i64 (l[k]).1, .int .u64 (l[k]).2], .int .i64 0]) ∧ Ext w w' := by
  have hX := Ext.alloc w (.cells #[.int .i64 0, .int .u64 0] 38)
  have h9 := h.ext hX
  obtain ⟨v, hb, hr⟩ := h9
  rcases hr with ⟨rfl, rfl, rfl⟩ | ⟨cap, cur, rfl, hn, hb2, h1, h2, h3, h4⟩
  · simp at hk
  · have lg := h.ltg
    have c0 : (w.alloc (.cells #[.int .i64 0, .int .u64 0] 38)).cell? ⟨g, k * 2, none⟩ = some (.int .i64 (l[k]).1) := by
      rw [hb2.cell, ← Array.getElem?_toList, ← (rcells_at l k hk).1, ← h4, List.getElem?_take, if_pos (by omega)]
    have c1 : (w.alloc (.cells #[.int .i64 0, .int .u64 0] 38)).cell? ⟨g, k * 2 + 1, none⟩ = some (.int .u64 (l[k]).2) := by
      rw [hb2.cell, ← Array.getElem?_toList, ← (rcells_at l k hk).2, ← h4, List.getElem?_take, if_pos (by omega)]
    clear h3 h4 hb hb2
    go_enter Try.func19, Try.ntmps19
    go_wp2_with fail
    refine (stands_in (h.ext hX) h0 hk).mono ?_
    rintro e w1 ⟨rfl, rfl⟩
    go_wp2_with fail
    refine bodyPost_ret (v := .tuple #[.agg #[.int .i64 (l[k]).1, .int .u64 (l[k]).2], .int .i64 0]) (by simp [results, Try.results19, go_sem, *]) rfl ⟨rfl, ?_⟩
    ((repeat (with_reducible refine Ext.set ?_ (by simp) _)); exact Ext.alloc _ _)
/-- Get, at whatever place. -/
theorem get_any {w : World} {M g : Nat} {N z : Int} {l : List Rec} (h : St 58 38 w M g N l) :
    Calls Try.prog 19 #[(.pointer (some ⟨M, 0, none⟩)), .int .i64 z] w fun e w' => e = .returned (.tuple #[.agg #[.int .i64 (getR N l z).1, .int .u64 (getR N l z).2], .int .i64 (erA N l z)]) ∧ Ext w w' := by
  by_cases ho : 0 < N ∧ 0 ≤ z ∧ z < l.length
  · obtain ⟨h0, h1, h2⟩ := ho
    obtain ⟨k, rfl⟩ := Int.eq_ofNat_of_zero_le h1
    have hk : k < l.length := by omega
    rw [getR_in h0 hk, erA_in h0 hk]
    exact get_in h h0 hk
  · exact get_out h.lst ho
/-- What Save leaves. -/
def savL (N : Int) (l : List Rec) (z s : Int) : List Rec := if 0 < N ∧ 0 ≤ z ∧ z < l.length then l.set z.toNat ((l.getD z.toNat (0, 0)).1, s) else l
theorem savL_in {N s : Int} {l : List Rec} {k : Nat} (h0 : 0 < N) (hk : k < l.length) : savL N l (k : Int) s = l.set k ((l[k]).1, s) := by
  unfold savL
  rw [if_pos ⟨h0, by omega, by omega⟩]
  simp [List.getD_eq_getElem?_getD, hk]
theorem savL_out {N z s : Int} {l : List Rec} (h : ¬ (0 < N ∧ 0 ≤ z ∧ z < l.length)) : savL N l z s = l := if_neg h
theorem savL_len (N z s : Int) (l : List Rec) : (savL N l z s).length = l.length := by unfold savL; split <;> simp
theorem save_out {w : World} {p : Value} {N : Int} {l : List Rec} {z : Int} (s : Int) (h : Lst w p N l) (ho : ¬ (0 < N ∧ 0 ≤ z ∧ z < l.length)) :
    Calls Try.prog 13 #[p, .int .i64 z, .int .u64 s] w fun e w' => e = .returned (.int .i64 (erA N l z)) ∧ w = w' := by
  have E2 : ¬ erA N l z = 0 := by
    unfold erA
    by_cases h0 : 0 < N
    · rw [if_pos h0, if_neg fun q => ho ⟨h0, q⟩]; decide
    · rw [if_neg h0]; decide
  go_enter Try.func13, Try.ntmps13
  go_wp2_with fail
  refine (stands_out h ho).mono ?_
  rintro e w1 ⟨rfl, rfl⟩
  go_wp2_with fail
  go_ret
  exact ⟨by simp, rfl⟩
/-- A row in which a saved word was turned. -/
theorem Row.save {w : World} {E : TypeId} {M g k : Nat} {v : Value} {l : List Rec} (h : Row w E M g v l) (hk : k < l.length) (s : Int) :
    Row (w.setCell ⟨g, k * 2 + 1, none⟩ (.int .u64 s)) E M g v (l.set k ((l[k]).1, s)) := by
  rcases h with ⟨_, rfl, _⟩ | ⟨cap, cur, rfl, hn, hb, h1, h2, h3, h4⟩
  · simp at hk
  · refine .inr ⟨cap, _, by simp, hn, hb.set (k * 2 + 1) (.int .u64 s), by simpa using h1, h2, by simpa using h3, ?_⟩
    rw [List.length_set, ← rcells_set l k s hk, ← h4, Array.toList_setIfInBounds, List.take_set]
theorem St.save {T E : TypeId} {w : World} {M g k : Nat} {N : Int} {l : List Rec} (h : St T E w M g N l) (hk : k < l.length) (s : Int) :
    St T E (w.setCell ⟨g, k * 2 + 1, none⟩ (.int .u64 s)) M g N (l.set k ((l[k]).1, s)) := by
  obtain ⟨v, hb, hr⟩ := h
  have hne : g ≠ M := by
    rcases hr with ⟨_, rfl, _⟩ | ⟨cap, cur, _, hn, _⟩
    · simp at hk
    · exact hn
  exact ⟨v, hb.far (p := ⟨g, k * 2 + 1, none⟩) hne.symm _, hr.save hk s⟩
theorem St.cells {T E : TypeId} {w : World} {M g k : Nat} {N : Int} {l : List Rec} (h : St T E w M g N l) (hk : k < l.length) :
    w.cell? ⟨g, k * 2, none⟩ = some (.int .i64 (l[k]).1) ∧ w.cell? ⟨g, k * 2 + 1, none⟩ = some (.int .u64 (l[k]).2) ∧ w.frozen? ⟨g, k * 2 + 1, none⟩ = false := by
  obtain ⟨v, hb, hr⟩ := h
  rcases hr with ⟨_, rfl, _⟩ | ⟨cap, cur, rfl, hn, hb2, h1, h2, h3, h4⟩
  · simp at hk
  · refine ⟨?_, ?_, hb2.free _⟩
    · rw [hb2.cell, ← Array.getElem?_toList, ← (rcells_at l k hk).1, ← h4, List.getElem?_take, if_pos (by omega)]
    · rw [hb2.cell, ← Array.getElem?_toList, ← (rcells_at l k hk).2, ← h4, List.getElem?_take, if_pos (by omega)]
theorem save_any {w : World} {M g : Nat} {N z : Int} {l : List Rec} (s : Int) (h : St 58 38 w M g N l) :
    Calls Try.prog 13 #[(.pointer (some ⟨M, 0, none⟩)), .int .i64 z, .int .u64 s] w fun e w' => e = .returned (.int .i64 (erA N l z)) ∧ St 58 38 w' M g N (savL N l z s) ∧ Chg [M, g] w w' := by
  by_cases ho : 0 < N ∧ 0 ≤ z ∧ z < l.length
  · obtain ⟨h0, h1, h2⟩ := ho
    obtain ⟨k, rfl⟩ := Int.eq_ofNat_of_zero_le h1
    have hk : k < l.length := by omega
    rw [savL_in h0 hk, erA_in h0 hk]
    obtain ⟨c0, c1, c2⟩ := h.cells hk
    have HS := hide (h.save hk s)
    go_enter Try.func13, Try.ntmps13
    go_wp2_with fail
    refine (stands_in h h0 hk).mono ?_
    rintro e w1 ⟨rfl, rfl⟩
    go_wp2_with fail
    go_ret
    exact ⟨by simp, HS.out, (Chg.refl _ _).set (.inl (by simp)) _⟩
  · rw [savL_out ho]
    refine (save_out s h.lst ho).mono ?_
    rintro e w1 ⟨rfl, rfl⟩
    exact ⟨rfl, h, Chg.refl _ _⟩
end Go.Proofs.Ytppjpicfiflkcaa
