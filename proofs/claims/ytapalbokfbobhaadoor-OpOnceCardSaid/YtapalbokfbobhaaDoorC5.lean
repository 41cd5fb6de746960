/- Text: a program's text. -/
import Derived.Test.YtapalbokfbobhaaDoorC4
import Derived.Test.YtapalbokfbobhaaDoorGrow
import Derived.Laws.MakeOwn
namespace Go.Proofs.YtapalbokfbobhaaDoor
open Go.RowKit Go.Sort
set_option linter.unusedSimpArgs false
set_option linter.unusedVariables false
set_option maxRecDepth 100000

theorem inf_str : (Tryd.prog.info? 9).map (fun i => (i.zero, i.size, i.bytes)) = some (some (.string ⟨#[]⟩), 1, 16) := by kernel_rfl
/-- 'make([]E, 0, n)': a row of one's own. -/
theorem make_own (t e : TypeId) {z : Value} {size bytes : Nat} (ht : Tryd.prog.underlying t = some (.slice e)) (hinf : (Tryd.prog.info? e).map (fun i => (i.zero, i.size, i.bytes)) = some (some z, size, bytes)) (w : World) (c : Nat) (hb : bytes * c ≤ 281474976710656) (hc : c ≤ maxLen) (base : Nat) (hbase : base ≤ w.heap.size) :
    ∃ w', (Instr.makeSlice t (.int .i64 0) (.int .i64 (c : Int))).run Tryd.prog w = .ok (.slice (some ⟨w.heap.size, 0, none⟩) 0 c) w' ∧ w'.ownsRow base e size (.slice (some ⟨w.heap.size, 0, none⟩) 0 c) 0 [] ∧ Ext w w' := by
  obtain ⟨i, hi, hz, hsize, hb2⟩ := info_parts hinf
  obtain ⟨w', h1, h2, h3⟩ := run_make_own (P := Tryd.prog) w base t e i z size ht hi hz hsize .i64 .i64 c (by rw [hb2]; exact hb) hc hbase
  exact ⟨w', h1, h2, Ext.grown (Ext.refl w) h3 (fun k e => by cases e)⟩
def pcells (l : List Op3) : List Value := l.map fun x => (Value.string ⟨List.toArray (partO x)⟩)
theorem pcells_succ (l : List Op3) {j : Nat} (hj : j < l.length) : pcells (l.take (j + 1)) = pcells (l.take j) ++ [(Value.string ⟨List.toArray (partO l[j])⟩)] := by
  unfold pcells
  rw [List.take_add_one, List.getElem?_eq_getElem hj, List.map_append]; rfl
theorem lens_parts {l : List Op3} (h : l.all mayO = true) : Lib.lens (l.map partO) ≤ l.length * 26 := by
  induction l with
  | nil => simp [Lib.lens]
  | cons x l ih =>
    simp only [List.all_cons, Bool.and_eq_true] at h
    have h1 := part_len h.1
    have h2 := ih h.2
    simp only [Lib.lens, List.map_cons, List.sum_cons, List.length_cons] at h2 ⊢
    omega
theorem joinTail_len (sep : List UInt8) (r : List (List UInt8)) : (Lib.joinTail sep r).length = r.length * sep.length + Lib.lens r := by
  induction r with
  | nil => simp [Lib.joinTail, Lib.lens]
  | cons y r ih =>
    simp only [Lib.joinTail, Lib.lens, List.map_cons, List.flatten_cons, List.length_append, List.sum_cons, List.length_cons] at ih ⊢
    rw [ih, Nat.add_mul]; omega
theorem text_len {l : List Op3} (h : wrongO l = 0) : (textO l).length ≤ 2000 := by
  obtain ⟨h1, h2⟩ := wrong_out h
  have h3 := lens_parts h2
  unfold textO
  cases l with
  | nil => simp [Lib.join_nil]
  | cons x l =>
    rw [List.map_cons, Lib.join_cons, List.length_append, joinTail_len, List.length_map]
    simp only [List.map_cons, Lib.lens, List.sum_cons, List.length_cons, List.length_nil] at h1 h3 ⊢
    omega
theorem strs_of_own {w : World} {base : Nat} {A : Option Addr} {c : Nat} {l : List Op3} (h : w.ownsRow base 9 1 (.slice A l.length c) l.length (pcells l)) :
    l.length ≤ c ∧ ((l.map partO) = [] ∨ ∃ b o, A = some ⟨b, o, none⟩ ∧ b < w.heap.size ∧ ∀ (j : Nat) x, (l.map partO)[j]? = some x → w.cell? ⟨b, o + j, none⟩ = some (Value.string ⟨List.toArray (x)⟩)) := by
  rcases h.2 with ⟨e, h0⟩ | ⟨g, cap, cur, e, hb, hh, h3, h4, h5, h6⟩
  · exact ⟨by omega, .inl (by rw [List.eq_nil_of_length_eq_zero h0]; rfl)⟩
  · cases e
    have hbk : Blk w g cur 9 := hh
    refine ⟨h3, .inr ⟨g, 0, rfl, hbk.lt, fun j x hx => ?_⟩⟩
    have hj : j < l.length := by have := (List.getElem?_eq_some_iff.1 hx).1; rwa [List.length_map] at this
    rw [Nat.zero_add, hbk.cell, ← Array.getElem?_toList, ← List.getElem?_take_of_lt (by omega : j < l.length * 1), h6]
    unfold pcells
    rw [List.getElem?_map] at hx ⊢
    obtain ⟨y, hy, rfl⟩ := Option.map_eq_some_iff.1 hx
    rw [hy]; rfl
theorem text_no {w : World} {A : Option Addr} {l : List Op3} (c : Nat) (h : Ch w A l) (hw : wrongO l ≠ 0) :
    Calls Tryd.prog 8 #[.slice A l.length c] w fun e w' => e = .returned (.tuple #[(Value.string ⟨List.toArray ([])⟩), .int .i64 (wrongO l)]) ∧ Ext w w' := by
  have hc := wrong_any c h
  generalize wrongO l = e0 at *
  go_enter Tryd.func8, Tryd.ntmps8
  go_wp2_with (go_at_call 20; refine hc.mono ?_; rintro e w' ⟨rfl, hb⟩)
  go_ret2
  exact ⟨rfl, hb⟩
theorem text_yes {w : World} {A : Option Addr} {l : List Op3} (c : Nat) (h : Ch w A l) (hw : wrongO l = 0) (hG : Glob w) :
    Calls Tryd.prog 8 #[.slice A l.length c] w fun e w' => e = .returned (.tuple #[(Value.string ⟨List.toArray (textO l)⟩), .int .i64 0]) ∧ Ext w w' := by
  have hc := wrong_any c h
  rw [hw] at hc
  have HL := hide (text_len hw)
  obtain ⟨h64, hall⟩ := wrong_out hw
  have HALL := hide hall
  have H := hide h
  have HG := hide hG
  clear h hG hall
  go_enter Tryd.func8, Tryd.ntmps8
  go_wp2_with (go_at_call 20; refine hc.mono ?_; rintro e w1 ⟨rfl, hb⟩)
  obtain ⟨w2, hmk, hown, hx⟩ := make_own 47 9 Tryd.underlying47 inf_str w1 l.length (by omega) (by unfold maxLen; omega) w.heap.size hb.size
  rw [hmk]
  have hX2 := hb.trans hx
  clear hmk hx hc hb
  generalize some (⟨w1.heap.size, 0, none⟩ : Addr) = A0 at *
  go_wp2_with fail
  go_loopw [5, 18] (fun v i wr => ∃ j : Nat, j ≤ l.length ∧ i = .int .i64 (j : Int) ∧ Ext w wr ∧ wr.ownsRow w.heap.size 9 1 v j (pcells (l.take j))) (fun _ i _ => l.length - (intOf i).toNat)
  case atStart => exact ⟨0, by omega, rfl, hX2, by simpa [pcells] using hown⟩
  case round =>
    clear hX2 hown
    obtain ⟨j, hj, rfl, hW0, hown⟩ := hrel
    by_cases hlt : j < l.length
    · have HS := hide (pcells_succ l hlt)
      have hm : mayO l[j] = true := List.all_eq_true.1 HALL.out _ (List.getElem_mem hlt)
      obtain ⟨b1, o1, rfl, r1⟩ := (H.out.ext hW0).at_ hlt
      have hp := part_any l[j] hm
      generalize l[j] = x at *
      obtain ⟨k, o, a⟩ := x
      have q1 := fun w' (x : Ext wr w') => (r1 w' x).1
      have q2 := fun w' (x : Ext wr w') => (r1 w' x).2.1
      have q3 := fun w' (x : Ext wr w') => (r1 w' x).2.2
      clear r1
      obtain ⟨A3, c3, rfl⟩ := own_sl hown
      have HO := hide hown
      have HW := hide hW0
      have hx := Ext.refl wr
      clear hown hW0
      go_wp2_with (first | (go_at_call 21; refine (hp _ (HG.out.ext (HW.out.trans (Ext.alloc _ _)))).mono ?_; rintro e w3 ⟨rfl, hb3⟩; have HB3 := hide ((Ext.alloc _ _).trans hb3); have HO3 := hide (own_ext HO.out HB3.out)) | (at_builtin; refine wpList_app1 (W0 := w) rfl rfl Tryd.underlying47 inf_str rfl (by omega) rfl HO3.out (HW.out.trans HB3.out) rfl rfl rfl (by simp [Value.oneCell']) (by unfold maxLen; omega) (by omega) ?_; intro v' w4 hown' hW4; go_frame))
      go_roundw
      case rel => exact ⟨j + 1, by omega, by simp, hW4, by rw [HS.out]; exact hown'⟩
      case measure => simp [intOf]; omega
    · obtain rfl : j = l.length := by omega
      have h3 : ¬ (l.length : Int) < (l.length : Int) := by omega
      rw [List.take_length] at hown
      obtain ⟨A3, c3, rfl⟩ := own_sl hown
      have hn : l.length ≤ c3 ∧ ((l.map partO) = [] ∨ ∃ b o, A3 = some ⟨b, o, none⟩ ∧ b < wr.heap.size ∧ ∀ (j : Nat) x, (l.map partO)[j]? = some x → wr.cell? ⟨b, o + j, none⟩ = some (Value.string ⟨List.toArray (x)⟩)) := strs_of_own hown
      have hj := join_any A3 c3 (l.map partO) [59, 32] wr hn.2 (by rw [List.length_map]; omega) (by rw [List.length_map]; exact hn.1) (by have := HL.out; unfold textO at this; omega)
      rw [List.length_map] at hj
      rw [show Lib.join (l.map partO) [59, 32] = textO l from rfl] at hj
      clear hown hn
      go_wp2_with (go_at_call 22; refine hj.mono ?_; rintro e w4 ⟨rfl, hb4⟩)
      go_ret2
      exact ⟨rfl, hW0.trans hb4⟩
end Go.Proofs.YtapalbokfbobhaaDoor
