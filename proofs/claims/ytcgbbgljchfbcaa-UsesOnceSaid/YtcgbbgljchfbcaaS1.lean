/- What the laws of layer 11 share: a book that is alive; steps that are not too many; the steps that come in; lists held against each other. -/
import Derived.Test.YtcgbbgljchfbcaaR3
import Derived.Test.YtcgbbgljchfbcaaR2
import Derived.Test.YtcgbbgljchfbcaaOpens
import Derived.Deep.Strs
import Derived.ChangeSame
namespace Go.Proofs.Ytcgbbgljchfbcaa
set_option maxRecDepth 100000
open Go.ChangeShapes Go.WideShapes Go.ChangeAt Go.RowKit Go.Deep Go.Joins
set_option linter.unusedVariables false
set_option linter.unusedSimpArgs false

theorem low2 {B a b : Nat} (ha : B ≤ a) (hb : B ≤ b) : ∀ t, t ∈ [a, b] → B ≤ t := by intro t ht; simp at ht; omega
def T1 : List Pr := [⟨1, 7, 0⟩]
theorem alive_any (w : World) : Calls Try.prog 22 #[] w fun e w' => e = .returned (.bool true) ∧ Ext w w' := by
  go_enter Try.func22, Try.ntmps22
  go_wp2_with fail
  refine (new_any w).mono ?_
  rintro e w1 ⟨C, m1, m2, rfl, hm, hC, h1, h2, hX⟩
  have ha := add_in (p := ⟨1, 7, 0⟩) hm ⟨by decide, by decide⟩
  rw [show addE [] ⟨1, 7, 0⟩ = 0 from rfl, show addS [] ⟨1, 7, 0⟩ = T1 from rfl] at ha
  simp only at ha
  go_wp2_with fail
  refine ha.mono ?_
  rintro e w2 ⟨rfl, hm, hc⟩
  have hX := hX.turn hc (low2 h1 h2)
  clear hc ha
  have hs := slot_any hm.any (z := 7) (by decide)
  rw [show slotA T1 7 = 1 from rfl, show slotB T1 7 = true from rfl] at hs
  go_wp2_with fail
  refine hs.mono ?_
  rintro e w3 ⟨rfl, hx⟩
  have hm := hm.ext hx
  have hX := hX.trans hx
  clear hs hx
  have ha := add_in (p := ⟨2, 7, 0⟩) hm ⟨by decide, by decide⟩
  rw [show addE T1 ⟨2, 7, 0⟩ = 7 from rfl, show addS T1 ⟨2, 7, 0⟩ = T1 from rfl] at ha
  simp only at ha
  go_wp2_with fail
  refine ha.mono ?_
  rintro e w4 ⟨rfl, hm, hc⟩
  have hX := hX.turn hc (low2 h1 h2)
  clear hc ha
  have hl := len_any hm.any
  rw [show ((T1.length : Nat) : Int) = 1 from rfl] at hl
  go_wp2_with fail
  refine hl.mono ?_
  rintro e w5 ⟨rfl, hx⟩
  go_wp2_with fail
  go_ret
  exact ⟨by simp, hX.trans hx⟩
theorem short_any (A : Option Addr) (n c : Nat) (w : World) (hn : n ≤ c) (hc : c ≤ maxLen) :
    Calls Try.prog 8 #[.slice A n c] w fun e w' => e = .returned (.slice A (min n 200) c) ∧ w = w' := by
  unfold maxLen at hc
  by_cases h : n ≤ 200
  · have h1 : (n : Int) ≤ 200 := by omega
    have E := hide (show min n 200 = n by omega)
    go_enter Try.func8, Try.ntmps8
    go_wp2
    go_ret
    exact ⟨by rw [E.out]; simp <;> omega, rfl⟩
  · have h1 : ¬ (n : Int) ≤ 200 := by omega
    have E := hide (show min n 200 = 200 by omega)
    have h2 : 200 ≤ c := by omega
    go_enter Try.func8, Try.ntmps8
    go_wp2
    go_ret
    exact ⟨by rw [E.out]; simp <;> omega, rfl⟩
theorem run_neqRP (a b c : Int) (w : World) : Sem.run Try.prog (binOp .neq 30 (.agg #[.int .i64 a, .int .i64 b, .int .i64 c]) (.agg #[.int .i64 a, .int .i64 b, .int .i64 c])) w = .ok (.bool false) w := by
  go_simp
theorem run_neqP (a b c : Int) (w : World) : Sem.run Try.prog (binOp .neq 33 (.agg #[.int .i64 a, .int .i64 b, .int .i64 c]) (.agg #[.int .i64 a, .int .i64 b, .int .i64 c])) w = .ok (.bool false) w := by
  go_simp
theorem Blk.sl {w : World} {b : Nat} {p : Pr} {t : TypeId} (h : Blk w b #[.int .i64 p.s, .int .i64 p.o, .int .i64 p.t] t) : Sl w w.heap.size 3 (some ⟨b, 0, none⟩) 1 (pcells [p]) :=
  ⟨rfl, fun _ => ⟨b, 0, rfl, h.lt, fun j hj => by rw [Nat.zero_add, h.cell, ← Array.getElem?_toList]; rfl⟩⟩
set_option maxRecDepth 100000 in
/-- One list twice is the same. -/
theorem same_any {w : World} {A1 A2 : Option Addr} {c1 c2 : Nat} {l : List Pr} (h1 : Sl w w.heap.size 3 A1 l.length (pcells l)) (h2 : Sl w w.heap.size 3 A2 l.length (pcells l)) (hl : l.length ≤ 4096) :
    Calls Try.prog 11 #[.slice A1 l.length c1, .slice A2 l.length c2] w fun e w' => e = .returned (.bool true) ∧ Ext w w' := by
  have H1 := hide h1
  have H2 := hide h2
  have hW0 := Ext.refl w
  have hq := run_neqRP
  clear h1 h2
  go_enter Try.func11, Try.ntmps11
  go_wp2_with fail
  go_loopw [14] (fun i wr => ∃ j : Nat, j ≤ l.length ∧ i = .int .i64 (j : Int) ∧ Ext w wr) (fun i _ => l.length - (intOf i).toNat)
  case atStart => exact ⟨0, by omega, rfl, hW0⟩
  case round =>
    clear hW0
    obtain ⟨j, hj, rfl, hW0⟩ := hrel
    by_cases hlt : j < l.length
    · obtain ⟨b1, o1, rfl, r0, r1, r2⟩ := (H1.out.ext hW0 (Nat.le_refl _)).prR hW0.size hlt
      obtain ⟨b2, o2, rfl, s0, s1, s2⟩ := (H2.out.ext hW0 (Nat.le_refl _)).prR hW0.size hlt
      have E := hide (rfl : l[j] = l[j])
      generalize l[j] = q at *
      have r0' := r0 _ (Ext.refl _)
      have r1' := r1 _ (Ext.refl _)
      have r2' := r2 _ (Ext.refl _)
      have hA := Ext.alloc wr (.cells #[.int .i64 q.s, .int .i64 q.o, .int .i64 q.t] 33)
      have HB := hide (Blk.new wr #[.int .i64 q.s, .int .i64 q.o, .int .i64 q.t] 33)
      have t0 := fun w' (x : Ext (wr.alloc (.cells #[.int .i64 q.s, .int .i64 q.o, .int .i64 q.t] 33)) w') => s0 w' (hA.trans x)
      have t1 := fun w' (x : Ext (wr.alloc (.cells #[.int .i64 q.s, .int .i64 q.o, .int .i64 q.t] 33)) w') => s1 w' (hA.trans x)
      have t2 := fun w' (x : Ext (wr.alloc (.cells #[.int .i64 q.s, .int .i64 q.o, .int .i64 q.t] 33)) w') => s2 w' (hA.trans x)
      have rb := fun w' (x : Ext (wr.alloc (.cells #[.int .i64 q.s, .int .i64 q.o, .int .i64 q.t] 33)) w') => (HB.out.ext x).cell
      have HX := hide (hW0.trans hA)
      clear r0 r1 r2 s0 s1 s2 hA
      go_wp2_with fail
      generalize wr.alloc (.cells #[.int .i64 q.s, .int .i64 q.o, .int .i64 q.t] 33) = W1 at *
      have hW := Ext.refl W1
      clear r0' r1' r2'
      refine wp_region_ext (by kernel_rfl) (by kernel_rfl) ?_
      repeat
        with_reducible refine wpQuiet_step (fun K hK => ?_)
        go_simp
        first
        | (refine hK _ ?_; clear hK K)
        | (apply Exists.intro
           refine ⟨fun w1 h1 => ?_, hK _ ?_⟩
           (have hW := Ext.trans2 hW (by repeat (first | exact Ext.refl _ | exact Ext.alloc _ _ | exact Ext.drewN _ _ | assumption | refine Ext.trans ?_ (Ext.alloc _ _) | refine Ext.trans ?_ (Ext.drew _) | refine Ext.trans ?_ (by assumption))) h1; (try have hV := Ext.trans2 hV (by repeat (first | exact Ext.refl _ | exact Ext.alloc _ _ | exact Ext.drewN _ _ | assumption | refine Ext.trans ?_ (Ext.alloc _ _) | refine Ext.trans ?_ (Ext.drew _) | refine Ext.trans ?_ (by assumption))) h1); (first | rfl | (go_simp; done) | (go_simp; rfl) | fail))
           clear hK K)
      refine wpQuiet_nil (fun w' hw' => ?_)
      have hW := Ext.trans2 hW (by repeat (first | exact Ext.refl _ | exact Ext.alloc _ _ | exact Ext.drewN _ _ | assumption | refine Ext.trans ?_ (Ext.alloc _ _) | refine Ext.trans ?_ (Ext.drew _) | refine Ext.trans ?_ (by assumption))) hw'
      try have hV := Ext.trans2 hV (by repeat (first | exact Ext.refl _ | exact Ext.alloc _ _ | exact Ext.drewN _ _ | assumption | refine Ext.trans ?_ (Ext.alloc _ _) | refine Ext.trans ?_ (Ext.drew _) | refine Ext.trans ?_ (by assumption))) hw'
      clear hw'
      go_wp2_with fail
      go_roundw
      case rel => exact ⟨j + 1, by omega, by go_num, HX.out.trans hW⟩
      case measure => simp [intOf]; omega
    · obtain rfl : j = l.length := by omega
      go_wp2_with fail
      go_ret
      exact ⟨rfl, hW0⟩
/-- A step: its kind, its pair. -/
structure Stp where
  k : Int
  p : Pr
instance : Inhabited Stp := ⟨⟨0, pz⟩⟩
def sc (s : Stp) : Array Value := #[.int .u8 s.k, .int .i64 s.p.s, .int .i64 s.p.o, .int .i64 s.p.t]
structure Okst (s : Stp) : Prop where
  k0 : 0 ≤ s.k
  k1 : s.k ≤ 255
  s0 : (ky s.p.s).wf = true
  o0 : (ky s.p.o).wf = true
  t0 : (ky s.p.t).wf = true
/-- The steps that a slice reads as. -/
def Stps (w : World) (B : Nat) (A : Option Addr) (n : Nat) (f : Nat → Stp) : Prop :=
  ∀ k, k < n → ∃ b off, A = some ⟨b, off, none⟩ ∧ b < B ∧ ∀ i, i < 4 → w.cell? ⟨b, off + (k * 4 + i), none⟩ = (sc (f k))[i]?
theorem Stps.chg {w w' : World} {B n : Nat} {A : Option Addr} {f : Nat → Stp} (h : Stps w B A n f) (x : Ext w w') (hB : B ≤ w.heap.size) : Stps w' B A n f := fun k hk => by
  obtain ⟨b, off, ha, hb, hc⟩ := h k hk
  exact ⟨b, off, ha, hb, fun i hi => (x.oldCell _ _ (by omega)).trans (hc i hi)⟩
theorem Stps.rules {w : World} {B n : Nat} {A : Option Addr} {f : Nat → Stp} (h : Stps w B A n f) {k : Nat} (hk : k < n) :
    ∃ b off, A = some ⟨b, off, none⟩ ∧ b < B ∧ w.cell? ⟨b, off + k * 4, none⟩ = some (.int .u8 (f k).k) ∧ w.cell? ⟨b, off + k * 4 + 1, none⟩ = some (.int .i64 (f k).p.s) ∧ w.cell? ⟨b, off + k * 4 + 2, none⟩ = some (.int .i64 (f k).p.o) ∧ w.cell? ⟨b, off + k * 4 + 3, none⟩ = some (.int .i64 (f k).p.t) := by
  obtain ⟨b, off, ha, hb, hc⟩ := h k hk
  refine ⟨b, off, ha, hb, hc 0 (by omega), ?_, ?_, ?_⟩
  · rw [Nat.add_assoc]; exact hc 1 (by omega)
  · rw [Nat.add_assoc]; exact hc 2 (by omega)
  · rw [Nat.add_assoc]; exact hc 3 (by omega)
section
variable {H : Type} {enc : TypeId × Value → H} {W : World} {base : Nat}
theorem open_pr {fuel : Nat} {cs : List Value} {x : DataW H × List MemPlace} {spare : Nat → Bool} {held : Bool} {b0 : Nat} (hl : cs.length = 3) (ht : DataW.trod enc Try.prog W b0 spare held fuel 30 cs = some x) : ∃ p : Pr, cs = [.int .i64 p.s, .int .i64 p.o, .int .i64 p.t] ∧ (ky p.s).wf = true ∧ (ky p.o).wf = true ∧ (ky p.t).wf = true := by
  obtain ⟨y0, y1, y2, k, _, _, t0, t1, t2⟩ := trod_struct3 Try.underlying30 ht
  obtain ⟨q0, e0, _, w0⟩ := DataW.trod_int Try.underlying3 t0
  obtain ⟨q1, e1, _, w1⟩ := DataW.trod_int Try.underlying3 t1
  obtain ⟨q2, e2, _, w2⟩ := DataW.trod_int Try.underlying3 t2
  match cs, hl with
  | [c0, c1, c2], _ =>
    simp [show Try.prog.cellsOf 3 = 1 from by kernel_rfl] at e0 e1 e2
    subst e0 e1 e2
    exact ⟨⟨q0, q1, q2⟩, rfl, w0, w1, w2⟩
theorem open_cells {fuel : Nat} {cs : List Value} {x : DataW H × List MemPlace} (hl : cs.length = 4) (ht : DataW.trod enc Try.prog W 0 (fun _ => true) true fuel 32 cs = some x) : ∃ s : Stp, cs = (sc s).toList ∧ Okst s := by
  obtain ⟨y0, y1, k, _, _, t0, t1⟩ := trod_struct2 Try.underlying32 ht
  obtain ⟨q0, e0, _, w0⟩ := DataW.trod_int Try.underlying5 t0
  have b0 := bounds_u8 w0
  match cs, hl with
  | [c0, c1, c2, c3], _ =>
    simp [show Try.prog.cellsOf 5 = 1 from by kernel_rfl, show Try.prog.cellsOf 30 = 3 from by kernel_rfl] at e0 t1
    obtain ⟨p, e1, w1, w2, w3⟩ := open_pr (by rfl) t1
    simp only [List.cons.injEq, and_true] at e1
    obtain ⟨rfl, rfl, rfl⟩ := e1
    subst e0
    exact ⟨⟨q0, p⟩, rfl, by simp only; omega, by simp only; omega, w1, w2, w3⟩
theorem open_steps {v : Value} {d : DataW H} {p : List MemPlace} (hv : Value.okWide Try.prog W .any base 22 v) (h : DataW.Trod enc Try.prog W 0 (fun _ => true) true 22 v d p) :
    ∃ (A : Option Addr) (n c : Nat) (f : Nat → Stp), v = .slice A n c ∧ n ≤ c ∧ c ≤ maxLen ∧ Stps W W.heap.size A n f ∧ ∀ k, k < n → Okst (f k) := by
  obtain ⟨A, n, c, xs, rfl, hnc, hc, hs, hel⟩ := open_elems Try.underlying22 (sz := 4) (by kernel_rfl) (by omega) hv h
  have h1 : ∀ i, i < n → ∃ s : Stp, (∀ j, j < 4 → xs[i * 4 + j]? = (sc s)[j]?) ∧ Okst s := by
    intro i hi
    obtain ⟨m, y, ht⟩ := hel i hi
    have hl : ((xs.drop (i * 4)).take 4).length = 4 := by
      have := hs.1
      have : (i + 1) * 4 ≤ n * 4 := Nat.mul_le_mul_right _ hi
      simp; omega
    obtain ⟨s, hs2, ok⟩ := open_cells hl ht
    refine ⟨s, fun j hj => ?_, ok⟩
    have e := congrArg (·[j]?) hs2
    simp only [List.getElem?_take, if_pos hj, List.getElem?_drop, Array.getElem?_toList] at e
    exact e
  obtain ⟨f, hf⟩ := choose_lt h1
  refine ⟨A, n, c, f, rfl, hnc, hc, fun k hk => ?_, fun k hk => (hf k hk).2⟩
  obtain ⟨b, off, ha, hb, hcells⟩ := hs.at_ hk
  exact ⟨b, off, ha, hb, fun i hi => (hcells i hi).trans ((hf k hk).1 i hi)⟩
/-- A pair that comes in. -/
theorem open_pair {v : Value} {d : DataW H} {p : List MemPlace} (hv : Value.okWide Try.prog W .any base 30 v) (h : DataW.Trod enc Try.prog W 0 (fun _ => true) true 30 v d p) :
    ∃ q : Pr, v = (Value.agg #[.int .i64 q.s, .int .i64 q.o, .int .i64 q.t]) ∧ (ky q.s).wf = true ∧ (ky q.o).wf = true ∧ (ky q.t).wf = true := by
  obtain ⟨cs, rfl, hsz⟩ := okWide_struct Try.underlying30 hv
  obtain ⟨fuel, hf⟩ := h
  have hl : cs.toList.length = 3 := by rw [Array.length_toList, hsz]; kernel_rfl
  obtain ⟨q, e, h1, h2, h3⟩ := open_pr hl hf
  exact ⟨q, by congr 1; exact Array.toList_inj.1 e, h1, h2, h3⟩
end
end Go.Proofs.Ytcgbbgljchfbcaa
