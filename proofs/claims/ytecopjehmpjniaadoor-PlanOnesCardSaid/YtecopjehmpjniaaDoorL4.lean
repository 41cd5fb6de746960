/- What comes in: objects, classes, three limits; the card's frame. -/
import Derived.Test.YtecopjehmpjniaaDoorA4
import Derived.Test.YtecopjehmpjniaaDoorLaid
import Derived.Test.YtecopjehmpjniaaDoorOpens
import Derived.Test.YtecopjehmpjniaaDoorTie
import Derived.Test.YtecopjehmpjniaaDoorCards
import Derived.SevenTiedAt
import Derived.Deep.Strs
import Derived.ChangeSame
namespace Go.Proofs.YtecopjehmpjniaaDoor
set_option maxRecDepth 100000
open Go.ChangeShapes Go.WideShapes Go.ChangeAt Go.RowKit Go.Joins Go.Deep
set_option linter.unusedVariables false
set_option linter.unusedSimpArgs false



def laidL : List (String × DataW Unit) := Rows.planOnesRow.laid

/-- What the row's condition gives the walks. -/
theorem glob_of_laid {W : World} (h : laidMetH Tryd.prog laidL W) : Glob W := by
  rw [MakeChecks.laidMetH_plain _ _ _ (by kernel_rfl)] at h
  obtain ⟨ps, h, _⟩ := h
  obtain ⟨h1, q1, h⟩ := laid_bytes (a := 0) (d := 3) (g := 7) Tryd.underlying87 (by kernel_rfl) (by kernel_rfl) rfl rfl Tryd.underlying5 (by kernel_rfl) (by kernel_rfl) h
  obtain ⟨h2, q2, h⟩ := laid_bytes (a := 3) (d := 4) (g := 2) Tryd.underlying87 (by kernel_rfl) (by kernel_rfl) rfl rfl Tryd.underlying5 (by kernel_rfl) (by kernel_rfl) h
  obtain ⟨h3, q3, h⟩ := laid_bytes (a := 8) (d := 8) (g := 6) Tryd.underlying87 (by kernel_rfl) (by kernel_rfl) rfl rfl Tryd.underlying5 (by kernel_rfl) (by kernel_rfl) h
  obtain ⟨h4, q4, h⟩ := laid_bytes (a := 8) (d := 31) (g := 3) Tryd.underlying87 (by kernel_rfl) (by kernel_rfl) rfl rfl Tryd.underlying5 (by kernel_rfl) (by kernel_rfl) h
  obtain ⟨h5, q5, h⟩ := laid_bytes (a := 24) (d := 16) (g := 1) Tryd.underlying87 (by kernel_rfl) (by kernel_rfl) rfl rfl Tryd.underlying5 (by kernel_rfl) (by kernel_rfl) h
  obtain ⟨h6, q6, h⟩ := laid_bytes (a := 8) (d := 16) (g := 0) Tryd.underlying87 (by kernel_rfl) (by kernel_rfl) rfl rfl Tryd.underlying5 (by kernel_rfl) (by kernel_rfl) h
  obtain ⟨h7, q7, h⟩ := laid_bytes (a := 8) (d := 16) (g := 4) Tryd.underlying87 (by kernel_rfl) (by kernel_rfl) rfl rfl Tryd.underlying5 (by kernel_rfl) (by kernel_rfl) h
  obtain ⟨h8, _, _⟩ := laid_bytes (a := 24) (d := 24) (g := 5) Tryd.underlying87 (by kernel_rfl) (by kernel_rfl) rfl rfl Tryd.underlying5 (by kernel_rfl) (by kernel_rfl) h
  exact ⟨h1, h2, h3, h4, h5, h6, h7, h8⟩

/-- The heap that the program's own start leaves meets the condition. -/
theorem door_met (os : Os) (args : Array Value) : laidMetH Tryd.prog laidL ((World.doorLaid Tryd.prog 100 os).forCall (fun _ _ => 0) ⟨#[], args, []⟩).memory :=
  laidMetH_of_parts3 (fuel := 8) (laidMet_of_run' 8 (by kernel_rfl) (by kernel_rfl)) (by kernel_rfl) (by kernel_rfl)

section
variable {H : Type} {enc : TypeId × Value → H}
theorem law_lifted_laid {f : FuncId} {fn : Func} {s : ChangeSpec} (T : TypeId) (os : Os) (started : os.Started)
    (noInit : Tryd.prog.inits.idxOf? f = none) (hF : Tryd.prog.funcs[f]? = some fn)
    (hvars : s.vars = []) (hres : fn.resultTypes = #[T]) (hT : Tryd.prog.underlying T = some .bool)
    (hread : ∀ t ∈ fn.params.toList, Tryd.prog.readableRec t = true ∧ t < Tryd.prog.types.size)
    (hfn : ∀ l : List (DataW H), l.length = fn.params.size → s.fn H (l ++ []) = { results := [.lit (.bool true)], args := l })
    (witness : ∃ (w : World) (tape : Tape) (i : Input), w.os = os ∧ (w.forCall tape i).Shaped Tryd.checked.prog ∧ i.vars = [] ∧ Input.okWide Tryd.checked.prog (w.forCall tape i) .any w.heap.size f i ∧
      ((s.pre enc Tryd.checked.prog fn [] false (w.forCall tape i).memory i.args ∧ laidMetH Tryd.prog laidL (w.forCall tape i).memory) ∧ sizedMet enc Tryd.checked.prog fn (OpenSpec.ofChange s) false (w.forCall tape i).memory i.args) ∧ ({} : Assume).holds Tryd.checked.prog (lone (Frame.enter Tryd.checked.prog f i.args .normal) [] (w.forCall tape i)))
    (walk : ∀ (W : World) (base : Nat) (args : Array Value) (ds : List (DataW H)) (p : List MemPlace), Glob W →
      (∀ (j : Nat) t v, fn.params[j]? = some t → args[j]? = some v → Value.okWide Tryd.prog W .any base t v) →
      DataW.TrodAll enc Tryd.prog W 0 (fun _ => true) true fn.params.toList args.toList ds p → (∀ x ∈ p, x.block < W.heap.size) →
      Calls Tryd.prog f args W fun e W' => e = .returned (.bool true) ∧ Ext W W') :
    ReturnsInHanded {} Tryd.checked os f .any (fun w args => (s.pre enc Tryd.prog fn [] false w args ∧ laidMetH Tryd.prog laidL w) ∧ sizedMet enc Tryd.prog fn (OpenSpec.ofChange s) false w args) (s.post enc Tryd.prog fn false true false false) := by
  refine returnsInHanded_of_change_and (C := Tryd.checked) (X := fun w _ => laidMetH Tryd.prog laidL w) (fun _ _ _ hh h => h.of_heap hh) own started noInit hF witness ?_
  intro W base args ds gs before hval hW _ _ hL _
  have hW0 : DataW.Whole enc Tryd.prog fn.params.toList s.vars false W args.toList ds gs before := hW
  have hlt : ∀ p ∈ before, p.block < W.heap.size := fun p hp => hW0.lt p hp
  have hW2 := hW0
  obtain ⟨p, q, hA, hV, rfl, _, _⟩ := hW2
  refine (walk W base args ds p (glob_of_laid hL) hval hA (fun x hx => hlt x (List.mem_append_left _ hx))).mono fun e W' ⟨he, hb⟩ => ?_
  subst he
  exact ⟨_, rfl, law_post T hvars hres hT hread hfn hW0 hb⟩
end
theorem okWide_array {w : World} {base : Nat} {n : Nat} {t e : TypeId} {v : Value} (ht : Tryd.prog.underlying t = some (.array n e)) (h : Value.okWide Tryd.prog w .any base t v) : ∃ cs, v = .agg cs ∧ cs.size = Tryd.prog.cellsOf t := by
  simp only [Value.okWide, ht] at h
  cases v <;> simp_all
section
variable {H : Type} {enc : TypeId × Value → H} {W : World} {base : Nat}
theorem bd_u8 {x : Int} (h : (Lit.int .u8 x).wf = true) : 0 ≤ x ∧ x ≤ 255 := by have := bounds_u8 h; omega
theorem bd_u64 {x : Int} (h : (Lit.int .u64 x).wf = true) : InW x := by have := bounds_u64 h; unfold InW two64; omega
theorem bd_i64 {x : Int} (h : (Lit.int .i64 x).wf = true) : -9223372036854775808 ≤ x ∧ x ≤ 9223372036854775807 := by have := bounds_i64 h; omega
theorem open_elemsC {t e : TypeId} {sz fuel : Nat} {cs0 : List Value} {x : DataW H × List MemPlace} (ht : Tryd.prog.underlying t = some (.slice e)) (hc : Tryd.prog.cellsOf e = sz) (hsz : 0 < sz)
    (hf : DataW.trod enc Tryd.prog W 0 (fun _ => true) true fuel t cs0 = some x) :
      ∃ (A : Option Addr) (n c : Nat) (xs : List Value), cs0 = [.slice A n c] ∧ n ≤ c ∧ c ≤ maxLen ∧ Sl W W.heap.size sz A n xs ∧
      ∀ i, i < n → ∃ m y, DataW.trod enc Tryd.prog W 0 (fun _ => true) true m e ((xs.drop (i * sz)).take sz) = some y := by
  rcases open_slice ht hf with ⟨hcs, _⟩ | ⟨a, n, c, m, k, D, Pl, hcs, _, hl, hm, hmm, _, hel⟩
  · subst hcs
    exact ⟨none, 0, 0, [], rfl, Nat.le_refl _, by unfold maxLen; omega, ⟨by simp, fun h => absurd h (by omega)⟩, fun i hi => absurd hi (by omega)⟩
  · subst hcs
    have hml : n ≤ m := by rw [hmm]; simpa using hl
    have hcell : ∀ i, i < n → ∀ j, j < sz → ∃ u, W.cell? ⟨a.block, a.off + (i * sz + j), none⟩ = some u := by
      intro i hi j hj
      obtain ⟨cs', hcs', _⟩ := hel i (by omega)
      rw [hc] at hcs'
      obtain ⟨_, hlen, hat⟩ := World.cells?_some hcs'
      have h1 := hat j hj
      rw [List.getElem?_eq_getElem (by omega)] at h1
      rw [add_add] at h1
      exact ⟨_, add_form h1⟩
    have hall : ∀ j, j < n * sz → ∃ u, W.cell? ⟨a.block, a.off + j, none⟩ = some u := by
      intro j hj
      have h1 : j / sz < n := (Nat.div_lt_iff_lt_mul hsz).2 hj
      have h2 : j % sz < sz := Nat.mod_lt _ hsz
      have h3 := hcell (j / sz) h1 (j % sz) h2
      have e : j / sz * sz + j % sz = j := by rw [Nat.mul_comm]; exact Nat.div_add_mod j sz
      rwa [e] at h3
    let xs := (List.range (n * sz)).map fun j => (W.cell? ⟨a.block, a.off + j, none⟩).getD undef
    have hxs : ∀ j, j < n * sz → W.cell? ⟨a.block, a.off + j, none⟩ = xs[j]? := by
      intro j hj
      obtain ⟨u, hu⟩ := hall j hj
      simp [xs, hj, hu]
    refine ⟨some a, n, c, xs, rfl, hl, hm, ⟨by simp [xs], fun hn => ?_⟩, fun i hi => ?_⟩
    · obtain ⟨u, hu⟩ := hall 0 (Nat.mul_pos hn hsz)
      have hblk := World.block_lt_of_cell? W _ hu
      obtain ⟨cs', hcs', _⟩ := hel 0 (by omega)
      rw [hc] at hcs'
      obtain ⟨_, hlen, hat⟩ := World.cells?_some hcs'
      have h1 := hat 0 hsz
      rw [List.getElem?_eq_getElem (by omega), Nat.zero_mul] at h1
      have hs : a.spot = none := by
        have h2 : (a.add 0).add 0 = a := by simp [Addr.add]
        rw [h2] at h1
        exact World.cell?_spot h1
      obtain ⟨b, off, sp⟩ := a
      simp only at hs
      subst hs
      exact ⟨b, off, rfl, hblk, hxs⟩
    · obtain ⟨cs', hcs', htr⟩ := hel i (by omega)
      rw [hc] at hcs'
      obtain ⟨_, hlen, hat⟩ := World.cells?_some hcs'
      have e : (xs.drop (i * sz)).take sz = cs' := by
        apply List.ext_getElem?
        intro j
        rw [List.getElem?_take]
        by_cases hj : j < sz
        · rw [if_pos hj, List.getElem?_drop]
          have hij : i * sz + j < n * sz := by
            have : (i + 1) * sz ≤ n * sz := Nat.mul_le_mul_right _ hi
            rw [Nat.add_mul, Nat.one_mul] at this
            omega
          rw [← hxs _ hij, ← hat j hj]
          have h1 := hat j hj
          rw [List.getElem?_eq_getElem (by omega)] at h1
          rw [h1]
          rw [add_add] at h1
          exact add_form h1
        · rw [if_neg hj, List.getElem?_eq_none (by omega)]
      rw [e]
      exact ⟨k, _, htr⟩
theorem ch_of {A : Option Addr} {n : Nat} {xs : List Value} (hs : Sl W W.heap.size 1 A n xs)
    (hel : ∀ i, i < n → ∃ m y, DataW.trod enc Tryd.prog W 0 (fun _ => true) true m 3 ((xs.drop (i * 1)).take 1) = some y) : ∃ l : List Int, l.length = n ∧ Ch W A l := by
  have h1 : ∀ i, i < n → ∃ q : Int, xs[i]? = some (.int .i64 q) := by
    intro i hi
    obtain ⟨m, y, ht⟩ := hel i hi
    obtain ⟨q0, e0, _, w0⟩ := DataW.trod_int Tryd.underlying3 ht
    have e := congrArg (·[0]?) e0
    simp at e
    exact ⟨q0, e⟩
  obtain ⟨g, hg⟩ := choose_lt h1
  refine ⟨(List.range n).map g, by simp, ?_⟩
  rcases Nat.eq_zero_or_pos n with h0 | h0
  · exact .inl (by simp [h0])
  · obtain ⟨b, off, ha, hb, hc⟩ := hs.2 h0
    exact .inr ⟨b, off, ha, hb, fun j hj => by
      simp at hj
      rw [hc j (by omega), hg j hj]
      simp⟩
theorem open_cells {fuel : Nat} {cs : List Value} {x : DataW H × List MemPlace} (hl : cs.length = 3) (ht : DataW.trod enc Tryd.prog W 0 (fun _ => true) true fuel 25 cs = some x) : ∃ s : Ob, cs = (sc s).toList ∧ OkO W s := by
  obtain ⟨y0, y1, y2, k, _, _, t0, t1, t2⟩ := trod_struct3 Tryd.underlying25 ht
  obtain ⟨q0, e0, _, w0⟩ := DataW.trod_int Tryd.underlying22 t0
  obtain ⟨q1, e1, _, w1⟩ := DataW.trod_int Tryd.underlying3 t1
  match cs, hl with
  | [c0, c1, c2], _ =>
    simp [show Tryd.prog.cellsOf 22 = 1 from by kernel_rfl, show Tryd.prog.cellsOf 3 = 1 from by kernel_rfl, show Tryd.prog.cellsOf 23 = 1 from by kernel_rfl] at e0 e1 t2
    obtain ⟨A, n, c, xs, e2, hnc, hc, hs, hel⟩ := open_elemsC Tryd.underlying23 (sz := 1) (by kernel_rfl) (by omega) t2
    obtain ⟨l, rfl, hch⟩ := ch_of hs hel
    simp only [List.cons.injEq, and_true] at e2
    subst e0 e1 e2
    exact ⟨⟨q0, q1, A, c, l⟩, rfl, bd_u64 w0, hch, hnc, hc⟩
theorem open_clsC {fuel : Nat} {cs : List Value} {x : DataW H × List MemPlace} (hl : cs.length = 3) (ht : DataW.trod enc Tryd.prog W 0 (fun _ => true) true fuel 76 cs = some x) : ∃ s : Kl, cs = (kc s).toList ∧ OkK s := by
  obtain ⟨y0, y1, y2, k, _, _, t0, t1, t2⟩ := trod_struct3 Tryd.underlying76 ht
  obtain ⟨b, e0, _⟩ := DataW.trod_bool Tryd.underlying4 t0
  obtain ⟨q1, e1, _, w1⟩ := DataW.trod_int Tryd.underlying5 t1
  obtain ⟨q2, e2, _, w2⟩ := DataW.trod_int Tryd.underlying3 t2
  match cs, hl with
  | [c0, c1, c2], _ =>
    simp [show Tryd.prog.cellsOf 4 = 1 from by kernel_rfl, show Tryd.prog.cellsOf 5 = 1 from by kernel_rfl, show Tryd.prog.cellsOf 3 = 1 from by kernel_rfl] at e0 e1 e2
    subst e0 e1 e2
    exact ⟨⟨b, q1, q2⟩, rfl, (bd_u8 w1).1, (bd_u8 w1).2, (bd_i64 w2).1, (bd_i64 w2).2⟩
/-- Cells told by their elements. -/
theorem xs_fl {α : Type} {en : α → Array Value} {sz n : Nat} (H : ∀ x, (en x).size = sz) (hsz : 0 < sz) {xs : List Value} {f : Nat → α} (hl : xs.length = n * sz) (h : ∀ i, i < n → ((xs.drop (i * sz)).take sz) = (en (f i)).toList) : xs = fl en ((List.range n).map f) := by
  apply List.ext_getElem?
  intro p
  by_cases hp : p < n * sz
  · have h1 : p / sz < n := (Nat.div_lt_iff_lt_mul hsz).2 hp
    have h2 : p % sz < sz := Nat.mod_lt _ hsz
    have e : p / sz * sz + p % sz = p := by rw [Nat.mul_comm]; exact Nat.div_add_mod p sz
    have h3 := congrArg (·[p % sz]?) (h (p / sz) h1)
    simp only [List.getElem?_take, if_pos h2, List.getElem?_drop, Array.getElem?_toList] at h3
    have h4 := fl_at H ((List.range n).map f) (p / sz) (p % sz) (by simpa using h1) h2
    rw [e] at h3 h4
    rw [h3, h4]
    simp
  · rw [List.getElem?_eq_none (by omega), List.getElem?_eq_none (by rw [fl_len H]; simp; omega)]
theorem open_obj {v : Value} {d : DataW H} {p : List MemPlace} (hv : Value.okWide Tryd.prog W .any base 25 v) (h : DataW.Trod enc Tryd.prog W 0 (fun _ => true) true 25 v d p) : ∃ x : Ob, v = .agg (sc x) ∧ OkO W x := by
  obtain ⟨cs, rfl, hsz⟩ := okWide_struct Tryd.underlying25 hv
  have hsz2 : cs.size = 3 := hsz.trans (by kernel_rfl)
  obtain ⟨fuel, hf⟩ := h
  obtain ⟨s, e, ok⟩ := open_cells (by simpa [Value.cells] using hsz2) hf
  exact ⟨s, by rw [show cs = sc s from Array.toList_inj.1 (by simpa [Value.cells] using e)], ok⟩
theorem open_objs {v : Value} {d : DataW H} {p : List MemPlace} (hv : Value.okWide Tryd.prog W .any base 38 v) (h : DataW.Trod enc Tryd.prog W 0 (fun _ => true) true 38 v d p) :
    ∃ (A : Option Addr) (c : Nat) (l : List Ob), v = .slice A l.length c ∧ l.length ≤ c ∧ c ≤ maxLen ∧ Sl W W.heap.size 3 A l.length (fl sc l) ∧ ∀ x, x ∈ l → OkO W x := by
  obtain ⟨A, n, c, xs, rfl, hnc, hc, hs, hel⟩ := open_elems Tryd.underlying38 (sz := 3) (by kernel_rfl) (by omega) hv h
  have h1 : ∀ i, i < n → ∃ s : Ob, ((xs.drop (i * 3)).take 3) = (sc s).toList ∧ OkO W s := by
    intro i hi
    obtain ⟨m, y, ht⟩ := hel i hi
    have hl : ((xs.drop (i * 3)).take 3).length = 3 := by
      have := hs.1
      have : (i + 1) * 3 ≤ n * 3 := Nat.mul_le_mul_right _ hi
      simp; omega
    exact open_cells hl ht
  obtain ⟨f, hf⟩ := choose_lt h1
  have e := xs_fl sc_size (by omega) hs.1 (fun i hi => (hf i hi).1)
  refine ⟨A, c, (List.range n).map f, by simp, by simpa using hnc, hc, by rw [← e]; simpa using hs, fun x hx => ?_⟩
  obtain ⟨i, hi, rfl⟩ := List.mem_map.1 hx
  exact (hf i (List.mem_range.1 hi)).2
theorem open_clss {v : Value} {d : DataW H} {p : List MemPlace} (hv : Value.okWide Tryd.prog W .any base 39 v) (h : DataW.Trod enc Tryd.prog W 0 (fun _ => true) true 39 v d p) :
    ∃ (A : Option Addr) (c : Nat) (l : List Kl), v = .slice A l.length c ∧ l.length ≤ c ∧ c ≤ maxLen ∧ Sl W W.heap.size 3 A l.length (fl kc l) ∧ ∀ x, x ∈ l → OkK x := by
  obtain ⟨A, n, c, xs, rfl, hnc, hc, hs, hel⟩ := open_elems Tryd.underlying39 (sz := 3) (by kernel_rfl) (by omega) hv h
  have h1 : ∀ i, i < n → ∃ s : Kl, ((xs.drop (i * 3)).take 3) = (kc s).toList ∧ OkK s := by
    intro i hi
    obtain ⟨m, y, ht⟩ := hel i hi
    have hl : ((xs.drop (i * 3)).take 3).length = 3 := by
      have := hs.1
      have : (i + 1) * 3 ≤ n * 3 := Nat.mul_le_mul_right _ hi
      simp; omega
    exact open_clsC hl ht
  obtain ⟨f, hf⟩ := choose_lt h1
  have e := xs_fl kc_size (by omega) hs.1 (fun i hi => (hf i hi).1)
  refine ⟨A, c, (List.range n).map f, by simp, by simpa using hnc, hc, by rw [← e]; simpa using hs, fun x hx => ?_⟩
  obtain ⟨i, hi, rfl⟩ := List.mem_map.1 hx
  exact (hf i (List.mem_range.1 hi)).2
theorem open_three {v : Value} {d : DataW H} {p : List MemPlace} (hv : Value.okWide Tryd.prog W .any base 40 v) (h : DataW.Trod enc Tryd.prog W 0 (fun _ => true) true 40 v d p) :
    ∃ a b c : Int, v = .agg #[.int .i64 a, .int .i64 b, .int .i64 c] := by
  obtain ⟨cs, rfl, hsz⟩ := okWide_array Tryd.underlying40 hv
  have hsz2 : cs.size = 3 := hsz.trans (by kernel_rfl)
  obtain ⟨l⟩ := cs
  match l, hsz2 with
  | [c0, c1, c2], _ =>
    obtain ⟨fuel, hf⟩ := h
    obtain ⟨xs, m, _, _, _, hl, hel⟩ := DataW.trod_array Tryd.underlying40 hf
    have hc : Tryd.prog.cellsOf 3 = 1 := by kernel_rfl
    rw [hc] at hel
    have g0 := hel 0 (by omega)
    have g1 := hel 1 (by omega)
    have g2 := hel 2 (by omega)
    rw [List.getElem?_eq_getElem (by omega)] at g0 g1 g2
    obtain ⟨a, e0, _, wa⟩ := DataW.trod_int Tryd.underlying3 g0
    obtain ⟨b, e1, _, wb⟩ := DataW.trod_int Tryd.underlying3 g1
    obtain ⟨c, e2, _, wc⟩ := DataW.trod_int Tryd.underlying3 g2
    simp [Value.cells] at e0 e1 e2
    subst e0 e1 e2
    exact ⟨a, b, c, rfl⟩
end
end Go.Proofs.YtecopjehmpjniaaDoor
