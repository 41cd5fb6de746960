/-
  The laws of layer 16 (OpTexts, OpBack, OpOnce) hold of every input: each tied card stands.
  Conditions: the six package variables that the rows list (the two tables of math/bits, the powers of ten of internal/strconv, the two tables of unicode/utf8, and package op's own table of words) hold when the call begins what the text lays; the card ties the first five of kind 'data' to the text of the seat's pruned copy by the wider look, and the last to the pinned table; it says nothing of code outside that copy. The variable that bounds the library's search may hold any number. No condition on the input.
-/
import Derived.Test.YtapalbokfbobhaaDoorL4
import Derived.Test.YtapalbokfbobhaaDoorFrame
import Derived.Test.YtapalbokfbobhaaDoorOpens
import Derived.LaidMore
import Derived.MakeChecks
import Derived.Stop.Joined
import Derived.OpenShut
import Derived.Lay
import Derived.Lib.LaidTab
import Derived.Shelf.Vars
import Derived.Test.YtapalbokfbobhaaDoorTie
import Derived.Test.YtapalbokfbobhaaDoorCards
import Derived.SevenTiedAt
namespace Go.Proofs.YtapalbokfbobhaaDoor
open Go.ChangeShapes Go.WideShapes Go.ChangeAt Go.RowKit Go.Joins Go.Deep
set_option linter.unusedVariables false
set_option maxRecDepth 100000

def laidL : List (String × DataW Unit) := Rows.opTextsRow.laid
theorem pow_eq : (Rows.laid_internal_strconv_uint64pow10 : DataW Unit) = Lib.tabData .u64 Lib.pow10Tab := rfl
theorem words_eq : (Rows.laid_futtock_op_words : DataW Unit) = .agg ((List.range 10).map fun j => .lit (.string (wd j))) := rfl

/-- What the row's condition gives the walks. -/
theorem glob_of_laid {W : World} (h : laidMetH Tryd.prog laidL W) (hm : ∃ m, W.cell? ⟨1, 0, none⟩ = some (.int .i64 m)) : Glob W := by
  rw [MakeChecks.laidMetH_plain _ _ _ (by kernel_rfl)] at h
  obtain ⟨ps, h, _⟩ := h
  obtain ⟨_, _, _, _, _, _, _, _, _, _, h, _⟩ := h
  obtain ⟨_, _, _, _, _, _, _, _, _, _, h, _⟩ := h
  have hpow : Lib.TabIs Tryd.prog W "internal/strconv.uint64pow10" .u64 Lib.pow10Tab := by
    obtain ⟨g', t', cs, fuel, p, q, hg, ht', hv, hd, _, _⟩ := h
    obtain rfl : 101 = t' := by
      obtain rfl : 4 = g' := Option.some.inj ((show Tryd.prog.globalNamed "internal/strconv.uint64pow10" = some 4 by kernel_rfl).symm.trans hg)
      exact Option.some.inj ((show (Tryd.prog.globals[4]?).map (·.type) = some 101 by kernel_rfl).symm.trans ht')
    rw [pow_eq] at hd
    unfold Lib.TabIs
    rw [hv, ← Lib.cells_of_tab Tryd.underlying101 Tryd.underlying89 (by kernel_rfl) (by kernel_rfl) hd]
  obtain ⟨_, _, _, _, _, _, _, _, _, _, h, _⟩ := h
  obtain ⟨_, _, _, _, _, _, _, _, _, _, h, _⟩ := h
  obtain ⟨g', t', cs, fuel, p, q, hg, ht', hv, hd, _, _⟩ := h
  obtain rfl : 0 = g' := Option.some.inj ((show Tryd.prog.globalNamed "futtock/op.words" = some 0 by kernel_rfl).symm.trans hg)
  obtain rfl : 61 = t' := Option.some.inj ((show (Tryd.prog.globals[0]?).map (·.type) = some 61 by kernel_rfl).symm.trans ht')
  rw [words_eq] at hd
  obtain ⟨xs, m, _, hx, hl, hn, he⟩ := DataW.trod_array Tryd.underlying61 hd
  have hc : Tryd.prog.cellsOf 9 = 1 := by kernel_rfl
  simp only [Prod.mk.injEq, DataW.agg.injEq] at hx
  refine ⟨fun j hj => ?_, hm, hpow⟩
  have h1 := he j hj
  rw [hc, Nat.mul_one, List.getElem?_eq_getElem (by omega : j < xs.length)] at h1
  have h2 : (xs.map (·.1))[j]? = ((List.range 10).map fun j => (DataW.lit (.string (wd j)) : DataW Unit))[j]? := by rw [hx.1]
  rw [List.getElem?_map, List.getElem?_map, List.getElem?_range hj, List.getElem?_eq_getElem (by omega : j < xs.length)] at h2
  obtain ⟨s, e1, e2, _⟩ := DataW.trod_string Tryd.underlying9 h1
  simp only [Option.map_some, Option.some.injEq] at h2
  rw [e2] at h2
  simp only [DataW.lit.injEq, Lit.string.injEq] at h2
  have e3 : (((cs.toList.drop j).take 1))[0]? = some (.string s) := by rw [e1]; rfl
  rw [List.getElem?_take_of_lt (by omega), List.getElem?_drop, Array.getElem?_toList, Nat.add_zero] at e3
  rw [World.var?_cell hg hv, e3, ← h2]

section
variable {H : Type} {enc : TypeId × Value → H}
theorem law_lifted_laid {f : FuncId} {fn : Func} {s : ChangeSpec} (T : TypeId) (os : Os) (started : os.Started)
    (noInit : Tryd.prog.inits.idxOf? f = none) (hF : Tryd.prog.funcs[f]? = some fn)
    (hvars : s.vars = []) (hres : fn.resultTypes = #[T]) (hT : Tryd.prog.underlying T = some .bool)
    (hread : ∀ t ∈ fn.params.toList, Tryd.prog.readableRec t = true ∧ t < Tryd.prog.types.size)
    (hfn : ∀ l : List (DataW H), l.length = fn.params.size → s.fn H (l ++ []) = { results := [.lit (.bool true)], args := l })
    (witness : ∃ (w : World) (tape : Tape) (i : Input), w.os = os ∧ (w.forCall tape i).Shaped Tryd.checked.prog ∧ i.vars = [] ∧ Input.okWide Tryd.checked.prog (w.forCall tape i) .any w.heap.size f i ∧
      ((s.pre enc Tryd.checked.prog fn [] false (w.forCall tape i).memory i.args ∧ laidMetH Tryd.prog laidL (w.forCall tape i).memory) ∧ sizedMet enc Tryd.checked.prog fn (OpenSpec.ofChange s) false (w.forCall tape i).memory i.args) ∧ ({} : Assume).holds Tryd.checked.prog (lone (Frame.enter Tryd.checked.prog f i.args .normal) [] (w.forCall tape i)))
    (walk : ∀ (W : World) (base : Nat) (args : Array Value) (ds : List (DataW H)) (p : List MemPlace), Glob W →
      (∀ (j : Nat) t v, fn.params[j]? = some t → args[j]? = some v → Value.okWide Tryd.prog W .any base t v) →
      DataW.TrodAll enc Tryd.prog W 0 (fun _ => true) true fn.params.toList args.toList ds p → (∀ x ∈ p, x.block < W.heap.size) →
      Calls Tryd.prog f args W fun e W' => e = .returned (.bool true) ∧ Ext W W') :
    ReturnsInHanded {} Tryd.checked os f .any (fun w args => (s.pre enc Tryd.prog fn [] false w args ∧ laidMetH Tryd.prog laidL w) ∧ sizedMet enc Tryd.prog fn (OpenSpec.ofChange s) false w args) (s.post enc Tryd.prog fn false true false false) := by
  refine returnsInHanded_of_calls (C := Tryd.checked) own started noInit witness ?_
  intro w tape i _ hsh _ hok hpre _
  obtain ⟨_, _, _, fn', hfn', _, _, _, _, hval⟩ := hok
  have e : fn' = fn := Option.some.inj (hfn'.symm.trans hF)
  subst e
  obtain ⟨⟨⟨ds, gs, before, hw, hc⟩, hx⟩, hz⟩ := hpre
  have hW0 : DataW.Whole enc Tryd.prog fn'.params.toList s.vars false (w.forCall tape i) i.args.toList ds gs before := DataW.Whole.of_heap (w' := w.forCall tape i) (by rfl) hw
  have hL : laidMetH Tryd.prog laidL (w.forCall tape i) := hx.of_heap (by rfl)
  have hS : (w.forCall tape i).ShapedOpen Tryd.prog := hsh
  generalize w.forCall tape i = W at *
  have hm : ∃ m, W.cell? ⟨1, 0, none⟩ = some (.int .i64 m) :=
    cell_of_shapedOpen_int (t := 3) (zero := #[.int .i64 0]) hS (of_decide_eq_true (by kernel_rfl)) (by kernel_rfl) rfl (by kernel_rfl) (by kernel_rfl) Tryd.underlying3
  have hlt : ∀ p ∈ before, p.block < W.heap.size := fun p hp => hW0.lt p hp
  have hW2 := hW0
  obtain ⟨p, q, hA, hV, rfl, _, _⟩ := hW2
  refine (walk W w.heap.size i.args ds p (glob_of_laid hL hm) hval hA (fun x hx => hlt x (List.mem_append_left _ hx))).mono fun e W' ⟨he, hb⟩ => ?_
  subst he
  exact ChangeSpec.post_blind (law_post T hvars hres hT hread hfn hW0 hb)

theorem choose_lt {α : Type} [Inhabited α] {n : Nat} {p : Nat → α → Prop} (h : ∀ i, i < n → ∃ x, p i x) : ∃ f : Nat → α, ∀ i, i < n → p i (f i) := by
  classical
  exact ⟨fun i => if h' : i < n then Classical.choose (h i h') else default, fun i hi => by simp only [dif_pos hi]; exact Classical.choose_spec (h i hi)⟩
variable {W : World} {base : Nat}
theorem c_int : Tryd.prog.cellsOf 3 = 1 := by kernel_rfl
theorem c_u8 : Tryd.prog.cellsOf 5 = 1 := by kernel_rfl
theorem trod_i {fuel : Nat} {c : Value} {cs : List Value} {y : DataW H × List MemPlace} (h : DataW.trod enc Tryd.prog W 0 (fun _ => true) true fuel 3 (List.take (Tryd.prog.cellsOf 3) (c :: cs)) = some y) : ∃ q : Int, c = .int .i64 q := by
  obtain ⟨q, e, _, _⟩ := DataW.trod_int Tryd.underlying3 h
  rw [c_int] at e
  simp at e
  exact ⟨q, e⟩
theorem trod_op {fuel : Nat} {cs : List Value} {x : DataW H × List MemPlace} (h : DataW.trod enc Tryd.prog W 0 (fun _ => true) true fuel 24 cs = some x) (hl : cs.length = 3) : ∃ s : Op3, cs = [.int .i64 s.1, .int .i64 s.2.1, .int .i64 s.2.2] := by
  obtain ⟨xs, n, _, rfl, hl2, hlen, hf⟩ := DataW.trod_struct Tryd.underlying24 h
  match cs, hl, xs, hlen with
  | [c0, c1, c2], _, [y0, y1, y2], _ =>
    have t0 := hf 0 _ rfl
    have t1 := hf 1 _ rfl
    have t2 := hf 2 _ rfl
    simp at t0 t1 t2
    obtain ⟨q0, rfl⟩ := trod_i t0
    obtain ⟨q1, rfl⟩ := trod_i t1
    obtain ⟨q2, rfl⟩ := trod_i t2
    exact ⟨(q0, q1, q2), rfl⟩
/-- An operation that comes in. -/
theorem open_op {v : Value} {d : DataW H} {p : List MemPlace} (hv : Value.okWide Tryd.prog W .any base 24 v) (h : DataW.Trod enc Tryd.prog W 0 (fun _ => true) true 24 v d p) :
    ∃ s : Op3, v = .agg #[.int .i64 s.1, .int .i64 s.2.1, .int .i64 s.2.2] := by
  obtain ⟨cs, rfl, hsz⟩ := okWide_struct Tryd.underlying24 hv
  have hsz3 : cs.size = 3 := hsz.trans (by kernel_rfl)
  obtain ⟨fuel, hf⟩ := h
  obtain ⟨s, hs⟩ := trod_op (cs := cs.toList) hf (by simpa using hsz3)
  obtain ⟨l⟩ := cs
  exact ⟨s, by rw [show l = _ from hs]⟩
/-- Operations that come in. -/
theorem open_ops {v : Value} {d : DataW H} {p : List MemPlace} (hv : Value.okWide Tryd.prog W .any base 22 v) (h : DataW.Trod enc Tryd.prog W 0 (fun _ => true) true 22 v d p) :
    ∃ (A : Option Addr) (l : List Op3) (c : Nat), v = .slice A l.length c ∧ Ch W A l := by
  obtain ⟨A, n, c, xs, rfl, hnc, hc, hs, hel⟩ := open_elems Tryd.underlying22 (sz := 3) (by kernel_rfl) (by omega) hv h
  have h1 : ∀ i, i < n → ∃ s : Op3, ∀ j, j < 3 → xs[i * 3 + j]? = ([.int .i64 s.1, .int .i64 s.2.1, .int .i64 s.2.2] : List Value)[j]? := by
    intro i hi
    obtain ⟨m, y, ht⟩ := hel i hi
    have hl : ((xs.drop (i * 3)).take 3).length = 3 := by
      have := hs.1
      have : (i + 1) * 3 ≤ n * 3 := Nat.mul_le_mul_right _ hi
      simp; omega
    obtain ⟨s, hs2⟩ := trod_op ht hl
    refine ⟨s, fun j hj => ?_⟩
    have e := congrArg (·[j]?) hs2
    simp only [List.getElem?_take, if_pos hj, List.getElem?_drop] at e
    exact e
  obtain ⟨f, hf⟩ := choose_lt h1
  refine ⟨A, (List.range n).map f, c, by simp, ?_⟩
  rcases Nat.eq_zero_or_pos n with h0 | h0
  · exact .inl (by simp [h0])
  · obtain ⟨b, off, ha, hb, hcell⟩ := hs.2 h0
    refine .inr ⟨b, off, ha, hb, fun j hj => ?_⟩
    have hj2 : j < n := by simpa using hj
    have hj3 : (j + 1) * 3 ≤ n * 3 := Nat.mul_le_mul_right _ hj2
    have e0 := (hcell (j * 3 + 0) (by omega)).trans (hf j hj2 0 (by omega))
    have e1 := (hcell (j * 3 + 1) (by omega)).trans (hf j hj2 1 (by omega))
    have e2 := (hcell (j * 3 + 2) (by omega)).trans (hf j hj2 2 (by omega))
    simp only [List.getElem_map, List.getElem_range]
    exact ⟨e0, e1, e2⟩
/-- Bytes that come in. -/
theorem open_bytes {v : Value} {d : DataW H} {p : List MemPlace} (hv : Value.okWide Tryd.prog W .any base 33 v) (h : DataW.Trod enc Tryd.prog W 0 (fun _ => true) true 33 v d p) :
    ∃ (A : Option Addr) (l : List UInt8) (c : Nat), v = .slice A l.length c ∧ l.length ≤ c ∧ c ≤ maxLen ∧ By W A l := by
  obtain ⟨A, n, c, xs, rfl, hnc, hc, hs, hel⟩ := open_elems Tryd.underlying33 (sz := 1) (by kernel_rfl) (by omega) hv h
  have h1 : ∀ i, i < n → ∃ s : UInt8, xs[i]? = some (.int .u8 (s.toNat : Int)) := by
    intro i hi
    obtain ⟨m, y, ht⟩ := hel i hi
    obtain ⟨q, e, _, hw⟩ := DataW.trod_int Tryd.underlying5 ht
    have hq := bounds_u8 hw
    have hx : xs[i]? = some (.int .u8 q) := by
      have := congrArg (·[0]?) e
      simpa [List.getElem?_take, List.getElem?_drop] using this
    refine ⟨UInt8.ofNat q.toNat, ?_⟩
    rw [hx]
    congr 2
    simp only [UInt8.toNat_ofNat']
    omega
  obtain ⟨f, hf⟩ := choose_lt h1
  refine ⟨A, (List.range n).map f, c, by simp, by simpa using hnc, hc, ?_⟩
  rcases Nat.eq_zero_or_pos n with h0 | h0
  · exact .inl (by simp [h0])
  · obtain ⟨b, off, ha, hb, hcell⟩ := hs.2 h0
    refine .inr ⟨b, off, ha, hb, fun j hj => ?_⟩
    have hj2 : j < n := by simpa using hj
    simp only [List.getElem_map, List.getElem_range]
    exact (hcell j (by omega)).trans (hf j hj2)
theorem okWide_array {w : World} {base : Nat} {n : Nat} {t e : TypeId} {v : Value} (ht : Tryd.prog.underlying t = some (.array n e)) (h : Value.okWide Tryd.prog w .any base t v) : ∃ cs, v = .agg cs ∧ cs.size = Tryd.prog.cellsOf t := by
  simp only [Value.okWide, ht] at h
  cases v <;> simp_all
/-- A pair of numbers that comes in. -/
theorem open_pair {v : Value} {d : DataW H} {p : List MemPlace} (hv : Value.okWide Tryd.prog W .any base 25 v) (h : DataW.Trod enc Tryd.prog W 0 (fun _ => true) true 25 v d p) :
    ∃ a b : Int, v = .agg #[.int .i64 a, .int .i64 b] := by
  obtain ⟨cs, rfl, hsz⟩ := okWide_array Tryd.underlying25 hv
  have hsz2 : cs.size = 2 := hsz.trans (by kernel_rfl)
  obtain ⟨l⟩ := cs
  match l, hsz2 with
  | [c0, c1], _ =>
    obtain ⟨fuel, hf⟩ := h
    obtain ⟨xs, m, _, _, _, hl, hel⟩ := DataW.trod_array Tryd.underlying25 hf
    rw [c_int] at hel
    have g0 := hel 0 (by omega)
    have g1 := hel 1 (by omega)
    rw [List.getElem?_eq_getElem (by omega)] at g0 g1
    obtain ⟨a, e0, _, _⟩ := DataW.trod_int Tryd.underlying3 g0
    obtain ⟨b, e1, _, _⟩ := DataW.trod_int Tryd.underlying3 g1
    simp [Value.cells] at e0 e1
    subst e0 e1
    exact ⟨a, b, rfl⟩
end

theorem opTexts_walk {H : Type} {enc : TypeId × Value → H} (W : World) (base : Nat) (args : Array Value) (ds : List (DataW H)) (p : List MemPlace) (hG : Glob W)
    (hval0 : ∀ (j : Nat) t v, Tryd.f3.params[j]? = some t → args[j]? = some v → Value.okWide Tryd.prog W .any base t v)
    (hA0 : DataW.TrodAll enc Tryd.prog W 0 (fun _ => true) true Tryd.f3.params.toList args.toList ds p) (_hlt : ∀ x ∈ p, x.block < W.heap.size) :
    Calls Tryd.prog 3 args W fun e W' => e = .returned (.bool true) ∧ Ext W W' := by
  have hval := hval0
  have hA := hA0
  rw [Tryd.params3] at hA hval
  clear hval0 hA0
  obtain ⟨v0, v1, v2, d0, d1, d2, p0, p1, p2, hargs, rfl, rfl, h0, h1, h2⟩ := trodAll_three hA
  obtain rfl : args = #[v0, v1, v2] := by cases args; simp_all
  obtain ⟨A, l, c, rfl, hC⟩ := open_ops (hval 0 22 v0 rfl rfl) h0
  obtain ⟨x, rfl⟩ := open_op (hval 1 24 v1 rfl rfl) h1
  obtain ⟨t, n, rfl⟩ := open_pair (hval 2 25 v2 rfl rfl) h2
  exact texts_any c hC x t n hG
set_option maxRecDepth 100000 in
theorem opTexts_lifted (os : Os) (started : os.Started) (H : Type) (enc : TypeId × Value → H) :
    ReturnsInHanded {} Tryd.checked os 3 .any (fun w args => (Rows.opTextsSpec.pre enc Tryd.prog Tryd.f3 [] false w args ∧ laidMetH Tryd.prog laidL w) ∧ sizedMet enc Tryd.prog Tryd.f3 (OpenSpec.ofChange Rows.opTextsSpec) false w args) (Rows.opTextsSpec.post enc Tryd.prog Tryd.f3 false true false false) :=
  law_lifted_laid (fn := Tryd.f3) 4 os started (by kernel_rfl) Tryd.func3 rfl rfl Tryd.underlying4 (hread_of (by kernel_rfl))
    (fun l hl => by
      have hl2 : l.length = 3 := hl
      clear hl
      match l, hl2 with
      | [_, _, _], _ => rfl)
    (ChangeSpec.witness_shaped (enc := enc) (C := Tryd.checked) (os := os) (X := fun w _ => laidMetH Tryd.prog laidL w) false (World.laidAll Tryd.prog os laidL) #[.slice none 0 0, .agg #[.int .i64 0, .int .i64 0, .int .i64 0], .agg #[.int .i64 0, .int .i64 0]] 8 (World.laidAll_os _ _ _) (World.shaped_of_ZipB (by kernel_rfl) (by kernel_rfl)) (by kernel_rfl) (by kernel_rfl) (by kernel_rfl)
      (by rw [MakeChecks.laidMetH_plain _ _ _ (by kernel_rfl)]; exact laidMet_laidAll _ (by kernel_rfl) (by kernel_rfl)))
    (fun W base args ds p hG hval hA hlt => opTexts_walk W base args ds p hG hval hA hlt)
theorem opTexts_row : Rows.OpTextsSaid :=
  OpenClaim.holds_of_wide 3 Tryd.f3 rfl rfl rfl rfl rfl rfl rfl ⟨rfl, rfl, rfl, rfl, rfl⟩ rfl rfl rfl rfl rfl (by kernel_rfl) Tryd.func3 (by kernel_rfl)
    (of_decide_eq_true (by kernel_rfl)) (by unfold Func.isWrapper; rw [if_neg (of_decide_eq_false (by kernel_rfl))]; exact ⟨rfl, rfl⟩)
    (fun os started H enc _ => opTexts_lifted os started H enc)
theorem opTexts_holds : Rows.OpTextsCardSaid :=
  Claim7.holds_tied_plain_at .later [] Rows.opTextsCard.laidKinds true Rows.opTextsCard.stood.harness false
    opTexts_row (fun _ h => by cases h) (by kernel_rfl) (fun _ h => by cases h) opTexts_row_tie rfl ⟨rfl, rfl⟩ (by kernel_rfl) rfl
    (fun f fn hf hfn => by
      obtain rfl : f = 3 := Option.some.inj ((show Tryd.prog.funcNamed Tryd.f3.name = some 3 by kernel_rfl).symm.trans hf) |>.symm
      obtain rfl : fn = Tryd.f3 := (Option.some.inj (Tryd.func3.symm.trans hfn)).symm
      exact ⟨by kernel_rfl, fun j t ht => by
        rw [Tryd.params3] at ht
        have hm : t ∈ [22, 24, 25] := by simpa using Array.mem_of_getElem? ht
        have hall : ([22, 24, 25].all fun u => !Tryd.prog.wantsStandIn u) = true := by kernel_rfl
        exact (show Tryd.prog.wantsStandIn t = false by simpa using List.all_eq_true.1 hall t hm)⟩)
    (by kernel_rfl)

theorem opBack_walk {H : Type} {enc : TypeId × Value → H} (W : World) (base : Nat) (args : Array Value) (ds : List (DataW H)) (p : List MemPlace) (hG : Glob W)
    (hval0 : ∀ (j : Nat) t v, Tryd.f4.params[j]? = some t → args[j]? = some v → Value.okWide Tryd.prog W .any base t v)
    (hA0 : DataW.TrodAll enc Tryd.prog W 0 (fun _ => true) true Tryd.f4.params.toList args.toList ds p) (_hlt : ∀ x ∈ p, x.block < W.heap.size) :
    Calls Tryd.prog 4 args W fun e W' => e = .returned (.bool true) ∧ Ext W W' := by
  have hval := hval0
  have hA := hA0
  rw [Tryd.params4] at hA hval
  clear hval0 hA0
  obtain ⟨v0, d0, hargs, rfl, h0⟩ := trodAll_one hA
  obtain rfl : args = #[v0] := by cases args; simp_all
  obtain ⟨A, l, c, rfl, hC⟩ := open_ops (hval 0 22 v0 rfl rfl) h0
  exact back_any c hC hG
set_option maxRecDepth 100000 in
theorem opBack_lifted (os : Os) (started : os.Started) (H : Type) (enc : TypeId × Value → H) :
    ReturnsInHanded {} Tryd.checked os 4 .any (fun w args => (Rows.opBackSpec.pre enc Tryd.prog Tryd.f4 [] false w args ∧ laidMetH Tryd.prog laidL w) ∧ sizedMet enc Tryd.prog Tryd.f4 (OpenSpec.ofChange Rows.opBackSpec) false w args) (Rows.opBackSpec.post enc Tryd.prog Tryd.f4 false true false false) :=
  law_lifted_laid (fn := Tryd.f4) 4 os started (by kernel_rfl) Tryd.func4 rfl rfl Tryd.underlying4 (hread_of (by kernel_rfl))
    (fun l hl => by
      have hl2 : l.length = 1 := hl
      clear hl
      match l, hl2 with
      | [_], _ => rfl)
    (ChangeSpec.witness_shaped (enc := enc) (C := Tryd.checked) (os := os) (X := fun w _ => laidMetH Tryd.prog laidL w) false (World.laidAll Tryd.prog os laidL) #[.slice none 0 0] 8 (World.laidAll_os _ _ _) (World.shaped_of_ZipB (by kernel_rfl) (by kernel_rfl)) (by kernel_rfl) (by kernel_rfl) (by kernel_rfl)
      (by rw [MakeChecks.laidMetH_plain _ _ _ (by kernel_rfl)]; exact laidMet_laidAll _ (by kernel_rfl) (by kernel_rfl)))
    (fun W base args ds p hG hval hA hlt => opBack_walk W base args ds p hG hval hA hlt)
theorem opBack_row : Rows.OpBackSaid :=
  OpenClaim.holds_of_wide 4 Tryd.f4 rfl rfl rfl rfl rfl rfl rfl ⟨rfl, rfl, rfl, rfl, rfl⟩ rfl rfl rfl rfl rfl (by kernel_rfl) Tryd.func4 (by kernel_rfl)
    (of_decide_eq_true (by kernel_rfl)) (by unfold Func.isWrapper; rw [if_neg (of_decide_eq_false (by kernel_rfl))]; exact ⟨rfl, rfl⟩)
    (fun os started H enc _ => opBack_lifted os started H enc)
theorem opBack_holds : Rows.OpBackCardSaid :=
  Claim7.holds_tied_plain_at .later [] Rows.opBackCard.laidKinds true Rows.opBackCard.stood.harness false
    opBack_row (fun _ h => by cases h) (by kernel_rfl) (fun _ h => by cases h) opBack_row_tie rfl ⟨rfl, rfl⟩ (by kernel_rfl) rfl
    (fun f fn hf hfn => by
      obtain rfl : f = 4 := Option.some.inj ((show Tryd.prog.funcNamed Tryd.f4.name = some 4 by kernel_rfl).symm.trans hf) |>.symm
      obtain rfl : fn = Tryd.f4 := (Option.some.inj (Tryd.func4.symm.trans hfn)).symm
      exact ⟨by kernel_rfl, fun j t ht => by
        rw [Tryd.params4] at ht
        have hm : t ∈ [22] := by simpa using Array.mem_of_getElem? ht
        have hall : ([22].all fun u => !Tryd.prog.wantsStandIn u) = true := by kernel_rfl
        exact (show Tryd.prog.wantsStandIn t = false by simpa using List.all_eq_true.1 hall t hm)⟩)
    (by kernel_rfl)

theorem opOnce_walk {H : Type} {enc : TypeId × Value → H} (W : World) (base : Nat) (args : Array Value) (ds : List (DataW H)) (p : List MemPlace) (hG : Glob W)
    (hval0 : ∀ (j : Nat) t v, Tryd.f5.params[j]? = some t → args[j]? = some v → Value.okWide Tryd.prog W .any base t v)
    (hA0 : DataW.TrodAll enc Tryd.prog W 0 (fun _ => true) true Tryd.f5.params.toList args.toList ds p) (_hlt : ∀ x ∈ p, x.block < W.heap.size) :
    Calls Tryd.prog 5 args W fun e W' => e = .returned (.bool true) ∧ Ext W W' := by
  have hval := hval0
  have hA := hA0
  rw [Tryd.params5] at hA hval
  clear hval0 hA0
  obtain ⟨v0, v1, d0, d1, p0, p1, hargs, rfl, rfl, h0, h1⟩ := trodAll_two hA
  obtain rfl : args = #[v0, v1] := by cases args; simp_all
  obtain ⟨⟨⟨s⟩⟩, rfl⟩ := okWide_string Tryd.underlying9 (hval 0 9 v0 rfl rfl)
  obtain ⟨A, l, c, rfl, hlc, hcm, hB⟩ := open_bytes (hval 1 33 v1 rfl rfl) h1
  by_cases hs : s.length ≤ 3000
  · by_cases hl : l.length ≤ 1000
    · exact once_any c hs hl hlc hcm hB hG
    · exact once_far c (.inr (by omega)) hG
  · exact once_far c (.inl (by omega)) hG
set_option maxRecDepth 100000 in
theorem opOnce_lifted (os : Os) (started : os.Started) (H : Type) (enc : TypeId × Value → H) :
    ReturnsInHanded {} Tryd.checked os 5 .any (fun w args => (Rows.opOnceSpec.pre enc Tryd.prog Tryd.f5 [] false w args ∧ laidMetH Tryd.prog laidL w) ∧ sizedMet enc Tryd.prog Tryd.f5 (OpenSpec.ofChange Rows.opOnceSpec) false w args) (Rows.opOnceSpec.post enc Tryd.prog Tryd.f5 false true false false) :=
  law_lifted_laid (fn := Tryd.f5) 4 os started (by kernel_rfl) Tryd.func5 rfl rfl Tryd.underlying4 (hread_of (by kernel_rfl))
    (fun l hl => by
      have hl2 : l.length = 2 := hl
      clear hl
      match l, hl2 with
      | [_, _], _ => rfl)
    (ChangeSpec.witness_shaped (enc := enc) (C := Tryd.checked) (os := os) (X := fun w _ => laidMetH Tryd.prog laidL w) false (World.laidAll Tryd.prog os laidL) #[.string ⟨#[]⟩, .slice none 0 0] 8 (World.laidAll_os _ _ _) (World.shaped_of_ZipB (by kernel_rfl) (by kernel_rfl)) (by kernel_rfl) (by kernel_rfl) (by kernel_rfl)
      (by rw [MakeChecks.laidMetH_plain _ _ _ (by kernel_rfl)]; exact laidMet_laidAll _ (by kernel_rfl) (by kernel_rfl)))
    (fun W base args ds p hG hval hA hlt => opOnce_walk W base args ds p hG hval hA hlt)
theorem opOnce_row : Rows.OpOnceSaid :=
  OpenClaim.holds_of_wide 5 Tryd.f5 rfl rfl rfl rfl rfl rfl rfl ⟨rfl, rfl, rfl, rfl, rfl⟩ rfl rfl rfl rfl rfl (by kernel_rfl) Tryd.func5 (by kernel_rfl)
    (of_decide_eq_true (by kernel_rfl)) (by unfold Func.isWrapper; rw [if_neg (of_decide_eq_false (by kernel_rfl))]; exact ⟨rfl, rfl⟩)
    (fun os started H enc _ => opOnce_lifted os started H enc)
theorem opOnce_holds : Rows.OpOnceCardSaid :=
  Claim7.holds_tied_plain_at .later [] Rows.opOnceCard.laidKinds true Rows.opOnceCard.stood.harness false
    opOnce_row (fun _ h => by cases h) (by kernel_rfl) (fun _ h => by cases h) opOnce_row_tie rfl ⟨rfl, rfl⟩ (by kernel_rfl) rfl
    (fun f fn hf hfn => by
      obtain rfl : f = 5 := Option.some.inj ((show Tryd.prog.funcNamed Tryd.f5.name = some 5 by kernel_rfl).symm.trans hf) |>.symm
      obtain rfl : fn = Tryd.f5 := (Option.some.inj (Tryd.func5.symm.trans hfn)).symm
      exact ⟨by kernel_rfl, fun j t ht => by
        rw [Tryd.params5] at ht
        have hm : t ∈ [9, 33] := by simpa using Array.mem_of_getElem? ht
        have hall : ([9, 33].all fun u => !Tryd.prog.wantsStandIn u) = true := by kernel_rfl
        exact (show Tryd.prog.wantsStandIn t = false by simpa using List.all_eq_true.1 hall t hm)⟩)
    (by kernel_rfl)

end Go.Proofs.YtapalbokfbobhaaDoor
