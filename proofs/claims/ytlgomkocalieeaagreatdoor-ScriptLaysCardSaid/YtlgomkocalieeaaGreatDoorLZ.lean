/- The card's frame, and bytes that come in. -/
import Derived.Test.YtlgomkocalieeaaGreatDoorNB
import Derived.Test.YtlgomkocalieeaaGreatDoorLaid
import Derived.Test.YtlgomkocalieeaaGreatDoorOpens
import Derived.Test.YtlgomkocalieeaaGreatDoorTie
import Derived.Test.YtlgomkocalieeaaGreatDoorCards
import Derived.SevenTiedAt
import Derived.Deep.Strs
import Derived.ChangeSame
import Derived.Test.YtlgomkocalieeaaGreatDoorSA
namespace Go.Proofs.YtlgomkocalieeaaGreatDoor
set_option maxRecDepth 100000
open Go.ChangeShapes Go.WideShapes Go.ChangeAt Go.RowKit Go.Joins Go.Deep
set_option linter.unusedVariables false
set_option linter.unusedSimpArgs false


def laidL : List (String × DataW Unit) := Rows.scriptOnceRow.laid

/-- What the row's condition gives the walks. -/
theorem glob_of_laid {W : World} (h : laidMetH Tryz.prog laidL W) : GlobW W := by
  rw [MakeChecks.laidMetH_plain _ _ _ (by kernel_rfl)] at h
  obtain ⟨ps, h, _⟩ := h
  obtain ⟨h1, q1, h⟩ := laid_bytes (a := 0) (d := 3) (g := 7) Tryz.underlying234 (by kernel_rfl) (by kernel_rfl) rfl rfl Tryz.underlying5 (by kernel_rfl) (by kernel_rfl) h
  obtain ⟨h2, q2, h⟩ := laid_bytes (a := 3) (d := 4) (g := 2) Tryz.underlying234 (by kernel_rfl) (by kernel_rfl) rfl rfl Tryz.underlying5 (by kernel_rfl) (by kernel_rfl) h
  obtain ⟨h3, q3, h⟩ := laid_bytes (a := 8) (d := 8) (g := 6) Tryz.underlying234 (by kernel_rfl) (by kernel_rfl) rfl rfl Tryz.underlying5 (by kernel_rfl) (by kernel_rfl) h
  obtain ⟨h4, q4, h⟩ := laid_bytes (a := 8) (d := 31) (g := 3) Tryz.underlying234 (by kernel_rfl) (by kernel_rfl) rfl rfl Tryz.underlying5 (by kernel_rfl) (by kernel_rfl) h
  obtain ⟨h5, q5, h⟩ := laid_bytes (a := 24) (d := 16) (g := 1) Tryz.underlying234 (by kernel_rfl) (by kernel_rfl) rfl rfl Tryz.underlying5 (by kernel_rfl) (by kernel_rfl) h
  obtain ⟨h6, q6, h⟩ := laid_bytes (a := 8) (d := 16) (g := 0) Tryz.underlying234 (by kernel_rfl) (by kernel_rfl) rfl rfl Tryz.underlying5 (by kernel_rfl) (by kernel_rfl) h
  obtain ⟨h7, q7, h⟩ := laid_bytes (a := 8) (d := 16) (g := 4) Tryz.underlying234 (by kernel_rfl) (by kernel_rfl) rfl rfl Tryz.underlying5 (by kernel_rfl) (by kernel_rfl) h
  obtain ⟨h8, _, _⟩ := laid_bytes (a := 24) (d := 24) (g := 5) Tryz.underlying234 (by kernel_rfl) (by kernel_rfl) rfl rfl Tryz.underlying5 (by kernel_rfl) (by kernel_rfl) h
  exact ⟨h1, h2, h3, h4, h5, h6, h7, h8⟩

/-- The heap that the program's own start leaves meets the condition. -/
theorem door_met (os : Os) (args : Array Value) : laidMetH Tryz.prog laidL ((World.doorLaid Tryz.prog 100 os).forCall (fun _ _ => 0) ⟨#[], args, []⟩).memory :=
  laidMetH_of_parts3 (fuel := 8) (laidMet_of_run' 8 (by kernel_rfl) (by kernel_rfl)) (by kernel_rfl) (by kernel_rfl)

section
variable {H : Type} {enc : TypeId × Value → H}
theorem law_lifted_laid {f : FuncId} {fn : Func} {s : ChangeSpec} (T : TypeId) (os : Os) (started : os.Started)
    (noInit : Tryz.prog.inits.idxOf? f = none) (hF : Tryz.prog.funcs[f]? = some fn)
    (hvars : s.vars = []) (hres : fn.resultTypes = #[T]) (hT : Tryz.prog.underlying T = some .bool)
    (hread : ∀ t ∈ fn.params.toList, Tryz.prog.readableRec t = true ∧ t < Tryz.prog.types.size)
    (hfn : ∀ l : List (DataW H), l.length = fn.params.size → s.fn H (l ++ []) = { results := [.lit (.bool true)], args := l })
    (witness : ∃ (w : World) (tape : Tape) (i : Input), w.os = os ∧ (w.forCall tape i).Shaped Tryz.checked.prog ∧ i.vars = [] ∧ Input.okWide Tryz.checked.prog (w.forCall tape i) .any w.heap.size f i ∧
      ((s.pre enc Tryz.checked.prog fn [] false (w.forCall tape i).memory i.args ∧ laidMetH Tryz.prog laidL (w.forCall tape i).memory) ∧ sizedMet enc Tryz.checked.prog fn (OpenSpec.ofChange s) false (w.forCall tape i).memory i.args) ∧ ({} : Assume).holds Tryz.checked.prog (lone (Frame.enter Tryz.checked.prog f i.args .normal) [] (w.forCall tape i)))
    (walk : ∀ (W : World) (base : Nat) (args : Array Value) (ds : List (DataW H)) (p : List MemPlace), GlobW W →
      (∀ (j : Nat) t v, fn.params[j]? = some t → args[j]? = some v → Value.okWide Tryz.prog W .any base t v) →
      DataW.TrodAll enc Tryz.prog W 0 (fun _ => true) true fn.params.toList args.toList ds p → (∀ x ∈ p, x.block < W.heap.size) →
      Calls Tryz.prog f args W fun e W' => e = .returned (.bool true) ∧ Ext W W') :
    ReturnsInHanded {} Tryz.checked os f .any (fun w args => (s.pre enc Tryz.prog fn [] false w args ∧ laidMetH Tryz.prog laidL w) ∧ sizedMet enc Tryz.prog fn (OpenSpec.ofChange s) false w args) (s.post enc Tryz.prog fn false true false false) := by
  refine returnsInHanded_of_change_and (C := Tryz.checked) (X := fun w _ => laidMetH Tryz.prog laidL w) (fun _ _ _ hh h => h.of_heap hh) own started noInit hF witness ?_
  intro W base args ds gs before hval hW _ _ hL _
  have hW0 : DataW.Whole enc Tryz.prog fn.params.toList s.vars false W args.toList ds gs before := hW
  have hlt : ∀ p ∈ before, p.block < W.heap.size := fun p hp => hW0.lt p hp
  have hW2 := hW0
  obtain ⟨p, q, hA, hV, rfl, _, _⟩ := hW2
  refine (walk W base args ds p (glob_of_laid hL) hval hA (fun x hx => hlt x (List.mem_append_left _ hx))).mono fun e W' ⟨he, hb⟩ => ?_
  subst he
  exact ⟨_, rfl, law_post T hvars hres hT hread hfn hW0 hb⟩
end
section
variable {H : Type} {enc : TypeId × Value → H} {W : World} {base : Nat}
theorem open_bytes {v : Value} {d : DataW H} {p : List MemPlace} (hv : Value.okWide Tryz.prog W .any base 31 v) (h : DataW.Trod enc Tryz.prog W 0 (fun _ => true) true 31 v d p) :
    ∃ (A : Option Addr) (l : List UInt8) (c : Nat), v = .slice A l.length c ∧ l.length ≤ c ∧ c ≤ maxLen ∧ By W A l ∧ (l.length = 0 ∨ ∀ b, A = some b → b.block < W.heap.size) := by
  obtain ⟨A, n, c, xs, rfl, hnc, hc, hs, hel⟩ := open_elems Tryz.underlying31 (sz := 1) (by kernel_rfl) (by omega) hv h
  have h1 : ∀ i, i < n → ∃ s : UInt8, xs[i]? = some (.int .u8 (s.toNat : Int)) := by
    intro i hi
    obtain ⟨m, y, ht⟩ := hel i hi
    obtain ⟨q, e, _, hw⟩ := DataW.trod_int Tryz.underlying5 ht
    have hq := bounds_u8 hw
    have hx : xs[i]? = some (.int .u8 q) := by
      have := congrArg (·[0]?) e
      simpa [List.getElem?_take, List.getElem?_drop] using this
    refine ⟨UInt8.ofNat q.toNat, ?_⟩
    rw [hx]
    congr 2
    simp only [UInt8.toNat_ofNat']
    omega
  obtain ⟨f, hf⟩ := choose_lt h1
  refine ⟨A, (List.range n).map f, c, by simp, by simpa using hnc, hc, ?_, ?_⟩
  rotate_left
  · rcases Nat.eq_zero_or_pos n with h0 | h0
    · exact .inl (by simp [h0])
    · obtain ⟨b, off, ha, hb, hcell⟩ := hs.2 h0
      refine .inr fun q hq => ?_
      rw [ha] at hq
      obtain rfl := Option.some.inj hq
      exact hb
  rcases Nat.eq_zero_or_pos n with h0 | h0
  · exact .inl (by simp [h0])
  · obtain ⟨b, off, ha, hb, hcell⟩ := hs.2 h0
    refine .inr ⟨b, off, ha, hb, fun j hj => ?_⟩
    have hj2 : j < n := by simpa using hj
    simp only [List.getElem_map, List.getElem_range]
    exact (hcell j (by omega)).trans (hf j hj2)
end
end Go.Proofs.YtlgomkocalieeaaGreatDoor

namespace Go.Proofs.YtlgomkocalieeaaGreatDoor
set_option maxRecDepth 100000
open Go.ChangeShapes Go.WideShapes Go.ChangeAt Go.RowKit Go.Joins Go.Deep
set_option linter.unusedVariables false
set_option linter.unusedSimpArgs false

section
variable {H : Type} {enc : TypeId × Value → H} {W : World} {base : Nat}
theorem open_elemsC {t e : TypeId} {sz fuel : Nat} {cs0 : List Value} {x : DataW H × List MemPlace} (ht : Tryz.prog.underlying t = some (.slice e)) (hc : Tryz.prog.cellsOf e = sz) (hsz : 0 < sz)
    (hf : DataW.trod enc Tryz.prog W 0 (fun _ => true) true fuel t cs0 = some x) :
      ∃ (A : Option Addr) (n c : Nat) (xs : List Value), cs0 = [.slice A n c] ∧ n ≤ c ∧ c ≤ maxLen ∧ Sl W W.heap.size sz A n xs ∧
      ∀ i, i < n → ∃ m y, DataW.trod enc Tryz.prog W 0 (fun _ => true) true m e ((xs.drop (i * sz)).take sz) = some y := by
  rcases open_slice ht hf with ⟨hcs, _⟩ | ⟨a, n, c, m, k, D, Pl, hcs, _, hl, hm, hmm, _, hel⟩
  · subst hcs
    exact ⟨none, 0, 0, [], rfl, Nat.le_refl _, by unfold maxLen; omega, ⟨by simp, fun h => absurd h (by omega)⟩, fun i hi => absurd hi (by omega)⟩
  · subst hcs
    have hml : n ≤ m := by rw [hmm]; simpa using hl
    have hcell : ∀ i, i < n → ∀ j, j < sz → ∃ u, W.cell? ⟨a.block, a.off + (i * sz + j), none⟩ = some u := by
      intro i hi j hj
      obtain ⟨cs', hcs', _⟩ := hel i (by omega)
      rw [hc] at hcs'
      obtain ⟨_, hlen, hat⟩ := World.cells?_some hcs'
      have h1 := hat j hj
      rw [List.getElem?_eq_getElem (by omega)] at h1
      rw [add_add] at h1
      exact ⟨_, add_form h1⟩
    have hall : ∀ j, j < n * sz → ∃ u, W.cell? ⟨a.block, a.off + j, none⟩ = some u := by
      intro j hj
      have h1 : j / sz < n := (Nat.div_lt_iff_lt_mul hsz).2 hj
      have h2 : j % sz < sz := Nat.mod_lt _ hsz
      have h3 := hcell (j / sz) h1 (j % sz) h2
      have e : j / sz * sz + j % sz = j := by rw [Nat.mul_comm]; exact Nat.div_add_mod j sz
      rwa [e] at h3
    let xs := (List.range (n * sz)).map fun j => (W.cell? ⟨a.block, a.off + j, none⟩).getD undef
    have hxs : ∀ j, j < n * sz → W.cell? ⟨a.block, a.off + j, none⟩ = xs[j]? := by
      intro j hj
      obtain ⟨u, hu⟩ := hall j hj
      simp [xs, hj, hu]
    refine ⟨some a, n, c, xs, rfl, hl, hm, ⟨by simp [xs], fun hn => ?_⟩, fun i hi => ?_⟩
    · obtain ⟨u, hu⟩ := hall 0 (Nat.mul_pos hn hsz)
      have hblk := World.block_lt_of_cell? W _ hu
      obtain ⟨cs', hcs', _⟩ := hel 0 (by omega)
      rw [hc] at hcs'
      obtain ⟨_, hlen, hat⟩ := World.cells?_some hcs'
      have h1 := hat 0 hsz
      rw [List.getElem?_eq_getElem (by omega), Nat.zero_mul] at h1
      have hs : a.spot = none := by
        have h2 : (a.add 0).add 0 = a := by simp [Addr.add]
        rw [h2] at h1
        exact World.cell?_spot h1
      obtain ⟨b, off, sp⟩ := a
      simp only at hs
      subst hs
      exact ⟨b, off, rfl, hblk, hxs⟩
    · obtain ⟨cs', hcs', htr⟩ := hel i (by omega)
      rw [hc] at hcs'
      obtain ⟨_, hlen, hat⟩ := World.cells?_some hcs'
      have e : (xs.drop (i * sz)).take sz = cs' := by
        apply List.ext_getElem?
        intro j
        rw [List.getElem?_take]
        by_cases hj : j < sz
        · rw [if_pos hj, List.getElem?_drop]
          have hij : i * sz + j < n * sz := by
            have : (i + 1) * sz ≤ n * sz := Nat.mul_le_mul_right _ hi
            rw [Nat.add_mul, Nat.one_mul] at this
            omega
          rw [← hxs _ hij, ← hat j hj]
          have h1 := hat j hj
          rw [List.getElem?_eq_getElem (by omega)] at h1
          rw [h1]
          rw [add_add] at h1
          exact add_form h1
        · rw [if_neg hj, List.getElem?_eq_none (by omega)]
      rw [e]
      exact ⟨k, _, htr⟩
theorem c_int : Tryz.prog.cellsOf 3 = 1 := by kernel_rfl
theorem c_u8 : Tryz.prog.cellsOf 5 = 1 := by kernel_rfl
theorem c_u64 : Tryz.prog.cellsOf 22 = 1 := by kernel_rfl
theorem trod_i {fuel : Nat} {c : Value} {cs : List Value} {y : DataW H × List MemPlace} (h : DataW.trod enc Tryz.prog W 0 (fun _ => true) true fuel 3 (List.take (Tryz.prog.cellsOf 3) (c :: cs)) = some y) : ∃ q : Int, c = .int .i64 q := by
  obtain ⟨q, e, _, _⟩ := DataW.trod_int Tryz.underlying3 h
  rw [c_int] at e
  simp at e
  exact ⟨q, e⟩
theorem trod_u8 {fuel : Nat} {c : Value} {cs : List Value} {y : DataW H × List MemPlace} (h : DataW.trod enc Tryz.prog W 0 (fun _ => true) true fuel 5 (List.take (Tryz.prog.cellsOf 5) (c :: cs)) = some y) : ∃ q : Int, c = .int .u8 q ∧ 0 ≤ q ∧ q < 256 := by
  obtain ⟨q, e, _, hw⟩ := DataW.trod_int Tryz.underlying5 h
  have hq := bounds_u8 hw
  rw [c_u8] at e
  simp at e
  exact ⟨q, e, hq.1, by omega⟩
theorem trod_u64 {fuel : Nat} {c : Value} {cs : List Value} {y : DataW H × List MemPlace} (h : DataW.trod enc Tryz.prog W 0 (fun _ => true) true fuel 22 (List.take (Tryz.prog.cellsOf 22) (c :: cs)) = some y) : ∃ q : Int, c = .int .u64 q ∧ 0 ≤ q ∧ q < 18446744073709551616 := by
  obtain ⟨q, e, _, hw⟩ := DataW.trod_int Tryz.underlying22 h
  have hq := bounds_u64 hw
  rw [c_u64] at e
  simp at e
  exact ⟨q, e, hq.1, by omega⟩
theorem trod_op {fuel : Nat} {cs : List Value} {x : DataW H × List MemPlace} (h : DataW.trod enc Tryz.prog W 0 (fun _ => true) true fuel 53 cs = some x) (hl : cs.length = 3) : ∃ s : Op3, cs = [.int .i64 s.1, .int .i64 s.2.1, .int .i64 s.2.2] := by
  obtain ⟨xs, n, _, rfl, hl2, hlen, hf⟩ := DataW.trod_struct Tryz.underlying53 h
  match cs, hl, xs, hlen with
  | [c0, c1, c2], _, [y0, y1, y2], _ =>
    have t0 := hf 0 _ rfl
    have t1 := hf 1 _ rfl
    have t2 := hf 2 _ rfl
    simp at t0 t1 t2
    obtain ⟨q0, rfl⟩ := trod_i t0
    obtain ⟨q1, rfl⟩ := trod_i t1
    obtain ⟨q2, rfl⟩ := trod_i t2
    exact ⟨(q0, q1, q2), rfl⟩
theorem trod_turn {fuel : Nat} {cs : List Value} {x : DataW H × List MemPlace} (h : DataW.trod enc Tryz.prog W 0 (fun _ => true) true fuel 59 cs = some x) (hl : cs.length = 2) : ∃ s : Tr, cs = [.int .i64 s.1, .int .i64 s.2] := by
  obtain ⟨xs, n, _, rfl, hl2, hlen, hf⟩ := DataW.trod_struct Tryz.underlying59 h
  match cs, hl, xs, hlen with
  | [c0, c1], _, [y0, y1], _ =>
    have t0 := hf 0 _ rfl
    have t1 := hf 1 _ rfl
    simp at t0 t1
    obtain ⟨q0, rfl⟩ := trod_i t0
    obtain ⟨q1, rfl⟩ := trod_i t1
    exact ⟨(q0, q1), rfl⟩
theorem cfg_in {fuel : Nat} {cs : List Value} {x : DataW H × List MemPlace} (h : DataW.trod enc Tryz.prog W 0 (fun _ => true) true fuel 24 cs = some x) (hl : cs.length = 10) :
    ∃ s : Cf, cs = [.int .i64 s.t, .int .i64 s.o, .int .i64 s.c, .int .i64 s.s, .int .i64 s.p, .int .i64 s.n, .int .u8 s.b, .int .i64 s.r, .int .i64 s.v, .int .u64 s.d] ∧ (0 ≤ s.b ∧ s.b < 256) ∧ (0 ≤ s.d ∧ s.d < 18446744073709551616) := by
  obtain ⟨xs, n, _, rfl, hl2, hlen, hf⟩ := DataW.trod_struct Tryz.underlying24 h
  match cs, hl, xs, hlen with
  | [c0, c1, c2, c3, c4, c5, c6, c7, c8, c9], _, [y0, y1, y2, y3, y4, y5, y6, y7, y8, y9], _ =>
    have t0 := hf 0 _ rfl
    have t1 := hf 1 _ rfl
    have t2 := hf 2 _ rfl
    have t3 := hf 3 _ rfl
    have t4 := hf 4 _ rfl
    have t5 := hf 5 _ rfl
    have t6 := hf 6 _ rfl
    have t7 := hf 7 _ rfl
    have t8 := hf 8 _ rfl
    have t9 := hf 9 _ rfl
    simp at t0 t1 t2 t3 t4 t5 t6 t7 t8 t9
    obtain ⟨q0, rfl⟩ := trod_i t0
    obtain ⟨q1, rfl⟩ := trod_i t1
    obtain ⟨q2, rfl⟩ := trod_i t2
    obtain ⟨q3, rfl⟩ := trod_i t3
    obtain ⟨q4, rfl⟩ := trod_i t4
    obtain ⟨q5, rfl⟩ := trod_i t5
    obtain ⟨q6, rfl, b0, b1⟩ := trod_u8 t6
    obtain ⟨q7, rfl⟩ := trod_i t7
    obtain ⟨q8, rfl⟩ := trod_i t8
    obtain ⟨q9, rfl, d0, d1⟩ := trod_u64 t9
    exact ⟨⟨q0, q1, q2, q3, q4, q5, q6, q7, q8, q9⟩, rfl, ⟨b0, b1⟩, ⟨d0, d1⟩⟩
theorem ops_in {fuel : Nat} {cs : List Value} {x : DataW H × List MemPlace} (h : DataW.trod enc Tryz.prog W 0 (fun _ => true) true fuel 48 cs = some x) :
    ∃ (A : Option Addr) (l : List Op3) (c : Nat), cs = [.slice A l.length c] ∧ l.length ≤ c ∧ c ≤ maxLen ∧ Ch W A l := by
  obtain ⟨A, n, c, xs, rfl, hnc, hc, hs, hel⟩ := open_elemsC Tryz.underlying48 (sz := 3) (by kernel_rfl) (by omega) h
  have h1 : ∀ i, i < n → ∃ s : Op3, ∀ j, j < 3 → xs[i * 3 + j]? = ([.int .i64 s.1, .int .i64 s.2.1, .int .i64 s.2.2] : List Value)[j]? := by
    intro i hi
    obtain ⟨m, y, ht⟩ := hel i hi
    have hl : ((xs.drop (i * 3)).take 3).length = 3 := by
      have := hs.1
      have : (i + 1) * 3 ≤ n * 3 := Nat.mul_le_mul_right _ hi
      simp; omega
    obtain ⟨s, hs2⟩ := trod_op ht hl
    refine ⟨s, fun j hj => ?_⟩
    have e := congrArg (·[j]?) hs2
    simp only [List.getElem?_take, if_pos hj, List.getElem?_drop] at e
    exact e
  obtain ⟨f, hf⟩ := choose_lt h1
  refine ⟨A, (List.range n).map f, c, by simp, by simpa using hnc, hc, ?_⟩
  rcases Nat.eq_zero_or_pos n with h0 | h0
  · exact .inl (by simp [h0])
  · obtain ⟨b, off, ha, hb, hcell⟩ := hs.2 h0
    refine .inr ⟨b, off, ha, hb, fun j hj => ?_⟩
    have hj2 : j < n := by simpa using hj
    have hj3 : (j + 1) * 3 ≤ n * 3 := Nat.mul_le_mul_right _ hj2
    have e0 := (hcell (j * 3 + 0) (by omega)).trans (hf j hj2 0 (by omega))
    have e1 := (hcell (j * 3 + 1) (by omega)).trans (hf j hj2 1 (by omega))
    have e2 := (hcell (j * 3 + 2) (by omega)).trans (hf j hj2 2 (by omega))
    simp only [List.getElem_map, List.getElem_range]
    exact ⟨e0, e1, e2⟩
theorem turns_in {fuel : Nat} {cs : List Value} {x : DataW H × List MemPlace} (h : DataW.trod enc Tryz.prog W 0 (fun _ => true) true fuel 26 cs = some x) :
    ∃ (A : Option Addr) (l : List Tr) (c : Nat), cs = [.slice A l.length c] ∧ l.length ≤ c ∧ c ≤ maxLen ∧ Tn W A l := by
  obtain ⟨A, n, c, xs, rfl, hnc, hc, hs, hel⟩ := open_elemsC Tryz.underlying26 (sz := 2) (by kernel_rfl) (by omega) h
  have h1 : ∀ i, i < n → ∃ s : Tr, ∀ j, j < 2 → xs[i * 2 + j]? = ([.int .i64 s.1, .int .i64 s.2] : List Value)[j]? := by
    intro i hi
    obtain ⟨m, y, ht⟩ := hel i hi
    have hl : ((xs.drop (i * 2)).take 2).length = 2 := by
      have := hs.1
      have : (i + 1) * 2 ≤ n * 2 := Nat.mul_le_mul_right _ hi
      simp; omega
    obtain ⟨s, hs2⟩ := trod_turn ht hl
    refine ⟨s, fun j hj => ?_⟩
    have e := congrArg (·[j]?) hs2
    simp only [List.getElem?_take, if_pos hj, List.getElem?_drop] at e
    exact e
  obtain ⟨f, hf⟩ := choose_lt h1
  refine ⟨A, (List.range n).map f, c, by simp, by simpa using hnc, hc, ?_⟩
  rcases Nat.eq_zero_or_pos n with h0 | h0
  · exact .inl (by simp [h0])
  · obtain ⟨b, off, ha, hb, hcell⟩ := hs.2 h0
    refine .inr ⟨b, off, ha, hb, fun j hj => ?_⟩
    have hj2 : j < n := by simpa using hj
    have hj3 : (j + 1) * 2 ≤ n * 2 := Nat.mul_le_mul_right _ hj2
    have e0 := (hcell (j * 2 + 0) (by omega)).trans (hf j hj2 0 (by omega))
    have e1 := (hcell (j * 2 + 1) (by omega)).trans (hf j hj2 1 (by omega))
    simp only [List.getElem_map, List.getElem_range]
    exact ⟨e0, e1⟩
theorem progs_in {fuel : Nat} {cs : List Value} {x : DataW H × List MemPlace} (h : DataW.trod enc Tryz.prog W 0 (fun _ => true) true fuel 25 cs = some x) :
    ∃ (A : Option Addr) (l : List (List Op3)) (c : Nat), cs = [.slice A l.length c] ∧ l.length ≤ c ∧ c ≤ maxLen ∧ Pr W A l := by
  obtain ⟨A, n, c, xs, rfl, hnc, hc, hs, hel⟩ := open_elemsC Tryz.underlying25 (sz := 1) (by kernel_rfl) (by omega) h
  have h1 : ∀ i, i < n → ∃ s : List Op3, ∃ A' c', xs[i]? = some (.slice A' s.length c') ∧ s.length ≤ 9223372036854775807 ∧ Ch W A' s := by
    intro i hi
    obtain ⟨m, y, ht⟩ := hel i hi
    obtain ⟨A', l, c', e, hl, hc', hch⟩ := ops_in ht
    refine ⟨l, A', c', ?_, by unfold maxLen at hc'; omega, hch⟩
    have := congrArg (·[0]?) e
    simpa [List.getElem?_take, List.getElem?_drop] using this
  obtain ⟨f, hf⟩ := choose_lt h1
  refine ⟨A, (List.range n).map f, c, by simp, by simpa using hnc, hc, ?_⟩
  rcases Nat.eq_zero_or_pos n with h0 | h0
  · exact .inl (by simp [h0])
  · obtain ⟨b, off, ha, hb, hcell⟩ := hs.2 h0
    refine .inr ⟨b, off, ha, hb, fun j hj => ?_⟩
    have hj2 : j < n := by simpa using hj
    obtain ⟨A', c', e1, e2, e3⟩ := hf j hj2
    simp only [List.getElem_map, List.getElem_range]
    exact ⟨A', c', (hcell j (by omega)).trans e1, e2, e3⟩
/-- The script. -/
theorem open_scr {v : Value} {d : DataW H} {p : List MemPlace} (hv : Value.okWide Tryz.prog W .any base 28 v) (h : DataW.Trod enc Tryz.prog W 0 (fun _ => true) true 28 v d p) :
    ∃ (x : Cf) (A B : Option Addr) (ps : List (List Op3)) (ts : List Tr) (c d : Nat), v = .agg #[.int .i64 x.t, .int .i64 x.o, .int .i64 x.c, .int .i64 x.s, .int .i64 x.p, .int .i64 x.n, .int .u8 x.b, .int .i64 x.r, .int .i64 x.v, .int .u64 x.d, .slice A ps.length c, .slice B ts.length d] ∧ ps.length ≤ c ∧ ts.length ≤ d ∧ Scr W A B ps ts ∧
      (0 ≤ x.b ∧ x.b < 256) ∧ (0 ≤ x.d ∧ x.d < 18446744073709551616) := by
  obtain ⟨cs, rfl, hsz⟩ := okWide_struct Tryz.underlying28 hv
  have hsz2 : cs.size = 12 := hsz.trans (by kernel_rfl)
  obtain ⟨fuel, hf⟩ := h
  obtain ⟨l⟩ := cs
  match l, hsz2 with
  | [c0, c1, c2, c3, c4, c5, c6, c7, c8, c9, c10, c11], _ =>
    obtain ⟨y0, y1, y2, k, _, _, t0, t1, t2⟩ := trod_struct3 Tryz.underlying28 hf
    simp [Value.cells, show Tryz.prog.cellsOf 24 = 10 from by kernel_rfl, show Tryz.prog.cellsOf 25 = 1 from by kernel_rfl, show Tryz.prog.cellsOf 26 = 1 from by kernel_rfl] at t0 t1 t2
    obtain ⟨x, e0, hb, hd⟩ := cfg_in t0 rfl
    obtain ⟨A, ps, c, e1, hpc, hcm, hpr⟩ := progs_in t1
    obtain ⟨B, ts, d, e2, htd, hdm, htn⟩ := turns_in t2
    unfold maxLen at hcm hdm
    simp only [List.cons.injEq, and_true] at e0 e1 e2
    obtain ⟨rfl, rfl, rfl, rfl, rfl, rfl, rfl, rfl, rfl, rfl⟩ := e0
    subst e1 e2
    exact ⟨x, A, B, ps, ts, c, d, rfl, hpc, htd, ⟨hpr, htn, by omega, by omega⟩, hb, hd⟩
end
end Go.Proofs.YtlgomkocalieeaaGreatDoor
