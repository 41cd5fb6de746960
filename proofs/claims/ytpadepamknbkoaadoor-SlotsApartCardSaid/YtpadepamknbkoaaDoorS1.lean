/- What the laws of layer 10 share: a table that is alive; steps that are not too many; the steps that come in; lists held against each other. -/
import Derived.Test.YtpadepamknbkoaaDoorC2
import Derived.Test.YtpadepamknbkoaaDoorOpens
import Derived.Deep.Strs
namespace Go.Proofs.YtpadepamknbkoaaDoor
set_option maxRecDepth 100000
open Go.ChangeShapes Go.WideShapes Go.ChangeAt Go.RowKit Go.Deep Go.Joins
set_option linter.unusedVariables false
set_option linter.unusedSimpArgs false

theorem made_any {w : World} {B M : Nat} {S : TS} (h : TabT w B M S) (ok : Ok S) : Calls Tryd.prog 24 #[.pointer (some ⟨M, 0, none⟩)] w fun e w' => e = .returned (.int .i64 (((S.m + S.b - 1) / S.b : Nat) : Int)) ∧ Ext w w' := by
  obtain ⟨vm, vo, h⟩ := h
  have := made_in h (by have := ok.n0; omega) (by rw [made_len]; exact Nat.le_trans ok.m1 ok.n1) ok.b0 ok.b1
  rwa [made_len] at this
def S1 : TS := ⟨2, 0, 2, [⟨1, 0, 0, 0⟩, ⟨2, 0, 0, 0⟩, z0]⟩
def S2 : TS := ⟨2, 1, 2, [⟨3, 0, 1, 1⟩, ⟨2, 0, 0, 0⟩, z0]⟩
def S3 : TS := ⟨2, 1, 2, [⟨1, 0, 1, 1⟩, ⟨2, 0, 0, 0⟩, z0]⟩
theorem ok0 : Ok (TS.new 3 2) := new_ok (by omega) (by omega) (by omega) (by omega)
theorem al1 {a g e : Int} {S' : TS} (h : Tk (TS.new 3 2) 0 a g e S') : a = 0 ∧ g = 0 ∧ e = 0 ∧ S' = S1 := by
  cases h with
  | own r k h => rw [new_mine ok0] at h; simp at h
  | com k hz h hk => have := hk.2.1; rw [new_com] at this; cases this
  | grow hz h hc hl => exact ⟨rfl, rfl, rfl, rfl⟩
  | out hz h hc hl => exact absurd hl (by decide)
  | arg hz => exact absurd hz (by decide)
theorem al2 : frE S1 0 0 = 0 ∧ frS S1 0 0 = S2 := ⟨by decide, rfl⟩
theorem al3 {a g e : Int} {S' : TS} (h : Tk S2 0 a g e S') : a = 0 ∧ g = 1 ∧ e = 0 ∧ S' = S3 := by
  have hm : S2.mine 0 = [0] := by decide
  cases h with
  | own r k h =>
    rw [hm] at h
    have h2 : r = [] ∧ k = 0 := by
      cases r with
      | nil => simp at h; exact ⟨rfl, h.symm⟩
      | cons x r => simp at h
    obtain ⟨rfl, rfl⟩ := h2
    exact ⟨rfl, rfl, rfl, rfl⟩
  | com k hz h hk => rw [hm] at h; cases h
  | grow hz h hc hl => rw [hm] at h; cases h
  | out hz h hc hl => rw [hm] at h; cases h
  | arg hz => exact absurd hz (by decide)
set_option maxRecDepth 100000 in
theorem alive_any (w : World) (hT : Tb w) : Calls Tryd.prog 9 #[] w fun e w' => e = .returned (.bool true) ∧ Ext w w' := by
  have hB := Nat.le_refl w.heap.size
  go_enter Tryd.func9, Tryd.ntmps9
  go_wp2_with fail
  refine (new_in 3 2 _ hT (by omega) (by omega) (by omega) (by omega)).mono ?_
  rintro e w1 ⟨M, rfl, hm, hX⟩
  go_wp2_with fail
  refine (take_any hm ok0 0).mono ?_
  rintro e w2 ⟨a, g, er, S', rfl, hk, hm, hc⟩
  have k1 := hk.ok ok0
  obtain ⟨rfl, rfl, rfl, rfl⟩ := al1 hk
  have hX := hc.ext hX hB
  clear hc hk
  go_wp2_with fail
  refine (free_any hm k1 0 0).mono ?_
  have k2 := k1.fr 0 0
  rw [al2.1, al2.2]
  rw [al2.2] at k2
  rintro e w3 ⟨rfl, hm, hc⟩
  have hX := hc.ext hX hB
  clear hc
  go_wp2_with fail
  refine (take_any hm k2 0).mono ?_
  rintro e w4 ⟨a, g, er, S', rfl, hk, hm, hc⟩
  have k3 := hk.ok k2
  obtain ⟨rfl, rfl, rfl, rfl⟩ := al3 hk
  have hX := hc.ext hX hB
  clear hc hk
  go_wp2_with fail
  refine (check_any hm k3 0 1).mono ?_
  rintro e w5 ⟨rfl, rfl⟩
  go_wp2_with fail
  refine (check_any hm k3 0 0).mono ?_
  rintro e w5 ⟨rfl, rfl⟩
  go_wp2_with fail
  refine (made_any hm k3).mono ?_
  rw [show (S3.m + S3.b - 1) / S3.b = 1 from by decide]
  rintro e w5 ⟨rfl, hx⟩
  go_wp2_with fail
  go_ret
  exact ⟨by simp, hX.trans hx⟩
theorem short_any (A : Option Addr) (n c : Nat) (w : World) (hn : n ≤ c) (hc : c ≤ maxLen) :
    Calls Tryd.prog 10 #[.slice A n c] w fun e w' => e = .returned (.slice A (min n 120) c) ∧ w = w' := by
  unfold maxLen at hc
  by_cases h : n ≤ 120
  · have h1 : (n : Int) ≤ 120 := by omega
    have E := hide (show min n 120 = n by omega)
    go_enter Tryd.func10, Tryd.ntmps10
    go_wp2
    go_ret
    exact ⟨by rw [E.out]; simp, rfl⟩
  · have h1 : ¬ (n : Int) ≤ 120 := by omega
    have E := hide (show min n 120 = 120 by omega)
    have h2 : 120 ≤ c := by omega
    go_enter Tryd.func10, Tryd.ntmps10
    go_wp2
    go_ret
    exact ⟨by rw [E.out]; simp, rfl⟩
set_option maxRecDepth 100000 in
/-- One list twice is the same. -/
theorem same_any {w : World} {b1 b2 : Nat} {v1 v2 : Value} {l : List Nat} (h1 : w.ownsRow b1 3 1 v1 l.length (l.map enI)) (h2 : w.ownsRow b2 3 1 v2 l.length (l.map enI)) (hl : l.length ≤ 4096) :
    Calls Tryd.prog 32 #[v1, v2] w fun e w' => e = .returned (.bool true) ∧ Ext w w' := by
  obtain ⟨A1, c1, rfl⟩ := own_sl h1
  obtain ⟨A2, c2, rfl⟩ := own_sl h2
  have H1 := hide h1
  have H2 := hide h2
  have hW := Ext.refl w
  clear h1 h2
  go_enter Tryd.func32, Tryd.ntmps32
  go_wp2_with fail
  go_loopw [13] (fun i wr => ∃ j : Nat, j ≤ l.length ∧ i = .int .i64 (j : Int) ∧ Ext w wr) (fun i _ => l.length - (intOf i).toNat)
  case atStart => exact ⟨0, by omega, rfl, hW⟩
  case round =>
    clear hW
    obtain ⟨j, hj, rfl, hW⟩ := hrel
    by_cases hlt : j < l.length
    · obtain ⟨g1, c1', e1, r1⟩ := own_atN3 H1.out rfl (List.getElem?_eq_getElem hlt)
      obtain ⟨g2, c2', e2, r2⟩ := own_atN3 H2.out rfl (List.getElem?_eq_getElem hlt)
      cases e1
      cases e2
      have E := hide (rfl : l[j] = l[j])
      generalize l[j] = q at *
      go_wp2_with fail
      refine wp_region_ext (by kernel_rfl) (by kernel_rfl) ?_
      repeat
        with_reducible refine wpQuiet_step (fun K hK => ?_)
        go_simp
        first
        | (refine hK _ ?_; clear hK K)
        | (apply Exists.intro
           refine ⟨fun w1 h1 => ?_, hK _ ?_⟩
           (have hW := Ext.trans2 hW (by repeat (first | exact Ext.refl _ | exact Ext.alloc _ _ | exact Ext.drewN _ _ | assumption | refine Ext.trans ?_ (Ext.alloc _ _) | refine Ext.trans ?_ (Ext.drew _) | refine Ext.trans ?_ (by assumption))) h1; (try have hV := Ext.trans2 hV (by repeat (first | exact Ext.refl _ | exact Ext.alloc _ _ | exact Ext.drewN _ _ | assumption | refine Ext.trans ?_ (Ext.alloc _ _) | refine Ext.trans ?_ (Ext.drew _) | refine Ext.trans ?_ (by assumption))) h1); (first | rfl | (go_simp; done) | (go_simp; rfl) | fail))
           clear hK K)
      refine wpQuiet_nil (fun w' hw' => ?_)
      have hW := Ext.trans2 hW (by repeat (first | exact Ext.refl _ | exact Ext.alloc _ _ | exact Ext.drewN _ _ | assumption | refine Ext.trans ?_ (Ext.alloc _ _) | refine Ext.trans ?_ (Ext.drew _) | refine Ext.trans ?_ (by assumption))) hw'
      try have hV := Ext.trans2 hV (by repeat (first | exact Ext.refl _ | exact Ext.alloc _ _ | exact Ext.drewN _ _ | assumption | refine Ext.trans ?_ (Ext.alloc _ _) | refine Ext.trans ?_ (Ext.drew _) | refine Ext.trans ?_ (by assumption))) hw'
      clear hw'
      go_wp2_with fail
      go_roundw
      case rel => exact ⟨j + 1, by omega, by go_num, hW⟩
      case measure => simp [intOf]; omega
    · obtain rfl : j = l.length := by omega
      go_wp2_with fail
      go_ret
      exact ⟨rfl, hW⟩
/-- A step: its kind, thread, slot. -/
structure Stp where
  k : Int
  n : Int
  s : Int
instance : Inhabited Stp := ⟨⟨0, 0, 0⟩⟩
def sc (s : Stp) : Array Value := #[.int .u8 s.k, .int .i64 s.n, .int .i64 s.s]
structure Okst (s : Stp) : Prop where
  k0 : 0 ≤ s.k
  k1 : s.k ≤ 255
  n0 : -9223372036854775808 ≤ s.n
  n1 : s.n ≤ 9223372036854775807
/-- The steps that a slice reads as. -/
def Stps (w : World) (B : Nat) (A : Option Addr) (n : Nat) (f : Nat → Stp) : Prop :=
  ∀ k, k < n → ∃ b off, A = some ⟨b, off, none⟩ ∧ b < B ∧ ∀ i, i < 3 → w.cell? ⟨b, off + (k * 3 + i), none⟩ = (sc (f k))[i]?
theorem Stps.chg {w w' : World} {B n : Nat} {A : Option Addr} {f : Nat → Stp} (h : Stps w B A n f) (x : Ext w w') (hB : B ≤ w.heap.size) : Stps w' B A n f := fun k hk => by
  obtain ⟨b, off, ha, hb, hc⟩ := h k hk
  exact ⟨b, off, ha, hb, fun i hi => (x.oldCell _ _ (by omega)).trans (hc i hi)⟩
theorem Stps.rules {w : World} {B n : Nat} {A : Option Addr} {f : Nat → Stp} (h : Stps w B A n f) {k : Nat} (hk : k < n) :
    ∃ b off, A = some ⟨b, off, none⟩ ∧ b < B ∧ w.cell? ⟨b, off + k * 3, none⟩ = some (.int .u8 (f k).k) ∧ w.cell? ⟨b, off + k * 3 + 1, none⟩ = some (.int .i64 (f k).n) ∧ w.cell? ⟨b, off + k * 3 + 2, none⟩ = some (.int .i64 (f k).s) := by
  obtain ⟨b, off, ha, hb, hc⟩ := h k hk
  refine ⟨b, off, ha, hb, hc 0 (by omega), ?_, ?_⟩
  · rw [Nat.add_assoc]; exact hc 1 (by omega)
  · rw [Nat.add_assoc]; exact hc 2 (by omega)
section
variable {H : Type} {enc : TypeId × Value → H} {W : World} {base : Nat}
theorem open_cells {fuel : Nat} {cs : List Value} {x : DataW H × List MemPlace} (hl : cs.length = 3) (ht : DataW.trod enc Tryd.prog W 0 (fun _ => true) true fuel 35 cs = some x) : ∃ s : Stp, cs = (sc s).toList ∧ Okst s := by
  obtain ⟨y0, y1, y2, k, _, _, t0, t1, t2⟩ := trod_struct3 Tryd.underlying35 ht
  obtain ⟨q0, e0, _, w0⟩ := DataW.trod_int Tryd.underlying5 t0
  obtain ⟨q1, e1, _, w1⟩ := DataW.trod_int Tryd.underlying3 t1
  obtain ⟨q2, e2, _, w2⟩ := DataW.trod_int Tryd.underlying3 t2
  have b0 := bounds_u8 w0
  have b1 := bounds_i64 w1
  match cs, hl with
  | [c0, c1, c2], _ =>
    simp [show Tryd.prog.cellsOf 5 = 1 from by kernel_rfl, show Tryd.prog.cellsOf 3 = 1 from by kernel_rfl] at e0 e1 e2
    subst e0 e1 e2
    exact ⟨⟨q0, q1, q2⟩, rfl, by simp only; omega, by simp only; omega, by simp only; omega, by simp only; omega⟩
theorem open_steps {v : Value} {d : DataW H} {p : List MemPlace} (hv : Value.okWide Tryd.prog W .any base 22 v) (h : DataW.Trod enc Tryd.prog W 0 (fun _ => true) true 22 v d p) :
    ∃ (A : Option Addr) (n c : Nat) (f : Nat → Stp), v = .slice A n c ∧ n ≤ c ∧ c ≤ maxLen ∧ Stps W W.heap.size A n f ∧ ∀ k, k < n → Okst (f k) := by
  obtain ⟨A, n, c, xs, rfl, hnc, hc, hs, hel⟩ := open_elems Tryd.underlying22 (sz := 3) (by kernel_rfl) (by omega) hv h
  have h1 : ∀ i, i < n → ∃ s : Stp, (∀ j, j < 3 → xs[i * 3 + j]? = (sc s)[j]?) ∧ Okst s := by
    intro i hi
    obtain ⟨m, y, ht⟩ := hel i hi
    have hl : ((xs.drop (i * 3)).take 3).length = 3 := by
      have := hs.1
      have : (i + 1) * 3 ≤ n * 3 := Nat.mul_le_mul_right _ hi
      simp; omega
    obtain ⟨s, hs2, ok⟩ := open_cells hl ht
    refine ⟨s, fun j hj => ?_, ok⟩
    have e := congrArg (·[j]?) hs2
    simp only [List.getElem?_take, if_pos hj, List.getElem?_drop, Array.getElem?_toList] at e
    exact e
  obtain ⟨f, hf⟩ := choose_lt h1
  refine ⟨A, n, c, f, rfl, hnc, hc, fun k hk => ?_, fun k hk => (hf k hk).2⟩
  obtain ⟨b, off, ha, hb, hcells⟩ := hs.at_ hk
  exact ⟨b, off, ha, hb, fun i hi => (hcells i hi).trans ((hf k hk).1 i hi)⟩
end
end Go.Proofs.YtpadepamknbkoaaDoor
