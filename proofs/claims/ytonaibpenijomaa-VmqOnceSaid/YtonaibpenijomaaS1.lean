/- What the laws of layer 18 share: a queue that is alive; lists that are the same; the steps that come in. -/
import Derived.Test.YtonaibpenijomaaQ5
import Derived.Test.YtonaibpenijomaaOpens
import Derived.Deep.Strs
namespace Go.Proofs.Ytonaibpenijomaa
open Go.ChangeShapes Go.WideShapes Go.ChangeAt Go.RowKit Go.Deep Go.Joins
set_option linter.unusedVariables false
set_option linter.unusedSimpArgs false
set_option maxRecDepth 100000


theorem Fr.low {w0 w : World} {O O' : List Nat} (h : Fr O O' w) (hO : ∀ k, k ∈ O → w0.heap.size ≤ k) (hx : Ext w0 w) : ∀ k, k ∈ O' → w0.heap.size ≤ k := fun k hk => by
  rcases h k hk with q | q
  · exact hO k q
  · exact Nat.le_trans hx.size q
theorem al1 : askB [] (1, 3) 0 = true ∧ askE [] (1, 3) 0 = 0 ∧ askS [] (1, 3) 0 = [((1, 3), [0])] := by decide
theorem al2 : askB [((1, 3), [0])] (1, 3) 1 = false ∧ askE [((1, 3), [0])] (1, 3) 1 = 0 ∧ askS [((1, 3), [0])] (1, 3) 1 = [((1, 3), [0, 1])] := by decide
theorem wf13 : wfR (1, 3) := ⟨wfI_of (by decide) (by decide), wfI_of (by decide) (by decide)⟩
set_option maxHeartbeats 1000000 in
theorem alive_any (w : World) : Calls Try.prog 18 #[] w fun e w' => e = .returned (.bool true) ∧ Ext w w' := by
  go_enter Try.func18, Try.ntmps18
  go_wp2_with fail
  refine (new_any _).mono ?_
  rintro e w1 ⟨O1, C, rfl, hq, hO, hX⟩
  go_wp2_with fail
  refine (ask_any 0 hq wf13).mono ?_
  rw [al1.1, al1.2.1, al1.2.2]
  rintro e w2 ⟨rfl, O2, hq2, hc2, hf2⟩
  have hX2 := hX.turn hc2 hO
  have hO2 := hf2.low hO hX
  clear hq hO hX hc2 hf2
  go_wp2_with fail
  refine (ask_any 1 hq2 wf13).mono ?_
  rw [al2.1, al2.2.1, al2.2.2]
  rintro e w3 ⟨rfl, O3, hq3, hc3, hf3⟩
  have hX3 := hX2.turn hc3 hO2
  have hO3 := hf3.low hO2 hX2
  clear hq2 hO2 hX2 hc3 hf3
  go_wp2_with fail
  refine (len_any hq3.any).mono ?_
  rintro e w4 ⟨rfl, hx⟩
  have hq4 := hq3.ext hx
  have hX4 := hX3.trans hx
  clear hq3 hX3 hx
  go_wp2_with fail
  refine (next_some hq4).mono ?_
  rintro e w5 ⟨s, rfl, hr5, _, hq5, hc5⟩
  obtain ⟨A, c, es⟩ := own_sl hr5
  rw [es]
  have hX5 := hX4.turn hc5 hO3
  have hxa := Ext.alloc w5 (.cells #[.int .i64 1, .int .i64 3] 33)
  have hw := waits_in 0 (hq5.ext hxa).any
  rw [show waitsB [] 0 = false by decide] at hw
  clear hq4 hX4 hr5 es hc5
  go_wp2_with fail
  refine hw.mono ?_
  rintro e w6 ⟨rfl, hx⟩
  go_wp2_with fail
  go_ret
  exact ⟨by simp, (hX5.trans hxa).trans hx⟩
theorem short_any (A : Option Addr) (n c : Nat) (w : World) (hn : n ≤ c) (hc : c ≤ maxLen) :
    Calls Try.prog 8 #[.slice A n c] w fun e w' => e = .returned (.slice A (min n 400) c) ∧ w = w' := by
  unfold maxLen at hc
  by_cases h : n ≤ 400
  · have h1 : (n : Int) ≤ 400 := by omega
    have E := hide (show min n 400 = n by omega)
    go_enter Try.func8, Try.ntmps8
    go_wp2
    go_ret
    exact ⟨by rw [E.out]; simp, rfl⟩
  · have h1 : ¬ (n : Int) ≤ 400 := by omega
    have E := hide (show min n 400 = 400 by omega)
    have h2 : 400 ≤ c := by omega
    go_enter Try.func8, Try.ntmps8
    go_wp2
    go_ret
    exact ⟨by rw [E.out]; simp, rfl⟩
theorem same_any {w : World} {A1 A2 : Option Addr} {c1 c2 : Nat} {l : List Int} (h1 : Ch w A1 l) (h2 : Ch w A2 l) (hl : l.length ≤ 70000) : Calls Try.prog 11 #[.slice A1 l.length c1, .slice A2 l.length c2] w fun e w' => e = .returned (.bool true) ∧ Ext w w' := by
  have H1 := hide h1
  have H2 := hide h2
  have hX0 := Ext.refl w
  clear h1 h2
  go_enter Try.func11, Try.ntmps11
  go_wp2_with fail
  go_loopw [13] (fun i wr => ∃ j : Nat, j ≤ l.length ∧ i = .int .i64 (j : Int) ∧ Ext w wr) (fun i _ => l.length - (intOf i).toNat)
  case atStart => exact ⟨0, by omega, rfl, hX0⟩
  case round =>
    clear hX0
    obtain ⟨j, hj, rfl, hX⟩ := hrel
    by_cases hlt : j < l.length
    · obtain ⟨b1, o1, rfl, r1⟩ := (H1.out.ext hX).at_ hlt
      obtain ⟨b2, o2, rfl, r2⟩ := (H2.out.ext hX).at_ hlt
      have hW := Ext.refl wr
      generalize l[j] = x at *
      have HX := hide hX
      clear hX
      go_wp2_with fail
      refine wp_region_ext (by kernel_rfl) (by kernel_rfl) ?_
      repeat
        with_reducible refine wpQuiet_step (fun K hK => ?_)
        go_simp
        first
        | (refine hK _ ?_; clear hK K)
        | (apply Exists.intro
           refine ⟨fun w1 h1 => ?_, hK _ ?_⟩
           (have hW := Ext.trans2 hW (by repeat (first | exact Ext.refl _ | exact Ext.alloc _ _ | exact Ext.drewN _ _ | assumption | refine Ext.trans ?_ (Ext.alloc _ _) | refine Ext.trans ?_ (Ext.drew _) | refine Ext.trans ?_ (by assumption))) h1; (try have hV := Ext.trans2 hV (by repeat (first | exact Ext.refl _ | exact Ext.alloc _ _ | exact Ext.drewN _ _ | assumption | refine Ext.trans ?_ (Ext.alloc _ _) | refine Ext.trans ?_ (Ext.drew _) | refine Ext.trans ?_ (by assumption))) h1); (first | rfl | (go_simp; done) | (go_simp; rfl) | fail))
           clear hK K)
      refine wpQuiet_nil (fun w' hw' => ?_)
      have hW := Ext.trans2 hW (by repeat (first | exact Ext.refl _ | exact Ext.alloc _ _ | exact Ext.drewN _ _ | assumption | refine Ext.trans ?_ (Ext.alloc _ _) | refine Ext.trans ?_ (Ext.drew _) | refine Ext.trans ?_ (by assumption))) hw'
      try have hV := Ext.trans2 hV (by repeat (first | exact Ext.refl _ | exact Ext.alloc _ _ | exact Ext.drewN _ _ | assumption | refine Ext.trans ?_ (Ext.alloc _ _) | refine Ext.trans ?_ (Ext.drew _) | refine Ext.trans ?_ (by assumption))) hw'
      clear hw'
      go_wp2_with fail
      go_roundw
      case rel => exact ⟨j + 1, by omega, by go_num, HX.out.trans hW⟩
      case measure => simp [intOf]; omega
    · obtain rfl : j = l.length := by omega
      go_wp2_with fail
      go_ret
      exact ⟨by simp, hX⟩
/-- A step: its kind, the request's kind and object, the thread. -/
structure Stp where
  k : Int
  a : Int
  o : Int
  t : Int
instance : Inhabited Stp := ⟨⟨0, 0, 0, 0⟩⟩
def sc (s : Stp) : Array Value := #[.int .u8 s.k, .int .i64 s.a, .int .i64 s.o, .int .i64 s.t]
structure Okst (s : Stp) : Prop where
  k0 : 0 ≤ s.k
  k1 : s.k ≤ 255
  r : wfR (s.a, s.o)
  t : wfI s.t
/-- The steps that a slice reads as. -/
def Stps (w : World) (A : Option Addr) (n : Nat) (f : Nat → Stp) : Prop :=
  ∀ k, k < n → ∃ b off, A = some ⟨b, off, none⟩ ∧ b < w.heap.size ∧ ∀ i, i < 4 → w.cell? ⟨b, off + (k * 4 + i), none⟩ = (sc (f k))[i]?
theorem Stps.rules {w : World} {n : Nat} {A : Option Addr} {f : Nat → Stp} (h : Stps w A n f) {k : Nat} (hk : k < n) :
    ∃ b off, A = some ⟨b, off, none⟩ ∧ (∀ w', Ext w w' → w'.cell? ⟨b, off + k * 4, none⟩ = some (.int .u8 (f k).k)) ∧ (∀ w', Ext w w' → w'.cell? ⟨b, off + k * 4 + 1, none⟩ = some (.int .i64 (f k).a)) ∧
      (∀ w', Ext w w' → w'.cell? ⟨b, off + k * 4 + 2, none⟩ = some (.int .i64 (f k).o)) ∧ (∀ w', Ext w w' → w'.cell? ⟨b, off + k * 4 + 3, none⟩ = some (.int .i64 (f k).t)) := by
  obtain ⟨b, off, ha, hb, hc⟩ := h k hk
  refine ⟨b, off, ha, fun w' x => (x.oldCell _ _ hb).trans (hc 0 (by omega)), fun w' x => (x.oldCell _ _ hb).trans ?_, fun w' x => (x.oldCell _ _ hb).trans ?_, fun w' x => (x.oldCell _ _ hb).trans ?_⟩
  · rw [Nat.add_assoc]; exact hc 1 (by omega)
  · rw [Nat.add_assoc]; exact hc 2 (by omega)
  · rw [Nat.add_assoc]; exact hc 3 (by omega)
section
variable {H : Type} {enc : TypeId × Value → H} {W : World} {base : Nat}
theorem open_req {fuel : Nat} {cs : List Value} {x : DataW H × List MemPlace} {spare : Nat → Bool} {held : Bool} {b0 : Nat} (hl : cs.length = 2) (ht : DataW.trod enc Try.prog W b0 spare held fuel 30 cs = some x) : ∃ p : Rq, cs = [.int .i64 p.1, .int .i64 p.2] ∧ wfR p := by
  obtain ⟨y0, y1, k, _, _, t0, t1⟩ := trod_struct2 Try.underlying30 ht
  obtain ⟨q0, e0, _, w0⟩ := DataW.trod_int Try.underlying3 t0
  obtain ⟨q1, e1, _, w1⟩ := DataW.trod_int Try.underlying3 t1
  match cs, hl with
  | [c0, c1], _ =>
    simp [show Try.prog.cellsOf 3 = 1 from by kernel_rfl] at e0 e1
    subst e0 e1
    exact ⟨(q0, q1), rfl, w0, w1⟩
theorem open_cells {fuel : Nat} {cs : List Value} {x : DataW H × List MemPlace} (hl : cs.length = 4) (ht : DataW.trod enc Try.prog W 0 (fun _ => true) true fuel 32 cs = some x) : ∃ s : Stp, cs = (sc s).toList ∧ Okst s := by
  obtain ⟨y0, y1, y2, k, _, _, t0, t1, t2⟩ := trod_struct3 Try.underlying32 ht
  obtain ⟨q0, e0, _, w0⟩ := DataW.trod_int Try.underlying5 t0
  obtain ⟨q2, e2, _, w2⟩ := DataW.trod_int Try.underlying3 t2
  have b0 := bounds_u8 w0
  match cs, hl with
  | [c0, c1, c2, c3], _ =>
    simp [show Try.prog.cellsOf 5 = 1 from by kernel_rfl, show Try.prog.cellsOf 30 = 2 from by kernel_rfl, show Try.prog.cellsOf 3 = 1 from by kernel_rfl] at e0 t1 e2
    obtain ⟨p, e1, w1⟩ := open_req (by rfl) t1
    simp only [List.cons.injEq, and_true] at e1
    obtain ⟨rfl, rfl⟩ := e1
    subst e0 e2
    exact ⟨⟨q0, p.1, p.2, q2⟩, rfl, by simp only; omega, by simp only; omega, w1, w2⟩
theorem open_steps {v : Value} {d : DataW H} {p : List MemPlace} (hv : Value.okWide Try.prog W .any base 22 v) (h : DataW.Trod enc Try.prog W 0 (fun _ => true) true 22 v d p) :
    ∃ (A : Option Addr) (n c : Nat) (f : Nat → Stp), v = .slice A n c ∧ n ≤ c ∧ c ≤ maxLen ∧ Stps W A n f ∧ ∀ k, k < n → Okst (f k) := by
  obtain ⟨A, n, c, xs, rfl, hnc, hc, hs, hel⟩ := open_elems Try.underlying22 (sz := 4) (by kernel_rfl) (by omega) hv h
  have h1 : ∀ i, i < n → ∃ s : Stp, (∀ j, j < 4 → xs[i * 4 + j]? = (sc s)[j]?) ∧ Okst s := by
    intro i hi
    obtain ⟨m, y, ht⟩ := hel i hi
    have hl : ((xs.drop (i * 4)).take 4).length = 4 := by
      have := hs.1
      have : (i + 1) * 4 ≤ n * 4 := Nat.mul_le_mul_right _ hi
      simp; omega
    obtain ⟨s, hs2, ok⟩ := open_cells hl ht
    refine ⟨s, fun j hj => ?_, ok⟩
    have e := congrArg (·[j]?) hs2
    simp only [List.getElem?_take, if_pos hj, List.getElem?_drop, Array.getElem?_toList] at e
    exact e
  obtain ⟨f, hf⟩ := choose_lt h1
  refine ⟨A, n, c, f, rfl, hnc, hc, fun k hk => ?_, fun k hk => (hf k hk).2⟩
  obtain ⟨b, off, ha, hb, hcells⟩ := hs.at_ hk
  exact ⟨b, off, ha, hb, fun i hi => (hcells i hi).trans ((hf k hk).1 i hi)⟩
end
theorem open_step {H : Type} {enc : TypeId × Value → H} {W : World} {base : Nat} {v : Value} {d : DataW H} {p : List MemPlace} (hv : Value.okWide Try.prog W .any base 32 v)
    (h : DataW.Trod enc Try.prog W 0 (fun _ => true) true 32 v d p) : ∃ s : Stp, v = .agg (sc s) ∧ Okst s := by
  obtain ⟨cs, rfl, hsz⟩ := okWide_struct Try.underlying32 hv
  obtain ⟨fuel, hf⟩ := h
  have hc : Try.prog.cellsOf 32 = 4 := by kernel_rfl
  have hcc : (Value.agg cs).cells = cs := rfl
  rw [hcc] at hf
  obtain ⟨s, e, ok⟩ := open_cells (by simpa using hsz.trans hc) hf
  exact ⟨s, by rw [show cs = sc s from Array.toList_inj.1 e], ok⟩
end Go.Proofs.Ytonaibpenijomaa
