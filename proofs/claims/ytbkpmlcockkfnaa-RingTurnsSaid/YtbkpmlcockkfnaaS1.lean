/- What the laws of layer 13 share: a ring that is alive; a step done; steps that are not too many; lists held against each other; the steps that come in. -/
import Derived.Test.YtbkpmlcockkfnaaR2
import Derived.Test.YtbkpmlcockkfnaaM1
import Derived.Test.YtbkpmlcockkfnaaOpens
import Derived.Deep.Strs
import Derived.ChangeSame
namespace Go.Proofs.Ytbkpmlcockkfnaa
set_option maxRecDepth 100000
open Go.ChangeShapes Go.WideShapes Go.ChangeAt Go.RowKit Go.Deep Go.Joins
set_option linter.unusedVariables false
set_option linter.unusedSimpArgs false


theorem run_neqW (a b : Int) (w : World) : Sem.run Try.prog (binOp .neq 29 (Value.agg #[.int .i64 a, .int .i64 b]) (Value.agg #[.int .i64 a, .int .i64 b])) w = .ok (.bool false) w := by
  go_simp
/-- Two lists held against each other. -/
theorem same_any {w : World} {A1 A2 : Option Addr} {n c1 c2 : Nat} {l : List Wt} (h1 : Ch w A1 l) (h2 : Ch w A2 l) (hn : l.length = n) (hl : n ≤ 70000) :
    Calls Try.prog 13 #[.slice A1 n c1, .slice A2 n c2] w fun e w' => e = .returned (.bool true) ∧ Ext w w' := by
  have H1 := hide h1
  have H2 := hide h2
  have HN := hide hn
  have hW0 := Ext.refl w
  clear h1 h2 hn
  go_enter Try.func13, Try.ntmps13
  go_wp2_with fail
  go_loopw [14] (fun i wr => ∃ j : Nat, j ≤ n ∧ i = .int .i64 (j : Int) ∧ Ext w wr) (fun i _ => n - (intOf i).toNat)
  case atStart => exact ⟨0, by omega, rfl, hW0⟩
  case round =>
    clear hW0
    obtain ⟨j, hj, rfl, hW0⟩ := hrel
    by_cases hlt : j < n
    · have hjn : j < l.length := by have := HN.out; omega
      obtain ⟨b1, o1, rfl, r1⟩ := (H1.out.ext hW0).at_ hjn
      obtain ⟨b2, o2, rfl, r2⟩ := (H2.out.ext hW0).at_ hjn
      generalize l[j] = q at *
      obtain ⟨s0, s1⟩ := r1 wr (Ext.refl _)
      have hA := Ext.alloc wr (Obj.cells #[.int .i64 q.1, .int .i64 q.2] 32)
      have HB := hide (Blk.new wr #[Value.int .i64 q.1, .int .i64 q.2] 32)
      have t0 := fun w' (x : Ext (wr.alloc (Obj.cells #[.int .i64 q.1, .int .i64 q.2] 32)) w') => (r2 w' (hA.trans x)).1
      have t1 := fun w' (x : Ext (wr.alloc (Obj.cells #[.int .i64 q.1, .int .i64 q.2] 32)) w') => (r2 w' (hA.trans x)).2
      have rb := fun w' (x : Ext (wr.alloc (Obj.cells #[.int .i64 q.1, .int .i64 q.2] 32)) w') => (HB.out.ext x).cell
      have RN := run_neqW
      have HX := hide (hW0.trans hA)
      clear r1 r2 hA hW0 hjn
      go_wp2_with fail
      generalize wr.alloc (Obj.cells #[.int .i64 q.1, .int .i64 q.2] 32) = W1 at *
      have hW := Ext.refl W1
      clear s0 s1
      refine wp_region_ext (by kernel_rfl) (by kernel_rfl) ?_
      repeat
        with_reducible refine wpQuiet_step (fun K hK => ?_)
        go_simp
        first
        | (refine hK _ ?_; clear hK K)
        | (apply Exists.intro
           refine ⟨fun w1 h1 => ?_, hK _ ?_⟩
           (have hW := Ext.trans2 hW (by repeat (first | exact Ext.refl _ | exact Ext.alloc _ _ | exact Ext.drewN _ _ | assumption | refine Ext.trans ?_ (Ext.alloc _ _) | refine Ext.trans ?_ (Ext.drew _) | refine Ext.trans ?_ (by assumption))) h1; (try have hV := Ext.trans2 hV (by repeat (first | exact Ext.refl _ | exact Ext.alloc _ _ | exact Ext.drewN _ _ | assumption | refine Ext.trans ?_ (Ext.alloc _ _) | refine Ext.trans ?_ (Ext.drew _) | refine Ext.trans ?_ (by assumption))) h1); (first | rfl | (go_simp; done) | (go_simp; rfl) | fail))
           clear hK K)
      refine wpQuiet_nil (fun w' hw' => ?_)
      have hW := Ext.trans2 hW (by repeat (first | exact Ext.refl _ | exact Ext.alloc _ _ | exact Ext.drewN _ _ | assumption | refine Ext.trans ?_ (Ext.alloc _ _) | refine Ext.trans ?_ (Ext.drew _) | refine Ext.trans ?_ (by assumption))) hw'
      try have hV := Ext.trans2 hV (by repeat (first | exact Ext.refl _ | exact Ext.alloc _ _ | exact Ext.drewN _ _ | assumption | refine Ext.trans ?_ (Ext.alloc _ _) | refine Ext.trans ?_ (Ext.drew _) | refine Ext.trans ?_ (by assumption))) hw'
      clear hw'
      go_wp2_with fail
      go_roundw
      case rel => exact ⟨j + 1, by omega, by go_num, HX.out.trans hW⟩
      case measure => simp [intOf]; omega
    · obtain rfl : j = n := by omega
      go_wp2_with fail
      go_ret
      exact ⟨rfl, hW0⟩
theorem short_any (A : Option Addr) (n c : Nat) (w : World) (hn : n ≤ c) (hc : c ≤ maxLen) :
    Calls Try.prog 7 #[.slice A n c] w fun e w' => e = .returned (.slice A (min n 100) c) ∧ w = w' := by
  unfold maxLen at hc
  by_cases h : n ≤ 100
  · have h1 : (n : Int) ≤ 100 := by omega
    have E := hide (show min n 100 = n by omega)
    go_enter Try.func7, Try.ntmps7
    go_wp2
    go_ret
    exact ⟨by rw [E.out]; simp <;> omega, rfl⟩
  · have h1 : ¬ (n : Int) ≤ 100 := by omega
    have E := hide (show min n 100 = 100 by omega)
    have h2 : 100 ≤ c := by omega
    go_enter Try.func7, Try.ntmps7
    go_wp2
    go_ret
    exact ⟨by rw [E.out]; simp <;> omega, rfl⟩
/-- A step: its kind, its waiter. -/
structure Stp where
  k : Int
  t : Int
  n : Int
instance : Inhabited Stp := ⟨⟨0, 0, 0⟩⟩
def sc (s : Stp) : Array Value := #[.int .u8 s.k, .int .i64 s.t, .int .i64 s.n]
structure Okst (s : Stp) : Prop where
  k0 : 0 ≤ s.k
  k1 : s.k ≤ 255
  t0 : (ky s.t).wf = true
  n0 : (ky s.n).wf = true
/-- The steps that a slice reads as. -/
def Stps (w : World) (A : Option Addr) (n : Nat) (f : Nat → Stp) : Prop :=
  ∀ k, k < n → ∃ b off, A = some ⟨b, off, none⟩ ∧ b < w.heap.size ∧ ∀ i, i < 3 → w.cell? ⟨b, off + (k * 3 + i), none⟩ = (sc (f k))[i]?
theorem Stps.rules {w : World} {n : Nat} {A : Option Addr} {f : Nat → Stp} (h : Stps w A n f) {k : Nat} (hk : k < n) :
    ∃ b off, A = some ⟨b, off, none⟩ ∧ (∀ w', Ext w w' → w'.cell? ⟨b, off + k * 3, none⟩ = some (.int .u8 (f k).k)) ∧ (∀ w', Ext w w' → w'.cell? ⟨b, off + k * 3 + 1, none⟩ = some (.int .i64 (f k).t)) ∧ (∀ w', Ext w w' → w'.cell? ⟨b, off + k * 3 + 2, none⟩ = some (.int .i64 (f k).n)) := by
  obtain ⟨b, off, ha, hb, hc⟩ := h k hk
  refine ⟨b, off, ha, fun w' x => (x.oldCell _ _ hb).trans (hc 0 (by omega)), fun w' x => (x.oldCell _ _ hb).trans ?_, fun w' x => (x.oldCell _ _ hb).trans ?_⟩
  · rw [Nat.add_assoc]; exact hc 1 (by omega)
  · rw [Nat.add_assoc]; exact hc 2 (by omega)
/-- What a step makes of a ring, what it tells. -/
def doL (l : List Wt) (k t n : Int) : List Wt := if k % 4 = 1 then rmL l t else if k % 4 = 2 then tuL l else adL l (t, n)
def doB (l : List Wt) (k t n : Int) : Bool := if k % 4 = 1 then hasT l t else if k % 4 = 2 then true else adB l (t, n)
def doW (l : List Wt) (k t : Int) : Wt := if k % 4 = 1 then wtOf l t else (0, 0)
theorem OkW.do_ {l : List Wt} (h : OkW l) (k t n : Int) : OkW (doL l k t n) := by
  unfold doL
  split
  · exact h.rm t
  · split
    · exact h.tu
    · exact h.ad _
theorem doL_1 {k : Int} (h : k % 4 = 1) (l : List Wt) (t n : Int) : doL l k t n = rmL l t := by unfold doL; rw [if_pos h]
theorem doL_2 {k : Int} (h : k % 4 = 2) (l : List Wt) (t n : Int) : doL l k t n = tuL l := by unfold doL; rw [if_neg (by omega), if_pos h]
theorem doL_0 {k : Int} (h1 : ¬ k % 4 = 1) (h2 : ¬ k % 4 = 2) (l : List Wt) (t n : Int) : doL l k t n = adL l (t, n) := by unfold doL; rw [if_neg h1, if_neg h2]
theorem doB_1 {k : Int} (h : k % 4 = 1) (l : List Wt) (t n : Int) : doB l k t n = hasT l t := by unfold doB; rw [if_pos h]
theorem doB_2 {k : Int} (h : k % 4 = 2) (l : List Wt) (t n : Int) : doB l k t n = true := by unfold doB; rw [if_neg (by omega), if_pos h]
theorem doB_0 {k : Int} (h1 : ¬ k % 4 = 1) (h2 : ¬ k % 4 = 2) (l : List Wt) (t n : Int) : doB l k t n = adB l (t, n) := by unfold doB; rw [if_neg h1, if_neg h2]
theorem doW_1 {k : Int} (h : k % 4 = 1) (l : List Wt) (t : Int) : doW l k t = wtOf l t := by unfold doW; rw [if_pos h]
theorem doW_0 {k : Int} (h : ¬ k % 4 = 1) (l : List Wt) (t : Int) : doW l k t = (0, 0) := by unfold doW; rw [if_neg h]
set_option maxHeartbeats 1000000 in
theorem do_any {w : World} {A : Option Addr} {n c p : Nat} {l : List Wt} (k t m : Int) (h : Rg w A n c p l) (ok : OkW l) (hl : n ≤ 65535) (k0 : 0 ≤ k) (k1 : k ≤ 255) :
    Calls Try.prog 8 #[(Value.agg #[.slice A n c, .int .i64 (p : Int)]), (Value.agg #[.int .u8 k, .int .i64 t, .int .i64 m])] w fun e w' => ∃ A' n' c', ∃ p' : Nat, e = .returned (.tuple #[(Value.agg #[.slice A' n' c', .int .i64 (p' : Int)]), (Value.agg #[.int .i64 (doW l k t).1, .int .i64 (doW l k t).2]), .bool (doB l k t m)]) ∧ Rg w' A' n' c' p' (doL l k t m) ∧ Ext w w' := by
  have hX0 : Ext w ((((w.alloc (Obj.cells #[.slice A n c, .int .i64 (p : Int)] 25)).alloc (Obj.cells #[.int .u8 k, .int .i64 t, .int .i64 m] 31)).alloc (Obj.cells #[.slice none 0 0, .int .i64 (0 : Int)] 25)).alloc (Obj.cells #[.int .i64 0, .int .i64 0] 32)) := (((Ext.alloc _ _).trans (Ext.alloc _ _)).trans (Ext.alloc _ _)).trans (Ext.alloc _ _)
  have hB := (((Blk.new w #[Value.slice A n c, .int .i64 (p : Int)] 25).ext (Ext.alloc _ (Obj.cells #[.int .u8 k, .int .i64 t, .int .i64 m] 31))).ext (Ext.alloc _ (Obj.cells #[.slice none 0 0, .int .i64 (0 : Int)] 25))).ext (Ext.alloc _ (Obj.cells #[.int .i64 0, .int .i64 0] 32))
  have hS := ((Blk.new (w.alloc (Obj.cells #[.slice A n c, .int .i64 (p : Int)] 25)) #[Value.int .u8 k, .int .i64 t, .int .i64 m] 31).ext (Ext.alloc _ (Obj.cells #[.slice none 0 0, .int .i64 (0 : Int)] 25))).ext (Ext.alloc _ (Obj.cells #[.int .i64 0, .int .i64 0] 32))
  have hC := (Blk.new ((w.alloc (Obj.cells #[.slice A n c, .int .i64 (p : Int)] 25)).alloc (Obj.cells #[.int .u8 k, .int .i64 t, .int .i64 m] 31)) #[Value.slice none 0 0, .int .i64 (0 : Int)] 25).ext (Ext.alloc _ (Obj.cells #[.int .i64 0, .int .i64 0] 32))
  have hD := Blk.new (((w.alloc (Obj.cells #[.slice A n c, .int .i64 (p : Int)] 25)).alloc (Obj.cells #[.int .u8 k, .int .i64 t, .int .i64 m] 31)).alloc (Obj.cells #[.slice none 0 0, .int .i64 (0 : Int)] 25)) #[Value.int .i64 0, .int .i64 0] 32
  simp only [World.size_alloc] at hS hC hD
  have hR := h.ext hX0
  have hlt := h.lt
  have sz0 : ((((w.alloc (Obj.cells #[.slice A n c, .int .i64 (p : Int)] 25)).alloc (Obj.cells #[.int .u8 k, .int .i64 t, .int .i64 m] 31)).alloc (Obj.cells #[.slice none 0 0, .int .i64 (0 : Int)] 25)).alloc (Obj.cells #[.int .i64 0, .int .i64 0] 32)).heap.size = w.heap.size + 4 := by simp
  have r := hB.cell
  have r2 := hS.cell
  by_cases q1 : k % 4 = 1
  · rw [doL_1 q1, doB_1 q1, doW_1 q1]
    have hcall := remove_any t hR ok hl
    generalize wtOf l t = y at *
    generalize hasT l t = hh at *
    generalize rmL l t = l2 at *
    go_enter Try.func8, Try.ntmps8
    go_wp2_with fail
    refine hcall.mono ?_
    rintro e w1 ⟨A1, n1, c1, p1, rfl, hr1, hx1, hn1⟩
    have hY := (Ext.alloc w1 (Obj.cells #[.int .i64 y.1, .int .i64 y.2] 32)).trans (Ext.alloc _ (Obj.cells #[.slice A1 n1 c1, .int .i64 (p1 : Int)] 25))
    have bE := (Blk.new w1 #[Value.int .i64 y.1, .int .i64 y.2] 32).ext (Ext.alloc _ (Obj.cells #[.slice A1 n1 c1, .int .i64 (p1 : Int)] 25))
    have bF := Blk.new (w1.alloc (Obj.cells #[.int .i64 y.1, .int .i64 y.2] 32)) #[Value.slice A1 n1 c1, .int .i64 (p1 : Int)] 25
    rw [World.size_alloc] at bF
    have bC := (hC.ext hx1).ext hY
    have bD := (hD.ext hx1).ext hY
    have HX := hide ((hX0.trans hx1).trans hY)
    have HR := hide (hr1.ext hY)
    have HN : Hid (∀ b off, A1 = some ⟨b, off, none⟩ → b ≠ w.heap.size + 1 + 1 + 1) := fun b off e => by
      have h1 := hx1.size
      rw [sz0] at h1
      rcases hn1 b off e with q | q
      · have := hlt b off (q ▸ e); omega
      · rw [sz0] at q; omega
    have szw := hx1.size
    rw [sz0] at szw
    clear r r2 hB hS hC hD hX0 hR hlt hcall hr1 hx1 hn1 sz0 h
    go_wp2_with fail
    obtain ⟨bEn, hEn⟩ : ∃ b, b = w1.heap.size := ⟨_, rfl⟩
    obtain ⟨bFn, hFn⟩ : ∃ b, b = w1.heap.size + 1 := ⟨_, rfl⟩
    obtain ⟨bCn, hCn⟩ : ∃ b, b = w.heap.size + 1 + 1 := ⟨_, rfl⟩
    obtain ⟨bDn, hDn⟩ : ∃ b, b = w.heap.size + 1 + 1 + 1 := ⟨_, rfl⟩
    have HC9 := hide (show w.heap.size ≤ bCn by omega)
    have HD9 := hide (show w.heap.size ≤ bDn by omega)
    have e1 : ¬ bEn = bCn := by omega
    have e2 : ¬ bEn = bDn := by omega
    have e3 : ¬ bFn = bCn := by omega
    have e4 : ¬ bFn = bDn := by omega
    have e5 : ¬ bCn = bEn := by omega
    have e6 : ¬ bCn = bFn := by omega
    have e7 : ¬ bDn = bEn := by omega
    have e8 : ¬ bDn = bFn := by omega
    have e9 : ¬ bCn = bDn := by omega
    have e10 : ¬ bDn = bCn := by omega
    rw [← hFn] at bF ⊢
    rw [← hEn] at bE ⊢
    rw [← hDn] at bD HN ⊢
    rw [← hCn] at bC ⊢
    clear hEn hFn hCn hDn szw
    generalize (w1.alloc (Obj.cells #[.int .i64 y.1, .int .i64 y.2] 32)).alloc (Obj.cells #[.slice A1 n1 c1, .int .i64 (p1 : Int)] 25) = w3 at *
    have d1 := bE.rule _ (Ext.drew _)
    have d2 := bF.rule _ (Ext.drew _)
    have d3 := bC.rule _ (Ext.drew _)
    have d3f := bC.ruleF _ (Ext.drew _)
    have d4 := bD.rule _ (Ext.drew _)
    have d4f := bD.ruleF _ (Ext.drew _)
    have fc1 := bE.cell
    have fc2 := bF.cell
    have fc3 := bC.cell
    have fc3f := bC.free
    have fc4 := bD.cell
    have fc4f := bD.free
    go_region
    go_wp2_with fail
    refine bodyPost_ret (v := .tuple #[(Value.agg #[.slice A1 n1 c1, .int .i64 (p1 : Int)]), (Value.agg #[.int .i64 y.1, .int .i64 y.2]), .bool hh]) (by simp [results, Try.results8, go_sem, *]) rfl ?_
    have h1 := (HR.out.set (i := 0) (u := .slice A1 n1 c1) bC (by decide)).set (i := 1) (u := .int .i64 (p1 : Int)) (bC.set _ _) (by decide)
    have h2 := (h1.far (g := bDn) (i := 0) (u := .int .i64 y.1) HN.out).far (g := bDn) (i := 1) (u := .int .i64 y.2) HN.out
    have h3 := (((HX.out.set (p := ⟨bCn, 0, none⟩) HC9.out (.slice A1 n1 c1)).set (p := ⟨bCn, 1, none⟩) HC9.out (.int .i64 (p1 : Int))).set (p := ⟨bDn, 0, none⟩) HD9.out (.int .i64 y.1)).set (p := ⟨bDn, 1, none⟩) HD9.out (.int .i64 y.2)
    first
      | exact ⟨A1, n1, c1, p1, rfl, h2, h3⟩
      | exact ⟨A1, n1, c1, p1, rfl, h2.ext (Ext.drew _), h3.trans (Ext.drew _)⟩
  · by_cases q2 : k % 4 = 2
    · rw [doL_2 q2, doB_2 q2, doW_0 q1]
      have hcall := turn_any hR hl
      generalize tuL l = l2 at *
      go_enter Try.func8, Try.ntmps8
      go_wp2_with fail
      refine hcall.mono ?_
      rintro e w1 ⟨p1, rfl, hr1, hx1⟩
      have bC := hC.ext hx1
      have bD := hD.ext hx1
      have HX := hide (hX0.trans hx1)
      have HR := hide hr1
      have HN : Hid (∀ b off, A = some ⟨b, off, none⟩ → b ≠ w.heap.size + 1 + 1 + 1) := fun b off e => by have := hlt b off e; omega
      clear r r2 hB hS hC hD hX0 hR hlt hcall hr1 hx1 sz0 h
      obtain ⟨bCn, hCn⟩ : ∃ b, b = w.heap.size + 1 + 1 := ⟨_, rfl⟩
      obtain ⟨bDn, hDn⟩ : ∃ b, b = w.heap.size + 1 + 1 + 1 := ⟨_, rfl⟩
      have HC9 := hide (show w.heap.size ≤ bCn by omega)
      have HD9 := hide (show w.heap.size ≤ bDn by omega)
      have e9 : ¬ bCn = bDn := by omega
      have e10 : ¬ bDn = bCn := by omega
      rw [← hDn] at bD HN ⊢
      rw [← hCn] at bC ⊢
      clear hCn hDn
      have fc3 := bC.cell
      have fc3f := bC.free
      have fc4 := bD.cell
      have fc4f := bD.free
      go_wp2_with fail
      refine bodyPost_ret (v := .tuple #[(Value.agg #[.slice A n c, .int .i64 (p1 : Int)]), (Value.agg #[.int .i64 0, .int .i64 0]), .bool true]) (by simp [results, Try.results8, go_sem, *]) rfl ?_
      have h1 := (HR.out.set (i := 0) (u := .slice A n c) bC (by decide)).set (i := 1) (u := .int .i64 (p1 : Int)) (bC.set _ _) (by decide)
      have h2 := (h1.far (g := bDn) (i := 0) (u := .int .i64 0) HN.out).far (g := bDn) (i := 1) (u := .int .i64 0) HN.out
      have h3 := (((HX.out.set (p := ⟨bCn, 0, none⟩) HC9.out (.slice A n c)).set (p := ⟨bCn, 1, none⟩) HC9.out (.int .i64 (p1 : Int))).set (p := ⟨bDn, 0, none⟩) HD9.out (.int .i64 0)).set (p := ⟨bDn, 1, none⟩) HD9.out (.int .i64 0)
      first
        | exact ⟨A, n, c, p1, rfl, h2, h3⟩
        | exact ⟨A, n, c, p1, rfl, h2.ext (Ext.drew _), h3.trans (Ext.drew _)⟩
    · rw [doL_0 q1 q2, doB_0 q1 q2, doW_0 q1]
      have hcall := add_any t m hR hl
      generalize adB l (t, m) = hh at *
      generalize adL l (t, m) = l2 at *
      go_enter Try.func8, Try.ntmps8
      go_wp2_with fail
      refine hcall.mono ?_
      rintro e w1 ⟨A1, n1, c1, p1, rfl, hr1, hx1, hn1⟩
      have hY := Ext.alloc w1 (Obj.cells #[.slice A1 n1 c1, .int .i64 (p1 : Int)] 25)
      have bF := Blk.new w1 #[Value.slice A1 n1 c1, .int .i64 (p1 : Int)] 25
      have bC := (hC.ext hx1).ext hY
      have bD := (hD.ext hx1).ext hY
      have HX := hide ((hX0.trans hx1).trans hY)
      have HR := hide (hr1.ext hY)
      have HN : Hid (∀ b off, A1 = some ⟨b, off, none⟩ → b ≠ w.heap.size + 1 + 1 + 1) := fun b off e => by
        have h1 := hx1.size
        rw [sz0] at h1
        rcases hn1 b off e with q | q
        · have := hlt b off (q ▸ e); omega
        · rw [sz0] at q; omega
      have szw := hx1.size
      rw [sz0] at szw
      clear r r2 hB hS hC hD hX0 hR hlt hcall hr1 hx1 hn1 sz0 h
      obtain ⟨bCn, hCn⟩ : ∃ b, b = w.heap.size + 1 + 1 := ⟨_, rfl⟩
      obtain ⟨bDn, hDn⟩ : ∃ b, b = w.heap.size + 1 + 1 + 1 := ⟨_, rfl⟩
      have HC9 := hide (show w.heap.size ≤ bCn by omega)
      have HD9 := hide (show w.heap.size ≤ bDn by omega)
      have e9 : ¬ bCn = bDn := by omega
      have e10 : ¬ bDn = bCn := by omega
      rw [← hDn] at bD HN ⊢
      rw [← hCn] at bC ⊢
      have e5 : ¬ bCn = w1.heap.size := by omega
      have e6 : ¬ bDn = w1.heap.size := by omega
      have e7 : ¬ w1.heap.size = bCn := by omega
      have e8 : ¬ w1.heap.size = bDn := by omega
      clear hCn hDn szw
      have fc3 := bC.cell
      have fc3f := bC.free
      have fc4 := bD.cell
      have fc4f := bD.free
      go_wp2_with fail
      refine bodyPost_ret (v := .tuple #[(Value.agg #[.slice A1 n1 c1, .int .i64 (p1 : Int)]), (Value.agg #[.int .i64 0, .int .i64 0]), .bool hh]) (by simp [results, Try.results8, go_sem, *]) rfl ?_
      have h1 := (HR.out.set (i := 0) (u := .slice A1 n1 c1) bC (by decide)).set (i := 1) (u := .int .i64 (p1 : Int)) (bC.set _ _) (by decide)
      have h2 := (h1.far (g := bDn) (i := 0) (u := .int .i64 0) HN.out).far (g := bDn) (i := 1) (u := .int .i64 0) HN.out
      have h3 := (((HX.out.set (p := ⟨bCn, 0, none⟩) HC9.out (.slice A1 n1 c1)).set (p := ⟨bCn, 1, none⟩) HC9.out (.int .i64 (p1 : Int))).set (p := ⟨bDn, 0, none⟩) HD9.out (.int .i64 0)).set (p := ⟨bDn, 1, none⟩) HD9.out (.int .i64 0)
      first
        | exact ⟨A1, n1, c1, p1, rfl, h2, h3⟩
        | exact ⟨A1, n1, c1, p1, rfl, h2.ext (Ext.drew _), h3.trans (Ext.drew _)⟩
section
variable {H : Type} {enc : TypeId × Value → H} {W : World} {base : Nat}
theorem open_pr {fuel : Nat} {cs : List Value} {x : DataW H × List MemPlace} {spare : Nat → Bool} {held : Bool} {b0 : Nat} (hl : cs.length = 2) (ht : DataW.trod enc Try.prog W b0 spare held fuel 29 cs = some x) : ∃ p : Wt, cs = [.int .i64 p.1, .int .i64 p.2] ∧ (ky p.1).wf = true ∧ (ky p.2).wf = true := by
  obtain ⟨y0, y1, k, _, _, t0, t1⟩ := trod_struct2 Try.underlying29 ht
  obtain ⟨q0, e0, _, w0⟩ := DataW.trod_int Try.underlying3 t0
  obtain ⟨q1, e1, _, w1⟩ := DataW.trod_int Try.underlying3 t1
  match cs, hl with
  | [c0, c1], _ =>
    simp [show Try.prog.cellsOf 3 = 1 from by kernel_rfl] at e0 e1
    subst e0 e1
    exact ⟨(q0, q1), rfl, w0, w1⟩
theorem open_cells {fuel : Nat} {cs : List Value} {x : DataW H × List MemPlace} (hl : cs.length = 3) (ht : DataW.trod enc Try.prog W 0 (fun _ => true) true fuel 31 cs = some x) : ∃ s : Stp, cs = (sc s).toList ∧ Okst s := by
  obtain ⟨y0, y1, k, _, _, t0, t1⟩ := trod_struct2 Try.underlying31 ht
  obtain ⟨q0, e0, _, w0⟩ := DataW.trod_int Try.underlying5 t0
  have b0 := bounds_u8 w0
  match cs, hl with
  | [c0, c1, c2], _ =>
    simp [show Try.prog.cellsOf 5 = 1 from by kernel_rfl, show Try.prog.cellsOf 29 = 2 from by kernel_rfl] at e0 t1
    obtain ⟨p, e1, w1, w2⟩ := open_pr (by rfl) t1
    simp only [List.cons.injEq, and_true] at e1
    obtain ⟨rfl, rfl⟩ := e1
    subst e0
    exact ⟨⟨q0, p.1, p.2⟩, rfl, by simp only; omega, by simp only; omega, w1, w2⟩
theorem open_steps {v : Value} {d : DataW H} {p : List MemPlace} (hv : Value.okWide Try.prog W .any base 22 v) (h : DataW.Trod enc Try.prog W 0 (fun _ => true) true 22 v d p) :
    ∃ (A : Option Addr) (n c : Nat) (f : Nat → Stp), v = .slice A n c ∧ n ≤ c ∧ c ≤ maxLen ∧ Stps W A n f ∧ ∀ k, k < n → Okst (f k) := by
  obtain ⟨A, n, c, xs, rfl, hnc, hc, hs, hel⟩ := open_elems Try.underlying22 (sz := 3) (by kernel_rfl) (by omega) hv h
  have h1 : ∀ i, i < n → ∃ s : Stp, (∀ j, j < 3 → xs[i * 3 + j]? = (sc s)[j]?) ∧ Okst s := by
    intro i hi
    obtain ⟨m, y, ht⟩ := hel i hi
    have hl : ((xs.drop (i * 3)).take 3).length = 3 := by
      have := hs.1
      have : (i + 1) * 3 ≤ n * 3 := Nat.mul_le_mul_right _ hi
      simp; omega
    obtain ⟨s, hs2, ok⟩ := open_cells hl ht
    refine ⟨s, fun j hj => ?_, ok⟩
    have e := congrArg (·[j]?) hs2
    simp only [List.getElem?_take, if_pos hj, List.getElem?_drop, Array.getElem?_toList] at e
    exact e
  obtain ⟨f, hf⟩ := choose_lt h1
  refine ⟨A, n, c, f, rfl, hnc, hc, fun k hk => ?_, fun k hk => (hf k hk).2⟩
  obtain ⟨b, off, ha, hb, hcells⟩ := hs.at_ hk
  exact ⟨b, off, ha, hb, fun i hi => (hcells i hi).trans ((hf k hk).1 i hi)⟩
end
end Go.Proofs.Ytbkpmlcockkfnaa
