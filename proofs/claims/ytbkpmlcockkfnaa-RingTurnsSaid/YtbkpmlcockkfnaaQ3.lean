/- Turn; Add. -/
import Derived.Test.YtbkpmlcockkfnaaQ2
namespace Go.Proofs.Ytbkpmlcockkfnaa
open Go.RowKit
set_option linter.unusedSimpArgs false
set_option linter.unusedVariables false
set_option maxRecDepth 100000


theorem over {W v w : World} (y : Ext v w) (x : Ext W v) : W.heap.size ≤ v.heap.size ∧ Ext W w ∧ v.heap.size ≤ w.heap.size ∧ (∀ b o, b < v.heap.size → w.cell? ⟨b, o, none⟩ = v.cell? ⟨b, o, none⟩) ∧ (∀ b o, b < v.heap.size → w.frozen? ⟨b, o, none⟩ = v.frozen? ⟨b, o, none⟩) :=
  ⟨x.size, x.trans y, y.size, y.facts.1, y.facts.2.1⟩
theorem two_cells {w : World} {g : Nat} {cs : Array Value} {t : TypeId} {a b : Value} (h : Blk w g cs t) (h0 : cs[0]? = some a) (h1 : cs[1]? = some b) : w.cell? ⟨g, 0, none⟩ = some a ∧ w.cell? ⟨g, 1, none⟩ = some b :=
  ⟨(h.cell 0).trans h0, (h.cell 1).trans h1⟩
theorem turn_any {w : World} {A : Option Addr} {n c p : Nat} {l : List Wt} (h : Rg w A n c p l) (hl : n ≤ 65535) :
    Calls Try.prog 19 #[(Value.agg #[.slice A n c, .int .i64 (p : Int)])] w fun e w' => ∃ p' : Nat, e = .returned (Value.agg #[.slice A n c, .int .i64 (p' : Int)]) ∧ Rg w' A n c p' (tuL l) ∧ Ext w w' := by
  have hX0 : Ext w ((w.alloc (Obj.cells #[.slice A n c, .int .i64 (p : Int)] 25)).alloc (Obj.cells #[.slice none 0 0, .int .i64 (0 : Int)] 25)) := (Ext.alloc _ _).trans (Ext.alloc _ _)
  have hB := (Blk.new w #[Value.slice A n c, .int .i64 (p : Int)] 25).ext (Ext.alloc _ (Obj.cells #[.slice none 0 0, .int .i64 (0 : Int)] 25))
  have hD := Blk.new (w.alloc (Obj.cells #[.slice A n c, .int .i64 (p : Int)] 25)) #[Value.slice none 0 0, .int .i64 (0 : Int)] 25
  rw [World.size_alloc] at hD
  have hn := h.len
  by_cases h0 : n = 0
  · subst h0
    have e0 : l = [] := List.eq_nil_of_length_eq_zero hn
    subst e0
    clear hn
    have r := hB.cell
    go_enter Try.func19, Try.ntmps19
    go_wp2_with fail
    refine (len_any _ _ _ _ _).mono ?_
    rintro e w1 ⟨rfl, hx⟩
    have r2 := (hB.ext hx).cell
    have r3 := (hD.ext hx).cell
    have r4 := (hD.ext hx).free
    go_wp2_with fail
    refine bodyPost_ret (v := (Value.agg #[.slice A 0 c, .int .i64 (p : Int)])) (by simp [results, Try.results19, go_sem, *]) rfl ?_
    have hb := hD.ext hx
    exact ⟨_, rfl, (((h.ext (hX0.trans hx)).set hb (by decide)).set (hb.set _ _) (by decide)).eq tuL_nil.symm, ((hX0.trans hx).set (p := ⟨w.heap.size + 1, 0, none⟩) (by simp) _).set (p := ⟨w.heap.size + 1, 1, none⟩) (by simp) _⟩
  · obtain ⟨m, hr, hp, rfl⟩ := h
    have hm := hr.1
    have hp2 : p < n := by omega
    have HT := hide (tuK_mod m (p := p) (by omega))
    have HR := hide hr
    obtain ⟨q, hq⟩ : ∃ q, q = (p + 1) % n := ⟨_, rfl⟩
    have gw : IntKind.i64.wrap ((p : Int) + 1) = (p : Int) + 1 := by rw [IntKind.wrap_i64]; omega
    have gm : ((p : Int) + 1).tmod (n : Int) = (q : Int) := by rw [hq]; have := Int.ofNat_tmod (p + 1) n; simpa using this.symm
    have gz : ((n : Int) == 0) = false := by simp; omega
    have gz2 : ¬ (n : Int) = 0 := by omega
    have hqn : q < n := by rw [hq]; exact Nat.mod_lt _ (by omega)
    have HM := hide hm
    have HQ := hide hq
    have HQN := hide hqn
    clear hn hm hp hr hq hqn
    have r := hB.cell
    go_enter Try.func19, Try.ntmps19
    go_wp2_with fail
    refine (len_any _ _ _ _ _).mono ?_
    rintro e w1 ⟨rfl, hx⟩
    have HB := hide (hB.ext hx)
    have HD := hide (hD.ext hx)
    have HX := hide (hX0.trans hx)
    clear r hB hD hX0 hx
    have hk := Ext.drew w1
    go_wp2_with fail
    go_region_held3 (fun w' => w'.cell? ⟨w.heap.size, 0, none⟩ = some (.slice A n c) ∧ w'.cell? ⟨w.heap.size, 1, none⟩ = some (.int .i64 (p : Int))) (first | exact two_cells (HB.out.ext (by first | exact hk | exact hk.trans (Ext.drew _) | exact hk.trans (Ext.alloc _ _) | exact hk.trans ((Ext.alloc _ _).trans (Ext.drew _)) | exact hk.trans ((Ext.drew _).trans (Ext.alloc _ _)) | exact Ext.drew _ | exact Ext.refl _ | exact (Ext.alloc _ _).trans (Ext.drew _) | exact Ext.alloc _ _)) rfl rfl | exact two_cells (((HB.out.ext hk).far (p := ⟨w.heap.size + 1, 0, none⟩) (by simp) _).far (p := ⟨w.heap.size + 1, 1, none⟩) (by simp) _) rfl rfl)
      ((go_at_call 15; refine (len_any _ _ _ _ _).mono ?_; rintro e w6 ⟨rfl, hx⟩; have hk := hk.trans hx; have r3 := (HD.out.ext hk).cell; have r4 := (HD.out.ext hk).free))
    go_wp2_with fail
    refine bodyPost_ret (v := (Value.agg #[.slice A n c, .int .i64 (q : Int)])) (by simp [results, Try.results19, go_sem, *]) rfl ?_
    have hb := HD.out.ext hk
    refine ⟨q, rfl, ?_, ((HX.out.trans hk).set (p := ⟨w.heap.size + 1, 0, none⟩) (by simp) _).set (p := ⟨w.heap.size + 1, 1, none⟩) (by simp) _⟩
    have h1 : Rg w6 A n c q (tuL (tuK m p)) := ⟨m, HR.out.ext (HX.out.trans hk), .inl HQN.out, by rw [HT.out, HQ.out, HM.out]⟩
    exact (h1.set hb (by decide)).set (hb.set _ _) (by decide)
theorem hasT_perm {l m : List Wt} (p : l.Perm m) (t : Int) : hasT m t = hasT l t := by
  unfold hasT
  exact decide_eq_decide.2 ⟨fun ⟨x, hx, e⟩ => ⟨x, p.mem_iff.2 hx, e⟩, fun ⟨x, hx, e⟩ => ⟨x, p.mem_iff.1 hx, e⟩⟩
theorem add_no {w : World} {A : Option Addr} {n c p : Nat} {l : List Wt} {a b : Int} (h : Rg w A n c p l) (hl : n ≤ 65535) (ht : adB l (a, b) = false) :
    Calls Try.prog 21 #[(Value.agg #[.slice A n c, .int .i64 (p : Int)]), (Value.agg #[.int .i64 a, .int .i64 b])] w fun e w' => e = .returned (.tuple #[(Value.agg #[.slice A n c, .int .i64 (p : Int)]), .bool false]) ∧ Ext w w' := by
  have h2 := h
  obtain ⟨m, hr, hp, rfl⟩ := h2
  have hm := hr.1
  have hX0 : Ext w (((w.alloc (Obj.cells #[.slice A n c, .int .i64 (p : Int)] 25)).alloc (Obj.cells #[.int .i64 a, .int .i64 b] 32)).alloc (Obj.cells #[.slice none 0 0, .int .i64 (0 : Int)] 25)) := ((Ext.alloc _ _).trans (Ext.alloc _ _)).trans (Ext.alloc _ _)
  have hB := ((Blk.new w #[Value.slice A n c, .int .i64 (p : Int)] 25).ext (Ext.alloc _ (Obj.cells #[.int .i64 a, .int .i64 b] 32))).ext (Ext.alloc _ (Obj.cells #[.slice none 0 0, .int .i64 (0 : Int)] 25))
  have hC := (Blk.new (w.alloc (Obj.cells #[.slice A n c, .int .i64 (p : Int)] 25)) #[Value.int .i64 a, .int .i64 b] 32).ext (Ext.alloc _ (Obj.cells #[.slice none 0 0, .int .i64 (0 : Int)] 25))
  have hD := Blk.new ((w.alloc (Obj.cells #[.slice A n c, .int .i64 (p : Int)] 25)).alloc (Obj.cells #[.int .i64 a, .int .i64 b] 32)) #[Value.slice none 0 0, .int .i64 (0 : Int)] 25
  simp only [World.size_alloc] at hC hD
  have hcf := fun w' (x : Ext w w') => contF_any (c := c) a b (hr.ch.ext x) (by omega)
  rw [← hm] at hcf
  clear hm
  have r := hB.cell
  have r2 := hC.cell
  cases e1 : inW (a, b) with
  | false =>
    go_enter Try.func21, Try.ntmps21
    go_wp2_with fail
    refine (isW_any _ _ _).mono ?_
    rw [e1]
    rintro e w1 ⟨rfl, hx⟩
    have r := (hB.ext hx).cell
    have r3 := (hD.ext hx).cell
    have r4 := (hD.ext hx).free
    go_wp2_with fail
    refine bodyPost_ret (v := .tuple #[(Value.agg #[.slice A n c, .int .i64 (p : Int)]), .bool false]) (by simp [results, Try.results21, go_sem, *]) rfl ?_
    exact ⟨rfl, ((hX0.trans hx).set (p := ⟨w.heap.size + 2, 0, none⟩) (by simp) _).set (p := ⟨w.heap.size + 2, 1, none⟩) (by simp) _⟩
  | true =>
    have e2 : hasT m a = true := by unfold adB at ht; rw [e1, hasT_perm (tuK_perm m p)] at ht; simpa using ht
    rw [e2] at hcf
    go_enter Try.func21, Try.ntmps21
    go_wp2_with fail
    refine (isW_any _ _ _).mono ?_
    rw [e1]
    rintro e w1 ⟨rfl, hx⟩
    have r := (hB.ext hx).cell
    have r2 := (hC.ext hx).cell
    have hcf := hcf _ (hX0.trans hx)
    go_wp2_with fail
    refine hcf.mono ?_
    rintro e w2 ⟨rfl, hx2⟩
    have r := ((hB.ext hx).ext hx2).cell
    have r3 := ((hD.ext hx).ext hx2).cell
    have r4 := ((hD.ext hx).ext hx2).free
    go_wp2_with fail
    refine bodyPost_ret (v := .tuple #[(Value.agg #[.slice A n c, .int .i64 (p : Int)]), .bool false]) (by simp [results, Try.results21, go_sem, *]) rfl ?_
    exact ⟨rfl, (((hX0.trans hx).trans hx2).set (p := ⟨w.heap.size + 2, 0, none⟩) (by simp) _).set (p := ⟨w.heap.size + 2, 1, none⟩) (by simp) _⟩
theorem news_two {w : World} {g : Nat} {a b : Int} (h0 : w.cell? ⟨g, 0, none⟩ = some (.int .i64 a)) (h1 : w.cell? ⟨g, 1, none⟩ = some (.int .i64 b)) : ∀ j u, (rcells [(a, b)])[j]? = some u → w.cell? ((⟨g, 0, none⟩ : Addr).add j) = some u := by
  intro j u hu
  match j with
  | 0 => simp [rcells] at hu; subst hu; exact h0
  | 1 => simp [rcells] at hu; subst hu; exact h1
  | j + 2 => simp [rcells] at hu
set_option maxHeartbeats 1000000 in
theorem add_yes {w : World} {A : Option Addr} {n c p : Nat} {l : List Wt} {a b : Int} (h : Rg w A n c p l) (hl : n ≤ 65535) (ht : adB l (a, b) = true) :
    Calls Try.prog 21 #[(Value.agg #[.slice A n c, .int .i64 (p : Int)]), (Value.agg #[.int .i64 a, .int .i64 b])] w fun e w' => ∃ A' c', ∃ p' : Nat, e = .returned (.tuple #[(Value.agg #[.slice A' (n + 1) c', .int .i64 (p' : Int)]), .bool true]) ∧ Rg w' A' (n + 1) c' p' (l ++ [(a, b)]) ∧ Ext w w' ∧ (∀ b off, A' = some ⟨b, off, none⟩ → w.heap.size ≤ b) := by
  have AH := hide (fun w' (x : Ext w w') => all_any (h.ext x) hl)
  obtain ⟨m, hr, hp, rfl⟩ := h
  have hm := hr.1
  have hX0 : Ext w (((w.alloc (Obj.cells #[.slice A n c, .int .i64 (p : Int)] 25)).alloc (Obj.cells #[.int .i64 a, .int .i64 b] 32)).alloc (Obj.cells #[.slice none 0 0, .int .i64 (0 : Int)] 25)) := ((Ext.alloc _ _).trans (Ext.alloc _ _)).trans (Ext.alloc _ _)
  have hB := ((Blk.new w #[Value.slice A n c, .int .i64 (p : Int)] 25).ext (Ext.alloc _ (Obj.cells #[.int .i64 a, .int .i64 b] 32))).ext (Ext.alloc _ (Obj.cells #[.slice none 0 0, .int .i64 (0 : Int)] 25))
  have hC := (Blk.new (w.alloc (Obj.cells #[.slice A n c, .int .i64 (p : Int)] 25)) #[Value.int .i64 a, .int .i64 b] 32).ext (Ext.alloc _ (Obj.cells #[.slice none 0 0, .int .i64 (0 : Int)] 25))
  have hD := Blk.new ((w.alloc (Obj.cells #[.slice A n c, .int .i64 (p : Int)] 25)).alloc (Obj.cells #[.int .i64 a, .int .i64 b] 32)) #[Value.slice none 0 0, .int .i64 (0 : Int)] 25
  simp only [World.size_alloc] at hC hD
  have hcf := fun w' (x : Ext w w') => contF_any (c := c) a b (hr.ch.ext x) (by omega)
  rw [← hm] at hcf
  have r := hB.cell
  have r2 := hC.cell
  obtain ⟨e1, e2⟩ := adB_of ht
  have e2 : hasT m a = false := by rw [hasT_perm (tuK_perm m p)] at e2; exact e2
  rw [e2] at hcf
  have HCF := hide hcf
  clear hcf hm hr hp ht e2
  go_enter Try.func21, Try.ntmps21
  go_wp2_with fail
  refine (isW_any _ _ _).mono ?_
  rw [e1]
  rintro e w1 ⟨rfl, hx⟩
  have r := (hB.ext hx).cell
  have r2 := (hC.ext hx).cell
  have hcf := HCF.out _ (hX0.trans hx)
  go_wp2_with fail
  refine hcf.mono ?_
  rintro e w2 ⟨rfl, hx2⟩
  have HB := hide ((hB.ext hx).ext hx2)
  have HC := hide ((hC.ext hx).ext hx2)
  have HD := hide ((hD.ext hx).ext hx2)
  have HX := hide ((hX0.trans hx).trans hx2)
  clear r r2 hB hC hD hX0 hx hx2 hcf e1
  go_wp2_with fail
  have hk := Ext.drew w2
  go_region_held3 (fun w' => (w'.cell? ⟨w.heap.size, 0, none⟩ = some (.slice A n c) ∧ w'.cell? ⟨w.heap.size, 1, none⟩ = some (.int .i64 (p : Int))) ∧ (w'.cell? ⟨w.heap.size + 1, 0, none⟩ = some (.int .i64 a) ∧ w'.cell? ⟨w.heap.size + 1, 1, none⟩ = some (.int .i64 b)))
    (first | exact ⟨two_cells (HB.out.ext (by first | exact hk | exact hk.trans (Ext.drew _) | exact hk.trans (Ext.alloc _ _) | exact hk.trans ((Ext.alloc _ _).trans (Ext.drew _)) | exact hk.trans ((Ext.drew _).trans (Ext.alloc _ _)) | exact Ext.drew _ | exact Ext.refl _ | exact (Ext.alloc _ _).trans (Ext.drew _) | exact Ext.alloc _ _)) rfl rfl, two_cells (HC.out.ext (by first | exact hk | exact hk.trans (Ext.drew _) | exact hk.trans (Ext.alloc _ _) | exact hk.trans ((Ext.alloc _ _).trans (Ext.drew _)) | exact hk.trans ((Ext.drew _).trans (Ext.alloc _ _)) | exact Ext.drew _ | exact Ext.refl _ | exact (Ext.alloc _ _).trans (Ext.drew _) | exact Ext.alloc _ _)) rfl rfl⟩ | exact ⟨two_cells (((HB.out.ext hk).far (p := ⟨w.heap.size + 2, 0, none⟩) (by simp) _).far (p := ⟨w.heap.size + 2, 1, none⟩) (by simp) _) rfl rfl, two_cells (((HC.out.ext hk).far (p := ⟨w.heap.size + 2, 0, none⟩) (by simp) _).far (p := ⟨w.heap.size + 2, 1, none⟩) (by simp) _) rfl rfl⟩)
    (first
      | (go_at_call 14; with_reducible refine (AH.out _ (HX.out.trans (by repeat (first | exact Ext.refl _ | assumption | exact Ext.alloc _ _ | exact Ext.drew _ | refine Ext.trans ?_ (Ext.alloc _ _) | refine Ext.trans ?_ (Ext.drew _))))).mono ?_; rintro e w6 ⟨A6, c6, rfl, hown6, hx6⟩; obtain ⟨hs6, hk, q3, p1, p2⟩ := over hx6 (W := w2) (by repeat (first | exact Ext.refl _ | assumption | exact Ext.alloc _ _ | exact Ext.drew _ | refine Ext.trans ?_ (Ext.alloc _ _) | refine Ext.trans ?_ (Ext.drew _))); have hown6 := own_low hown6 hs6; have HO6 := hide (fun w' (x : Ext w6 w') => own_ext hown6 x); clear hown6)
      | (refine step_own (W0 := w2) rfl _ (.tmp 20) 23 rfl Try.underlying23 inf_wt rfl (by omega) rfl (HO6.out _ (by repeat (first | exact Ext.refl _ | assumption | exact Ext.alloc _ _ | exact Ext.drew _ | refine Ext.trans ?_ (Ext.alloc _ _) | refine Ext.trans ?_ (Ext.drew _)))) (by repeat (first | exact Ext.refl _ | assumption | exact Ext.alloc _ _ | exact Ext.drew _ | refine Ext.trans ?_ (Ext.alloc _ _) | refine Ext.trans ?_ (Ext.drew _))) (m := 1) (news := rcells [(a, b)]) rfl rfl (news_two (by go_simp) (by go_simp)) (rcells_one _) (by unfold maxLen; omega) (by omega) ?_; intro A4 c4 w4 hown4 hX4; have hk := hX4; have r3 := (HD.out.ext hX4).cell; have r4 := (HD.out.ext hX4).free))
  all_goals
    rw [← rcells_append] at hown4
    obtain ⟨A5, c5, e5, hr4, hne4⟩ := Row.of_own hown4
    cases e5
    have HR := hide hr4
    have HN := hide hne4
    have HK := hide hX4
    clear hr4 hne4 hX4 hk hown4
    go_wp2_with fail
    refine bodyPost_ret (v := .tuple #[(Value.agg #[.slice A4 (n + 1) c4, .int .i64 (0 : Int)]), .bool true]) (by simp [results, Try.results21, go_sem, *]) rfl ?_
    have hb := HD.out.ext HK.out
    have h1 : Rg w4 A4 (n + 1) c4 0 (tuK m p ++ [(a, b)]) := Rg.row HR.out
    have h2 := (h1.set (i := 0) (u := .slice A4 (n + 1) c4) hb (by decide)).set (i := 1) (u := .int .i64 0) (hb.set _ _) (by decide)
    refine ⟨A4, c4, 0, rfl, h2, ((HX.out.trans HK.out).set (p := ⟨w.heap.size + 1 + 1, 0, none⟩) (by simp; omega) _).set (p := ⟨w.heap.size + 1 + 1, 1, none⟩) (by simp; omega) _, fun b off e => by have := HN.out b off e; have := HX.out.size; omega⟩
theorem add_any {w : World} {A : Option Addr} {n c p : Nat} {l : List Wt} (a b : Int) (h : Rg w A n c p l) (hl : n ≤ 65535) :
    Calls Try.prog 21 #[(Value.agg #[.slice A n c, .int .i64 (p : Int)]), (Value.agg #[.int .i64 a, .int .i64 b])] w fun e w' => ∃ A' n' c', ∃ p' : Nat, e = .returned (.tuple #[(Value.agg #[.slice A' n' c', .int .i64 (p' : Int)]), .bool (adB l (a, b))]) ∧ Rg w' A' n' c' p' (adL l (a, b)) ∧ Ext w w' ∧ (∀ b off, A' = some ⟨b, off, none⟩ → A' = A ∨ w.heap.size ≤ b) := by
  cases e : adB l (a, b) with
  | false =>
    rw [adL_no e]
    exact (add_no h hl e).mono fun e w' ⟨h1, h2⟩ => ⟨A, n, c, p, h1, h.ext h2, h2, fun _ _ _ => .inl rfl⟩
  | true =>
    rw [adL_yes e]
    exact (add_yes h hl e).mono fun e w' ⟨A', c', p', h1, h2, h3, h4⟩ => ⟨A', n + 1, c', p', h1, h2, h3, fun b off e => .inr (h4 b off e)⟩
end Go.Proofs.Ytbkpmlcockkfnaa
