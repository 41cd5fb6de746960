/- Whether a table tells what the document's has. -/
import Derived.Test.YtpadepamknbkoaaDoorR4
import Derived.Test.YtpadepamknbkoaaDoorO1
import Derived.Deep.RegionHeld3
import Derived.BigRegion
namespace Go.Proofs.YtpadepamknbkoaaDoor
open Go.RowKit Go.Deep
set_option linter.unusedVariables false
set_option linter.unusedSimpArgs false
set_option maxRecDepth 100000

theorem RefT.all {w : World} {B R : Nat} {S : TS} (h : RefT w B R S) : ∃ r c, (∀ wx, Ext w wx → wx.cell? ⟨R, 2, none⟩ = some (.slice (some ⟨r, 0, none⟩) S.L.length c)) ∧
    ∀ k, k < S.L.length → ∀ wx, Ext w wx → wx.cell? ⟨r, k * 4, none⟩ = some (.int .i64 (S.p k).a) ∧ wx.cell? ⟨r, k * 4 + 1, none⟩ = some (.int .i64 (S.p k).t) ∧ wx.cell? ⟨r, k * 4 + 2, none⟩ = some (.int .i64 (S.p k).c) ∧ wx.cell? ⟨r, k * 4 + 3, none⟩ = some (.int .u32 (S.p k).g) := by
  have h9 := h
  obtain ⟨h0, r, c, hb, ho⟩ := h9
  refine ⟨r, c, fun wx x => (hb.ext x).cell 2, fun k hk wx x => ?_⟩
  obtain ⟨r', c', q1, q2⟩ := h.at_ (k := k)
  have e := (q1 w (Ext.refl w)).2.2.symm.trans (hb.cell 2)
  have e2 : (some (Value.slice (some ⟨r', 0, none⟩) S.L.length c')) = some (.slice (some ⟨r, 0, none⟩) S.L.length c) := e
  simp only [Option.some.injEq, Value.slice.injEq, Addr.mk.injEq, and_true, true_and] at e2
  obtain ⟨rfl, rfl⟩ := e2
  exact q2 hk wx x
def useP (S : TS) (i : Nat) : List Nat := (List.range i).filter fun i => (S.p i).a == 1
theorem useP_le (S : TS) (t : Nat) : (useP S t).length ≤ t := by
  have := List.length_filter_le (fun i : Nat => (S.p i).a == 1) (List.range t)
  rwa [List.length_range] at this
theorem useP_yes {S : TS} {t : Nat} (h : (S.p t).a = 1) : useP S (t + 1) = useP S t ++ [t] := by
  unfold useP; rw [List.range_succ, List.filter_append]; simp [h]
theorem useP_no {S : TS} {t : Nat} (h : ¬ (S.p t).a = 1) : useP S (t + 1) = useP S t := by
  unfold useP; rw [List.range_succ, List.filter_append]; simp [h]
theorem cnt_all {S : TS} (ok : Ok S) : S.cnt 0 + S.cnt 2 + S.cnt 3 + S.gone = S.L.length := by
  have h : ∀ l : List Nat, (∀ i, i ∈ l → 0 ≤ (S.p i).a ∧ (S.p i).a ≤ 4) → (l.countP fun i => (S.p i).a == 0) + (l.countP fun i => (S.p i).a == 2) + (l.countP fun i => (S.p i).a == 3) + (l.countP fun i => (S.p i).a == 1 || (S.p i).a == 4) = l.length := by
    intro l
    induction l with
    | nil => intro _; rfl
    | cons x l ih =>
      intro hl
      have h1 := ih (fun i hi => hl i (List.mem_cons_of_mem _ hi))
      have h2 := hl x (List.mem_cons_self ..)
      simp only [List.countP_cons, List.length_cons]
      rcases (by omega : (S.p x).a = 0 ∨ (S.p x).a = 1 ∨ (S.p x).a = 2 ∨ (S.p x).a = 3 ∨ (S.p x).a = 4) with q | q | q | q | q <;> (rw [q]; simp; omega)
  have := h (List.range S.L.length) (fun i hi => ok.a0 i (List.mem_range.1 hi))
  rw [List.length_range] at this
  exact this
theorem used_e {w : World} {B M : Nat} {S : TS} (h : TabT w B M S) (ok : Ok S) (k : Nat) {v : Bool} (hv : ((S.p k).a == 1) = v) : Calls Tryd.prog 21 #[.pointer (some ⟨M, 0, none⟩), .int .i64 (k : Int)] w fun e w' => e = .returned (.bool v) ∧ Ext w w' := by
  rw [← hv]
  exact (used_any h ok k).mono fun e w' ⟨h1, h2⟩ => ⟨h1, h2 ▸ Ext.refl w⟩
theorem check_e {w : World} {B M : Nat} {S : TS} (h : TabT w B M S) (ok : Ok S) (k : Nat) {v : Bool} (hv : ((S.p k).a == 1) = v) : Calls Tryd.prog 23 #[.pointer (some ⟨M, 0, none⟩), .int .i64 (k : Int), .int .u32 (S.p k).g] w fun e w' => e = .returned (.bool v) ∧ Ext w w' := by
  have h1 := check_any h ok k (S.p k).g
  rw [hv, show ((S.p k).g == (S.p k).g) = true by simp, Bool.and_true] at h1
  exact h1.mono fun e w' ⟨h1, h2⟩ => ⟨h1, h2 ▸ Ext.refl w⟩
theorem inuse_nodup' (S : TS) : S.inuse.Nodup := List.Pairwise.filter _ List.nodup_range
theorem mem_inuse' {S : TS} {i : Nat} (h : i ∈ S.inuse) : i < S.L.length ∧ (S.p i).a = 1 := by unfold TS.inuse at h; simpa using h
set_option maxHeartbeats 4000000 in
theorem told_any {w : World} {B B' M R : Nat} {S : TS} (s : Stp) (hm : TabT w B M S) (hr : RefT w B' R S) (ok : Ok S) (hN : S.N ≤ 900) :
    Calls Tryd.prog 17 #[.pointer (some ⟨M, 0, none⟩), .pointer (some ⟨R, 0, none⟩), .agg (sc s)] w fun e w' => e = .returned (.bool true) ∧ Ext w w' := by
  have HM := hide hm
  have HR := hide hr
  have hn1 := ok.n1
  have hE := Ext.alloc w (.cells (sc s) 35)
  have hz0 := Blk.new w (sc s) 35
  obtain ⟨r0, c0, q1, q2⟩ := hr.all
  have d2 := q1 _ hE
  have d3 := q1 _ (Ext.refl w)
  have Q2 := hide q2
  have Q1 := hide q1
  clear hm hr q1 q2
  go_enter Tryd.func17, Tryd.ntmps17
  go_wp2_with fail
  obtain ⟨Z, hZ⟩ : ∃ Z, Z = w.heap.size := ⟨_, rfl⟩
  rw [← hZ] at hz0 ⊢
  clear hZ
  generalize w.alloc (.cells (sc s) 35) = w1 at *
  clear d2 d3
  have HE := hide hE
  have HZ0 := hide hz0
  have HM := hide (HM.out.ext hE)
  have HR := hide (HR.out.ext hE)
  clear hz0
  go_loopw [7, 19] (fun v i wr => ∃ i' : Nat, i' ≤ S.L.length ∧ i = .int .i64 (i' : Int) ∧ wr.ownsRow w1.heap.size 3 1 v (useP S i').length ((useP S i').map enI) ∧ Ext w1 wr) (fun _ i _ => S.L.length - (intOf i).toNat)
  case atStart => exact ⟨0, by omega, rfl, own_nil _ _ _ _, Ext.refl w1⟩
  case round =>
    clear hE
    obtain ⟨i, hi, rfl, hown, hX⟩ := hrel
    obtain ⟨A1, c1, rfl⟩ := own_sl hown
    by_cases hlt : i < S.L.length
    · obtain ⟨x0, x1, x2, x3⟩ := Q2.out i hlt wr (HE.out.trans hX)
      have hle := useP_le S i
      have hA := Ext.alloc wr (.cells (#[.int .i64 (S.p i).a, .int .i64 (S.p i).t, .int .i64 (S.p i).c, .int .u32 (S.p i).g]) 76)
      have hx := Blk.new wr (#[.int .i64 (S.p i).a, .int .i64 (S.p i).t, .int .i64 (S.p i).c, .int .u32 (S.p i).g]) 76
      have HO := hide (own_ext hown hA)
      have HX := hide (hX.trans hA)
      obtain ⟨Zx, hZ⟩ : ∃ Z, Z = wr.heap.size := ⟨_, rfl⟩
      clear hown hX hA
      go_wp2_with fail
      rw [← hZ] at hx ⊢
      clear hZ x0 x1 x2 x3
      generalize wr.alloc (.cells (#[.int .i64 (S.p i).a, .int .i64 (S.p i).t, .int .i64 (S.p i).c, .int .u32 (S.p i).g]) 76) = w5 at *
      have HM2 := hide (HM.out.ext HX.out)
      refine (gen_any HM2.out ok i).mono ?_
      rw [if_pos hlt]
      rintro e w6 ⟨rfl, rfl⟩
      go_wp2_with fail
      by_cases ha : (S.p i).a = 1
      · have E0 : ((S.p i).a == 1) = true := by simpa using ha
        have Y := hide (useP_yes ha)
        clear ha
        have hW := Ext.refl w5
        have r5 := hx.rule
        refine wp_region_ext (by kernel_rfl) (by kernel_rfl) ?_
        repeat
          with_reducible refine wpQuiet_step (fun K hK => ?_)
          go_simp
          first
          | (refine hK _ ?_; clear hK K)
          | (apply Exists.intro
             refine ⟨fun w1 h1 => ?_, hK _ ?_⟩
             (have hW := Ext.trans2 hW (by repeat (first | exact Ext.refl _ | exact Ext.alloc _ _ | exact Ext.drewN _ _ | assumption | refine Ext.trans ?_ (Ext.alloc _ _) | refine Ext.trans ?_ (Ext.drew _) | refine Ext.trans ?_ (by assumption))) h1; (try have hV := Ext.trans2 hV (by repeat (first | exact Ext.refl _ | exact Ext.alloc _ _ | exact Ext.drewN _ _ | assumption | refine Ext.trans ?_ (Ext.alloc _ _) | refine Ext.trans ?_ (Ext.drew _) | refine Ext.trans ?_ (by assumption))) h1); (first | rfl | (go_simp; done) | (go_simp; rfl) | first | (go_at_call 21; (with_reducible refine (used_e (HM2.out.ext hW) ok i E0).mono ?_); rintro e w4 ⟨rfl, hb⟩; exact ⟨rfl, h1.trans hb⟩) | (go_at_call 23; (with_reducible refine (check_e (HM2.out.ext hW) ok i E0).mono ?_); rintro e w4 ⟨rfl, hb⟩; exact ⟨rfl, h1.trans hb⟩)))
             clear hK K)
        refine wpQuiet_nil (fun w' hw' => ?_)
        have hW := Ext.trans2 hW (by repeat (first | exact Ext.refl _ | exact Ext.alloc _ _ | exact Ext.drewN _ _ | assumption | refine Ext.trans ?_ (Ext.alloc _ _) | refine Ext.trans ?_ (Ext.drew _) | refine Ext.trans ?_ (by assumption))) hw'
        try have hV := Ext.trans2 hV (by repeat (first | exact Ext.refl _ | exact Ext.alloc _ _ | exact Ext.drewN _ _ | assumption | refine Ext.trans ?_ (Ext.alloc _ _) | refine Ext.trans ?_ (Ext.drew _) | refine Ext.trans ?_ (by assumption))) hw'
        clear hw'
        clear r5
        have HO2 := hide (own_ext HO.out hW)
        have HX2 := hide (HX.out.trans hW)
        have hx2 := hx.ext hW
        have r5 := hx2.cell
        clear hx HO HX hW HM2
        go_wp2_with (first
          | (at_builtin; refine wpList_app1 (W0 := w1) rfl rfl Tryd.underlying51 inf_int rfl (by omega) rfl HO2.out HX2.out rfl rfl rfl (by simp [Value.oneCell']) (by unfold maxLen; omega) (by omega) ?_; intro v' w3 hown' hW3; go_frame)
          | go_in)
        go_roundw
        case rel => exact ⟨i + 1, by omega, by go_num, by rw [Y.out, List.length_append, List.map_append]; exact hown', hW3⟩
        case measure => simp [intOf]; omega
      · have E0 : ((S.p i).a == 1) = false := by simpa using ha
        have Y := hide (useP_no ha)
        clear ha
        have hW := Ext.refl w5
        have r5 := hx.rule
        refine wp_region_ext (by kernel_rfl) (by kernel_rfl) ?_
        repeat
          with_reducible refine wpQuiet_step (fun K hK => ?_)
          go_simp
          first
          | (refine hK _ ?_; clear hK K)
          | (apply Exists.intro
             refine ⟨fun w1 h1 => ?_, hK _ ?_⟩
             (have hW := Ext.trans2 hW (by repeat (first | exact Ext.refl _ | exact Ext.alloc _ _ | exact Ext.drewN _ _ | assumption | refine Ext.trans ?_ (Ext.alloc _ _) | refine Ext.trans ?_ (Ext.drew _) | refine Ext.trans ?_ (by assumption))) h1; (try have hV := Ext.trans2 hV (by repeat (first | exact Ext.refl _ | exact Ext.alloc _ _ | exact Ext.drewN _ _ | assumption | refine Ext.trans ?_ (Ext.alloc _ _) | refine Ext.trans ?_ (Ext.drew _) | refine Ext.trans ?_ (by assumption))) h1); (first | rfl | (go_simp; done) | (go_simp; rfl) | first | (go_at_call 21; (with_reducible refine (used_e (HM2.out.ext hW) ok i E0).mono ?_); rintro e w4 ⟨rfl, hb⟩; exact ⟨rfl, h1.trans hb⟩) | (go_at_call 23; (with_reducible refine (check_e (HM2.out.ext hW) ok i E0).mono ?_); rintro e w4 ⟨rfl, hb⟩; exact ⟨rfl, h1.trans hb⟩)))
             clear hK K)
        refine wpQuiet_nil (fun w' hw' => ?_)
        have hW := Ext.trans2 hW (by repeat (first | exact Ext.refl _ | exact Ext.alloc _ _ | exact Ext.drewN _ _ | assumption | refine Ext.trans ?_ (Ext.alloc _ _) | refine Ext.trans ?_ (Ext.drew _) | refine Ext.trans ?_ (by assumption))) hw'
        try have hV := Ext.trans2 hV (by repeat (first | exact Ext.refl _ | exact Ext.alloc _ _ | exact Ext.drewN _ _ | assumption | refine Ext.trans ?_ (Ext.alloc _ _) | refine Ext.trans ?_ (Ext.drew _) | refine Ext.trans ?_ (by assumption))) hw'
        clear hw'
        clear r5
        have HO2 := hide (own_ext HO.out hW)
        have HX2 := hide (HX.out.trans hW)
        have hx2 := hx.ext hW
        have r5 := hx2.cell
        clear hx HO HX hW HM2
        go_wp2_with fail
        go_roundw
        case rel => exact ⟨i + 1, by omega, by go_num, by rw [Y.out]; exact HO2.out, HX2.out⟩
        case measure => simp [intOf]; omega
    · obtain rfl : i = S.L.length := by omega
      have d3 := Q1.out wr (HE.out.trans hX)
      have HO := hide hown
      have HX := hide hX
      have hm := HM.out.ext hX
      clear hown hX
      go_wp2_with fail
      refine (gen_any hm ok S.L.length).mono ?_
      rw [if_neg (Nat.lt_irrefl _)]
      rintro e w6 ⟨rfl, rfl⟩
      go_wp2_with fail
      have ca := cnt_all ok
      have hl := left_any (w := wr.drew) (hm.ext (Ext.drew _)) ok
      obtain ⟨x2, e2⟩ : ∃ x : Nat, S.cnt 2 = x := ⟨_, rfl⟩
      obtain ⟨x3, e3⟩ : ∃ x : Nat, S.cnt 3 = x := ⟨_, rfl⟩
      obtain ⟨x0, e0⟩ : ∃ x : Nat, S.cnt 0 = x := ⟨_, rfl⟩
      rw [e2, e3, e0] at ca
      have eL : ((S.L.length : Int) - (S.gone : Nat)) = (x2 : Int) + (x3 : Int) + (x0 : Int) := by omega
      have b2 : x2 ≤ 4096 := by omega
      have b3 : x3 ≤ 4096 := by omega
      have b0 : x0 ≤ 4096 := by omega
      have W1 : IntKind.i64.wrap ((x2 : Int) + (x3 : Int)) = (x2 : Int) + (x3 : Int) := by rw [IntKind.wrap_i64]; omega
      have W2 : IntKind.i64.wrap ((x2 : Int) + (x3 : Int) + (x0 : Int)) = (x2 : Int) + (x3 : Int) + (x0 : Int) := by rw [IntKind.wrap_i64]; omega
      have C2 := fun w' (h : RefT w' B' R S) => rcount_any 2 h ok
      have C3 := fun w' (h : RefT w' B' R S) => rcount_any 3 h ok
      have C0 := fun w' (h : RefT w' B' R S) => rcount_any 0 h ok
      have CL := fun w' (h : TabT w' B M S) => left_any h ok
      rw [e2] at C2
      rw [e3] at C3
      rw [e0] at C0
      rw [eL] at CL
      have CC := hide (And.intro C2 (And.intro C3 (And.intro C0 CL)))
      have hV := Ext.refl wr
      have hm := hm.ext (Ext.drew wr)
      have hr := (HR.out.ext HX.out).ext (Ext.drew wr)
      have ho := own_ext HO.out (Ext.drew wr)
      have hV := Ext.drew wr
      have HD := hide hV
      have sz : ∀ w', Ext wr w' → w'.cell? ⟨Z, 1, none⟩ = some (.int .i64 s.n) := fun w' x => ((HZ0.out.ext HX.out).ext x).cell 1
      have ul : useP S S.L.length = S.inuse := rfl
      have ml := mine_len S s.n ok
      have il : S.inuse.length ≤ 4096 := by have := nodup_range_le (inuse_nodup' S) (fun x hx => (mem_inuse' hx).1); omega
      rw [ul] at ho ⊢
      have HL := hide (And.intro ml il)
      clear ca e2 e3 e0 eL C2 C3 C0 CL HO hl ul ml il d3
      go_region_held3 (fun w' => w'.cell? ⟨Z, 1, none⟩ = some (.int .i64 s.n)) (first | exact sz _ hV | exact sz _ (Ext.refl wr))
        (first
          | (go_at_call 18; refine (inuse_any hm ok).mono ?_; rintro e w7 ⟨v7, rfl, ho1, hx⟩; obtain ⟨A7, c7, rfl⟩ := own_sl ho1; have hm := hm.ext hx; have hr := hr.ext hx; have ho := own_ext ho hx; have hV := hV.trans hx; (try have ho1 := own_ext ho1 hx); (try have ho2 := own_ext ho2 hx); (try have ho3 := own_ext ho3 hx); clear hx)
          | (go_at_call 32; with_reducible refine (same_any ho1 ho HL.out.2).mono ?_; rintro e w7 ⟨rfl, hx⟩; have hm := hm.ext hx; have hr := hr.ext hx; have ho := own_ext ho hx; have hV := hV.trans hx; (try have ho1 := own_ext ho1 hx); (try have ho2 := own_ext ho2 hx); (try have ho3 := own_ext ho3 hx); clear hx)
          | (go_at_call 32; with_reducible refine (same_any ho2 ho3 HL.out.1).mono ?_; rintro e w7 ⟨rfl, hx⟩; have hm := hm.ext hx; have hr := hr.ext hx; have ho := own_ext ho hx; have hV := hV.trans hx; (try have ho1 := own_ext ho1 hx); (try have ho2 := own_ext ho2 hx); (try have ho3 := own_ext ho3 hx); clear hx)
          | (go_at_call 20; refine (own_any hm ok s.n).mono ?_; rintro e w7 ⟨v7, rfl, ho2, hx⟩; obtain ⟨A7, c7, rfl⟩ := own_sl ho2; have hm := hm.ext hx; have hr := hr.ext hx; have ho := own_ext ho hx; have hV := hV.trans hx; (try have ho1 := own_ext ho1 hx); (try have ho2 := own_ext ho2 hx); (try have ho3 := own_ext ho3 hx); clear hx)
          | (go_at_call 28; refine (rmine_any s.n hr ok (by omega)).mono ?_; rintro e w7 ⟨v7, rfl, ho3, hx⟩; obtain ⟨A7, c7, rfl⟩ := own_sl ho3; have hm := hm.ext hx; have hr := hr.ext hx; have ho := own_ext ho hx; have hV := hV.trans hx; (try have ho1 := own_ext ho1 hx); (try have ho2 := own_ext ho2 hx); (try have ho3 := own_ext ho3 hx); clear hx)
          | (go_at_call 19; with_reducible refine (CC.out.2.2.2 _ hm).mono ?_; rintro e w7 ⟨rfl, hx⟩; have hm := hm.ext hx; have hr := hr.ext hx; have ho := own_ext ho hx; have hV := hV.trans hx; (try have ho1 := own_ext ho1 hx); (try have ho2 := own_ext ho2 hx); (try have ho3 := own_ext ho3 hx); clear hx)
          | (go_at_call 33; with_reducible refine (CC.out.1 _ hr).mono ?_; rintro e w7 ⟨rfl, rfl⟩)
          | (go_at_call 33; with_reducible refine (CC.out.2.1 _ hr).mono ?_; rintro e w7 ⟨rfl, rfl⟩)
          | (go_at_call 33; with_reducible refine (CC.out.2.2.1 _ hr).mono ?_; rintro e w7 ⟨rfl, rfl⟩)
          | (go_at_call 21; refine (used_neg hm).mono ?_; rintro e w7 ⟨rfl, rfl⟩))
      all_goals
        go_wp2_with fail
        go_ret
        exact ⟨rfl, (HE.out.trans HX.out).trans hV⟩
end Go.Proofs.YtpadepamknbkoaaDoor
