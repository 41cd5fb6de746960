/- A table behind a pointer: Own, InUse, Left, Made. -/
import Derived.Test.YtpadepamknbkoaaDoorB3
namespace Go.Proofs.YtpadepamknbkoaaDoor
open Go.RowKit
set_option linter.unusedSimpArgs false
set_option linter.unusedVariables false

theorem enI_one (l : List Nat) : ∀ u ∈ l.map enI, u.oneCell' = true := by
  intro u hu
  obtain ⟨x, _, rfl⟩ := List.mem_map.1 hu
  rfl
theorem own_empty (w : World) (base : Nat) (hb : base ≤ w.heap.size) : (w.alloc (.cells #[] 3)).ownsRow base 3 1 (.slice (some ⟨w.heap.size, 0, none⟩) 0 0) 0 [] :=
  ⟨by simp, .inr ⟨w.heap.size, 0, #[], rfl, hb, heap_alloc_new w _, Nat.le_refl _, by unfold maxLen; omega, by simp, by simp⟩⟩
theorem run_nil1 (w : World) : Sem.run Tryd.prog (binOp .eql 51 (.slice none 0 0) (.slice none 0 0)) w = .ok (.bool true) w := by kernel_rfl
theorem run_nil2 (g n c : Nat) (w : World) : Sem.run Tryd.prog (binOp .eql 51 (.slice (some ⟨g, 0, none⟩) n c) (.slice none 0 0)) w = .ok (.bool false) w := by kernel_rfl
theorem clone_any {w : World} {base : Nat} {v : Value} {xs : List Nat} (h : w.ownsRow base 3 1 v xs.length (xs.map enI)) (hl : xs.length ≤ 4096) :
    Calls Tryd.prog 36 #[v] w fun e w' => ∃ v', e = .returned v' ∧ w'.ownsRow w.heap.size 3 1 v' xs.length (xs.map enI) ∧ Ext w w' := by
  rcases h.2 with ⟨rfl, h0⟩ | ⟨g, cap, cur, rfl, hb, hh, h3, h4, h5, h6⟩
  · obtain rfl : xs = [] := List.eq_nil_of_length_eq_zero h0
    have RN := run_nil1
    go_enter Tryd.func36, Tryd.ntmps36
    go_wp2_with fail
    go_ret
    exact ⟨_, rfl, own_nil _ _ _ _, Ext.refl _⟩
  · obtain ⟨i, hi, hz, hsize, hb2⟩ := info_parts inf_int
    have HH := hide h
    have H1 := hide (enI_one xs)
    have HL := hide (show (xs.map enI).length = xs.length * 1 by simp)
    clear h hh h5 h6
    have RN := run_nil2
    go_enter Tryd.func36, Tryd.ntmps36
    go_wp2_with (first
      | (at_builtin; refine wpList_append_own _ rfl _ _ 51 rfl w.heap.size 3 i (.int .i64 0) 1 8 Tryd.underlying51 hi hz hsize hb2 rfl (by omega) _ 0 [] rfl (own_empty w w.heap.size (Nat.le_refl _)) ⟨g, 0, none⟩ xs.length cap (xs.map enI) rfl HL.out ((own_ext HH.out (Ext.alloc w (.cells #[] 3))).cells (g := g) rfl) H1.out (by unfold maxLen; omega) (by omega) (by simp) ?_; intro v' w2 hown hg _; go_frame)
      | go_in)
    go_ret
    rw [Nat.zero_add, List.nil_append] at hown
    exact ⟨_, rfl, hown, Ext.grown (Ext.alloc _ _) hg (by intro k hk; cases hk; exact Nat.le_refl _)⟩
section
variable {w w' : World} {B M n b : Nat} {vm : Value} {vo : Nat → Value} {c : Nat → Bool} {l : List (Int × Int)} {ow : Nat → List Nat}
theorem own_in {t : Nat} (h : Mem w B M n b vm vo c l ow) (hn : 0 < n) (ht : t < 256) (hl : (ow t).length ≤ 4096) :
    Calls Tryd.prog 20 #[.pointer (some ⟨M, 0, none⟩), .int .i64 (t : Int)] w fun e w' => ∃ v, e = .returned v ∧ w'.ownsRow w.heap.size 3 1 v (ow t).length ((ow t).map enI) ∧ Ext w w' := by
  have E : mayE (t : Int) = 0 := if_pos (by omega)
  have r := (h.blk.cell (3 + t)).trans (tc_own ht)
  have HO := hide (h.own t ht)
  obtain ⟨A, cap, hv⟩ := own_sl HO.out
  rw [hv] at r
  have HO2 := hide (hv ▸ HO.out)
  clear HO
  go_enter Tryd.func20, Tryd.ntmps20
  go_wp2_with fail
  refine (may_in _ h hn).mono ?_
  rw [E]
  rintro e w1 ⟨rfl, rfl⟩
  go_wp2_with fail
  refine (clone_any HO2.out hl).mono ?_
  rintro e w1 ⟨v, rfl, hown, hX⟩
  obtain ⟨A3, c3, rfl⟩ := own_sl hown
  go_wp2_with fail
  go_ret
  exact ⟨_, rfl, hown, hX⟩
theorem own_no {z : Int} (h : Mem w B M n b vm vo c l ow) (hn : 0 < n) (hz : ¬ (0 ≤ z ∧ z < 256)) :
    Calls Tryd.prog 20 #[.pointer (some ⟨M, 0, none⟩), .int .i64 z] w fun e w' => e = .returned (.slice none 0 0) ∧ w = w' := by
  have E : mayE z = 1 := if_neg hz
  clear hz
  go_enter Tryd.func20, Tryd.ntmps20
  go_wp2_with fail
  refine (may_in _ h hn).mono ?_
  rw [E]
  rintro e w1 ⟨rfl, rfl⟩
  go_wp2_with fail
  go_ret
  exact ⟨rfl, rfl⟩
def usedL (l : List (Int × Int)) (t : Nat) : List Nat := (List.range t).filter fun i => stZ l i == 1
theorem usedL_le (l : List (Int × Int)) (t : Nat) : (usedL l t).length ≤ t := by
  have := List.length_filter_le (fun i : Nat => stZ l i == 1) (List.range t)
  rwa [List.length_range] at this
theorem usedL_yes {l : List (Int × Int)} {t : Nat} (h : stZ l t = 1) : usedL l (t + 1) = usedL l t ++ [t] := by
  unfold usedL; rw [List.range_succ, List.filter_append]; simp [h]
theorem usedL_no {l : List (Int × Int)} {t : Nat} (h : ¬ stZ l t = 1) : usedL l (t + 1) = usedL l t := by
  unfold usedL; rw [List.range_succ, List.filter_append]; simp [h]
set_option maxRecDepth 100000 in
theorem inuse_in (h : Mem w B M n b vm vo c l ow) (hl : l.length ≤ 4096) :
    Calls Tryd.prog 18 #[.pointer (some ⟨M, 0, none⟩)] w fun e w' => ∃ v, e = .returned v ∧ w'.ownsRow w.heap.size 3 1 v (usedL l l.length).length ((usedL l l.length).map enI) ∧ Ext w w' := by
  have hX0 := Ext.refl w
  obtain ⟨A, cap, rfl⟩ := h.sl
  have HM := hide h
  go_enter Tryd.func18, Tryd.ntmps18
  go_wp2_with fail
  refine (all_in h).mono ?_
  clear h
  rintro e w1 ⟨rfl, rfl⟩
  go_wp2_with fail
  go_loopw [3, 9] (fun v i wr => ∃ j : Nat, j ≤ l.length ∧ i = .int .i64 j ∧ wr.ownsRow w.heap.size 3 1 v (usedL l j).length ((usedL l j).map enI) ∧ Ext w wr) (fun _ i _ => l.length - (intOf i).toNat)
  case atStart => exact ⟨0, by omega, rfl, own_nil _ _ _ _, hX0⟩
  case round =>
    clear hX0
    obtain ⟨j, hj, rfl, hown, hW⟩ := hrel
    by_cases hlt : j < l.length
    · obtain ⟨g, cap', hv, r⟩ := HM.out.slot hlt
      cases hv
      have c0 := (r wr hW).1
      have c1 := (r wr hW).2
      have sl := usedL_le l j
      have es := stZ_at hlt
      clear r
      generalize hx : l[j] = x at *
      by_cases he : x.1 = 1
      · have Y := hide (usedL_yes (es.trans he))
        have HO := hide (own_ext hown (Ext.alloc wr (.cells #[.int .i64 1, .int .u32 x.2] 73)))
        have HW := hide (hW.trans (Ext.alloc wr (.cells #[.int .i64 1, .int .u32 x.2] 73)))
        clear hown hW es hx
        go_wp2_with (first
          | (at_builtin; refine wpList_app1 (W0 := w) rfl rfl Tryd.underlying51 inf_int rfl (by omega) rfl HO.out HW.out rfl (by simp) rfl (by simp [Value.oneCell']) (by unfold maxLen; omega) (by omega) ?_; intro v' w3 hown' hW3; go_frame)
          | go_in)
        go_roundw
        case rel => exact ⟨j + 1, by omega, by go_num, by rw [Y.out, List.length_append, List.map_append]; exact hown', hW3⟩
        case measure => simp [intOf]; omega
      · have Y := hide (usedL_no (fun q => he (es.symm.trans q)))
        clear es hx
        go_wp2_with fail
        go_roundw
        case rel => exact ⟨j + 1, by omega, by go_num, by rw [Y.out]; exact own_ext hown (Ext.alloc _ _), hW.trans (Ext.alloc _ _)⟩
        case measure => simp [intOf]; omega
    · obtain rfl : j = l.length := by omega
      go_wp2_with fail
      go_ret
      exact ⟨_, rfl, hown, hW⟩
def offL (l : List (Int × Int)) (t : Nat) : Nat := (List.range t).countP fun i : Nat => stZ l i != 0
theorem offL_le (l : List (Int × Int)) (t : Nat) : offL l t ≤ t := by
  have := List.countP_le_length (p := fun i : Nat => stZ l i != 0) (l := List.range t)
  rwa [List.length_range] at this
theorem offL_s (l : List (Int × Int)) (t : Nat) : offL l (t + 1) = offL l t + if stZ l t = 0 then 0 else 1 := by
  unfold offL; rw [List.range_succ, List.countP_append]
  by_cases q : stZ l t = 0 <;> simp [q]
set_option maxRecDepth 100000 in
theorem left_in (h : Mem w B M n b vm vo c l ow) (hn : 0 < n) (hl : l.length ≤ n) (hn2 : n ≤ 4096) :
    Calls Tryd.prog 19 #[.pointer (some ⟨M, 0, none⟩)] w fun e w' => e = .returned (.int .i64 ((n : Int) - (offL l l.length : Nat))) ∧ Ext w w' := by
  have hX0 := Ext.refl w
  obtain ⟨A, cap, rfl⟩ := h.sl
  have HM := hide h
  have r0 := h.blk.cell 0
  rw [tc_0] at r0
  have r2 := h.blk.cell 2
  rw [tc_2] at r2
  go_enter Tryd.func19, Tryd.ntmps19
  go_wp2_with fail
  refine (given_in h hn).mono ?_
  clear h
  rintro e w1 ⟨rfl, rfl⟩
  go_wp2_with fail
  clear r0 r2
  go_loopw [3, 18] (fun v i wr => ∃ j : Nat, j ≤ l.length ∧ i = .int .i64 j ∧ v = .int .i64 ((n : Int) - (offL l j : Nat)) ∧ Ext w wr) (fun _ i _ => l.length - (intOf i).toNat)
  case atStart => exact ⟨0, by omega, rfl, by simp [offL], hX0⟩
  case round =>
    clear hX0
    obtain ⟨j, hj, rfl, rfl, hW⟩ := hrel
    by_cases hlt : j < l.length
    · obtain ⟨g, cap', hv, r⟩ := HM.out.slot hlt
      cases hv
      have c0 := (r wr hW).1
      have c1 := (r wr hW).2
      have sl := offL_le l j
      have es := stZ_at hlt
      have Y := offL_s l j
      clear r
      generalize hx : l[j] = x at *
      by_cases he : x.1 = 0
      · rw [es, if_pos he] at Y
        have Y := hide Y
        clear es hx
        generalize offL l j = q at *
        go_wp2_with fail
        go_roundw
        case rel => exact ⟨j + 1, by omega, by go_num, by rw [Y.out]; simp, hW.trans (Ext.alloc _ _)⟩
        case measure => simp [intOf]; omega
      · rw [es, if_neg he] at Y
        have Y := hide Y
        have E0 : (x.1 != 0) = true := by simpa using he
        clear es hx
        generalize offL l j = q at *
        go_wp2_with fail
        go_roundw
        case rel => exact ⟨j + 1, by omega, by go_num, by rw [Y.out]; go_num, hW.trans (Ext.alloc _ _)⟩
        case measure => simp [intOf]; omega
    · obtain rfl : j = l.length := by omega
      go_wp2_with fail
      go_ret
      exact ⟨rfl, hW⟩
theorem made_in (h : Mem w B M n b vm vo c l ow) (hn : 0 < n) (hl : l.length ≤ 4096) (hb : 0 < b) (hb2 : b ≤ 64) :
    Calls Tryd.prog 24 #[.pointer (some ⟨M, 0, none⟩)] w fun e w' => e = .returned (.int .i64 (((l.length + b - 1) / b : Nat) : Int)) ∧ Ext w w' := by
  obtain ⟨A, cap, rfl⟩ := h.sl
  have r2 := fun w' (x : Ext w w') => ((h.blk.ext x).cell 2).trans tc_2
  have r1 := fun w' (x : Ext w w') => ((h.blk.ext x).cell 1).trans tc_1
  have hW := Ext.refl w
  have hb9 : ¬ b = 0 := by omega
  have W1 : IntKind.i64.wrap ((l.length : Int) + (b : Int)) = (l.length : Int) + (b : Int) := by rw [IntKind.wrap_i64]; omega
  have W2 : IntKind.i64.wrap ((l.length : Int) + (b : Int) - 1) = (l.length : Int) + (b : Int) - 1 := by rw [IntKind.wrap_i64]; omega
  obtain ⟨z, hz⟩ : ∃ z : Nat, z = (l.length + b - 1) / b := ⟨_, rfl⟩
  have hz2 : z ≤ l.length + b - 1 := by rw [hz]; exact Nat.div_le_self _ _
  have hz3 : ((l.length : Int) + (b : Int) - 1) / (b : Int) = (z : Int) := by
    rw [hz, Int.natCast_ediv]
    congr 1
    omega
  have W3 : IntKind.i64.wrap (z : Int) = (z : Int) := by rw [IntKind.wrap_i64]; omega
  rw [← hz]
  clear hz
  go_enter Tryd.func24, Tryd.ntmps24
  go_wp2_with fail
  refine (given_in h hn).mono ?_
  clear h
  rintro e w1 ⟨rfl, rfl⟩
  go_wp2_with fail
  refine wp_region_ext (by kernel_rfl) (by kernel_rfl) ?_
  repeat
    with_reducible refine wpQuiet_step (fun K hK => ?_)
    go_simp
    first
    | (refine hK _ ?_; clear hK K)
    | (apply Exists.intro
       refine ⟨fun w1 h1 => ?_, hK _ ?_⟩
       (have hW := Ext.trans2 hW (by repeat (first | exact Ext.refl _ | exact Ext.alloc _ _ | exact Ext.drewN _ _ | assumption | refine Ext.trans ?_ (Ext.alloc _ _) | refine Ext.trans ?_ (Ext.drew _) | refine Ext.trans ?_ (by assumption))) h1; (try have hV := Ext.trans2 hV (by repeat (first | exact Ext.refl _ | exact Ext.alloc _ _ | exact Ext.drewN _ _ | assumption | refine Ext.trans ?_ (Ext.alloc _ _) | refine Ext.trans ?_ (Ext.drew _) | refine Ext.trans ?_ (by assumption))) h1); (first | rfl | (go_simp; done) | (go_simp; rfl) | fail))
       clear hK K)
  refine wpQuiet_nil (fun w' hw' => ?_)
  have hW := Ext.trans2 hW (by repeat (first | exact Ext.refl _ | exact Ext.alloc _ _ | exact Ext.drewN _ _ | assumption | refine Ext.trans ?_ (Ext.alloc _ _) | refine Ext.trans ?_ (Ext.drew _) | refine Ext.trans ?_ (by assumption))) hw'
  try have hV := Ext.trans2 hV (by repeat (first | exact Ext.refl _ | exact Ext.alloc _ _ | exact Ext.drewN _ _ | assumption | refine Ext.trans ?_ (Ext.alloc _ _) | refine Ext.trans ?_ (Ext.drew _) | refine Ext.trans ?_ (by assumption))) hw'
  clear hw'
  go_wp2_with fail
  go_ret
  exact ⟨by simp; rw [Int.tdiv_eq_ediv_of_nonneg (by omega), hz3, W3], hW⟩
end
end Go.Proofs.YtpadepamknbkoaaDoor
