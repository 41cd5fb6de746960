/- The reference's stack. -/
import Derived.Test.YtppjpicfiflkcaaN7
import Derived.Laws.AppendOwnNone
import Derived.Deep.RegionLaw
namespace Go.Proofs.Ytppjpicfiflkcaa
open Go.RowKit
set_option linter.unusedSimpArgs false
set_option linter.unusedVariables false

def enI (x : Nat) : Value := .int .i64 (x : Int)
theorem inf_rrec : (Try.prog.info? 41).map (fun i => (i.zero, i.size, i.bytes)) = some (some (.agg #[.int .i64 0, .int .u64 0]), 2, 16) := by kernel_rfl
/-- 'append(nil, v..)', v a row of the call's own, or nil. -/
theorem wpList_clone {P : Program} {w W0 : World} {ops : Array Oper} {rest : List Oper} {o : Oper} {a : Act} {Q : Exit → Act → World → Prop} (hgd : o.guard = none) (s x : Operand) (t : TypeId)
    (ho : o.op = .call { callee := .builtin .append, args := #[s, x], argTypes := #[t, t] })
    {e : TypeId} {z : Value} {size bytes : Nat} (ht : P.underlying t = some (.slice e)) (hinf : (P.info? e).map (fun i => (i.zero, i.size, i.bytes)) = some (some z, size, bytes))
    (hzs : z.cells.size = size) (hsz : 0 < size)
    {v : Value} {n base : Nat} {xs : List Value} (hs : a.eval s = .slice none 0 0) (hx : a.eval x = v) (hown : w.ownsRow base e size v n xs) (hW : Ext W0 w)
    (h1 : ∀ u ∈ xs, u.oneCell' = true) (hn : n ≤ maxLen) (hby : n * bytes ≤ 140737488355328)
    (h : ∀ v' w', w'.ownsRow W0.heap.size e size v' n xs → Ext W0 w' → wpList P ops Q rest (a.put o.dst v') w') : wpList P ops Q (o :: rest) a w := by
  obtain ⟨i, hi, hz, hsize, hb⟩ := info_parts hinf
  have hl := hown.1
  rcases hown.2 with ⟨rfl, rfl⟩ | ⟨g, cap, cur, rfl, _, hh, hnc, _, hcs, htake⟩
  · have e0 : xs = [] := List.eq_nil_of_length_eq_zero (by simpa using hl)
    subst e0
    exact wpList_append_own_none hgd s x t ho W0.heap.size e i size ht hi (.slice none 0 0) 0 [] hs (own_nil _ _ _ _) hx (h _ _ (own_nil _ _ _ _) hW)
  · refine wpList_append_own w hgd s x t ho W0.heap.size e i z size bytes ht hi hz hsize hb hzs hsz (.slice none 0 0) 0 [] hs (own_nil _ _ _ _) ⟨g, 0, none⟩ n cap xs hx hl (hown.cells rfl) h1 (by omega) (by rw [Nat.zero_add]; exact hby) hW.size ?_
    intro v' w' h2 hg _
    rw [Nat.zero_add, List.nil_append] at h2
    exact h v' w' h2 (Ext.grown hW hg (by intro k hk; cases hk))
/-- 'append(v, x..)' as a step of a region that draws its order. -/
theorem step_own {P : Program} {ops : Array Oper} {o : Oper} {a : Act} {w W0 : World} {K : Act → World → Prop} {Q : Exit → Act → World → Prop} {E : Prop}
    (hg : o.guard = none) (s x : Operand) (t : TypeId) (ho : o.op = .call { callee := .builtin .append, args := #[s, x], argTypes := #[t, t] })
    {e : TypeId} {z : Value} {size bytes : Nat} (ht : P.underlying t = some (.slice e)) (hinf : (P.info? e).map (fun i => (i.zero, i.size, i.bytes)) = some (some z, size, bytes))
    (hzs : z.cells.size = size) (hsz : 0 < size)
    {v : Value} {n : Nat} {xs : List Value} (hs : a.eval s = v) (hown : w.ownsRow W0.heap.size e size v n xs) (hW : Ext W0 w)
    {ad : Addr} {m c : Nat} {news : List Value} (hx : a.eval x = .slice (some ad) m c) (hl : news.length = m * size) (hnews : ∀ j u, news[j]? = some u → w.cell? (ad.add j) = some u) (h1 : ∀ u ∈ news, u.oneCell' = true)
    (hn : n + m ≤ maxLen) (hby : (n + m) * bytes ≤ 140737488355328)
    (h : ∀ A' c' w', w'.ownsRow W0.heap.size e size (.slice A' (n + m) c') (n + m) (xs ++ news) → Ext W0 w' → K (a.put o.dst (.slice A' (n + m) c')) w') :
    if Region.wanted o (yielded ops a.tmps) = true then Oper.wp P o a w K Q else E := by
  have hw : Region.wanted o (yielded ops a.tmps) = true := by simp [Region.wanted, hg]
  rw [if_pos hw]
  obtain ⟨i, hi, hz, hsize, hb⟩ := info_parts hinf
  refine wp_append_own w s x t ho W0.heap.size e i z size bytes ht hi hz hsize hb hzs hsz v n xs hs hown ad m c news hx hl hnews h1 hn hby hW.size ?_
  intro v' w' h2 hg2 _
  obtain ⟨A', c', rfl⟩ := own_sl h2
  exact h A' c' w' h2 (Ext.grown hW hg2 (own_row hown))
theorem rnew_in (C : Nat) (w : World) (h1 : 1 ≤ C) (h2 : C ≤ 512) :
    Calls Try.prog 8 #[.int .i64 (C : Int)] w fun e w' => e = .returned (.tuple #[.agg #[.int .i64 (C : Int), .slice none 0 0], .int .i64 0]) ∧ Ext w w' := by
  have a1 : ¬ (C : Int) < 1 := by omega
  have a2 : ¬ (512 : Int) < C := by omega
  go_enter Try.func8, Try.ntmps8
  go_wp2
  refine bodyPost_ret (v := .tuple #[.agg #[.int .i64 (C : Int), .slice none 0 0], .int .i64 0]) (by simp [results, Try.results8, go_sem, *]) rfl ⟨rfl, ?_⟩
  ((repeat (with_reducible refine Ext.set ?_ (by simp) _)); exact Ext.alloc _ _)
theorem rnew_out (C : Int) (w : World) (h : ¬ (1 ≤ C ∧ C ≤ 512)) :
    Calls Try.prog 8 #[.int .i64 C] w fun e w' => e = .returned (.tuple #[.agg #[.int .i64 0, .slice none 0 0], .int .i64 1]) ∧ Ext w w' := by
  by_cases h0 : C < 1
  · go_enter Try.func8, Try.ntmps8
    go_wp2
    refine bodyPost_ret (v := .tuple #[.agg #[.int .i64 0, .slice none 0 0], .int .i64 1]) (by simp [results, Try.results8, go_sem, *]) rfl ⟨rfl, ?_⟩
    ((repeat (with_reducible refine Ext.set ?_ (by simp) _)); exact Ext.alloc _ _)
  · have h1 : 512 < C := by omega
    go_enter Try.func8, Try.ntmps8
    go_wp2
    refine bodyPost_ret (v := .tuple #[.agg #[.int .i64 0, .slice none 0 0], .int .i64 1]) (by simp [results, Try.results8, go_sem, *]) rfl ⟨rfl, ?_⟩
    ((repeat (with_reducible refine Ext.set ?_ (by simp) _)); exact Ext.alloc _ _)
set_option maxRecDepth 100000 in
theorem rof_any {w : World} {R h : Nat} {N : Int} {l : List Rec} (a : Int) (hr : St 29 41 w R h N l) (hl : l.length ≤ 1000) :
    Calls Try.prog 25 #[(.pointer (some ⟨R, 0, none⟩)), .int .i64 a] w fun e w' => ∃ v, e = .returned v ∧ w'.ownsRow w.heap.size 3 1 v (ofL l a l.length).length ((ofL l a l.length).map enI) ∧ Ext w w' := by
  have hX0 := Ext.refl w
  have HT := hide hr
  obtain ⟨v, hb, hrow⟩ := hr
  obtain ⟨A, c, rfl, hs⟩ := hrow.len
  clear hrow
  go_enter Try.func25, Try.ntmps25
  go_wp2_with fail
  go_loopw [5, 6] (fun v i wr => ∃ j : Nat, j ≤ l.length ∧ i = .int .i64 j ∧ wr.ownsRow w.heap.size 3 1 v (ofL l a j).length ((ofL l a j).map enI) ∧ Ext w wr) (fun _ i _ => l.length - (intOf i).toNat)
  case atStart => exact ⟨0, by omega, rfl, own_nil _ _ _ _, hX0⟩
  case round =>
    clear hX0
    obtain ⟨j, hj, rfl, hown, hW⟩ := hrel
    have r := (hb.ext hW).cell
    by_cases hlt : j < l.length
    · obtain ⟨b, off, rfl, hbb, c0, c1⟩ := (hs.ext hW (Nat.le_refl _)).rec hlt
      have sl := ofL_len l a j
      by_cases he : (l[j]).1 = a
      · have Y := hide (ofL_yes hlt he)
        have HO := hide hown
        have HW := hide hW
        clear hown hW
        go_wp2_with (first
          | (at_builtin; refine wpList_app1 (W0 := w) rfl rfl Try.underlying55 inf_int rfl (by omega) rfl HO.out HW.out rfl rfl rfl (by simp [Value.oneCell']) (by unfold maxLen; omega) (by omega) ?_; intro v' w3 hown' hW3; go_frame)
          | go_in)
        go_roundw
        case rel => exact ⟨j + 1, by omega, by go_num, by rw [Y.out, List.length_append, List.map_append]; exact hown', hW3⟩
        case measure => simp [intOf]; omega
      · have Y := hide (ofL_no hlt he)
        go_wp2_with fail
        go_roundw
        case rel => exact ⟨j + 1, by omega, by go_num, by rw [Y.out]; exact hown, hW⟩
        case measure => simp [intOf]; omega
    · obtain rfl : j = l.length := by omega
      go_wp2_with fail
      go_ret
      exact ⟨_, rfl, hown, hW⟩
theorem rget_any {w : World} {R h : Nat} {N z : Int} {l : List Rec} (hr : St 29 41 w R h N l) (h0 : 0 < N) :
    Calls Try.prog 28 #[(.pointer (some ⟨R, 0, none⟩)), .int .i64 z] w fun e w' => e = .returned (.tuple #[.agg #[.int .i64 (getR N l z).1, .int .u64 (getR N l z).2], .int .i64 (erA N l z)]) ∧ Ext w w' := by
  have hX := Ext.alloc w (.cells #[.int .i64 0, .int .u64 0] 41)
  have hr2 := hr.ext hX
  by_cases ho : 0 ≤ z ∧ z < l.length
  · obtain ⟨h1, h2⟩ := ho
    obtain ⟨k, rfl⟩ := Int.eq_ofNat_of_zero_le h1
    have hk : k < l.length := by omega
    rw [getR_in h0 hk, erA_in h0 hk]
    obtain ⟨c0, c1, c2⟩ := hr2.cells hk
    obtain ⟨v, hb, hrow⟩ := hr2
    rcases hrow with ⟨rfl, rfl, rfl⟩ | ⟨cap, cur, rfl, hn, hb2, q1, q2, q3, q4⟩
    · simp at hk
    · have r := hb.cell
      have lg := hr.ltg
      clear hb hb2 q3 q4
      go_enter Try.func28, Try.ntmps28
      go_wp2_with fail
      refine bodyPost_ret (v := .tuple #[.agg #[.int .i64 (l[k]).1, .int .u64 (l[k]).2], .int .i64 0]) (by simp [results, Try.results28, go_sem, *]) rfl ⟨rfl, ?_⟩
      ((repeat (with_reducible refine Ext.set ?_ (by simp) _)); exact Ext.alloc _ _)
  · rw [getR_out (fun q => ho q.2), show erA N l z = 6 by unfold erA; rw [if_pos h0, if_neg ho]]
    obtain ⟨v, hb, hrow⟩ := hr2
    obtain ⟨A, c, rfl, hs⟩ := hrow.len
    have r := hb.cell
    clear hrow hs hb
    by_cases hz : z < 0
    · go_enter Try.func28, Try.ntmps28
      go_wp2_with fail
      refine bodyPost_ret (v := .tuple #[.agg #[.int .i64 0, .int .u64 0], .int .i64 6]) (by simp [results, Try.results28, go_sem, *]) rfl ⟨rfl, ?_⟩
      ((repeat (with_reducible refine Ext.set ?_ (by simp) _)); exact Ext.alloc _ _)
    · have hz2 : (l.length : Int) ≤ z := by omega
      go_enter Try.func28, Try.ntmps28
      go_wp2_with fail
      refine bodyPost_ret (v := .tuple #[.agg #[.int .i64 0, .int .u64 0], .int .i64 6]) (by simp [results, Try.results28, go_sem, *]) rfl ⟨rfl, ?_⟩
      ((repeat (with_reducible refine Ext.set ?_ (by simp) _)); exact Ext.alloc _ _)
theorem rsave_any {w : World} {R h : Nat} {N z : Int} {l : List Rec} (s : Int) (hr : St 29 41 w R h N l) (h0 : 0 < N) :
    Calls Try.prog 14 #[(.pointer (some ⟨R, 0, none⟩)), .int .i64 z, .int .u64 s] w fun e w' => e = .returned (.int .i64 (erA N l z)) ∧ St 29 41 w' R h N (savL N l z s) ∧ Chg [R, h] w w' := by
  by_cases ho : 0 ≤ z ∧ z < l.length
  · obtain ⟨h1, h2⟩ := ho
    obtain ⟨k, rfl⟩ := Int.eq_ofNat_of_zero_le h1
    have hk : k < l.length := by omega
    rw [savL_in h0 hk, erA_in h0 hk]
    obtain ⟨c0, c1, c2⟩ := hr.cells hk
    have HS := hide (hr.save hk s)
    obtain ⟨v, hb, hrow⟩ := hr
    rcases hrow with ⟨rfl, rfl, rfl⟩ | ⟨cap, cur, rfl, hn, hb2, q1, q2, q3, q4⟩
    · simp at hk
    · have r := hb.cell
      clear hb hb2 q3 q4
      go_enter Try.func14, Try.ntmps14
      go_wp2_with fail
      go_ret
      exact ⟨by simp, HS.out, (Chg.refl _ _).set (.inl (by simp)) _⟩
  · rw [savL_out (fun q => ho q.2), show erA N l z = 6 by unfold erA; rw [if_pos h0, if_neg ho]]
    have HR := hide hr
    obtain ⟨v, hb, hrow⟩ := hr
    obtain ⟨A, c, rfl, hs⟩ := hrow.len
    have r := hb.cell
    clear hrow hs hb
    by_cases hz : z < 0
    · go_enter Try.func14, Try.ntmps14
      go_wp2_with fail
      go_ret
      exact ⟨by simp, HR.out, Chg.refl _ _⟩
    · have hz2 : (l.length : Int) ≤ z := by omega
      go_enter Try.func14, Try.ntmps14
      go_wp2_with fail
      go_ret
      exact ⟨by simp, HR.out, Chg.refl _ _⟩
end Go.Proofs.Ytppjpicfiflkcaa
