/- A set of threads; a list's copy. -/
import Derived.Test.YtnmegokppbdhdaaM1
namespace Go.Proofs.Ytnmegokppbdhdaa
open Go.RowKit
set_option linter.unusedSimpArgs false
set_option linter.unusedVariables false
set_option maxRecDepth 100000

theorem hasQ_snoc {l : List Int} {q : Nat} (hq : q < l.length) : updB (hasQ (l.take q)) (l[q]) true = hasQ (l.take (q + 1)) := by
  funext z
  unfold updB hasQ
  rw [List.take_succ_eq_append_getElem hq]
  by_cases e : z = l[q]
  · rw [if_pos e, e]; exact (decide_eq_true (List.mem_append_right _ (List.mem_singleton.2 rfl))).symm
  · rw [if_neg e]; exact decide_eq_decide.2 ⟨fun h => List.mem_append_left _ h, fun h => (List.mem_append.1 h).resolve_right (fun q => e (List.mem_singleton.1 q))⟩
theorem setOf_any {w : World} {A : Option Addr} {c : Nat} {l : List Int} (h : Ch w A l) (ok : OkQ l) (hl : l.length ≤ 70000) :
    Calls Try.prog 24 #[.slice A l.length c] w fun e w' => ∃ m, e = .returned (.map (some m)) ∧ w.heap.size ≤ m ∧ MS w' m l.length (hasQ l) ∧ Ext w w' := by
  have H := hide h
  have OK := hide ok
  have hmm := @run_makeMap Try.prog
  have hx0 := Ext.alloc w (.map #[] 0)
  have hm0 := MS.made w
  clear h ok
  go_enter Try.func24, Try.ntmps24
  go_wp2_with fail
  go_loopw [9] (fun i wr => ∃ j : Nat, j ≤ l.length ∧ i = .int .i64 (j : Int) ∧ MS wr w.heap.size j (hasQ (l.take j)) ∧ Ext w wr) (fun i _ => l.length - (intOf i).toNat)
  case atStart => exact ⟨0, by omega, rfl, hm0.eq (by funext z; simp [hasQ]), hx0⟩
  case round =>
    clear hm0 hx0
    obtain ⟨j, hj, rfl, hm, hx⟩ := hrel
    by_cases hlt : j < l.length
    · obtain ⟨b, off, rfl, r⟩ := (H.out.ext hx).at_ hlt
      have r0 := r wr (Ext.refl _)
      have hb := OK.out.rng _ (List.getElem_mem hlt)
      obtain ⟨w1, hrun, hm1, hg⟩ := hm.put (a0 := l[j]) (by unfold maxLen; omega) (ky_wf (by omega) (by omega))
      rw [hasQ_snoc hlt] at hm1
      have HM := hide hm1
      have HX := hide (hx.turn (Chg.of_grown (T := [w.heap.size]) hg (by simp)) (by simp))
      clear r hm hm1 hg hx hb
      go_wp2_with fail
      go_roundw
      case rel => exact ⟨j + 1, by omega, by go_num, HM.out, HX.out⟩
      case measure => simp [intOf]; omega
    · obtain rfl : j = l.length := by omega
      rw [List.take_length] at hm
      go_wp2_with fail
      go_ret
      exact ⟨_, by simp, Nat.le_refl _, hm, hx⟩
/-- 'append(x, v..)' of a slice with no room, or of an empty one, as a step. -/
theorem grows_run {P : Program} {w : World} (t ty e : TypeId) {z : Value} {bytes : Nat} (ht : P.underlying t = some (.slice e)) (hinf : (P.info? e).map (fun i => (i.zero, i.size, i.bytes)) = some (some z, 1, bytes))
    (hzs : z.cells.size = 1) {ao : Option Addr} {n cap : Nat} {olds : List Value} (hnone : ao = none → n = 0 ∧ cap = 0) (hlo : olds.length = n) (holds : ∀ b, ao = some b → ∀ j u, olds[j]? = some u → w.cell? (b.add j) = some u)
    {ad : Addr} {m c : Nat} {news : List Value} (hn : news.length = m) (hc : ∀ j u, news[j]? = some u → w.cell? (ad.add j) = some u) (h1c : ∀ u ∈ news, u.oneCell' = true)
    (hfull : cap < n + m) (b1 : n + m ≤ maxLen) (b2 : (n + m) * bytes ≤ 140737488355328) :
    ∃ v' w', (Builtin.append_ #[t, t] ty #[.slice ao n cap, .slice (some ad) m c]).run P w = .ok v' w' ∧ w'.ownsRow w.heap.size e 1 v' (n + m) (olds ++ news) ∧ Ext w w' := by
  obtain ⟨i, hi, hz, hsize, hb⟩ := info_parts hinf
  cases ao with
  | some b =>
    obtain ⟨v', w', h1, h2, h3⟩ := run_append_arg_grows (P := P) w t ty e i z 1 bytes ht hi hz hsize hb hzs (by omega) b n cap olds (by omega) (holds b rfl) ad m c news (by omega) hc hfull b1 b2
    exact ⟨v', w', h1, h2, Ext.grown (Ext.refl w) h3 (by intro k hk; cases hk)⟩
  | none =>
    obtain ⟨rfl, rfl⟩ := hnone rfl
    obtain rfl : olds = [] := List.eq_nil_of_length_eq_zero hlo
    obtain ⟨v', w', h1, h2, h3, _⟩ := run_append_own (P := P) w w.heap.size t ty e i z 1 bytes ht hi hz hsize hb hzs (by omega) (.slice none 0 0) 0 [] (World.ownsRow_nil w _ e 1) ad m c news (by omega) hc h1c b1 b2 (Nat.le_refl _)
    exact ⟨v', w', h1, h2, Ext.grown (Ext.refl w) h3 (by intro k hk; cases hk)⟩
theorem Ch.olds {w : World} {b : Addr} {l : List Int} (h : Ch w (some b) l) : ∀ w', Ext w w' → ∀ j u, (l.map enJ)[j]? = some u → w'.cell? (b.add j) = some u := by
  intro w' x j u hu
  have hj : j < l.length := by have := (List.getElem?_eq_some_iff.1 hu).1; simpa using this
  rw [List.getElem?_map, List.getElem?_eq_getElem hj] at hu
  obtain ⟨b2, off, e, r⟩ := h.at_ hj
  cases e
  rw [Addr.add_lit, r w' x, ← hu]
  rfl
theorem own_empty (w : World) (base : Nat) (hb : base ≤ w.heap.size) : (w.alloc (.cells #[] 3)).ownsRow base 3 1 (.slice (some ⟨w.heap.size, 0, none⟩) 0 0) 0 [] :=
  ⟨by simp, .inr ⟨w.heap.size, 0, #[], rfl, hb, heap_alloc_new w _, Nat.le_refl _, by unfold maxLen; omega, by simp, by simp⟩⟩
theorem run_nil1 (w : World) : Sem.run Try.prog (binOp .eql 25 (.slice none 0 0) (.slice none 0 0)) w = .ok (.bool true) w := by kernel_rfl
theorem run_nil2 (b : Addr) (n c : Nat) (w : World) : Sem.run Try.prog (binOp .eql 25 (.slice (some b) n c) (.slice none 0 0)) w = .ok (.bool false) w := by kernel_rfl
theorem Row.noA {w : World} {n c : Nat} {l : List Int} (h : Row w none n c l) : n = 0 ∧ c = 0 ∧ l = [] := by
  obtain ⟨h1, h2, h3, ⟨_, rfl⟩ | ⟨b, off, cs, h4, _⟩⟩ := h
  · exact ⟨by omega, rfl, List.eq_nil_of_length_eq_zero (by omega)⟩
  · cases h4
theorem clone_any {w : World} {A : Option Addr} {c : Nat} {l : List Int} (h : Row w A l.length c l) (hl : l.length ≤ 70000) :
    Calls Try.prog 27 #[.slice A l.length c] w fun e w' => ∃ A' c', e = .returned (.slice A' l.length c') ∧ Row w' A' l.length c' l ∧ Ext w w' := by
  cases A with
  | none =>
    obtain ⟨h1, h2, h3⟩ := h.noA
    subst h2 h3
    have RN := run_nil1
    go_enter Try.func27, Try.ntmps27
    go_wp2_with fail
    go_ret
    exact ⟨Option.none, 0, rfl, Row.nil _, Ext.refl _⟩
  | some b =>
    obtain ⟨i, hi, hz, hsize, hb2⟩ := info_parts inf_int
    have HC := hide (h.ch.olds _ (Ext.alloc w (.cells #[] 3)))
    have H1 := hide (enJ_one l)
    have HL := hide (show (l.map enJ).length = l.length * 1 by simp)
    clear h
    have RN := run_nil2
    go_enter Try.func27, Try.ntmps27
    go_wp2_with (first
      | (at_builtin; refine wpList_append_own _ rfl _ _ 25 rfl w.heap.size 3 i (.int .i64 0) 1 8 Try.underlying25 hi hz hsize hb2 rfl (by omega) _ 0 [] rfl (own_empty w w.heap.size (Nat.le_refl _)) b l.length c (l.map enJ) rfl HL.out HC.out H1.out (by unfold maxLen; omega) (by omega) (by simp) ?_; intro v' w2 hown hg _; go_frame)
      | go_in)
    go_ret
    rw [Nat.zero_add, List.nil_append] at hown
    obtain ⟨A2, c2, e, hr⟩ := Row.of_own hown
    subst e
    exact ⟨A2, c2, rfl, hr, Ext.grown (Ext.alloc _ _) hg (by intro k hk; cases hk; exact Nat.le_refl _)⟩
theorem all_any {w : World} {A : Option Addr} {c : Nat} {l : List Int} (h : Row w A l.length c l) (hl : l.length ≤ 70000) :
    Calls Try.prog 18 #[(Value.agg #[.slice A l.length c])] w fun e w' => ∃ A' c', e = .returned (.slice A' l.length c') ∧ Row w' A' l.length c' l ∧ Ext w w' := by
  have hc := clone_any (h.ext (Ext.alloc w (.cells #[.slice A l.length c] 27))) hl
  clear h
  go_enter Try.func18, Try.ntmps18
  go_wp2_with fail
  refine hc.mono ?_
  rintro e w1 ⟨A', c', rfl, hr, hx⟩
  go_wp2_with fail
  go_ret
  exact ⟨A', c', rfl, hr, (Ext.alloc _ _).trans hx⟩
/-- 'append(x, v..)' of a slice with no room, as a step of a region that draws its order. -/
theorem step_row {ops : Array Oper} {o : Oper} {a : Act} {w : World} {K : Act → World → Prop} {Q : Exit → Act → World → Prop} {E : Prop}
    (hg : o.guard = none) (s x : Operand) (ho : o.op = .call { callee := .builtin .append, args := #[s, x], argTypes := #[25, 25] })
    {A : Option Addr} {n cap : Nat} {l l2 : List Int} (hl : l.length = n) (hs : a.eval s = .slice A n cap) (hA : A = none → n = 0 ∧ cap = 0) (hc : Ch w A l)
    {ad : Addr} {m c : Nat} (hx : a.eval x = .slice (some ad) m c) (hm : l2.length = m) (hnews : ∀ j u, (l2.map enJ)[j]? = some u → w.cell? (ad.add j) = some u)
    (hfull : cap < n + m) (hb : n + m ≤ 200000)
    (h : ∀ A' c' w', Row w' A' (n + m) c' (l ++ l2) → Ext w w' → (∀ b off, A' = some ⟨b, off, none⟩ → w.heap.size ≤ b) → K (a.put o.dst (.slice A' (n + m) c')) w') :
    if Region.wanted o (yielded ops a.tmps) = true then Oper.wp Try.prog o a w K Q else E := by
  subst hl
  have hw : Region.wanted o (yielded ops a.tmps) = true := by simp [Region.wanted, hg]
  rw [if_pos hw]
  obtain ⟨v', w', h1, h2, h3⟩ := grows_run (P := Try.prog) (w := w) 25 o.type 3 Try.underlying25 inf_int rfl hA (olds := l.map enJ) (by simp) (fun b e j u hu => by subst e; exact hc.olds w (Ext.refl w) j u hu) (by simpa using hm) hnews (enJ_one l2) hfull (c := c) (by unfold maxLen; omega) (by omega)
  rw [← List.map_append] at h2
  have hrow := own_row h2
  obtain ⟨A', c', rfl, hr⟩ := Row.of_own h2
  unfold Oper.wp execOp
  simp only [ho, resolve, invoke, builtin, Sem.run_bind, Sem.run_pure, Result.andThen_ok, List.map_toArray, List.map_cons, List.map_nil, hs, hx, h1]
  exact h A' c' w' hr h3 (fun b off e => hrow b (by rw [e]; rfl))
/-- The same, in a list of operations. -/
theorem wpList_row {ops : Array Oper} {rest : List Oper} {o : Oper} {a : Act} {w : World} {Q : Exit → Act → World → Prop}
    (hg : o.guard = none) (s x : Operand) (ho : o.op = .call { callee := .builtin .append, args := #[s, x], argTypes := #[25, 25] })
    {A : Option Addr} {n cap : Nat} {l l2 : List Int} (hl : l.length = n) (hs : a.eval s = .slice A n cap) (hA : A = none → n = 0 ∧ cap = 0) (hc : Ch w A l)
    {ad : Addr} {m c : Nat} (hx : a.eval x = .slice (some ad) m c) (hm : l2.length = m) (hnews : ∀ j u, (l2.map enJ)[j]? = some u → w.cell? (ad.add j) = some u)
    (hfull : cap < n + m) (hb : n + m ≤ 200000)
    (h : ∀ A' c' w', Row w' A' (n + m) c' (l ++ l2) → Ext w w' → (∀ b off, A' = some ⟨b, off, none⟩ → w.heap.size ≤ b) → wpList Try.prog ops Q rest (a.put o.dst (.slice A' (n + m) c')) w') : wpList Try.prog ops Q (o :: rest) a w :=
  wpList_plain hg fun K hK => by
    subst hl
    obtain ⟨v', w', h1, h2, h3⟩ := grows_run (P := Try.prog) (w := w) 25 o.type 3 Try.underlying25 inf_int rfl hA (olds := l.map enJ) (by simp) (fun b e j u hu => by subst e; exact hc.olds w (Ext.refl w) j u hu) (by simpa using hm) hnews (enJ_one l2) hfull (c := c) (by unfold maxLen; omega) (by omega)
    rw [← List.map_append] at h2
    have hrow := own_row h2
    obtain ⟨A', c', rfl, hr⟩ := Row.of_own h2
    unfold Oper.wp execOp
    simp only [ho, resolve, invoke, builtin, Sem.run_bind, Sem.run_pure, Result.andThen_ok, List.map_toArray, List.map_cons, List.map_nil, hs, hx, h1]
    exact hK _ _ (h A' c' w' hr h3 (fun b off e => hrow b (by rw [e]; rfl)))
end Go.Proofs.Ytnmegokppbdhdaa
