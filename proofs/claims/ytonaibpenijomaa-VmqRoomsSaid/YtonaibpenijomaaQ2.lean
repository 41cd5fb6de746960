/- Who waits; whether a request is there; all requests; one who waits more. -/
import Derived.Test.YtonaibpenijomaaQ1
namespace Go.Proofs.Ytonaibpenijomaa
open Go.RowKit Go.Maps
set_option linter.unusedSimpArgs false
set_option linter.unusedVariables false
set_option maxRecDepth 100000


theorem rg_ext {H : Type} {P : Program} {k : TypeId} {R : Value → Option (DataW H × List MemPlace)} {w w' : World} {b r n : Nat} {D : DataW H} {left : Lit → Bool} {cnt : Nat} (h : w.ranges P k R b r n D left cnt) (x : Ext w w') : w'.ranges P k R b r n D left cnt :=
  h.kept (row := none) ⟨x.os, x.tape, x.output, x.size, fun k hk _ => x.block k hk⟩ (by simp) (by simp)
/-- The step of a range over such a map. -/
theorem wpList_next_sp (w : World) {ops : Array Oper} {rest : List Oper} {op : Oper} {a : Act} {Q : Exit → Act → World → Prop} (hg : op.guard = none) (it : Operand) (hop : op.op = Op.next it false) (R : Value → Option (DataW Unit × List MemPlace)) (b r n : Nat) (D : DataW Unit) (left : Lit → Bool) (cnt : Nat)
    (hit : a.eval it = .pointer (some ⟨r, 0, none⟩)) (h : w.ranges Try.prog 33 R b r n D left cnt)
    (hDone : cnt = 0 → (∀ kl, left kl = false) → wpList Try.prog ops Q rest (a.put op.dst (.tuple #[.bool false])) w)
    (hMore : ∀ (x y : Int) (v : Value) (d : DataW Unit) (ps : List MemPlace) (w' : World) (cnt' : Nat), wfI x → wfI y → left (sk x y) = true → R v = some (d, ps) → (∀ zd, D.atKey (sk x y) zd = d) → w'.ranges Try.prog 33 R b r n D (fun z => left z && !z.sameKey (sk x y)) cnt' → cnt' < cnt →
      w.grownBy w' (some r) → w'.heap.size = w.heap.size → (Instr.entry (.pointer (some ⟨r, 0, none⟩))).run Try.prog w' = .ok (.tuple #[(Value.agg #[.int .i64 x, .int .i64 y]), v]) w' → wpList Try.prog ops Q rest (a.put op.dst (.tuple #[.bool true, (Value.agg #[.int .i64 x, .int .i64 y]), v])) w') :
    wpList Try.prog ops Q (op :: rest) a w :=
  wpList_next_ranges w hg it hop 33 kS R (fun p : Int × Int => (Value.agg #[.int .i64 p.1, .int .i64 p.2])) id (fun key kl hkey => by obtain ⟨x, y, rfl, _⟩ := sk_inv hkey; exact ⟨(x, y), rfl⟩) (fun v y hv => ⟨v, rfl⟩)
    b r n D left cnt hit h hDone (fun p v kl dd w' cnt' hkey hlk hv hat hrg hlt hgr hsz hen => by
      obtain ⟨x, y, e, rfl, wx, wy⟩ := sk_inv hkey
      obtain ⟨p1, p2⟩ := p
      simp at e
      obtain ⟨rfl, rfl⟩ := e
      exact hMore p1 p2 v dd.1 dd.2 w' cnt' wx wy hlk hv hat hrg hlt hgr hsz hen)
theorem left_iff {left : Lit → Bool} {r q : Rq} (hr : wfR r) (hq : wfR q) : (left (skR q) && !(skR q).sameKey (skR r)) = false ↔ left (skR q) = false ∨ q = r := by
  simp only [Bool.and_eq_false_iff, Bool.not_eq_false', same_skR hq hr, decide_eq_true_iff]
theorem fS_some {g : Rq → Sl3} {S : List En} {r : Rq} {s : Sl3} (h : fS g S r = some s) : hasR S r = true ∧ s = g r := by
  unfold fS at h
  split at h
  · rename_i q
    cases h; exact ⟨q, rfl⟩
  · cases h
theorem fS_isSome (g : Rq → Sl3) (S : List En) (r : Rq) : (fS g S r).isSome = hasR S r := by
  unfold fS
  cases hasR S r <;> rfl
/-- The entry at which a range stands. -/
theorem entry_of {D : DataW Unit} {g : Rq → Sl3} {S : List En} {n : Nat} {x y : Int} {v : Value} {d : DataW Unit} {ps : List MemPlace} (rep : Rep D (fS g S) n) (wx : wfI x) (wy : wfI y) (hv : rdS v = some (d, ps)) (hat : ∀ zd, D.atKey (sk x y) zd = d) :
    ∃ e, e ∈ S ∧ e.1 = (x, y) ∧ v = slV (g e.1) := by
  obtain ⟨s, rfl, hp⟩ := rdS_inv hv
  simp only [Prod.mk.injEq] at hp
  obtain ⟨rfl, _⟩ := hp
  have hw : wfR (x, y) := ⟨wx, wy⟩
  have h1 : hasR S (x, y) = true := by rw [← fS_isSome g, ← rep.has (x, y) hw]; exact Maps.has_true_of_atKey hat
  obtain ⟨e, he, h2⟩ := has_of h1
  refine ⟨e, he, h2, ?_⟩
  have h3 : fS g S (x, y) = some (g (x, y)) := by unfold fS; rw [if_pos h1]
  have h4 := rep.val (x, y) _ hw h3 .nil
  rw [hat] at h4
  rw [h2, datS_inj h4]
theorem waits_in {w : World} {p : Value} {b : Bool} {S : List En} (t : Int) (h : Any w p b S) : Calls Try.prog 15 #[p, .int .i64 t] w fun e w' => e = .returned (.bool (waitsB S t)) ∧ Ext w w' := by
  have f1 := run_f1
  go_enter Try.func15, Try.ntmps15
  go_wp2_with fail
  refine (own_any h).mono ?_
  rintro e w1 ⟨v, rfl, ho, hx⟩
  clear h
  cases ho with
  | none e =>
    subst e
    have hrg := run_range_nilMap (P := Try.prog) w1 55 33 34 Try.underlying55
    have hnx : ∀ ty, (Instr.next (.pointer (some ⟨w1.heap.size, 0, none⟩)) false ty).run Try.prog (w1.alloc (.mapIter none 0 #[] 0)) = _ := fun ty => run_next_nilMap w1 ty 0 0 #[]
    go_wp2_with fail
    go_loopw [6] (fun v wr => wr = w1.alloc (.mapIter none 0 #[] 0)) (fun _ wr => 0)
    case atStart => rfl
    case round =>
      subst hrel
      go_wp2_with fail
      go_ret
      exact ⟨rfl, hx.trans (Ext.alloc _ _)⟩
  | some O C m ov g h1 =>
    have ok := hide h1.ok
    have H1 := hide h1
    obtain ⟨D, hown, rep⟩ := h1.map
    have hml := hown.lt
    have SZ := hide rep.size
    have REP := hide rep
    have HX0 := hide hx
    clear rep hx
    go_wp2_with (first
      | (at_range; refine wpList_range_own _ rfl _ 55 rfl 33 34 kS Try.underlying55 rdS m S.length D rfl hown ?_; intro w0 hrg0 hg0 hs0)
      | go_in)
    go_frame
    have HX := hide (Ext.grown (Ext.refl w1) hg0 (by intro k hk; cases hk))
    obtain ⟨r, hr⟩ : ∃ r, r = w1.heap.size := ⟨_, rfl⟩
    have HO : Hid (∀ k, k ∈ O → k ∉ [r]) := hide (fun k hk => by have := h1.lt k hk; simp; omega)
    have H0 := hide (h1.ext HX.out)
    rw [← hr] at hrg0 ⊢
    have HR := hide hr
    clear hr hown hg0 hs0 h1
    go_loopw [6] (fun v wr => ∃ (left : Lit → Bool) (cnt : Nat), wr.ranges Try.prog 33 rdS m r S.length D left cnt ∧ (∀ e, e ∈ S → left (skR e.1) = false → t ∉ e.2) ∧ Chg [r] w0 wr) (fun _ wr => wr.rangeLeft m r)
    case atStart => exact ⟨_, _, hrg0, fun e he hl => (by have q := REP.out.has e.1 (mayR_wf (ok.out.may e he)); rw [hl, fS_isSome, has_mem he] at q; cases q), Chg.refl _ _⟩
    case round =>
      clear hrg0
      obtain ⟨left, cnt, hrg, hC, hch⟩ := hrel
      go_wp2_with (first
        | (at_next; refine wpList_next_sp _ rfl _ rfl rdS m r S.length D left cnt rfl hrg ?_ ?_)
        | go_in)
      · intro hc0 hl0
        have E := hide (show waitsB S t = false from waits_none fun e he => hC e he (hl0 _))
        have hX := hide (HX0.out.trans (HX.out.turn hch (by have := HR.out; simp; omega)))
        clear hrg hch hC
        go_wp2_with fail
        go_ret
        exact ⟨by rw [E.out]; simp, hX.out⟩
      · intro x y vv dd ps w2 cnt2 wx wy hlx hrv hat hrg2 hlt hg2 hs2 hen
        obtain ⟨e, he, e1, rfl⟩ := entry_of REP.out wx wy hrv hat
        have hch2 := hch.trans (Chg.of_grown hg2 (T := [r]) (by simp))
        have hX := hide (HX0.out.trans (HX.out.turn hch2 (by have := HR.out; simp; omega)))
        have hrow := own_ch ((H0.out.chg hch2 HO.out).rows e he)
        obtain ⟨A, c, ev, hcch⟩ := hrow
        rw [ev] at hen ⊢
        have hct0 := contains_any (c := c) t hcch (by have := ok.out.wlen he; omega)
        have HLX := hide hlx
        have HC := hide hC
        have HG := hide hrg
        have HR2 := hide hrg2
        have HC2 := hide hch2
        have HE := hide e1
        clear hrg hrg2 hch hch2 hC hcch ev hrv hat hg2 hs2 hlx e1
        cases q : hasQ e.2 t with
        | true =>
          have E := hide (show waitsB S t = true from waits_mem he (of_decide_eq_true q))
          rw [q] at hct0
          clear q
          go_wp2_with fail
          refine hct0.mono ?_
          rintro e9 w3 ⟨rfl, rfl⟩
          go_wp2_with fail
          go_ret
          exact ⟨by rw [E.out]; simp, hX.out⟩
        | false =>
          have HQ := hide q
          rw [q] at hct0
          clear q
          go_wp2_with fail
          refine hct0.mono ?_
          rintro e9 w3 ⟨rfl, rfl⟩
          go_wp2_with fail
          go_roundw
          case rel => exact ⟨_, cnt2, HR2.out, fun e' he' hl' => (by
            rcases (left_iff (r := (x, y)) ⟨wx, wy⟩ (mayR_wf (ok.out.may e' he'))).1 hl' with h | h
            · exact HC.out e' he' h
            · rw [ok.out.uniq he' he (by rw [h, HE.out])]
              exact of_decide_eq_false HQ.out), HC2.out⟩
          case measure => rw [HR2.out.left_eq, HG.out.left_eq]; exact hlt
/-- What a queue has, for all that comes of the world. -/
theorem own_val {w : World} {p : Value} {b : Bool} {S : List En} (h : Any w p b S) : ∃ ov mv, (∀ w', Ext w w' → Calls Try.prog 26 #[p] w' fun e w'' => e = .returned ((Value.agg #[ov, mv])) ∧ Ext w' w'') ∧
    ∀ r, wfR r → ∃ s : Sl3, ∀ w', Ext w w' → (Instr.lookup 55 mv ((Value.agg #[.int .i64 r.1, .int .i64 r.2])) true).run Try.prog w' = .ok (.tuple #[slV s, .bool (hasR S r)]) w' := by
  rcases h with ⟨rfl, rfl, rfl | ⟨C, rfl, h⟩⟩ | ⟨rfl, O, C, rfl, m, ov, g, h⟩
  · refine ⟨.slice none 0 0, .map none, fun w' x => ?_, fun r hr => ⟨⟨none, 0, 0⟩, fun w' x => look_nilm hr w'⟩⟩
    go_enter Try.func26, Try.ntmps26
    go_wp2
    refine bodyPost_ret (v := .agg #[.slice none 0 0, .map none]) (by simp [results, Try.results26, go_sem, *]) rfl ?_
    refine ⟨rfl, ?_⟩
    ((repeat (with_reducible refine Ext.set ?_ (by simp) _)); exact Ext.alloc _ _)
  · refine ⟨.slice none 0 0, .map none, fun w' x => ?_, fun r hr => ⟨⟨none, 0, 0⟩, fun w' x => look_nilm hr w'⟩⟩
    have r := ((h.ext x).ext (Ext.alloc w' (.cells #[.slice none 0 0, .map none] 57))).cell
    go_enter Try.func26, Try.ntmps26
    go_wp2
    refine bodyPost_ret (v := .agg #[.slice none 0 0, .map none]) (by simp [results, Try.results26, go_sem, *]) rfl ?_
    refine ⟨rfl, ?_⟩
    ((repeat (with_reducible refine Ext.set ?_ (by simp) _)); exact Ext.alloc _ _)
  · obtain ⟨A, c, rfl⟩ := own_sl h.row
    refine ⟨.slice A S.length c, .map (some m), fun w' x => ?_, fun r hr => ⟨(fS g S r).getD ⟨none, 0, 0⟩, fun w' x => by rw [(h.ext x).map.look hr, fS_isSome]⟩⟩
    have h2 := (h.ext x).ext (Ext.alloc w' (.cells #[.slice none 0 0, .map none] 57))
    have r := h2.c.cell
    go_enter Try.func26, Try.ntmps26
    go_wp2
    refine bodyPost_ret (v := .agg #[.slice A S.length c, .map (some m)]) (by simp [results, Try.results26, go_sem, *]) rfl ?_
    exact ⟨rfl, Ext.alloc _ _⟩
set_option maxHeartbeats 1000000 in
theorem has_any {w : World} {p : Value} {b : Bool} {S : List En} {r : Rq} (h : Any w p b S) (hr : wfR r) : Calls Try.prog 21 #[p, (Value.agg #[.int .i64 r.1, .int .i64 r.2])] w fun e w' => e = .returned (.bool (hasR S r)) ∧ Ext w w' := by
  have f1 := run_f1
  obtain ⟨ov, mv, hown, hlook⟩ := own_val h
  obtain ⟨s, hl⟩ := hlook r hr
  have HO : Hid (∀ w', Ext (w.alloc (.cells #[.int .i64 r.1, .int .i64 r.2] 33)) w' → Calls Try.prog 26 #[p] w' fun e w'' => e = .returned ((Value.agg #[ov, mv])) ∧ Ext w' w'') := hide fun w' x => hown w' ((Ext.alloc _ _).trans x)
  have hl : ∀ w', Ext (w.alloc (.cells #[.int .i64 r.1, .int .i64 r.2] 33)) w' → (Instr.lookup 55 mv ((Value.agg #[.int .i64 r.1, .int .i64 r.2])) true).run Try.prog w' = .ok (.tuple #[slV s, .bool (hasR S r)]) w' := fun w' x => hl w' ((Ext.alloc _ _).trans x)
  obtain ⟨k, o⟩ := r
  simp only at HO hl ⊢
  generalize hasR S (k, o) = hb at *
  generalize slV s = sv at *
  clear hown hlook h hr
  go_enter Try.func21, Try.ntmps21
  go_wp2_with fail
  have hX := fun w' (h : Ext (w.alloc (Obj.cells #[.int .i64 k, .int .i64 o] 33)) w') => h.boxCell
  have hXf := fun w' (h : Ext (w.alloc (Obj.cells #[.int .i64 k, .int .i64 o] 33)) w') => h.boxFree
  have hX0 : Ext w (w.alloc (Obj.cells #[.int .i64 k, .int .i64 o] 33)) := Ext.alloc _ _
  generalize w.alloc (Obj.cells #[.int .i64 k, .int .i64 o] 33) = W0 at *
  have hW := Ext.refl W0
  refine wp_region_ext (by kernel_rfl) (by kernel_rfl) ?_
  repeat
    with_reducible refine wpQuiet_step (fun K hK => ?_)
    go_simp
    first
    | (refine hK _ ?_; clear hK K)
    | (apply Exists.intro
       refine ⟨fun w1 h1 => ?_, hK _ ?_⟩
       (have hW := Ext.trans2 hW (by repeat (first | exact Ext.refl _ | exact Ext.alloc _ _ | exact Ext.drewN _ _ | assumption | refine Ext.trans ?_ (Ext.alloc _ _) | refine Ext.trans ?_ (Ext.drew _) | refine Ext.trans ?_ (by assumption))) h1; (try have hV := Ext.trans2 hV (by repeat (first | exact Ext.refl _ | exact Ext.alloc _ _ | exact Ext.drewN _ _ | assumption | refine Ext.trans ?_ (Ext.alloc _ _) | refine Ext.trans ?_ (Ext.drew _) | refine Ext.trans ?_ (by assumption))) h1); (first | rfl | (go_simp; done) | (go_simp; rfl) | (go_at_call 26; (with_reducible refine (HO.out _ hW).mono ?_); rintro e w2 ⟨rfl, hb⟩; exact ⟨rfl, h1.trans hb⟩)))
       clear hK K)
  refine wpQuiet_nil (fun w' hw' => ?_)
  have hW := Ext.trans2 hW (by repeat (first | exact Ext.refl _ | exact Ext.alloc _ _ | exact Ext.drewN _ _ | assumption | refine Ext.trans ?_ (Ext.alloc _ _) | refine Ext.trans ?_ (Ext.drew _) | refine Ext.trans ?_ (by assumption))) hw'
  try have hV := Ext.trans2 hV (by repeat (first | exact Ext.refl _ | exact Ext.alloc _ _ | exact Ext.drewN _ _ | assumption | refine Ext.trans ?_ (Ext.alloc _ _) | refine Ext.trans ?_ (Ext.drew _) | refine Ext.trans ?_ (by assumption))) hw'
  clear hw'
  go_wp2_with fail
  go_ret
  exact ⟨rfl, (hX0.trans (hW.trans (by repeat (first | exact Ext.refl _ | exact Ext.alloc _ _ | exact Ext.drewN _ _ | assumption | refine Ext.trans ?_ (Ext.alloc _ _) | refine Ext.trans ?_ (Ext.drew _) | refine Ext.trans ?_ (by assumption)))))⟩
theorem inf_spot : (Try.prog.info? 33).map (fun i => (i.zero, i.size, i.bytes)) = some (some (.agg #[.int .i64 0, .int .i64 0]), 2, 16) := by kernel_rfl
theorem own_empty (w : World) (base : Nat) (hb : base ≤ w.heap.size) : (w.alloc (.cells #[] 33)).ownsRow base 33 2 (.slice (some ⟨w.heap.size, 0, none⟩) 0 0) 0 [] :=
  ⟨by simp, .inr ⟨w.heap.size, 0, #[], rfl, hb, heap_alloc_new w _, Nat.le_refl _, by unfold maxLen; omega, by simp, by simp⟩⟩
theorem run_nil1 (w : World) : Sem.run Try.prog (binOp .eql 47 (.slice none 0 0) (.slice none 0 0)) w = .ok (.bool true) w := by kernel_rfl
theorem run_nil2 (b : Addr) (n c : Nat) (w : World) : Sem.run Try.prog (binOp .eql 47 (.slice (some b) n c) (.slice none 0 0)) w = .ok (.bool false) w := by kernel_rfl
theorem clone_any {w : World} {base : Nat} {v : Value} {l : List Rq} (h : w.ownsRow base 33 2 v l.length (rcells l)) (hl : l.length ≤ 70000) :
    Calls Try.prog 25 #[v] w fun e w' => ∃ v', e = .returned v' ∧ w'.ownsRow w.heap.size 33 2 v' l.length (rcells l) ∧ Ext w w' := by
  have hx := h.2
  rcases hx with ⟨rfl, h0⟩ | ⟨g, cap, cur, rfl, hb, hh, h3, h4, h5, h6⟩
  · have e0 : l = [] := List.eq_nil_of_length_eq_zero h0
    subst e0
    clear h
    have RN := run_nil1
    go_enter Try.func25, Try.ntmps25
    go_wp2_with fail
    go_ret
    exact ⟨_, rfl, own_nil _ _ _ _, Ext.refl _⟩
  · obtain ⟨i, hi, hz, hsize, hb2⟩ := info_parts inf_spot
    have HC := hide ((own_ext h (Ext.alloc w (.cells #[] 33))).cells rfl)
    have H1 := hide (rcells_one l)
    have HL := hide (rcells_length l)
    clear h hh h3 h4 h5 h6 hb
    have RN := run_nil2
    go_enter Try.func25, Try.ntmps25
    go_wp2_with (first
      | (at_builtin; refine wpList_append_own _ rfl _ _ 47 rfl w.heap.size 33 i (.agg #[.int .i64 0, .int .i64 0]) 2 16 Try.underlying47 hi hz hsize hb2 rfl (by omega) _ 0 [] rfl (own_empty w w.heap.size (Nat.le_refl _)) ⟨g, 0, none⟩ l.length cap (rcells l) rfl HL.out HC.out H1.out (by unfold maxLen; omega) (by omega) (by simp) ?_; intro v' w2 hown hg _; go_frame)
      | go_in)
    go_ret
    rw [Nat.zero_add, List.nil_append] at hown
    exact ⟨v', by simp, hown, Ext.grown (Ext.alloc _ _) hg (by intro k hk; cases hk; exact Nat.le_refl _)⟩
theorem all_any {w : World} {p : Value} {b : Bool} {S : List En} (h : Any w p b S) : Calls Try.prog 14 #[p] w fun e w' => ∃ v', e = .returned v' ∧ w'.ownsRow w.heap.size 33 2 v' S.length (rcells (ks S)) ∧ Ext w w' := by
  have f0 := run_f0
  go_enter Try.func14, Try.ntmps14
  go_wp2_with fail
  refine (own_any h).mono ?_
  rintro e w1 ⟨v, rfl, ho, hx⟩
  cases ho with
  | none e =>
    subst e
    have hc := clone_any (own_nil w1 0 33 2) (l := []) (by simp)
    go_wp2_with fail
    refine hc.mono ?_
    rintro e w2 ⟨v', rfl, hr, hx2⟩
    go_wp2_with fail
    go_ret
    exact ⟨v', by simp, own_low hr hx.size, hx.trans hx2⟩
  | some O C m ov g h1 =>
    have hr := h1.row
    rw [← ks_len] at hr
    have hc := clone_any hr (by rw [ks_len]; have := h1.ok.len; omega)
    rw [ks_len] at hc
    clear hr
    go_wp2_with fail
    refine hc.mono ?_
    rintro e w2 ⟨v', rfl, hr, hx2⟩
    go_wp2_with fail
    go_ret
    exact ⟨v', by simp, own_low hr hx.size, hx.trans hx2⟩
theorem own_slV {w : World} {base n size : Nat} {e : TypeId} {v : Value} {xs : List Value} (h : w.ownsRow base e size v n xs) : ∃ s : Sl3, v = slV s := by
  rcases h.2 with ⟨rfl, h0⟩ | ⟨g, cap, cur, rfl, _⟩
  · exact ⟨⟨none, 0, 0⟩, rfl⟩
  · exact ⟨⟨some g, n, cap⟩, rfl⟩
/-- The block that a slice lies in. -/
def blkL (v : Value) : List Nat := v.ownBlock.toList
theorem blkL_of {v : Value} {k : Nat} (h : v.ownBlock = some k) : k ∈ blkL v := by unfold blkL; rw [h]; simp
theorem of_blkL {v : Value} {k : Nat} (h : k ∈ blkL v) : v.ownBlock = some k := by
  unfold blkL at h
  cases e : v.ownBlock with
  | none => rw [e] at h; simp at h
  | some x => rw [e] at h; simp at h; rw [h]
theorem joined_any {w : World} {v : Value} {l : List Int} {t : Int} (h : RowI w v l) (hl : l.length ≤ 70000) (ht : okT t = true) :
    Calls Try.prog 24 #[v, .int .i64 t] w fun e w' => ∃ s, e = .returned (slV s) ∧ RowI w' (slV s) (l ++ who t) ∧ Chg (blkL v) w w' ∧ (∀ k, (slV s).ownBlock = some k → v.ownBlock = some k ∨ w.heap.size ≤ k) := by
  have hb := okT_of ht
  by_cases h0 : t = -1
  · subst h0
    obtain ⟨s, rfl⟩ := own_slV h
    have E := hide (show l ++ who (-1) = l by unfold who; simp)
    obtain ⟨b, n, c⟩ := s
    have H := hide h
    clear h
    unfold slV at H ⊢
    go_enter Try.func24, Try.ntmps24
    go_wp2
    go_ret
    exact ⟨⟨b, n, c⟩, by simp [slV], by rw [E.out]; exact H.out, Chg.refl _ _, fun k hk => .inl hk⟩
  · have h1 : (t == -1) = false := by simpa using h0
    have E := hide (show l ++ who t = l ++ [t] by unfold who; rw [if_neg (by omega)])
    obtain ⟨A, c, rfl⟩ := own_sl h
    have H := hide h
    clear h
    have i0 := inf_int
    go_enter Try.func24, Try.ntmps24
    go_wp2_with (first
      | (at_builtin; refine wpList_app3 (base := 0) rfl rfl Try.underlying34 inf_int rfl (by omega) rfl H.out (Nat.zero_le _) rfl rfl rfl (by simp [Value.oneCell']) (by unfold maxLen; omega) (by omega) ?_; intro v' w3 hown' hg3 hk3; go_frame)
      | go_in)
    go_ret
    obtain ⟨s, rfl⟩ := own_slV hown'
    refine ⟨s, by simp, ?_, ?_, hk3⟩
    · rw [E.out]
      show w3.ownsRow 0 3 1 (slV s) (l ++ [t]).length ((l ++ [t]).map enJ)
      rw [List.length_append, List.map_append]
      exact hown'
    · exact (Chg.alloc _ _ _).of_grow hg3 (fun k hk => blkL_of hk)
end Go.Proofs.Ytonaibpenijomaa
