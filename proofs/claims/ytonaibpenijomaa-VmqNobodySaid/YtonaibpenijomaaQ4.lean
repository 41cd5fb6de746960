/- Ask of what is new. -/
import Derived.Test.YtonaibpenijomaaQ3
import Derived.Deep.RegionLaw
namespace Go.Proofs.Ytonaibpenijomaa
open Go.RowKit Go.Maps
set_option linter.unusedSimpArgs false
set_option linter.unusedVariables false
set_option maxRecDepth 100000


/-- One request is more. -/
theorem QI.new {w w' : World} {O : List Nat} {C m : Nat} {ov ov' : Value} {g : Rq → Sl3} {S : List En} {r : Rq} {t : Int} {s : Sl3} (h : QI w O C m ov g S) (hn : hasR S r = false) (ok : Ok (S ++ [(r, who t)]))
    (hC : Blk w' C #[ov', .map (some m)] 57) (hrow : w'.ownsRow 0 33 2 ov' (S.length + 1) (rcells (ks S ++ [r]))) (hm : MpT w' m (updR (fS g S) r (some s)) (S.length + 1)) (hr : RowI w' (slV s) (who t))
    (hc : Chg (C :: m :: blkL ov) w w') (hf : ∀ k, ov'.ownBlock = some k → ov.ownBlock = some k ∨ w.heap.size ≤ k) (hf2 : ∀ k, (slV s).ownBlock = some k → w.heap.size ≤ k) :
    QI w' (blkL ov' ++ (blkL (slV s) ++ O)) C m ov' (updR g r s) (S ++ [(r, who t)]) := by
  have hk := has_no hn
  have hold : ∀ e, e ∈ S → updR g r s e.1 = g e.1 := fun e he => updR_other _ _ (hk e he)
  have hsz := hc.size
  have hmem : ∀ x, x ∈ S ++ [(r, who t)] → x ∈ S ∨ x = (r, who t) := fun x hx => by simpa using hx
  have hO : ∀ k, k ∈ O → k ∈ blkL ov' ++ (blkL (slV s) ++ O) := fun k hk => List.mem_append_right _ (List.mem_append_right _ hk)
  refine ⟨hC, ?_, ?_, fun x hx => ?_, fun x hx y hy k hk1 hk2 => ?_, hO _ h.oc, hO _ h.om, fun k hk => List.mem_append_left _ (blkL_of hk), fun x hx k hk1 => ?_, fun k hk1 => ?_, ok⟩
  · rw [List.length_append, show ks (S ++ [(r, who t)]) = ks S ++ [r] by simp [ks]]
    exact hrow
  · rw [List.length_append]
    refine hm.eqF fun q _ => ?_
    unfold fS updR hasR
    rw [show ks (S ++ [(r, who t)]) = ks S ++ [r] by simp [ks]]
    by_cases e : q = r
    · rw [if_pos e, e]; simp
    · rw [if_neg e]
      simp [e]
  · rcases hmem x hx with hx | rfl
    · rw [hold x hx]
      refine own_chgB (h.rows x hx) hc (fun k hk1 hk2 => ?_)
      obtain ⟨cs, hb⟩ := own_blk (h.rows x hx) k hk1
      rcases List.mem_cons.1 hk2 with e | hk2
      · exact absurd ((e ▸ hb).type h.c) (by decide)
      · rcases List.mem_cons.1 hk2 with e | hk2
        · exact h.map.noC _ _ (e ▸ hb)
        · obtain ⟨cs2, hb2⟩ := own_blk h.row k (of_blkL hk2)
          exact absurd (hb.type hb2) (by decide)
    · rw [updR_same]; exact hr
  · rcases hmem x hx with hx | rfl <;> rcases hmem y hy with hy | rfl
    · rw [hold x hx] at hk1
      rw [hold y hy] at hk2
      exact h.apart x hx y hy k hk1 hk2
    · rw [hold x hx] at hk1
      rw [updR_same] at hk2
      have := h.lt k (h.owait x hx k hk1)
      have := hf2 k hk2
      omega
    · rw [hold y hy] at hk2
      rw [updR_same] at hk1
      have := h.lt k (h.owait y hy k hk2)
      have := hf2 k hk1
      omega
    · rfl
  · rcases hmem x hx with hx | rfl
    · rw [hold x hx] at hk1; exact hO _ (h.owait x hx k hk1)
    · rw [updR_same] at hk1; exact List.mem_append_right _ (List.mem_append_left _ (blkL_of hk1))
  · rcases List.mem_append.1 hk1 with h1 | h1
    · exact own_lt hrow k (of_blkL h1)
    · rcases List.mem_append.1 h1 with h1 | h1
      · exact own_lt hr k (of_blkL h1)
      · have := h.lt k h1; omega
/-- The list with one more. -/
theorem new_row {w : World} {O : List Nat} {C m b : Nat} {ov : Value} {g : Rq → Sl3} {S : List En} {k o : Int} (ty : TypeId) (h : QI w O C m ov g S) (hb : Blk w b #[.int .i64 k, .int .i64 o] 33) (hnb : b ∉ O) (hlt : S.length < 256) :
    ∃ A c w', (Builtin.append_ #[47, 47] ty #[ov, .slice (some ⟨w.heap.size, 0, none⟩) 1 1]).run Try.prog (w.alloc (.cells #[.int .i64 k, .int .i64 o] 33)) = .ok (.slice A (S.length + 1) c) w' ∧
      w'.ownsRow 0 33 2 (.slice A (S.length + 1) c) (S.length + 1) (rcells (ks S ++ [(k, o)])) ∧ Chg (blkL ov) w w' ∧ (∀ q, (Value.slice A (S.length + 1) c).ownBlock = some q → ov.ownBlock = some q ∨ w.heap.size ≤ q) ∧
      Blk w' C #[ov, .map (some m)] 57 ∧ Blk w' b #[.int .i64 k, .int .i64 o] 33 ∧ MpT w' m (fS g S) S.length := by
  have hx := Ext.alloc w (.cells #[.int .i64 k, .int .i64 o] 33)
  have hnew : ∀ j u, (rcells [(k, o)])[j]? = some u → (w.alloc (.cells #[.int .i64 k, .int .i64 o] 33)).cell? ((⟨w.heap.size, 0, none⟩ : Addr).add j) = some u := by
    intro j u hu
    have : (w.alloc (.cells #[.int .i64 k, .int .i64 o] 33)).cell? ⟨w.heap.size, j, none⟩ = (#[.int .i64 k, .int .i64 o] : Array Value)[j]? := cell_of_row _ _ j _ 33 (0, 0) (heap_alloc_new w _)
    rw [Addr.add_lit, Nat.zero_add, this, ← hu, ← Array.getElem?_toList]
    rfl
  obtain ⟨v', w', h1, h2, h3, h4⟩ := app_run (P := Try.prog) (base := 0) ty Try.underlying47 inf_spot rfl (by omega) (own_ext h.row hx) (Nat.zero_le _) (rcells_length [(k, o)]) hnew (rcells_one _) (c := 1) (by simp [maxLen]; omega) (by simp; omega)
  rw [← rcells_append] at h2
  obtain ⟨A, c, rfl⟩ := own_sl h2
  have hc : Chg (blkL ov) w w' := (Chg.alloc _ _ _).of_grow h3 (fun q hq => blkL_of hq)
  refine ⟨A, c, w', h1, h2, hc, fun q hq => (h4 q hq).imp id (fun z => by have := hx.size; omega), h.c.chg hc (fun q => ?_), ?_, ?_⟩
  · obtain ⟨cs, hb2⟩ := own_blk h.row C (of_blkL q)
    exact absurd (h.c.type hb2) (by decide)
  · exact hb.chg hc (fun q => hnb (h.orow b (of_blkL q)))
  · refine h.map.chg hc (fun q => ?_)
    obtain ⟨cs, hb2⟩ := own_blk h.row m (of_blkL q)
    exact h.map.noC _ _ hb2
/-- An append whose run is known, as a step of a region that draws its order. -/
theorem step_app {P : Program} {ops : Array Oper} {o : Oper} {a : Act} {w w' : World} {K : Act → World → Prop} {Q : Exit → Act → World → Prop} {E : Prop}
    (hg : o.guard = none) (s x : Operand) (t : TypeId) (ho : o.op = .call { callee := .builtin .append, args := #[s, x], argTypes := #[t, t] }) {v v2 v' : Value} (hs : a.eval s = v) (hx : a.eval x = v2)
    (hrun : (Builtin.append_ #[t, t] o.type #[v, v2]).run P w = .ok v' w') (h : K (a.put o.dst v') w') :
    if Region.wanted o (yielded ops a.tmps) = true then Oper.wp P o a w K Q else E := by
  have hw : Region.wanted o (yielded ops a.tmps) = true := by simp [Region.wanted, hg]
  rw [if_pos hw]
  unfold Oper.wp execOp
  simp only [ho, resolve, invoke, builtin, Sem.run_bind, Sem.run_pure, Result.andThen_ok, List.map_toArray, List.map_cons, List.map_nil, hs, hx, hrun]
  exact h
/-- Behind the list's store. -/
theorem new_store {w w3 : World} {O : List Nat} {C m b n : Nat} {ov v' : Value} {g : Rq → Sl3} {S : List En} {k o : Int} {xs : List Value} (h : QI w O C m ov g S) (hnb : b ∉ O) (hrow : w3.ownsRow 0 33 2 v' n xs) (hc : Chg (blkL ov) w w3)
    (hC : Blk w3 C #[ov, .map (some m)] 57) (hB : Blk w3 b #[.int .i64 k, .int .i64 o] 33) (hM : MpT w3 m (fS g S) S.length) :
    Blk (w3.setCell ⟨C, 0, none⟩ v') C #[v', .map (some m)] 57 ∧ Blk (w3.setCell ⟨C, 0, none⟩ v') b #[.int .i64 k, .int .i64 o] 33 ∧ MpT (w3.setCell ⟨C, 0, none⟩ v') m (fS g S) S.length ∧ (w3.setCell ⟨C, 0, none⟩ v').ownsRow 0 33 2 v' n xs ∧ Chg (C :: m :: blkL ov) w (w3.setCell ⟨C, 0, none⟩ v') := by
  have hs : Chg [C] w3 (w3.setCell ⟨C, 0, none⟩ v') := (Chg.refl _ _).set (p := ⟨C, 0, none⟩) (.inl (by simp)) _
  refine ⟨hC.set 0 v', hB.chg hs (by simp; rintro rfl; exact hnb h.oc), hM.chg hs (by simp; exact fun e => h.cm e.symm), own_chgB hrow hs (fun k hk q => ?_), ((hc.mono fun k hk => List.mem_cons_of_mem _ (List.mem_cons_of_mem _ hk)).set (p := ⟨C, 0, none⟩) (.inl (by simp)) _)⟩
  obtain ⟨cs, hb⟩ := own_blk hrow k hk
  simp at q
  subst q
  exact absurd (hb.type hC) (by decide)
/-- Behind the row of who waits: the map's update. -/
theorem new_mid {w w6 : World} {C m b : Nat} {v' : Value} {g : Rq → Sl3} {S : List En} {r : Rq} {l' : List Int} {s : Sl3} {n : Nat} {xs : List Value} (hcm : C ≠ m) (hs : S.length < 256) (hC : Blk w C #[v', .map (some m)] 57) (hB : Blk w b #[.int .i64 r.1, .int .i64 r.2] 33) (hM : MpT w m (fS g S) S.length)
    (hrow : w.ownsRow 0 33 2 v' n xs) (hr : wfR r) (eh : hasR S r = false) (hr6 : RowI w6 (slV s) l') (hc : Chg (blkL (.slice none 0 0)) w w6) :
    Hid (Blk w6 C #[v', .map (some m)] 57) ∧ Hid (Blk w6 b #[.int .i64 r.1, .int .i64 r.2] 33) ∧ ∃ w7, (Instr.mapUpdate 55 (.map (some m)) ((Value.agg #[.int .i64 r.1, .int .i64 r.2])) (slV s)).run Try.prog w6 = .ok () w7 ∧ MpT w7 m (updR (fS g S) r (some s)) (S.length + 1) ∧ Chg [m] w w7 ∧ RowI w7 (slV s) l' ∧
      Hid (Blk w7 C #[v', .map (some m)] 57) ∧ Hid (Blk w7 b #[.int .i64 r.1, .int .i64 r.2] 33) ∧ w7.ownsRow 0 33 2 v' n xs := by
  have hx : Ext w w6 := Chg.ext0 hc
  have hm6 := hM.ext hx
  obtain ⟨w7, hrun, hm7, hg⟩ := hm6.update hr s (by unfold maxLen; omega)
  rw [fS_isSome, eh] at hm7
  have hg2 := Chg.of_grown hg (T := [m]) (by simp)
  have hnb : ∀ {w : World} {cs : Array Value} {t : TypeId} {b : Nat}, Blk w6 b cs t → b ∉ [m] := fun hb q => by simp at q; exact hm6.noC _ _ (q ▸ hb)
  refine ⟨hC.ext hx, hB.ext hx, w7, hrun, hm7, (hx.chg [m]).trans hg2, own_chgB hr6 hg2 (fun k hk => ?_), (hC.ext hx).chg hg2 (by simp; exact hcm), (hB.ext hx).chg hg2 (hnb (w := w) (hB.ext hx)), own_chgB (own_ext hrow hx) hg2 (fun k hk => ?_)⟩
  · obtain ⟨cs, hb2⟩ := own_blk hr6 k hk; exact hnb (w := w) hb2
  · obtain ⟨cs, hb2⟩ := own_blk (own_ext hrow hx) k hk; exact hnb (w := w) hb2
theorem ask_fresh {w : World} {O : List Nat} {C : Nat} {S : List En} {k o t : Int} (h : QT w O C S) (ok : okA (k, o) t = true) (ew : waitsB S t = false) (eh : hasR S (k, o) = false) (el : S.length ≠ 256) :
    Calls Try.prog 12 #[.pointer (some ⟨C, 0, none⟩), (Value.agg #[.int .i64 k, .int .i64 o]), .int .i64 t] w fun e w' => e = .returned (.tuple #[.bool true, .int .i64 0]) ∧ ∃ O', QT w' O' C (S ++ [((k, o), who t)]) ∧ Chg O w w' ∧ Fr O O' w := by
  obtain ⟨em, et⟩ := okA_of ok
  have hr := mayR_wf em
  have hb := okT_of et
  have HAS : Hid (∀ w', Ext w w' → Calls Try.prog 21 #[.pointer (some ⟨C, 0, none⟩), (Value.agg #[.int .i64 k, .int .i64 o])] w' fun e w2 => e = .returned (.bool (hasR S (k, o))) ∧ Ext w' w2) := hide fun w' x => has_any (h.ext x).any hr
  have GIV : Hid (∀ w', Ext w w' → Calls Try.prog 22 #[.pointer (some ⟨C, 0, none⟩)] w' fun e w2 => e = .returned (.bool true) ∧ Ext w' w2) := hide fun w' x => given_ext (h.ext x).any
  have MAY : Hid (∀ w', Ext w w' → Calls Try.prog 23 #[(Value.agg #[.int .i64 k, .int .i64 o])] w' fun e w2 => e = .returned (.bool (mayR (k, o))) ∧ Ext w' w2) := hide fun w' x => may_any (k, o) w'
  have WAI : Hid (∀ w', Ext w w' → Calls Try.prog 15 #[.pointer (some ⟨C, 0, none⟩), .int .i64 t] w' fun e w2 => e = .returned (.bool (waitsB S t)) ∧ Ext w' w2) := hide fun w' x => waits_in t (h.ext x).any
  have LEN : Hid (∀ w', Ext w w' → Calls Try.prog 17 #[.pointer (some ⟨C, 0, none⟩)] w' fun e w2 => e = .returned (.int .i64 (S.length : Int)) ∧ Ext w' w2) := hide fun w' x => len_any (h.ext x).any
  rw [em] at MAY
  rw [ew] at WAI
  rw [eh] at HAS
  have OKA := hide (h.ok.new (r := (k, o)) em et ew eh el)
  have HQ := hide h
  have EH := hide eh
  have HR := hide hr
  have ET := hide et
  have hlen := h.ok.len
  have t0 : ¬ t < -1 := by omega
  have t1 : ¬ 255 < t := by omega
  have l1 : ((S.length : Int) == 256) = false := by simp; omega
  have hlt : S.length < 256 := by omega
  have EL := hide hlt
  clear h em ok ew eh hr et hb hlen el hlt
  go_enter Try.func12, Try.ntmps12
  go_wp2_with fail
  have HBK := hide (Blk.new w #[.int .i64 k, .int .i64 o] 33)
  have hX := fun w' (h : Ext (w.alloc (Obj.cells #[.int .i64 k, .int .i64 o] 33)) w') => h.boxCell
  have hXf := fun w' (h : Ext (w.alloc (Obj.cells #[.int .i64 k, .int .i64 o] 33)) w') => h.boxFree
  have hX0 : Ext w (w.alloc (Obj.cells #[.int .i64 k, .int .i64 o] 33)) := Ext.alloc _ _
  generalize w.alloc (Obj.cells #[.int .i64 k, .int .i64 o] 33) = W0 at *
  have hW := Ext.refl W0
  go_wp2_with (first | (go_at_call 21; (with_reducible refine (HAS.out _ (hX0.trans hW)).mono ?_); rintro e w' ⟨rfl, hb⟩; have hW := Ext.trans2 hW (by repeat (first | exact Ext.refl _ | exact Ext.alloc _ _ | exact Ext.drewN _ _ | assumption | refine Ext.trans ?_ (Ext.alloc _ _) | refine Ext.trans ?_ (Ext.drew _) | refine Ext.trans ?_ (by assumption))) hb; (try have hV := Ext.trans2 hV (by repeat (first | exact Ext.refl _ | exact Ext.alloc _ _ | exact Ext.drewN _ _ | assumption | refine Ext.trans ?_ (Ext.alloc _ _) | refine Ext.trans ?_ (Ext.drew _) | refine Ext.trans ?_ (by assumption))) hb); clear hb) | (go_at_call 22; (with_reducible refine (GIV.out _ (hX0.trans hW)).mono ?_); rintro e w' ⟨rfl, hb⟩; have hW := Ext.trans2 hW (by repeat (first | exact Ext.refl _ | exact Ext.alloc _ _ | exact Ext.drewN _ _ | assumption | refine Ext.trans ?_ (Ext.alloc _ _) | refine Ext.trans ?_ (Ext.drew _) | refine Ext.trans ?_ (by assumption))) hb; (try have hV := Ext.trans2 hV (by repeat (first | exact Ext.refl _ | exact Ext.alloc _ _ | exact Ext.drewN _ _ | assumption | refine Ext.trans ?_ (Ext.alloc _ _) | refine Ext.trans ?_ (Ext.drew _) | refine Ext.trans ?_ (by assumption))) hb); clear hb) | (go_at_call 23; (with_reducible refine (MAY.out _ (hX0.trans hW)).mono ?_); rintro e w' ⟨rfl, hb⟩; have hW := Ext.trans2 hW (by repeat (first | exact Ext.refl _ | exact Ext.alloc _ _ | exact Ext.drewN _ _ | assumption | refine Ext.trans ?_ (Ext.alloc _ _) | refine Ext.trans ?_ (Ext.drew _) | refine Ext.trans ?_ (by assumption))) hb; (try have hV := Ext.trans2 hV (by repeat (first | exact Ext.refl _ | exact Ext.alloc _ _ | exact Ext.drewN _ _ | assumption | refine Ext.trans ?_ (Ext.alloc _ _) | refine Ext.trans ?_ (Ext.drew _) | refine Ext.trans ?_ (by assumption))) hb); clear hb) | (go_at_call 15; (with_reducible refine (WAI.out _ (hX0.trans hW)).mono ?_); rintro e w' ⟨rfl, hb⟩; have hW := Ext.trans2 hW (by repeat (first | exact Ext.refl _ | exact Ext.alloc _ _ | exact Ext.drewN _ _ | assumption | refine Ext.trans ?_ (Ext.alloc _ _) | refine Ext.trans ?_ (Ext.drew _) | refine Ext.trans ?_ (by assumption))) hb; (try have hV := Ext.trans2 hV (by repeat (first | exact Ext.refl _ | exact Ext.alloc _ _ | exact Ext.drewN _ _ | assumption | refine Ext.trans ?_ (Ext.alloc _ _) | refine Ext.trans ?_ (Ext.drew _) | refine Ext.trans ?_ (by assumption))) hb); clear hb) | (go_at_call 17; (with_reducible refine (LEN.out _ (hX0.trans hW)).mono ?_); rintro e w' ⟨rfl, hb⟩; have hW := Ext.trans2 hW (by repeat (first | exact Ext.refl _ | exact Ext.alloc _ _ | exact Ext.drewN _ _ | assumption | refine Ext.trans ?_ (Ext.alloc _ _) | refine Ext.trans ?_ (Ext.drew _) | refine Ext.trans ?_ (by assumption))) hb; (try have hV := Ext.trans2 hV (by repeat (first | exact Ext.refl _ | exact Ext.alloc _ _ | exact Ext.drewN _ _ | assumption | refine Ext.trans ?_ (Ext.alloc _ _) | refine Ext.trans ?_ (Ext.drew _) | refine Ext.trans ?_ (by assumption))) hb); clear hb))
  obtain ⟨m, ov, g, hq⟩ := HQ.out.ext ((hX0.trans hW).trans (Ext.drew w'))
  have HB := hide (HBK.out.ext (hW.trans (Ext.drew w')))
  have HX := hide ((hX0.trans hW).trans (Ext.drew w'))
  have NB := hide (show w.heap.size ∉ O from fun q => by have := HQ.out.lt _ q; omega)
  obtain ⟨A, c, w3, hrun, hrow3, hc3, hf3, hC3, hB3, hM3⟩ := new_row 47 hq HB.out NB.out EL.out
  obtain ⟨A0, c0, es0⟩ := own_sl hq.row
  have HI := hide hq
  have HROW := hide hrow3
  have HG3 := hide hc3
  have HF3 := hide hf3
  have HC3 := hide hC3
  have HB3 := hide hB3
  have HM3 := hide hM3
  have ES0 := hide es0
  rw [es0] at hrun
  have ew : w'.drew.alloc (.cells #[.int .i64 k, .int .i64 o] 33) = (w'.alloc (.cells #[.int .i64 k, .int .i64 o] 33)).drew := rfl
  have xw := Ext.alloc w'.drew (.cells #[.int .i64 k, .int .i64 o] 33)
  rw [ew, show w'.drew.heap.size = w'.heap.size from rfl] at hrun
  have HRUN := hide hrun
  rw [ew] at xw
  have rC0 := hq.c.cell
  have rB0 := HB.out.cell
  rw [es0] at rC0
  have rC := (hq.c.ext xw).cell
  rw [es0] at rC
  have rB := (HB.out.ext xw).cell
  have rC3 := hC3.cell
  have fC3 := hC3.free
  rw [es0] at rC3
  clear hrun ew xw hq hrow3 hc3 hf3 hC3 hB3 hM3 es0 hX hXf hX0 hW
  go_region_law (refine step_app rfl (.tmp 45) (.tmp 47) 47 rfl (by simp [Act.eval, Act.put]) (by simp [Act.eval, Act.put]) HRUN.out ?_)
  all_goals
    clear rC0 rB0 rC rB rC3 fC3 HRUN
    go_wp2_with fail
    have hst := new_store HI.out NB.out HROW.out HG3.out HC3.out HB3.out HM3.out
    generalize w3.setCell ⟨C, 0, none⟩ (.slice A (S.length + 1) c) = W4 at *
    obtain ⟨hC4, hB4, hM4, hR4, hG4⟩ := hst
    have hd := Ext.drew W4
    have hlook := (hM4.ext hd).look1 HR.out
    rw [show (fS g S (k, o)).getD ⟨none, 0, 0⟩ = ⟨none, 0, 0⟩ by unfold fS; rw [EH.out]; rfl, show slV ⟨none, 0, 0⟩ = .slice none 0 0 from rfl] at hlook
    have HJ := hide (joined_any (own_nil W4.drew 0 3 1) (l := []) (by simp) ET.out)
    have HC := hide (hC4.ext hd)
    have HB4 := hide (hB4.ext hd)
    have HM4 := hide (hM4.ext hd)
    have HR4 := hide (own_ext hR4 hd)
    have HG4 := hide (hG4.trans (Chg.drew _ W4))
    have HCM := hide HI.out.cm
    clear hC4 hB4 hM4 hR4 hG4 hd
    go_region_held3 (fun wx => (wx.cell? ⟨C, 0, none⟩ = some (.slice A (S.length + 1) c) ∧ wx.cell? ⟨C, 1, none⟩ = some (.map (some m))) ∧ (wx.cell? ⟨w.heap.size, 0, none⟩ = some (.int .i64 k) ∧ wx.cell? ⟨w.heap.size, 1, none⟩ = some (.int .i64 o)))
      (with_reducible first | exact four2 HC7.out HB7.out | exact four2 HC6.out HB6.out | exact four2 HC.out HB4.out)
      ((go_at_call 24; with_reducible refine HJ.out.mono ?_; rintro e w6 ⟨s6, rfl, hr6, hc6, hf6⟩; obtain ⟨HC6, HB6, w7, hrun, hm7, hc7, hr7, HC7, HB7, hR7⟩ := new_mid HCM.out EL.out HC.out HB4.out HM4.out HR4.out HR.out EH.out hr6 hc6; obtain ⟨A6, c6, es6⟩ := own_sl hr6; obtain ⟨n6, hn6⟩ : ∃ n, n = ([] ++ who t).length := ⟨_, rfl⟩; rw [← hn6] at es6; clear hn6; have ES6 := hide es6; rw [es6] at hrun ⊢; have HM7 := hide hm7; have HG7 := hide hc7; have HR7 := hide hr7; have HO7 := hide hR7; have HF6 := hide hf6; clear hm7 hc7 hr7 hf6 hc6 hr6 es6 hR7))
    go_wp2_with fail
    go_ret2
    have hQ : QI w7 (blkL (.slice A (S.length + 1) c) ++ (blkL (slV s6) ++ O)) C m (.slice A (S.length + 1) c) (updR g (k, o) s6) (S ++ [((k, o), who t)]) :=
      HI.out.new EH.out OKA.out HC7.out HO7.out HM7.out HR7.out (HG4.out.trans (HG7.out.mono fun q hq => by simp at hq; simp [hq])) HF3.out (fun q hq => (HF6.out q hq).elim (fun z => by cases z) (fun z => by have := HG4.out.size; omega))
    refine ⟨by simp, _, ⟨m, _, _, hQ⟩, (HX.out.chg O).trans ((HG4.out.trans (HG7.out.mono fun q hq => by simp at hq; simp [hq])).mono fun q hq => ?_), fun q hq => ?_⟩
    · rcases List.mem_cons.1 hq with e | hq
      · rw [e]; exact HI.out.oc
      · rcases List.mem_cons.1 hq with e | hq
        · rw [e]; exact HI.out.om
        · exact HI.out.orow q (of_blkL hq)
    · have hsx := HX.out.size
      have hs4 := HG4.out.size
      rcases List.mem_append.1 hq with e | hq
      · rcases HF3.out q (of_blkL e) with e2 | e2
        · exact .inl (HI.out.orow q e2)
        · exact .inr (by omega)
      · rcases List.mem_append.1 hq with e | e
        · rcases HF6.out q (of_blkL e) with e2 | e2
          · cases e2
          · exact .inr (by omega)
        · exact .inl e
theorem ask_any {w : World} {O : List Nat} {C : Nat} {S : List En} {k o : Int} (t : Int) (h : QT w O C S) (hr : wfR (k, o)) :
    Calls Try.prog 12 #[.pointer (some ⟨C, 0, none⟩), (Value.agg #[.int .i64 k, .int .i64 o]), .int .i64 t] w fun e w' => e = .returned (.tuple #[.bool (askB S (k, o) t), .int .i64 (askE S (k, o) t)]) ∧ ∃ O', QT w' O' C (askS S (k, o) t) ∧ Chg O w w' ∧ Fr O O' w := by
  rcases ask_cases S (k, o) t with ⟨e0, e1, e2⟩ | ⟨e0, ok, ew, eh, e1, e2⟩ | ⟨e0, ok, ew, eh, el, e1, e2⟩
  · rw [e1, e2]
    exact (ask_out h hr rfl e0).mono fun e w' ⟨h1, h2⟩ => ⟨h1, O, h.ext h2, h2.chg O, Fr.refl O w⟩
  · rw [e0, e1, e2]
    exact ask_more h ok ew eh
  · rw [e0, e1, e2]
    exact ask_fresh h ok ew eh el
end Go.Proofs.Ytonaibpenijomaa
