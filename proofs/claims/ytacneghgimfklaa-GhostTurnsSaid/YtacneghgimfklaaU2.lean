/-
  A law of layer 15 holds of every input: GhostTurns. No condition.
-/
import Derived.Test.YtacneghgimfklaaV1
import Derived.Test.YtacneghgimfklaaU0
import Derived.BigRegion
namespace Go.Proofs.Ytacneghgimfklaa
open Go.ChangeShapes Go.WideShapes Go.ChangeAt Go.RowKit Go.Deep Go.Joins
set_option linter.unusedVariables false
set_option linter.unusedSimpArgs false
set_option maxRecDepth 100000
set_option maxHeartbeats 8000000



theorem inf_r (x : Ent) : (Try.prog.info? 31).map (·.size) = some (ec x).toList.length := by kernel_rfl
theorem inf_rs (x : Ent) : (Try.prog.info? 31).map (·.size) = some (ec x).size := by kernel_rfl
theorem inf_gs (x : Ent) : (Try.prog.info? 36).map (·.size) = some (ec x).size := by kernel_rfl
theorem all_ec (x : Ent) : (ec x).all (·.oneCell') = true := by simp [ec, Value.oneCell']
theorem blk_rng {w : World} {b : Nat} {x : Ent} {t : TypeId} (h : Blk w b (ec x) t) : w.rangeAt b 0 (ec x).toList := fun j v hv => by rw [Nat.zero_add, h.cell, ← hv, Array.getElem?_toList]
theorem wpList_newr {ops : Array Oper} {rest : List Oper} {o : Oper} {a : Act} {w : World} {Q : Exit → Act → World → Prop} (hgd : o.guard = none) (p q : Operand) (ho : o.op = .store 31 p q) (x : Ent)
    (hx : a.eval p = .pointer (some ⟨w.heap.size, 0, none⟩)) (hy : a.eval q = .agg (ec x)) (h : wpList Try.prog ops Q rest (a.put o.dst undef) (w.alloc (.cells (ec x) 31))) : wpList Try.prog ops Q (o :: rest) a (w.alloc (.cells #[Value.int .i64 0, .int .i64 0, .int .i64 0, .int .i64 0, .int .i64 0, .int .i64 0, .int .i64 0, .int .i64 0, .int .i64 0, .int .i64 0, .int .i64 0, .int .i64 0, .int .i64 0] 31)) :=
  wpList_store_row hgd 31 p q ho w.heap.size (ec x) hx hy 31 #[Value.int .i64 0, .int .i64 0, .int .i64 0, .int .i64 0, .int .i64 0, .int .i64 0, .int .i64 0, .int .i64 0, .int .i64 0, .int .i64 0, .int .i64 0, .int .i64 0, .int .i64 0] (Blk.new w #[Value.int .i64 0, .int .i64 0, .int .i64 0, .int .i64 0, .int .i64 0, .int .i64 0, .int .i64 0, .int .i64 0, .int .i64 0, .int .i64 0, .int .i64 0, .int .i64 0, .int .i64 0] 31) (inf_rs x) rfl (all_ec x) (by rw [World.setRow_alloc_new]; exact h)
theorem wpList_newg {ops : Array Oper} {rest : List Oper} {o : Oper} {a : Act} {w : World} {Q : Exit → Act → World → Prop} (hgd : o.guard = none) (p q : Operand) (ho : o.op = .store 36 p q) (x : Ent)
    (hx : a.eval p = .pointer (some ⟨w.heap.size, 0, none⟩)) (hy : a.eval q = .agg (ec x)) (h : wpList Try.prog ops Q rest (a.put o.dst undef) (w.alloc (.cells (ec x) 36))) : wpList Try.prog ops Q (o :: rest) a (w.alloc (.cells #[Value.int .i64 0, .int .i64 0, .int .i64 0, .int .i64 0, .int .i64 0, .int .i64 0, .int .i64 0, .int .i64 0, .int .i64 0, .int .i64 0, .int .i64 0, .int .i64 0, .int .i64 0] 36)) :=
  wpList_store_row hgd 36 p q ho w.heap.size (ec x) hx hy 36 #[Value.int .i64 0, .int .i64 0, .int .i64 0, .int .i64 0, .int .i64 0, .int .i64 0, .int .i64 0, .int .i64 0, .int .i64 0, .int .i64 0, .int .i64 0, .int .i64 0, .int .i64 0] (Blk.new w #[Value.int .i64 0, .int .i64 0, .int .i64 0, .int .i64 0, .int .i64 0, .int .i64 0, .int .i64 0, .int .i64 0, .int .i64 0, .int .i64 0, .int .i64 0, .int .i64 0, .int .i64 0] 36) (inf_gs x) rfl (all_ec x) (by rw [World.setRow_alloc_new]; exact h)
def opA (c : Ck) : Array Value := #[.bool (c.op 0), .bool (c.op 1), .bool (c.op 2), .bool (c.op 3)]
def inA (f : Nat → Int) : Array Value := #[.int .i64 (f 0), .int .i64 (f 1), .int .i64 (f 2), .int .i64 (f 3)]
theorem opA_at (c : Ck) {t : Nat} (h : t < 4) : (opA c)[t]? = some (.bool (c.op t)) := by
  rcases (by omega : t = 0 ∨ t = 1 ∨ t = 2 ∨ t = 3) with rfl | rfl | rfl | rfl <;> rfl
theorem inA_at (f : Nat → Int) {t : Nat} (h : t < 4) : (inA f)[t]? = some (.int .i64 (f t)) := by
  rcases (by omega : t = 0 ∨ t = 1 ∨ t = 2 ∨ t = 3) with rfl | rfl | rfl | rfl <;> rfl
theorem opA_set (c : Ck) {t : Nat} (h : t < 4) (b : Bool) : (opA c).setIfInBounds t (.bool b) = opA { c with op := upd c.op t b } := by
  rcases (by omega : t = 0 ∨ t = 1 ∨ t = 2 ∨ t = 3) with rfl | rfl | rfl | rfl <;> rfl
theorem inA_set (f : Nat → Int) {t : Nat} (h : t < 4) (b : Int) : (inA f).setIfInBounds t (.int .i64 b) = inA (upd f t b) := by
  rcases (by omega : t = 0 ∨ t = 1 ∨ t = 2 ∨ t = 3) with rfl | rfl | rfl | rfl <;> rfl
/-- A row of entries, entry by entry. -/
theorem own_row_at {w : World} {B : Nat} {v : Value} {l : List Ent} (h : w.ownsRow B 36 13 v l.length (ecl l)) : ∃ A c cur, v = .slice A l.length c ∧ (∀ k, (hk : k < l.length) → ∃ g, A = some ⟨g, 0, none⟩ ∧ B ≤ g ∧ Blk w g cur 36 ∧ ∀ j, j < 13 → cur[k * 13 + j]? = (ec l[k])[j]?) := by
  rcases h.2 with ⟨rfl, h0⟩ | ⟨g, cap, cur, rfl, hb, hh, h3, h4, h5, h6⟩
  · exact ⟨none, 0, #[], by rw [h0], fun k hk => by omega⟩
  · refine ⟨_, cap, cur, rfl, fun k hk => ⟨g, rfl, hb, hh, fun j hj => ?_⟩⟩
    have h1 : (cur.toList.take (l.length * 13))[k * 13 + j]? = (ecl l)[k * 13 + j]? := by rw [h6]
    have : k * 13 + j < l.length * 13 := by omega
    rw [List.getElem?_take_of_lt this, ecl_at l hk hj, Array.getElem?_toList] at h1
    exact h1
theorem lturns_any (A : Option Addr) (n cc : Nat) (f : Nat → Ent) (w : World) (hn : n ≤ cc) (hc' : cc ≤ maxLen) (hs : Stps w w.heap.size A n f) (hf : ∀ k, k < n → Okst (f k)) :
    Calls Try.prog 4 #[.slice A n cc] w fun e w' => e = .returned (.bool true) ∧ Ext w w' := by
  have HF := hide hf
  have HS := hide hs
  clear hf hs
  have hnn := gnew_ok (n := 4) (m := 2) (k := 3) (by decide) w
  have e4 := hide (show (st0 4 2 3).N = 4 from rfl)
  generalize st0 4 2 3 = S0 at *
  go_enter Try.func4, Try.ntmps4
  go_wp2_with fail
  refine hnn.mono ?_
  rintro e w1 ⟨C, MB, W, L, rfl, hm, hC, hB, hW, hL, hX⟩
  have HG := hide (show GT w1 w.heap.size C MB W L (.slice none 0 0) S0 D0 [] from ⟨hm, own_nil _ _ _ _, hC, hB, hW, hL⟩)
  have HX := hide hX
  clear hm hC hB hW hL hX hnn
  go_wp2_with fail
  refine (short_any A n cc _ hn hc').mono ?_
  rintro e w2 ⟨rfl, rfl⟩
  go_wp2_with fail
  go_loopw [26] (fun i wr => ∃ (j : Nat) (S : St) (D : Nat → Dg) (l : List Ent) (v : Value), j ≤ min n 120 ∧ i = .int .i64 (j : Int) ∧ GT wr w.heap.size C MB W L v S D l ∧ Bd j D ∧ l.length ≤ j ∧ S.N = 4 ∧ Inv l ∧ Rel (ckL l) D ∧ Ext w wr) (fun i _ => min n 120 - (intOf i).toNat)
  case atStart => exact ⟨0, S0, D0, [], _, by omega, rfl, HG.out, bd_0, Nat.le_refl _, e4.out, inv_nil, rel_nil, HX.out⟩
  case round =>
    clear HG HX e4
    obtain ⟨j, S, D, l, v, hj, rfl, hg, hb, hl, hN, hi, hr, hX⟩ := hrel
    by_cases hlt : j < min n 120
    · have hj2 : j < n := by omega
      obtain ⟨b, off, rfl, hbb, hrg⟩ := (HS.out.chg hX (Nat.le_refl _)).rng hj2
      have hok := HF.out j hj2
      generalize f j = x at *
      have RG := hide hrg
      have hx := Ext.alloc wr (.cells (ec x) 31)
      have RG2 := hide (blk_rng (Blk.new wr (ec x) 31))
      have HG := hide (hg.ext hx)
      have HX := hide (hX.trans hx)
      have hr' := fun ht : takeB S D x = true => take_rel hN hr ht
      have NM := takeS_NM S D x
      have HH := hide (And.intro hb (And.intro hl (And.intro hN (And.intro hi (And.intro hr (And.intro hr' NM))))))
      clear hrg hg hX hx hb hl hN hi hr hr' NM
      go_wp2_with (first | (with_reducible refine wpList_load_mid rfl 31 _ rfl b (off + j * 13) rfl (ec x).toList _ RG.out Try.underlying31 rfl (inf_r _) ?_; rw [Array.toArray_toList]; go_frame) | (with_reducible refine wpList_newr rfl _ _ rfl x rfl rfl ?_; go_frame) | (with_reducible refine wpList_load_mid rfl 31 _ rfl wr.heap.size 0 rfl (ec x).toList _ RG2.out Try.underlying31 rfl (inf_r _) ?_; rw [Array.toArray_toList]; go_frame))
      refine (theirs_any x _).mono ?_
      rintro e w3 ⟨rfl, hx3⟩
      have HG3 := hide (HG.out.ext hx3)
      have HX3 := hide (HX.out.trans hx3)
      clear HG HX RG RG2 hx3
      go_wp2_with fail
      have j60 : j ≤ 1000000000 := by omega
      have l60 : l.length ≤ 1000 := by have := HH.out.2.1; omega
      refine (add_any HG3.out x hok.a HH.out.1 j60 l60 HX3.out.size).mono ?_
      rintro e w4 ⟨rfl, ⟨v', hg4⟩, hu4⟩
      have HG4 := hide hg4
      have HX4 := hide (HX3.out.up hu4 (Nat.le_refl _))
      clear hg4 hu4 HX3 HG3
      generalize (if takeB S D x = true then 0 else 15) = er at *
      go_wp2_with fail
      go_roundw
      case rel =>
        obtain ⟨hb, hl, hN, hi, hr, hr', hNM⟩ := HH.out
        refine ⟨j + 1, _, _, _, v', by omega, by go_num, HG4.out, hb.take S x, ?_, by rw [hNM.1]; exact hN, ?_, ?_, HX4.out⟩
        · split
          · simp; omega
          · omega
        · split
          · rename_i q; exact hi.app (hr' q).1
          · exact hi
        · split
          · rename_i q; rw [ckL_app]; exact (hr' q).2
          · rename_i q
            have : takeD S D x = D := by unfold takeD; rw [if_neg q]
            rw [this]; exact hr
      case measure => simp [intOf]; omega
    · have l60 : l.length ≤ 1000 := by omega
      have HH := hide (And.intro hl hi)
      have HG := hide hg
      have HX := hide hX
      clear hg hX hb hl hN hi hr
      go_wp2_with fail
      have HG1 := hide (((HG.out.ext (Ext.alloc wr (.cells (opA ck0) 60))).ext (Ext.alloc _ (.cells (inA ck0.ca) 61))).ext (Ext.alloc _ (.cells (inA ck0.co) 61)))
      have HX1 := hide (((HX.out.trans (Ext.alloc wr (.cells (opA ck0) 60))).trans (Ext.alloc _ (.cells (inA ck0.ca) 61))).trans (Ext.alloc _ (.cells (inA ck0.co) 61)))
      have HO := hide (((Blk.new wr (opA ck0) 60).ext (Ext.alloc _ (.cells (inA ck0.ca) 61))).ext (Ext.alloc _ (.cells (inA ck0.co) 61)))
      have hca := (Blk.new (wr.alloc (.cells (opA ck0) 60)) (inA ck0.ca) 61)
      have HCa := hide (hca.ext (Ext.alloc _ (.cells (inA ck0.co) 61)))
      have HCo := hide (Blk.new ((wr.alloc (.cells (opA ck0) 60)).alloc (.cells (inA ck0.ca) 61)) (inA ck0.co) 61)
      have z1 : (wr.alloc (.cells (opA ck0) 60)).heap.size = wr.heap.size + 1 := by simp
      have z2 : ((wr.alloc (.cells (opA ck0) 60)).alloc (.cells (inA ck0.ca) 61)).heap.size = wr.heap.size + 1 + 1 := by simp
      have z3 : (((wr.alloc (.cells (opA ck0) 60)).alloc (.cells (inA ck0.ca) 61)).alloc (.cells (inA ck0.co) 61)).heap.size = wr.heap.size + 1 + 1 + 1 := by simp
      rw [z1] at HCa
      rw [z2] at HCo
      have HZ := hide (And.intro z3 HX.out.size)
      change Calls _ _ _ (((wr.alloc (.cells (opA ck0) 60)).alloc (.cells (inA ck0.ca) 61)).alloc (.cells (inA ck0.co) 61)) _
      clear HG HX hca z1 z2 z3
      generalize (((wr.alloc (.cells (opA ck0) 60)).alloc (.cells (inA ck0.ca) 61)).alloc (.cells (inA ck0.co) 61)) = W1 at *
      refine (gall_any HG1.out l60).mono ?_
      rintro e w2 ⟨v2, rfl, ho2, hx2⟩
      obtain ⟨A2, c2, cur, rfl, hrow⟩ := own_row_at ho2
      have HR := hide hrow
      have HX2 := hide (HX1.out.trans hx2)
      have HO := hide (HO.out.ext hx2)
      have HCa := hide (HCa.out.ext hx2)
      have HCo := hide (HCo.out.ext hx2)
      have HZ2 := hide hx2.size
      clear ho2 hrow hx2 HX1 HG1
      generalize hob : wr.heap.size = ob at *
      go_wp2_with fail
      go_loopw [38] (fun i wx => ∃ (k : Nat), k ≤ l.length ∧ i = .int .i64 (k : Int) ∧ Blk wx ob (opA (ckL (l.take k))) 60 ∧ Blk wx (ob + 1) (inA (ckL (l.take k)).ca) 61 ∧ Blk wx (ob + 1 + 1) (inA (ckL (l.take k)).co) 61 ∧ Chg [ob, ob + 1, ob + 1 + 1] w2 wx) (fun i _ => l.length - (intOf i).toNat)
      case atStart => exact ⟨0, by omega, rfl, by simpa [ckL] using HO.out, by simpa [ckL] using HCa.out, by simpa [ckL] using HCo.out, Chg.refl _ _⟩
      case round =>
        clear HO HCa HCo
        obtain ⟨k, hk, rfl, ho, hca, hco, hc⟩ := hrel
        by_cases hlt : k < l.length
        · obtain ⟨g, rfl, hgB, hgb, hgc⟩ := HR.out k hlt
          have hok := HH.out.2 k hlt
          have hbd := bdC_L (l.take k)
          rw [List.length_take] at hbd
          have hnx : ckL (l.take (k + 1)) = stC (ckL (l.take k)) l[k] := by rw [← List.take_append_getElem hlt, ckL_app]
          have NX := hide hnx
          clear hnx
          generalize ckL (l.take k) = c at *
          generalize l[k] = x at *
          have k120 : k ≤ 120 := by have := HH.out.1; omega
          have bd := hbd x.th.toNat
          have hth : 0 ≤ x.th ∧ x.th ≤ 3 := by unfold okC at hok; simp only [Bool.and_eq_true, decide_eq_true_eq] at hok; exact hok.1
          obtain ⟨t, hxt⟩ := Int.eq_ofNat_of_zero_le hth.1
          have ht4 : t < 4 := by omega
          have i4 : (t : Int) < 4 := by omega
          have hT : x.th.toNat = t := by omega
          rw [hT] at bd
          have hz := HZ.out
          have hz2 := HZ2.out
          have RG := hide (show wr.rangeAt g (k * 13) (ec x).toList from fun j v hv => by
            rw [(hgb.chg hc (by simp; omega)).cell, hgc j ((List.getElem?_eq_some_iff.1 hv).1), ← hv, Array.getElem?_toList])
          have hx := Ext.alloc wr (.cells (ec x) 36)
          have HBX := hide (Blk.new wr (ec x) 36)
          have o1 := ho.ext hx
          have a1 := hca.ext hx
          have m1 := hco.ext hx
          have HC := hide (hc.trans (hx.chg _))
          have xs : ob + 1 + 1 < wr.heap.size := by have := hc.size; omega
          clear ho hca hco hc hx hgb hgc hgB hbd hz hz2 HR
          go_upto_region 14 with (first | (with_reducible refine wpList_load_mid rfl 36 _ rfl g (k * 13) rfl (ec x).toList _ RG.out Try.underlying36 rfl (inf_ec _) ?_; rw [Array.toArray_toList]; go_frame) | (with_reducible refine wpList_newg rfl _ _ rfl x rfl rfl ?_; go_frame))
          have b0 := HBX.out.cell 0
          have b1 := HBX.out.cell 1
          have b2 := HBX.out.cell 2
          replace b0 : (wr.alloc (.cells (ec x) 36)).cell? ⟨wr.heap.size, 0, none⟩ = some (.int .i64 x.kd) := b0
          replace b1 : (wr.alloc (.cells (ec x) 36)).cell? ⟨wr.heap.size, 1, none⟩ = some (.int .i64 x.th) := b1
          replace b2 : (wr.alloc (.cells (ec x) 36)).cell? ⟨wr.heap.size, 2, none⟩ = some (.int .i64 x.nu) := b2
          rw [hxt] at b1
          clear RG
          generalize wr.alloc (.cells (ec x) 36) = W5 at *
          generalize wr.heap.size = bx at *
          have e0 := (o1.cell t).trans (opA_at c ht4)
          have e1 := (a1.cell t).trans (inA_at c.ca ht4)
          have e2 := (m1.cell t).trans (inA_at c.co ht4)
          have f0 := o1.free t
          have f1 := a1.free t
          have f2 := m1.free t
          have HO := hide o1
          have HA := hide a1
          have HM := hide m1
          have n1 : ¬ bx = ob := by omega
          have n2 : ¬ bx = ob + 1 := by omega
          have n3 : ¬ bx = ob + 1 + 1 := by omega
          unfold okC at hok
          rw [hT] at hok
          unfold stC at NX
          rw [hT] at NX
          clear o1 a1 m1 HBX hth
          by_cases k1 : x.kd = 1
          · rw [if_pos k1] at hok NX
            simp only [Bool.and_eq_true, Bool.not_eq_true', beq_iff_eq] at hok
            rw [hok.2.1] at e0
            rw [k1] at b0
            rw [hok.2.2] at b2
            clear hok k1
            generalize hv1 : c.ca t = cat at *
            generalize hv2 : c.co t = cot at *
            go_wp2_with fail
            go_region
            go_wp2_with fail
            go_roundw
            case rel =>
              refine ⟨k + 1, by omega, by go_num, ?_, ?_, ?_, ?_⟩
              · have q := (((HO.out.set t (.bool true)).far (p := ⟨ob + 1 + 1, t, none⟩) (by simp; omega) (.int .i64 0)).far (p := ⟨ob + 1, t, none⟩) (by simp) (.int .i64 (cat + 1))).ext (Ext.drew _)
                rw [opA_set c ht4] at q
                rw [NX.out]; exact q
              · have q := (((HA.out.far (p := ⟨ob, t, none⟩) (by simp) (.bool true)).far (p := ⟨ob + 1 + 1, t, none⟩) (by simp) (.int .i64 0)).set t (.int .i64 (cat + 1))).ext (Ext.drew _)
                rw [inA_set _ ht4] at q
                rw [NX.out]; exact q
              · have q := (((HM.out.far (p := ⟨ob, t, none⟩) (by simp; omega) (.bool true)).set t (.int .i64 0)).far (p := ⟨ob + 1, t, none⟩) (by simp) (.int .i64 (cat + 1))).ext (Ext.drew _)
                rw [inA_set _ ht4] at q
                rw [NX.out]; exact q
              · exact (((HC.out.set (p := ⟨ob, t, none⟩) (.inl (by simp)) (.bool true)).set (p := ⟨ob + 1 + 1, t, none⟩) (.inl (by simp)) (.int .i64 0)).set (p := ⟨ob + 1, t, none⟩) (.inl (by simp)) (.int .i64 (cat + 1))).trans (Chg.drew _ _)
            case measure => simp [intOf]; omega
          rw [if_neg k1] at hok NX
          have k1' : (x.kd == 1) = false := by simpa using k1
          by_cases k2 : x.kd = 2
          · rw [if_pos k2] at hok NX
            simp only [Bool.and_eq_true] at hok
            rw [hok.2] at e0
            rw [k2] at b0
            clear hok k1 k1' k2
            generalize hv1 : c.ca t = cat at *
            generalize hv2 : c.co t = cot at *
            go_wp2_with fail
            go_roundw
            case rel =>
              refine ⟨k + 1, by omega, by go_num, ?_, ?_, ?_, ?_⟩
              · rw [NX.out]; exact HO.out.far (p := ⟨ob + 1 + 1, t, none⟩) (by simp; omega) (.int .i64 (cot + 1))
              · rw [NX.out]; exact HA.out.far (p := ⟨ob + 1 + 1, t, none⟩) (by simp) (.int .i64 (cot + 1))
              · have q := HM.out.set t (.int .i64 (cot + 1))
                rw [inA_set _ ht4] at q
                rw [NX.out]; subst hv2; exact q
              · exact HC.out.set (p := ⟨ob + 1 + 1, t, none⟩) (.inl (by simp)) (.int .i64 (cot + 1))
            case measure => simp [intOf]; omega
          · rw [if_neg k2] at hok NX
            have k2' : (x.kd == 2) = false := by simpa using k2
            simp only [Bool.and_eq_true, beq_iff_eq, bne_iff_ne] at hok
            rw [hok.2.1.1] at e0
            rw [hok.2.2] at b2
            have c0 : (c.co t == 0) = false := by simpa using hok.2.1.2
            clear hok k1 k2
            generalize hv1 : c.ca t = cat at *
            generalize hv2 : c.co t = cot at *
            generalize x.kd = kd at *
            go_wp2_with fail
            go_region
            go_wp2_with fail
            go_roundw
            case rel =>
              refine ⟨k + 1, by omega, by go_num, ?_, ?_, ?_, ?_⟩
              · have q := (HO.out.set t (.bool false)).ext (Ext.drew _)
                rw [opA_set c ht4] at q
                rw [NX.out]; exact q
              · rw [NX.out]; exact (HA.out.far (p := ⟨ob, t, none⟩) (by simp) (.bool false)).ext (Ext.drew _)
              · rw [NX.out]; exact (HM.out.far (p := ⟨ob, t, none⟩) (by simp; omega) (.bool false)).ext (Ext.drew _)
              · exact (HC.out.set (p := ⟨ob, t, none⟩) (.inl (by simp)) (.bool false)).trans (Chg.drew _ _)
            case measure => simp [intOf]; omega
        · go_wp2_with fail
          refine (alive_any _).mono ?_
          rintro e w4 ⟨rfl, hx4⟩
          go_wp2_with fail
          go_ret
          exact ⟨by simp, (HX2.out.turn hc (by have := HZ.out; simp; omega)).trans hx4⟩
set_option maxRecDepth 100000 in
theorem ghostTurns_walk {H : Type} {enc : TypeId × Value → H} (W : World) (base : Nat) (args : Array Value) (ds : List (DataW H)) (p : List MemPlace)
    (hval0 : ∀ (j : Nat) t v, Try.f4.params[j]? = some t → args[j]? = some v → Value.okWide Try.prog W .any base t v)
    (hA0 : DataW.TrodAll enc Try.prog W 0 (fun _ => true) true Try.f4.params.toList args.toList ds p) (_hlt : ∀ x ∈ p, x.block < W.heap.size) :
    Calls Try.prog 4 args W fun e W' => e = .returned (.bool true) ∧ Ext W W' := by
  have hval := hval0
  have hA := hA0
  rw [Try.params4] at hA hval
  clear hval0 hA0
  obtain ⟨v0, d0, rfl, rfl, h0⟩ := trodAll_one hA
  obtain ⟨A, n, c, f, rfl, hn, hc, hs, hf⟩ := open_steps (hval 0 23 v0 rfl rfl) h0
  exact lturns_any A n c f W hn hc hs hf
set_option maxRecDepth 100000 in
theorem ghostTurns_lifted (os : Os) (started : os.Started) (H : Type) (enc : TypeId × Value → H) :
    ReturnsInHanded {} Try.checked os 4 .any (Rows.ghostTurnsSpec.pre6 enc Try.prog Try.f4 Rows.ghostTurnsRow.domain false) (Rows.ghostTurnsSpec.post enc Try.prog Try.f4 false true false false) :=
  law_lifted (fn := Try.f4) 4 os started (by kernel_rfl) Try.func4 rfl rfl Try.underlying4 (hread_of (by kernel_rfl))
    (fun l hl => by
      have hl2 : l.length = 1 := hl
      clear hl
      match l, hl2 with
      | [_], _ => rfl)
    (ChangeSpec.witness6 (enc := enc) (C := Try.checked) false ⟨#[], #[.slice none 0 0], []⟩ 8 (by kernel_rfl) (by kernel_rfl) (by kernel_rfl) (by kernel_rfl))
    (fun W base args ds p hval hA hlt => ghostTurns_walk W base args ds p hval hA hlt)
theorem ghostTurns_holds : Rows.GhostTurnsSaid :=
  OpenClaim.holds_of_wide 4 Try.f4 rfl rfl rfl rfl rfl rfl rfl ⟨rfl, rfl, rfl, rfl, rfl⟩ rfl rfl rfl rfl rfl (by kernel_rfl) Try.func4 (by kernel_rfl)
    (of_decide_eq_true (by kernel_rfl)) (by unfold Func.isWrapper; rw [if_neg (of_decide_eq_false (by kernel_rfl))]; exact ⟨rfl, rfl⟩)
    (fun os started H enc _ => ghostTurns_lifted os started H enc)
end Go.Proofs.Ytacneghgimfklaa
