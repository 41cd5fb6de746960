/- A graph that is alive: a ring of two; how many edges a list makes. -/
import Derived.Test.YtaglpodilepioaaDoorS1
namespace Go.Proofs.YtaglpodilepioaaDoor
open Go.RowKit
set_option linter.unusedSimpArgs false
set_option linter.unusedVariables false
set_option maxRecDepth 100000
set_option maxHeartbeats 8000000


theorem RG.chgO {w w' : World} {R : Nat} {L : EL} {T : List Nat} (h : RG w R 0 L) (x : Chg T w w') (hR : R ∉ T) (hT : ∀ k, k ∈ T → ∃ cs t, Blk w k cs t ∧ t ≠ 31) : RG w' R 0 L := by
  obtain ⟨v, h1, h2⟩ := h
  refine ⟨v, h1.chg x hR, own_chgB h2 x fun k hk hm => ?_⟩
  obtain ⟨cs, hb⟩ := own_blk h2 k hk
  obtain ⟨cs2, t, hb2, ht⟩ := hT k hm
  exact ht (hb2.type hb)
theorem lenG_one {E E' : Gr} {i : Nat} (h : ∀ a, a ≠ i → cn (E' a) 64 = cn (E a) 64) (hi : cn (E' i) 64 = cn (E i) 64 + 1) : ∀ k, lenG E' k = lenG E k + (if i < k then 1 else 0)
  | 0 => rfl
  | k + 1 => by
    unfold lenG
    rw [lenG_one h hi k]
    by_cases e : k = i
    · subst e
      rw [hi]; simp; omega
    · rw [h k e]
      have : i < k + 1 ↔ i < k := by omega
      simp only [this]
      omega
theorem lenG_add {L : EL} (h : lenG (eg L) 64 = L.length) (i j : Int) : lenG (eg (addL L i j)) 64 = (addL L i j).length := by
  by_cases hi : isN i = true
  · by_cases hj : isN j = true
    · obtain ⟨p, rfl, hp⟩ := isN_ex hi
      obtain ⟨q, rfl, hq⟩ := isN_ex hj
      have e1 := eg_add (L := L) hi hj
      rw [← e1]
      unfold addL
      rw [hi, hj, hasI_nat]
      simp only [Bool.and_self, if_true, Int.toNat_natCast]
      by_cases hh : eg L p q = true
      · rw [if_pos hh]
        have : addE (eg L) p q = eg L := by
          have := eg_add (L := L) hi hj
          rw [Int.toNat_natCast, Int.toNat_natCast] at this
          rw [this]
          unfold addL
          rw [hi, hj, hasI_nat, hh]; simp
        rw [this, h]
      · rw [if_neg hh]
        have hh : eg L p q = false := by simpa using hh
        rw [lenG_one (E := eg L) (i := p) (fun a ha => by unfold addE; rw [if_neg ha]) (by unfold addE; rw [if_pos rfl]; exact cn_add hq hh), h, if_pos hp]
        simp
    · rw [show addL L i j = L by unfold addL; simp [hj]]; exact h
  · rw [show addL L i j = L by unfold addL; simp [hi]]; exact h
theorem lenG_adds (es : IE) : lenG (eg (adds es)) 64 = (adds es).length := by
  have key : ∀ (es : IE) (L : EL), lenG (eg L) 64 = L.length → lenG (eg (es.foldl (fun L p => addL L p.1 p.2) L)) 64 = (es.foldl (fun L p => addL L p.1 p.2) L).length := by
    intro es
    induction es with
    | nil => intro L h; exact h
    | cons p es ih => intro L h; exact ih _ (lenG_add h p.1 p.2)
  refine key es [] ?_
  have : ∀ k, lenG (eg []) k = 0 := by
    intro k
    induction k with
    | zero => rfl
    | succ k ih =>
      unfold lenG
      rw [ih]
      have : cn (eg [] k) 64 = cn non 64 := cn_congr fun j _ => by simp [eg, non]
      rw [this]; rfl
  exact this 64
/-- The ring of two. -/
abbrev L2 : EL := [(0, 1), (1, 0)]
theorem adds_2 : adds [(0, 1), (1, 0)] = L2 := by decide
theorem e2 {a b : Nat} : eg L2 a b = true ↔ (a = 0 ∧ b = 1) ∨ (a = 1 ∧ b = 0) := by
  unfold eg L2
  rw [decide_eq_true_eq]
  simp
theorem d00 : IsD (eg L2) 0 0 2 := by
  refine ⟨by omega, ⟨1, by omega, by decide, 0, by omega, by decide, rfl⟩, fun m h1 h2 hw => ?_⟩
  obtain rfl : m = 1 := by omega
  obtain ⟨k, _, he, rfl⟩ := hw
  have := e2.1 he
  omega
theorem d01 : IsD (eg L2) 0 1 1 := ⟨by omega, ⟨0, by omega, by decide, rfl⟩, fun m h1 h2 => by omega⟩
theorem ring_2 {Q : List Nat} (h : RingIs (eg L2) Q) : Q = [0, 1] := by
  rcases h with ⟨_, h0⟩ | ⟨l, e, he, hb, rfl⟩
  · have := h0 0 (by omega)
    rw [dist_eq d00] at this
    omega
  · obtain ⟨hl, hI, _, hg⟩ := bst_all he hb
    have h2 : ¬ 2 < e := fun q => hg 0 (by omega) 2 (by omega) q d00.2.1
    have h3 : e ≠ 1 := by
      rintro rfl
      obtain ⟨k, _, hk, rfl⟩ := hI.2.1
      have := e2.1 hk
      omega
    obtain rfl : e = 2 := by omega
    have hl0 : l = 0 := by
      rcases hb with ⟨q, _⟩ | ⟨_, _, _, h4⟩
      · omega
      · have := (h4 0 (by omega) (by rw [dist_eq d00]; omega)).2
        rw [dist_eq d00] at this
        omega
    subst hl0
    have hf : (setL (eg L2 0)).find? (fun k => decide (dist (eg L2) 0 k = 0 + 1)) = some 1 := by
      rw [show setL (eg L2 0) = [1] by decide]
      rw [List.find?_cons_of_pos]
      simp [dist_eq d01]
    rw [show 2 - 1 = 0 + 1 from rfl, gr_some hf]
    rfl
theorem ord_2 : ordR (eg L2) = none := (ord_iff _).2 ⟨0, by omega, 1, d00.2.1⟩
theorem way_2 : setL (wayS (eg L2) 0) = [0, 1] := by
  have : setL (wayS (eg L2) 0) = setL (fun k => decide (k < 2)) := List.filter_congr fun k hk => by
    rw [Bool.eq_iff_iff, wayS_iff, decide_eq_true_eq]
    constructor
    · rintro ⟨n, hw⟩
      obtain ⟨c, _, x, _, he, hxk⟩ := wk_split n (n := 1) hw
      obtain rfl : x = k := hxk
      have := e2.1 he
      omega
    · intro hk
      have : k = 0 ∨ k = 1 := by omega
      rcases this with rfl | rfl
      · exact ⟨1, d00.2.1⟩
      · exact ⟨0, ⟨1, by omega, by decide, rfl⟩⟩
  rw [this]
  decide
theorem len_2 : lenG (eg L2) 64 = 2 := by
  have := lenG_adds [(0, 1), (1, 0)]
  rw [adds_2] at this
  exact this
theorem wp_get {o : Oper} {a : Act} {w : World} {K : Act → World → Prop} {Q : Exit → Act → World → Prop} {E : Gr} (x : Operand) (ho : o.op = .load 27 x)
    (b : Nat) (hx : a.eval x = .pointer (some ⟨b, 0, none⟩)) (hb : Blk w b (gc E) 27) (h : K (a.put o.dst (.agg (gc E))) w) : o.wp Tryd.prog a w K Q :=
  wp_load_mid 27 x ho b 0 hx (gc E).toList _ (r64_rng hb) Tryd.underlying27 rfl (inf_gc E) (by rw [Array.toArray_toList]; exact h)
/-- A guarded load of a graph. -/
theorem get_gg {E : Gr} {ops : Array Oper} {rest : List Oper} {o : Oper} {a : Act} {w : World} {Q : Exit → Act → World → Prop} (hw : Region.wanted o (yielded ops a.tmps) = true) (x : Operand) (ho : o.op = .load 27 x)
    (b : Nat) (hx : a.eval x = .pointer (some ⟨b, 0, none⟩)) (hb : Blk w b (gc E) 27)
    (h : wpList Tryd.prog ops Q rest (a.put o.dst (.agg (gc E))) w) : wpList Tryd.prog ops Q (o :: rest) a w :=
  wpList_step fun K hK => by
    rw [if_pos hw]
    exact wp_get x ho b hx hb (hK _ _ h)
theorem alive_any (w : World) (hT : Tb w) : Calls Tryd.prog 6 #[] w fun e w' => e = .returned (.bool true) ∧ Ext w w' := by
  have HT := hide hT
  clear hT
  obtain ⟨zz, hz1, hz2, hz3, hz5⟩ : ∃ zz : Array Value, (∀ w, (zeroValue 27).run Tryd.prog w = .ok (.agg zz) w) ∧ ¬ zz = #[] ∧ ¬ zz.size < 2 ∧ zz.size = 64 := ⟨zrw, fun w => by kernel_rfl, by decide +kernel, by decide +kernel, by decide +kernel⟩
  have HZ := hide hz5
  clear hz5
  go_enter Tryd.func6, Tryd.ntmps6
  have hN := Blk.new w #[.int .i64 0, .int .i64 1, .int .i64 1, .int .i64 0] 31
  have HX1 := hide (Ext.alloc w (.cells #[.int .i64 0, .int .i64 1, .int .i64 1, .int .i64 0] 31))
  have hE : Eds (w.alloc (.cells #[.int .i64 0, .int .i64 1, .int .i64 1, .int .i64 0] 31)) (some ⟨w.heap.size, 0, none⟩) [(0, 1), (1, 0)] := by
    intro k p hp
    refine ⟨w.heap.size, 0, rfl, fun wx hx => ?_⟩
    have hk := (List.getElem?_eq_some_iff.1 hp).1
    have : k = 0 ∨ k = 1 := by simp at hk; omega
    rcases this with rfl | rfl
    · obtain rfl : (0, 1) = p := by simpa using hp
      exact ⟨(hN.ext hx).cell 0, (hN.ext hx).cell 1⟩
    · obtain rfl : (1, 0) = p := by simpa using hp
      exact ⟨(hN.ext hx).cell 2, (hN.ext hx).cell 3⟩
  have HTH := hide (theirs_any (n := 2) 2 _ hE rfl (by omega))
  rw [adds_2] at HTH
  have HTH := hide HTH.out
  clear hN hE
  go_wp2_with fail
  refine (HTH.out).mono ?_
  rintro e w1 ⟨rfl, hx⟩
  have HX2 := hide (HX1.out.trans hx)
  clear hx HTH HX1
  have HG1 := hide (Blk.new w1 zz 27)
  have HX3 := hide (HX2.out.trans (Ext.alloc w1 (.cells zz 27)))
  have hGw : w.heap.size ≤ w1.heap.size := HX2.out.size
  go_wp2_with (first | (with_reducible refine put_g rfl _ _ rfl w1.heap.size (eg L2) rfl rfl zz HG1.out HZ.out ?_; intro w3 hb3 hc3 hs3; have HG := hide hb3; have HX := hide (HX3.out.turn hc3 (by simp; omega)); clear hb3 hc3 hs3; go_frame) | (with_reducible refine get_g rfl _ rfl w1.heap.size (eg L2) rfl HG.out ?_; go_frame))
  refine (ring_any (eg L2) _ (HT.out.ext HX.out)).mono ?_
  rintro e w4 ⟨v4, rfl, ⟨Q, hQ, hR⟩, hx⟩
  obtain rfl := ring_2 hR
  obtain ⟨A4, c4, rfl⟩ := own_sl hQ
  have HG := hide (HG.out.ext hx)
  have HX := hide (HX.out.trans hx)
  have HQ := hide hQ
  clear hx hR hQ
  go_wp2_with (with_reducible refine get_g rfl _ rfl w1.heap.size (eg L2) rfl HG.out ?_; go_frame)
  refine (order_any (eg L2) _ (HT.out.ext HX.out)).mono ?_
  rintro e w5 ⟨v5, b5, rfl, hO, hx⟩
  have hb5 := hO.ok
  rw [ord_2] at hb5
  obtain rfl : b5 = false := hb5
  have HG := hide (HG.out.ext hx)
  have HX := hide (HX.out.trans hx)
  have HQ := hide (own_ext HQ.out hx)
  clear hx hO
  obtain ⟨b, off, c, he, _, h0⟩ := row_at HQ.out (show [0, 1][0]? = some 0 from rfl)
  obtain ⟨b', off', c', he', _, h1⟩ := row_at HQ.out (show [0, 1][1]? = some 1 from rfl)
  simp only [Value.slice.injEq] at he he'
  obtain ⟨rfl, -, rfl⟩ := he
  obtain ⟨q1, -, q2⟩ := he'
  simp only [Option.some.injEq, Addr.mk.injEq, and_true] at q1
  obtain ⟨rfl, rfl⟩ := q1
  have c0 := h0 _ (Ext.refl _)
  have c1 := h1 _ (Ext.refl _)
  rw [Nat.add_zero] at c0
  clear h0 h1
  have HLEN := hide (fun w => len_any (eg L2) w)
  rw [len_2] at HLEN
  have HLEN := hide HLEN.out
  have HRE := hide (fun w hT => reach_any (eg L2) 0 w hT)
  rw [show ofN (wayS (eg L2)) 0 = [0, 1] from (ofN_nat (t := 0) (by omega)).trans way_2] at HRE
  have HRE := hide HRE.out
  go_wp2_with (first | (go_at_call 16; (with_reducible refine (HLEN.out _).mono ?_); rintro e6 w6 ⟨rfl, hx6⟩; have HG := hide (HG.out.ext hx6); have HX := hide (HX.out.trans hx6); clear hx6; go_frame) | (go_at_call 14; (with_reducible refine (HRE.out _ (HT.out.ext HX.out)).mono ?_); rintro e7 w7 ⟨v7, rfl, hr7, hx7⟩; obtain ⟨A7, c7, rfl⟩ := own_sl hr7; have HX := hide (HX.out.trans hx7); clear hx7 hr7; go_frame) | (refine get_gg (by rfl) _ rfl w1.heap.size rfl HG.out ?_; go_frame))
  go_ret
  exact ⟨rfl, HX.out⟩
end Go.Proofs.YtaglpodilepioaaDoor
