/- Whether a pair's slot, or its object, is there; Add; Drop. -/
import Derived.Test.YtcgbbgljchfbcaaB1
import Derived.BigRegion
import Derived.WideKeyEntry
namespace Go.Proofs.Ytcgbbgljchfbcaa
open Go.RowKit Go.Maps
set_option linter.unusedSimpArgs false
set_option linter.unusedVariables false

theorem has_any {w : World} {C m1 m2 : Nat} {S : List Pr} {p : Pr} (h : BookT w C m1 m2 S) (hs : (ky p.s).wf = true) (ho : (ky p.o).wf = true) : Calls Try.prog 25 #[.pointer (some ⟨C, 0, none⟩), (Value.agg #[.int .i64 p.s, .int .i64 p.o, .int .i64 p.t])] w fun e w' => e = .returned (.bool ((bySlot S p.s).isSome || (byObj S p.o).isSome)) ∧ Ext w w' := by
  have L1 : Hid (∀ w', Ext w w' → (Instr.lookup 52 (.map (some m1)) (.int .i64 p.s) true).run Try.prog w' = .ok (.tuple #[(Value.agg #[.int .i64 ((bySlot S p.s).getD pz).s, .int .i64 ((bySlot S p.s).getD pz).o, .int .i64 ((bySlot S p.s).getD pz).t]), .bool (bySlot S p.s).isSome]) w') := hide fun w' x => (h.ext x).a.look hs
  have L2 : Hid (∀ w', Ext w w' → (Instr.lookup 52 (.map (some m2)) (.int .i64 p.o) true).run Try.prog w' = .ok (.tuple #[(Value.agg #[.int .i64 ((byObj S p.o).getD pz).s, .int .i64 ((byObj S p.o).getD pz).o, .int .i64 ((byObj S p.o).getD pz).t]), .bool (byObj S p.o).isSome]) w') := hide fun w' x => (h.ext x).b.look ho
  have HR := hide fun w' (x : Ext w w') => (h.ext x).c.cell
  obtain ⟨s, o, t⟩ := p
  simp only at L1 L2 hs ho ⊢
  generalize (bySlot S s).getD pz = q1 at *
  generalize (byObj S o).getD pz = q2 at *
  generalize (bySlot S s).isSome = b1 at *
  generalize (byObj S o).isSome = b2 at *
  clear h
  go_enter Try.func25, Try.ntmps25
  go_wp2_with fail
  have hX := fun w' (h : Ext (w.alloc (Obj.cells #[.int .i64 s, .int .i64 o, .int .i64 t] 33)) w') => h.boxCell
  have hXf := fun w' (h : Ext (w.alloc (Obj.cells #[.int .i64 s, .int .i64 o, .int .i64 t] 33)) w') => h.boxFree
  have hX0 : Ext w (w.alloc (Obj.cells #[.int .i64 s, .int .i64 o, .int .i64 t] 33)) := Ext.alloc _ _
  generalize w.alloc (Obj.cells #[.int .i64 s, .int .i64 o, .int .i64 t] 33) = W0 at *
  have hW := Ext.refl W0
  have HB := hide hX
  clear hX hXf
  have x1 := hW.trans (Ext.drew W0)
  have x2 := (hW.trans (Ext.alloc W0 (.cells #[.int .i64 0, .int .i64 0, .int .i64 0] 33))).trans (Ext.drew _)
  have l1 := L1.out _ (hX0.trans x1)
  have l2 := L1.out _ (hX0.trans x2)
  have r1 := HR.out _ (hX0.trans x1)
  have r2 := HR.out _ (hX0.trans x2)
  have c1 := HB.out _ x1
  have c2 := HB.out _ x2
  clear x1 x2
  go_region
  all_goals
    go_wp2_with fail
    have hY := (Ext.alloc W0 (.cells #[.int .i64 q1.s, .int .i64 q1.o, .int .i64 q1.t] 33)).trans (Ext.drew _)
    generalize (W0.alloc (.cells #[.int .i64 q1.s, .int .i64 q1.o, .int .i64 q1.t] 33)).drew = W1 at *
    clear l1 l2 r1 r2 c1 c2
    have x1 := hY.trans (Ext.drew W1)
    have x2 := (hY.trans (Ext.alloc W1 (.cells #[.int .i64 0, .int .i64 0, .int .i64 0] 33))).trans (Ext.drew _)
    have l1 := L2.out _ (hX0.trans x1)
    have l2 := L2.out _ (hX0.trans x2)
    have r1 := HR.out _ (hX0.trans x1)
    have r2 := HR.out _ (hX0.trans x2)
    have c1 := HB.out _ x1
    have c2 := HB.out _ x2
    clear x1 x2
    go_region
    all_goals
      clear l1 l2 r1 r2 c1 c2
      cases b1
      · go_wp2_with fail
        go_ret
        exact ⟨by simp, hX0.trans (hY.trans ((Ext.alloc W1 _).trans (Ext.drew _)))⟩
      · go_wp2_with fail
        go_ret
        exact ⟨by simp, hX0.trans (hY.trans ((Ext.alloc W1 _).trans (Ext.drew _)))⟩
open Go.WideElems Go.MapKept Go.ChangeMaps in
/-- The two halves of 'm[k] = v' in an assignment of several: the entry, and what is laid into it; of a key that is not there. -/
theorem entry_new {H : Type} {P : Program} {k e t : TypeId} {R : Value → Option (DataW H × List MemPlace)} {w : World} {b n : Nat} {D : DataW H} (K : Keyed P k) (ht : P.underlying t = some (.map k e)) {z : Value} (hz : ∀ u : World, (zeroValue e).run P u = .ok z u)
    (hown : w.ownsMap P k R b n D) (hn : n < maxLen) {key val : Value} {kl : Lit} {d : DataW H} {ps : List MemPlace} (hkey : keyOf P k key = some kl) (hno : Maps.has D kl = false) (hval : R val = some (d, ps)) :
    ∃ (st : Nat) (w1 : World), (Instr.mapEntry t (.map (some b)) key).run P w = .ok (.tuple #[z, .int .i64 (st : Int)]) w1 ∧ w.grownBy w1 (some b) ∧ (∀ cs ty, w1.heap[b]? ≠ some (.cells cs ty (0, 0))) ∧
      ∀ w2 : World, w2.heap[b]? = w1.heap[b]? → ∃ w3, (Instr.entryStore t (.map (some b)) (.int .i64 (st : Int)) val).run P w2 = .ok () w3 ∧ w3.ownsMap P k R b (n + 1) (D.put kl d) ∧ w2.grownBy w3 (some b) := by
  obtain ⟨wu, hu, hu2, hu3⟩ := hown.update K ht hn hkey hval
  obtain ⟨es, clock, hb, F, hs, rfl⟩ := hown
  obtain ⟨s1, s2, _⟩ := (stamped_iff es clock).1 F.stamped
  rcases K.find w hkey es.toList F.keys with ⟨h1, h2⟩ | ⟨j, e0, h1, h2, h3⟩
  · have e1 : (Instr.mapUpdate t (.map (some b)) key val).run P w = .ok () (setBlock w b (.map (es.push ⟨key, val, clock⟩) (clock + 1))) := by
      simp [Instr.mapUpdate, run_underlying ht, MapKept.run_getObj_map hb, K.check w false hkey, h1, MapKept.run_setObj_map _ hb, Result.andThen, setBlock]
    rw [e1] at hu
    cases hu
    have hp1 : (setBlock w b (.map (es.push ⟨key, z, clock⟩) (clock + 1))).heap[b]? = some (.map (es.push ⟨key, z, clock⟩) (clock + 1)) := heap_setBlock_same hb _
    refine ⟨clock, setBlock w b (.map (es.push ⟨key, z, clock⟩) (clock + 1)), ?_, ⟨rfl, rfl, rfl, by simp [setBlock], fun i _ hi => heap_setBlock_other hb _ (fun e => hi (by rw [e]))⟩, fun cs ty q => (by rw [hp1] at q; cases q), fun w2 hw2 => ?_⟩
    · simp [Instr.mapEntry, run_underlying ht, MapKept.run_getObj_map hb, K.check w false hkey, h1, hz, MapKept.run_setObj_map _ hb, Result.andThen, setBlock, goInt]
    · rw [hp1] at hw2
      have hidx : (es.push ⟨key, z, clock⟩).findIdx? (fun e => ((e.born : Nat) : Int) == ((clock : Nat) : Int)) = some es.size := by
        rw [findIdx_arr]
        exact findIdx_born (l := (es.push ⟨key, z, clock⟩).toList) (j := es.size) (e0 := ⟨key, z, clock⟩) (by
          simp only [Array.toList_push, List.map_append, List.map_cons, List.map_nil]
          refine List.nodup_append.2 ⟨s2, by simp, fun a ha c hc e1 => ?_⟩
          simp only [List.mem_singleton] at hc
          obtain ⟨x, hx, rfl⟩ := List.mem_map.1 ha
          have := s1 x hx
          omega) (by simp)
      have hmod : (es.push ⟨key, z, clock⟩).modify es.size (fun e => { e with val := val }) = es.push ⟨key, val, clock⟩ := by
        apply Array.ext'
        rw [Array.toList_modify, Array.toList_push, Array.toList_push, ← Array.length_toList, modify_last]
      refine ⟨setBlock w2 b (.map (es.push ⟨key, val, clock⟩) (clock + 1)), ?_, ?_, ⟨rfl, rfl, rfl, by simp [setBlock], fun i _ hi => heap_setBlock_other hw2 _ (fun e => hi (by rw [e]))⟩⟩
      · simp [Instr.entryStore, MapKept.run_getObj_map hw2, asInt, asIntOf, goInt, hidx, hmod, MapKept.run_setObj_map _ hw2, Result.andThen, setBlock]
      · obtain ⟨es2, c2, hb2, r⟩ := hu2
        rw [heap_setBlock_same hb] at hb2
        cases hb2
        exact ⟨_, _, heap_setBlock_same hw2 _, r⟩
  · rcases Maps.fit_look false K ht (hz w) hb F hkey with ⟨_, q, _⟩ | ⟨e1, y, _, _, _, _, hat, _⟩
    · exact absurd h3 (q e0 (List.mem_of_getElem? h2))
    · rw [Maps.has_true_of_atKey hat] at hno
      cases hno

def wfP (p : Pr) : Prop := (ky p.s).wf = true ∧ (ky p.o).wf = true
theorem add_nob {w : World} {v : Value} (p : Pr) (h : Any w v false []) : Calls Try.prog 12 #[v, (Value.agg #[.int .i64 p.s, .int .i64 p.o, .int .i64 p.t])] w fun e w' => e = .returned (.int .i64 2) ∧ Ext w w' := by
  have h2 := h.ext (Ext.alloc w (.cells #[.int .i64 p.s, .int .i64 p.o, .int .i64 p.t] 33))
  go_enter Try.func12, Try.ntmps12
  go_wp2_with fail
  refine (given_any h2).mono ?_
  rintro e w1 ⟨rfl, rfl⟩
  go_wp2_with fail
  go_ret
  exact ⟨rfl, Ext.alloc _ _⟩
set_option maxRecDepth 100000 in
theorem add_in {w : World} {C m1 m2 : Nat} {S : List Pr} {p : Pr} (h : BookT w C m1 m2 S) (hp : wfP p) :
    Calls Try.prog 12 #[.pointer (some ⟨C, 0, none⟩), (Value.agg #[.int .i64 p.s, .int .i64 p.o, .int .i64 p.t])] w fun e w' => e = .returned (.int .i64 (addE S p)) ∧ BookT w' C m1 m2 (addS S p) ∧ Chg [m1, m2] w w' := by
  have H0 := hide h
  have hxa := Ext.alloc w (.cells #[.int .i64 p.s, .int .i64 p.o, .int .i64 p.t] 33)
  have h2 := h.ext hxa
  by_cases h1 : okP p = true
  · by_cases h3 : ((bySlot S p.s).isSome || (byObj S p.o).isSome) = true
    · have E1 := hide (show addE S p = 7 by unfold addE; rw [if_pos h1, if_pos h3])
      have E2 : addS S p = S := by unfold addS; rw [E1.out]; rfl
      rw [E2]
      clear E2
      go_enter Try.func12, Try.ntmps12
      go_wp2_with fail
      refine (given_any h2.any).mono ?_
      rintro e w1 ⟨rfl, rfl⟩
      have b1 := (Blk.new w #[.int .i64 p.s, .int .i64 p.o, .int .i64 p.t] 33).cell
      go_wp2_with fail
      refine (may_any p _).mono ?_
      rw [h1]
      rintro e w1 ⟨rfl, hx⟩
      have b2 := ((Blk.new w #[.int .i64 p.s, .int .i64 p.o, .int .i64 p.t] 33).ext hx).cell
      go_wp2_with fail
      refine (has_any (h2.ext hx) hp.1 hp.2).mono ?_
      rw [h3]
      rintro e w2 ⟨rfl, hx2⟩
      go_wp2_with fail
      go_ret
      have hxx := (hxa.trans hx).trans hx2
      exact ⟨by rw [E1.out]; simp, H0.out.ext hxx, hxx.chg _⟩
    · have E1 := hide (show addE S p = 0 by unfold addE; rw [if_pos h1, if_neg h3])
      have E2 : addS S p = ins S p := by unfold addS; rw [E1.out]; rfl
      rw [E2]
      clear E2
      have h4 : ((bySlot S p.s).isSome || (byObj S p.o).isSome) = false := by simpa using h3
      go_enter Try.func12, Try.ntmps12
      go_wp2_with fail
      refine (given_any h2.any).mono ?_
      rintro e w1 ⟨rfl, rfl⟩
      have b1 := (Blk.new w #[.int .i64 p.s, .int .i64 p.o, .int .i64 p.t] 33).cell
      go_wp2_with fail
      refine (may_any p _).mono ?_
      rw [h1]
      rintro e w1 ⟨rfl, hx⟩
      have b2 := ((Blk.new w #[.int .i64 p.s, .int .i64 p.o, .int .i64 p.t] 33).ext hx).cell
      go_wp2_with fail
      refine (has_any (h2.ext hx) hp.1 hp.2).mono ?_
      rw [h4]
      rintro e w2 ⟨rfl, hx2⟩
      have hxx := (hxa.trans hx).trans hx2
      have h5 := h2.ext ((hx.trans hx2).trans (Ext.drew w2))
      have b3 := ((Blk.new w #[.int .i64 p.s, .int .i64 p.o, .int .i64 p.t] 33).ext ((hx.trans hx2).trans (Ext.drew w2))).cell
      have r3 := h5.c.cell
      clear b1 b2
      have hB := (Blk.new w #[.int .i64 p.s, .int .i64 p.o, .int .i64 p.t] 33).ext ((hx.trans hx2).trans (Ext.drew w2))
      have l1 := h.a.lt
      have l2 := h.b.lt
      have n01 := h.ne1
      have n02 := h.ne2
      have h6 : bySlot S p.s = none := by simp at h4; exact h4.1
      have h7 : byObj S p.o = none := by simp at h4; exact h4.2
      have hne := h.ne
      have sl := h.ok.len
      obtain ⟨D1, o1, q1⟩ := h5.a
      obtain ⟨D2, o2, q2⟩ := h5.b
      obtain ⟨st1, v1, k1, g1, n1, f1⟩ := entry_new kI Try.underlying52 zP o1 (by unfold maxLen; omega) (kof hp.1) (by rw [q1.has, h6]; rfl) (rdP_mk p)
      obtain ⟨v2, k2, o1', g2⟩ := f1 v1 rfl
      have o2' := (o2.kept g1 (by simp; omega)).kept g2 (by simp; omega)
      obtain ⟨st2, v3, k3, g3, n3, f3⟩ := entry_new kI Try.underlying52 zP o2' (by unfold maxLen; omega) (kof hp.2) (by rw [q2.has, h7]; rfl) (rdP_mk p)
      obtain ⟨v4, k4, o2'', g4⟩ := f3 v3 rfl
      have o1'' := (o1'.kept g3 (by simp; omega)).kept g4 (by simp; omega)
      have hc := (((Chg.of_grown g1 (T := [m1, m2]) (by simp)).trans (Chg.of_grown g2 (by simp))).trans (Chg.of_grown g3 (by simp))).trans (Chg.of_grown g4 (by simp))
      have c1 := Chg.of_grown g1 (T := [m1, m2]) (by simp)
      have c2 := c1.trans (Chg.of_grown g2 (by simp))
      have c3 := c2.trans (Chg.of_grown g3 (by simp))
      have nb : w.heap.size ∉ [m1, m2] := by simp; omega
      have nc : C ∉ [m1, m2] := by simp; omega
      have rb1 := (hB.chg c1 nb).cell
      have rb2 := (hB.chg c2 nb).cell
      have rb3 := (hB.chg c3 nb).cell
      have rc1 := (h5.c.chg c1 nc).cell
      have rc2 := (h5.c.chg c2 nc).cell
      have rc3 := (h5.c.chg c3 nc).cell
      have E3 := hide (show BookT v4 C m1 m2 (ins S p) from ⟨h5.c.chg hc (by have := h.ne1; have := h.ne2; simp; omega),
        by rw [bySlot_ins h.ok ((okP_iff p).1 h1) h6 h7, ins_length]; exact MpT.of o1'' (q1.put h6 p), by rw [byObj_ins h.ok ((okP_iff p).1 h1) h6 h7, ins_length]; exact MpT.of o2'' (q2.put h7 p), h.ok.ins ((okP_iff p).1 h1) h6 h7, hne⟩)
      have HC := hide hc
      have HX := hide (hxx.trans (Ext.drew w2))
      clear hB c1 c2 c3 l1 l2 n01 n02 nb nc o1 o2 f1 g1 g2 g3 g4 n1 n3 f3 o1' o2' o1'' o2'' q1 q2 hc h5 h6 h7 h4 hxx hx hx2 h2 hxa H0
      go_wp2_with fail
      go_region
      go_wp2_with fail
      go_ret
      exact ⟨by rw [E1.out]; simp, E3.out, (HX.out.chg _).trans HC.out⟩
  · have E1 := hide (show addE S p = 1 by unfold addE; rw [if_neg h1])
    have E2 : addS S p = S := by unfold addS; rw [E1.out]; rfl
    rw [E2]
    have h1 : okP p = false := by simpa using h1
    clear E2
    go_enter Try.func12, Try.ntmps12
    go_wp2_with fail
    refine (given_any h2.any).mono ?_
    rintro e w1 ⟨rfl, rfl⟩
    have b1 := (Blk.new w #[.int .i64 p.s, .int .i64 p.o, .int .i64 p.t] 33).cell
    go_wp2_with fail
    refine (may_any p _).mono ?_
    rw [h1]
    rintro e w1 ⟨rfl, hx⟩
    go_wp2_with fail
    go_ret
    have hxx := hxa.trans hx
    exact ⟨by rw [E1.out]; simp, H0.out.ext hxx, hxx.chg _⟩
end Go.Proofs.Ytcgbbgljchfbcaa
