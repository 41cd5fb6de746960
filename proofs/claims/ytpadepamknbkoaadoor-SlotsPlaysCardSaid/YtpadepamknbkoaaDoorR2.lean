/- The document's table: Take, Flush. -/
import Derived.Test.YtpadepamknbkoaaDoorR1
import Derived.Deep.RegionHeld3
namespace Go.Proofs.YtpadepamknbkoaaDoor
open Go.RowKit
set_option linter.unusedSimpArgs false
set_option linter.unusedVariables false

theorem L_ext {S S' : TS} (hl : S'.L.length = S.L.length) (h : ∀ i, i < S.L.length → S'.p i = S.p i) : S'.L = S.L := by
  apply List.ext_getElem?
  intro i
  by_cases hi : i < S.L.length
  · rw [TS.p_at hi, TS.p_at (by omega), h i hi]
  · rw [List.getElem?_eq_none (by omega), List.getElem?_eq_none (by omega)]
theorem RefT.eq {w : World} {B R : Nat} {S S' : TS} (h : RefT w B R S) (hL : S'.L = S.L) (hb : S'.b = S.b) (hN : S'.N = S.N) : RefT w B R S' := by
  obtain ⟨h0, r, c, h1, h2⟩ := h
  refine ⟨h0, r, c, ?_, ?_⟩
  · rw [hL, hb, hN]; exact h1
  · rw [hL]; exact h2
/-- Some are common now. -/
def setsL (S : TS) (l : List Nat) : TS := l.foldl (fun S k => S.set k ((S.p k).to 2)) S
theorem sets_snoc (S : TS) (l : List Nat) (k : Nat) : setsL S (l ++ [k]) = (setsL S l).set k (((setsL S l).p k).to 2) := by unfold setsL; rw [List.foldl_append]; rfl
theorem sets_facts (l : List Nat) : ∀ S : TS, (setsL S l).L.length = S.L.length ∧ (setsL S l).b = S.b ∧ (setsL S l).N = S.N := by
  induction l with
  | nil => intro S; exact ⟨rfl, rfl, rfl⟩
  | cons k l ih =>
    intro S
    have := ih (S.set k ((S.p k).to 2))
    rw [TS.len_set] at this
    exact this
theorem sets_p (l : List Nat) : ∀ (S : TS) (i : Nat), i < S.L.length → (setsL S l).p i = if i ∈ l then (S.p i).to 2 else S.p i := by
  induction l with
  | nil => intro S i hi; simp [setsL]
  | cons k l ih =>
    intro S i hi
    have h1 := ih (S.set k ((S.p k).to 2)) i (by rw [TS.len_set]; exact hi)
    show (setsL (S.set k ((S.p k).to 2)) l).p i = _
    rw [h1]
    by_cases e : i = k
    · subst e
      rw [TS.p_self S _ hi, if_pos (List.mem_cons_self ..)]
      split <;> rfl
    · rw [TS.p_other S _ e]
      simp [e]
section
variable {w w' : World} {B R : Nat} {S : TS}
theorem Kp.cell {ts : List TypeId} {B : Nat} {w : World} {g j : Nat} {cs : Array Value} {t : TypeId} {u : Value} (hb : Blk w g cs t) (hB : B ≤ g) (ht : t ∈ ts) : Kp ts B w (w.setCell ⟨g, j, none⟩ u) :=
  ((Chg.refl [g] w).set (p := ⟨g, j, none⟩) (.inl (by simp)) u).kp (fun k hk => by rw [List.mem_singleton.1 hk]; exact ⟨hB, fun _ => ⟨cs, t, hb, ht⟩⟩)
/-- One cell of a slot turns. -/
theorem RefT.put {k i : Nat} {v : Value} {x : Pl} (h : RefT w B R S) (hk : k < S.L.length) (hi : i < 4) (he : (qc (S.p k)).set i v = qc x) :
    ∃ r c, (∀ wx, Ext w wx → wx.cell? ⟨R, 2, none⟩ = some (.slice (some ⟨r, 0, none⟩) S.L.length c)) ∧ (w.frozen? ⟨r, k * 4 + i, none⟩ = false) ∧ (w.cell? ⟨r, k * 4 + i, none⟩ = (qc (S.p k))[i]?) ∧
      RefT (w.setCell ⟨r, k * 4 + i, none⟩ v) B R (S.set k x) ∧ Kp TR B w (w.setCell ⟨r, k * 4 + i, none⟩ v) := by
  obtain ⟨h0, r, c, hb, ho⟩ := h
  obtain ⟨cs, hb2⟩ := own_blk ho r rfl
  have hne : R ≠ r := fun e => by subst e; exact absurd (hb.type hb2) (by decide)
  have hp : S.L[k] = S.p k := by
    have := TS.p_at hk
    rw [List.getElem?_eq_getElem hk] at this
    exact Option.some.inj this
  refine ⟨r, c, fun wx x => (hb.ext x).cell 2, hb2.free _, ?_, ⟨h0, r, c, ?_, ?_⟩, Kp.cell hb2 (own_row ho r rfl) (by decide)⟩
  · rw [World.ownsRow.cellAt ho (k * 4 + i) (by omega), qcells_at S.L k i hk hi, hp]
  · rw [TS.len_set]; exact hb.far (p := ⟨r, k * 4 + i, none⟩) hne v
  · have := own_set ho (j := k * 4 + i) (by omega) v
    rw [qcells_set S.L k i v x hk hi (by rw [hp]; exact he)] at this
    rw [TS.len_set]; exact this
theorem qc_a (x : Pl) (a : Int) : (qc x).set 0 (.int .i64 a) = qc (x.to a) := rfl
theorem RefT.putA {k : Nat} (a : Int) (h : RefT w B R S) (hk : k < S.L.length) :
    ∃ r c, (∀ wx, Ext w wx → wx.cell? ⟨R, 2, none⟩ = some (.slice (some ⟨r, 0, none⟩) S.L.length c)) ∧ (∀ wx, Ext w wx → wx.frozen? ⟨r, k * 4, none⟩ = false) ∧ (∀ wx, Ext w wx → wx.cell? ⟨r, k * 4, none⟩ = some (.int .i64 (S.p k).a)) ∧
      RefT (w.setCell ⟨r, k * 4, none⟩ (.int .i64 a)) B R (S.set k ((S.p k).to a)) ∧ Kp TR B w (w.setCell ⟨r, k * 4, none⟩ (.int .i64 a)) := by
  have h9 := h
  obtain ⟨h0, r, c, hb, ho⟩ := h9
  obtain ⟨r2, c2, q1, q2, q3, q4, q5⟩ := h.put (k := k) (i := 0) (v := .int .i64 a) hk (by omega) (qc_a _ a)
  have e := (q1 w (Ext.refl w)).symm.trans (hb.cell 2)
  have e2 : (some (Value.slice (some ⟨r2, 0, none⟩) S.L.length c2)) = some (.slice (some ⟨r, 0, none⟩) S.L.length c) := e
  simp only [Option.some.injEq, Value.slice.injEq, Addr.mk.injEq, and_true, true_and] at e2
  obtain ⟨rfl, rfl⟩ := e2
  simp only [Nat.add_zero] at q2 q3 q4 q5
  obtain ⟨cs, hb2⟩ := own_blk ho r2 rfl
  exact ⟨r2, c2, q1, fun wx x => (hb2.ext x).free _, fun wx x => (x.oldCell _ _ hb2.lt).trans q3, q4, q5⟩
set_option maxRecDepth 100000 in
theorem rflush_any (z : Int) (h : RefT w B R S) (ok : Ok S) (hN : S.N ≤ 1000) :
    Calls Tryd.prog 14 #[.pointer (some ⟨R, 0, none⟩), .int .i64 z] w fun e w' => e = .returned (.int .i64 ((S.mine z).length : Int)) ∧ RefT w' B R (S.fl z) ∧ Kp TR B w w' := by
  have hlt := fun i (hi : i ∈ S.mine z) => (mem_mine.1 hi).1
  have hlen := mine_len S z ok
  have HR := hide h
  have hn1 := ok.n1
  have HE := hide (show (setsL S (S.mine z)).L = (S.fl z).L from L_ext (by rw [(sets_facts _ S).1, len_fl]) (fun i hi => by
    rw [len_fl] at hi
    rw [sets_p _ S i hi, p_fl]))
  go_enter Tryd.func14, Tryd.ntmps14
  go_wp2_with fail
  refine (rmine_any z h ok hN).mono ?_
  rintro e w1 ⟨v, rfl, hown, hX⟩
  obtain ⟨A1, c1, rfl⟩ := own_sl hown
  clear h ok
  go_wp2_with fail
  go_loopw [6] (fun i wr => ∃ j : Nat, j ≤ (S.mine z).length ∧ i = .int .i64 (j : Int) ∧ wr.ownsRow w.heap.size 3 1 (.slice A1 (S.mine z).length c1) (S.mine z).length ((S.mine z).map enI) ∧ RefT wr B R (setsL S ((S.mine z).take j)) ∧ Kp TR B w wr) (fun i _ => (S.mine z).length - (intOf i).toNat)
  case atStart => exact ⟨0, by omega, rfl, hown, HR.out.ext hX, hX.kp _ _⟩
  case round =>
    clear hown hX
    obtain ⟨j, hj, rfl, hown, hr, hc⟩ := hrel
    by_cases hlt2 : j < (S.mine z).length
    · obtain ⟨g, c9, e9, rr⟩ := own_atN3 hown rfl (List.getElem?_eq_getElem hlt2)
      cases e9
      have hk := hlt _ (List.getElem_mem hlt2)
      have hf := sets_facts ((S.mine z).take j) S
      obtain ⟨r, c2, q1, q2, q3, q4, q5⟩ := hr.putA (k := (S.mine z)[j]) 2 (by rw [hf.1]; exact hk)
      have hs := sets_snoc S ((S.mine z).take j) ((S.mine z)[j])
      rw [← List.take_succ_eq_append_getElem hlt2] at hs
      rw [← hs] at q4
      have HO := hide (q5.own hown (by decide))
      have H4 := hide (And.intro q4 (hc.trans q5))
      rw [hf.1] at q1
      have z1 := q1 wr (Ext.refl wr)
      have y1 := rr wr (Ext.refl wr)
      have x1 := q3 wr (Ext.refl wr)
      have f1 := q2 wr (Ext.refl wr)
      clear hown hr hc q1 q2 q3 q4 q5 hs hf rr
      generalize (setsL S ((S.mine z).take j)).p ((S.mine z)[j]) = pp at *
      generalize hq : (S.mine z)[j] = q at *
      clear hq
      go_wp2_with fail
      go_region
      have hr := H4.out.1.ext (Ext.drew _)
      have hc := H4.out.2.trans ((Ext.drew _).kp _ _)
      have hown := own_ext HO.out (Ext.drew _)
      clear z1 y1 x1 f1
      go_wp2_with fail
      go_roundw
      case rel => exact ⟨j + 1, by omega, by go_num, hown, hr, hc⟩
      case measure => simp [intOf]; omega
    · obtain rfl : j = (S.mine z).length := by omega
      rw [List.take_length] at hr
      have hf := sets_facts (S.mine z) S
      have hr2 := hr.eq (S' := S.fl z) HE.out.symm hf.2.1.symm hf.2.2.symm
      clear hr hown hf
      go_wp2_with fail
      go_ret
      exact ⟨rfl, hr2, hc⟩
end
end Go.Proofs.YtpadepamknbkoaaDoor
