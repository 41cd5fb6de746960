/- A table behind a pointer: what turns it: put, pick, grow. -/
import Derived.Test.YtpadepamknbkoaaDoorB4
import Derived.Deep.RegionLaw
namespace Go.Proofs.YtpadepamknbkoaaDoor
open Go.RowKit
set_option linter.unusedSimpArgs false
set_option linter.unusedVariables false

abbrev TP : List TypeId := [63, 73, 3]
def updO (f : Nat → List Nat) (t : Nat) (v : List Nat) (s : Nat) : List Nat := if s = t then v else f s
section
variable {w w' : World} {B M n b : Nat} {vm : Value} {vo : Nat → Value} {c : Nat → Bool} {l : List (Int × Int)} {ow : Nat → List Nat}
theorem Mem.ltM (h : Mem w B M n b vm vo c l ow) : M < w.heap.size := h.blk.lt
theorem Mem.offM (h : Mem w B M n b vm vo c l ow) : ∀ k, vm.ownBlock = some k → k ≠ M := fun k hk e => by
  obtain ⟨cs, hb⟩ := own_blk h.row k hk
  subst e
  exact absurd (hb.type h.blk) (by decide)
theorem Mem.offO (h : Mem w B M n b vm vo c l ow) {t : Nat} (ht : t < 256) : ∀ k, (vo t).ownBlock = some k → k ≠ M := fun k hk e => by
  obtain ⟨cs, hb⟩ := own_blk (h.own t ht) k hk
  subst e
  exact absurd (hb.type h.blk) (by decide)
theorem Mem.offMO (h : Mem w B M n b vm vo c l ow) {t : Nat} (ht : t < 256) : ∀ k, (vo t).ownBlock = some k → vm.ownBlock ≠ some k := fun k hk e => by
  obtain ⟨cs, hb⟩ := own_blk (h.own t ht) k hk
  obtain ⟨cs2, hb2⟩ := own_blk h.row k e
  exact absurd (hb.type hb2) (by decide)
theorem Mem.putO {t : Nat} {v' : Value} {xs : List Nat} (h : Mem w B M n b vm vo c l ow) (ht : t < 256) (hv : w'.ownsRow B 3 1 v' xs.length (xs.map enI))
    (hb : Blk w' M (tcells n b vm (updV vo t v') c) 63) (x : Chg (M :: (vo t).ownBlock.toList) w w') (hk : ∀ k, v'.ownBlock = some k → (vo t).ownBlock = some k ∨ w.heap.size ≤ k) :
    Mem w' B M n b vm (updV vo t v') c l (updO ow t xs) ∧ Kp TP B w w' := by
  have hT : ∀ k, k ∈ M :: (vo t).ownBlock.toList → k = M ∨ (vo t).ownBlock = some k := by
    intro k hk
    rcases List.mem_cons.1 hk with h | h
    · exact .inl h
    · rw [Option.mem_toList] at h; exact .inr h
  refine ⟨⟨h.lo, h.bp, h.tb.chg x (fun k hk => ?_), hb, own_chgB h.row x (fun k hk hm => ?_), fun s hs => ?_, fun s s' k hs hs' h1 h2 => ?_⟩, x.kp fun k hm => ?_⟩
  · have := h.bp
    rcases hT k hk with rfl | hk
    · have := h.lo; omega
    · have := own_row (h.own t ht) k hk; omega
  · rcases hT k hm with rfl | hm
    · exact h.offM k hk rfl
    · exact h.offMO ht k hm hk
  · by_cases e : s = t
    · subst e
      simp only [updV, updO, if_pos]
      exact hv
    · simp only [updV, updO, if_neg e]
      refine own_chgB (h.own s hs) x (fun k hk hm => ?_)
      rcases hT k hm with rfl | hm
      · exact h.offO hs k hk rfl
      · exact e (h.apart s t k hs ht hk hm)
  · unfold updV at h1 h2
    by_cases e : s = t <;> by_cases e' : s' = t
    · omega
    · rw [if_pos e] at h1
      rw [if_neg e'] at h2
      rcases hk k h1 with q | q
      · exact e.trans (h.apart s' t k hs' ht h2 q).symm
      · have := own_lt (h.own s' hs') k h2; omega
    · rw [if_neg e] at h1
      rw [if_pos e'] at h2
      rcases hk k h2 with q | q
      · exact (h.apart s t k hs ht h1 q).trans e'.symm
      · have := own_lt (h.own s hs) k h1; omega
    · rw [if_neg e] at h1
      rw [if_neg e'] at h2
      exact h.apart s s' k hs hs' h1 h2
  · rcases hT k hm with rfl | hm
    · exact ⟨h.lo, fun _ => ⟨_, _, h.blk, by decide⟩⟩
    · obtain ⟨cs, hb⟩ := own_blk (h.own t ht) k hm
      exact ⟨own_row (h.own t ht) k hm, fun _ => ⟨cs, _, hb, by decide⟩⟩
theorem Mem.putC {c' : Nat → Bool} (h : Mem w B M n b vm vo c l ow) (hb : Blk w' M (tcells n b vm vo c') 63) (x : Chg [M] w w') : Mem w' B M n b vm vo c' l ow ∧ Kp TP B w w' := by
  have hT : ∀ k, k ∈ [M] → k = M := by simp
  refine ⟨⟨h.lo, h.bp, h.tb.chg x (fun k hk => ?_), hb, own_chgB h.row x (fun k hk hm => h.offM k hk (hT k hm)), fun s hs => own_chgB (h.own s hs) x (fun k hk hm => h.offO hs k hk (hT k hm)), h.apart⟩, x.kp fun k hm => ?_⟩
  · have := h.bp
    have := h.lo
    rw [hT k hk]; omega
  · rw [hT k hm]
    exact ⟨h.lo, fun _ => ⟨_, _, h.blk, by decide⟩⟩
theorem Mem.putM {v' : Value} {l' : List (Int × Int)} (h : Mem w B M n b vm vo c l ow) (hv : w'.ownsRow B 73 2 v' l'.length (pcells l'))
    (hb : Blk w' M (tcells n b v' vo c) 63) (x : Chg (M :: vm.ownBlock.toList) w w') : Mem w' B M n b v' vo c l' ow ∧ Kp TP B w w' := by
  have hT : ∀ k, k ∈ M :: vm.ownBlock.toList → k = M ∨ vm.ownBlock = some k := by
    intro k hk
    rcases List.mem_cons.1 hk with h | h
    · exact .inl h
    · rw [Option.mem_toList] at h; exact .inr h
  refine ⟨⟨h.lo, h.bp, h.tb.chg x (fun k hk => ?_), hb, hv, fun s hs => own_chgB (h.own s hs) x (fun k hk hm => ?_), h.apart⟩, x.kp fun k hm => ?_⟩
  · have := h.bp
    rcases hT k hk with rfl | hk
    · have := h.lo; omega
    · have := own_row h.row k hk; omega
  · rcases hT k hm with rfl | hm
    · exact h.offO hs k hk rfl
    · exact h.offMO hs k hk hm
  · rcases hT k hm with rfl | hm
    · exact ⟨h.lo, fun _ => ⟨_, _, h.blk, by decide⟩⟩
    · obtain ⟨cs, hb⟩ := own_blk h.row k hm
      exact ⟨own_row h.row k hm, fun _ => ⟨cs, _, hb, by decide⟩⟩
theorem add_in {k : Nat} (h : Mem w B M n b vm vo c l ow) (hk : k < 4096) :
    Calls Tryd.prog 29 #[.pointer (some ⟨M, 259, none⟩), .int .i64 (k : Int)] w fun e w' => e = .returned (.tuple #[]) ∧ Mem w' B M n b vm vo (updB c k true) l ow ∧ Kp TP B w w' :=
  (add_any h.blk hk).mono fun e w' ⟨h1, h2, h3⟩ => ⟨h1, h.putC h2 h3⟩
theorem drop_in {k : Nat} (h : Mem w B M n b vm vo c l ow) (hk : k < 4096) :
    Calls Tryd.prog 38 #[.pointer (some ⟨M, 259, none⟩), .int .i64 (k : Int)] w fun e w' => e = .returned (.tuple #[]) ∧ Mem w' B M n b vm vo (updB c k false) l ow ∧ Kp TP B w w' :=
  (drop_any h.blk hk).mono fun e w' ⟨h1, h2, h3⟩ => ⟨h1, h.putC h2 h3⟩
theorem least_some {k : Nat} (h : Mem w B M n b vm vo c l ow) (hk : IsL c k) : Calls Tryd.prog 37 #[.pointer (some ⟨M, 259, none⟩)] w fun e w' => e = .returned (.tuple #[.int .i64 (k : Int), .bool true]) ∧ Ext w w' := by
  refine (least_any h.blk h.tb).mono ?_
  rintro e w' ⟨v, o, rfl, ⟨rfl, q, rfl, h1, h2, h3⟩ | ⟨rfl, rfl, h1⟩, hx⟩
  · have : q = k := by
      rcases Nat.lt_trichotomy q k with h | h | h
      · exact absurd (hk.2.2 q h) (by rw [h2]; decide)
      · exact h
      · exact absurd (h3 k h) (by rw [hk.2.1]; decide)
    subst this
    exact ⟨rfl, hx⟩
  · exact absurd (h1 k hk.1) (by rw [hk.2.1]; decide)
theorem least_none (h : Mem w B M n b vm vo c l ow) (hk : ∀ j, j < 4096 → c j = false) : Calls Tryd.prog 37 #[.pointer (some ⟨M, 259, none⟩)] w fun e w' => e = .returned (.tuple #[.int .i64 0, .bool false]) ∧ Ext w w' := by
  refine (least_any h.blk h.tb).mono ?_
  rintro e w' ⟨v, o, rfl, ⟨rfl, q, rfl, h1, h2, h3⟩ | ⟨rfl, rfl, h1⟩, hx⟩
  · exact absurd (hk q h1) (by rw [h2]; decide)
  · exact ⟨rfl, hx⟩

theorem pick_own {t k : Nat} {r : List Nat} (h : Mem w B M n b vm vo c l ow) (ht : t < 256) (he : ow t = r ++ [k]) (hr : r.length ≤ 4096) :
    Calls Tryd.prog 30 #[.pointer (some ⟨M, 0, none⟩), .int .i64 (t : Int)] w fun e w' => ∃ vo', e = .returned (.tuple #[.int .i64 (k : Int), .bool true]) ∧ Mem w' B M n b vm vo' c l (updO ow t r) ∧ Kp TP B w w' := by
  have r1 := (h.blk.cell (3 + t)).trans (tc_own ht)
  have f1 := h.blk.free (3 + t)
  have ho := h.own t ht
  rw [he] at ho
  have hoff := h.offO ht
  have hput := @Mem.putO w
  have hlow := own_row ho
  rcases ho.2 with ⟨_, h0⟩ | ⟨g, cap, cur, hv, hb, hh, h3, h4, h5, h6⟩
  · simp at h0
  · have hne : ¬ g = M := hoff g (by rw [hv]; rfl)
    have hne2 : ¬ M = g := fun q => hne q.symm
    have hlen : (r ++ [k]).length = r.length + 1 := by simp
    rw [hlen] at h3 h6 hv
    rw [hv] at r1
    have hc : ∀ wx : World, wx.heap[g]? = w.heap[g]? → wx.cell? ⟨g, r.length, none⟩ = some (.int .i64 (k : Int)) := by
      intro wx hx
      rw [cell_of_row wx g _ cur 3 (0, 0) (hx.trans hh), ← Array.getElem?_toList]
      have : (cur.toList.take ((r.length + 1) * 1))[r.length]? = ((r ++ [k]).map enI)[r.length]? := by rw [h6]
      rw [List.getElem?_take_of_lt (by omega)] at this
      rw [this]
      simp [enI]
    have c2 := hc w rfl
    have HB := hide h.blk
    have H := hide h
    have HC := hide h6
    have HV := hide hv
    clear h6 ho hoff hput hlow hc h he
    go_enter Tryd.func30, Tryd.ntmps30
    go_wp2_with fail
    go_region
    go_wp2_with fail
    go_ret2
    have hs := (HB.out.set (3 + t) (.slice (some ⟨g, 0, none⟩) r.length cap)).ext (Ext.drew _)
    rw [tc_seto ht] at hs
    have hh2 : ((w.setCell ⟨M, 3 + t, none⟩ (.slice (some ⟨g, 0, none⟩) r.length cap)).drew).heap[g]? = some (.cells cur 3 (0, 0)) := Blk.ext (Blk.far (show Blk w g cur 3 from hh) hne _) (Ext.drew _)
    have hown : ((w.setCell ⟨M, 3 + t, none⟩ (.slice (some ⟨g, 0, none⟩) r.length cap)).drew).ownsRow B 3 1 (.slice (some ⟨g, 0, none⟩) r.length cap) r.length (r.map enI) := by
      refine ⟨by simp, .inr ⟨g, cap, cur, rfl, hb, hh2, by omega, h4, h5, ?_⟩⟩
      have h7 := congrArg (List.take r.length) HC.out
      rw [List.take_take, List.map_append, List.take_append_of_le_length (by simp), show min r.length ((r.length + 1) * 1) = r.length * 1 by omega] at h7
      rw [h7, List.take_of_length_le (by simp)]
    have hm := H.out.putO (xs := r) ht hown hs (((Chg.refl _ w).set (p := ⟨M, 3 + t, none⟩) (.inl (by simp)) _).trans (Chg.drew _ _)) (fun q hq => by cases hq; left; rw [HV.out]; rfl)
    exact ⟨_, rfl, hm.1, hm.2⟩
theorem pick_com {t k : Nat} (h : Mem w B M n b vm vo c l ow) (ht : t < 256) (he : ow t = []) (hk : IsL c k) :
    Calls Tryd.prog 30 #[.pointer (some ⟨M, 0, none⟩), .int .i64 (t : Int)] w fun e w' => e = .returned (.tuple #[.int .i64 (k : Int), .bool true]) ∧ Mem w' B M n b vm vo (updB c k false) l ow ∧ Kp TP B w w' := by
  have r1 := (h.blk.cell (3 + t)).trans (tc_own ht)
  have ho := h.own t ht
  rw [he] at ho
  obtain ⟨A, cap, hv⟩ := own_sl ho
  rw [hv] at r1
  have hl : ([] : List Nat).length = 0 := rfl
  rw [hl] at r1
  have HK := hide hk
  have H := hide h
  clear ho hv he hl hk h
  go_enter Tryd.func30, Tryd.ntmps30
  go_wp2_with fail
  refine (least_some H.out HK.out).mono ?_
  rintro e w1 ⟨rfl, hx⟩
  go_wp2_with fail
  refine (drop_in (H.out.ext hx) HK.out.1).mono ?_
  rintro e w2 ⟨rfl, hm, hc⟩
  go_wp2_with fail
  go_ret2
  exact ⟨rfl, hm, (hx.kp _ _).trans hc⟩

theorem put_com {t k : Nat} (h : Mem w B M n b vm vo c l ow) (ht : t < 256) (hk : k < 4096) (hlen : ¬ (ow t).length < b) (hb : b ≤ 64) :
    Calls Tryd.prog 26 #[.pointer (some ⟨M, 0, none⟩), .int .i64 (t : Int), .int .i64 (k : Int)] w fun e w' => e = .returned (.tuple #[]) ∧ Mem w' B M n b vm vo (updB c k true) l ow ∧ Kp TP B w w' := by
  obtain ⟨A, cap, hv⟩ := own_sl (h.own t ht)
  have r1 := (h.blk.cell (3 + t)).trans (tc_own ht)
  rw [hv] at r1
  have r2 := (h.blk.cell 1).trans tc_1
  have H := hide h
  clear hv h
  go_enter Tryd.func26, Tryd.ntmps26
  go_wp2_with fail
  go_region
  clear r1 r2
  go_wp2_with fail
  refine (add_in (H.out.ext (Ext.drew _)) hk).mono ?_
  rintro e w2 ⟨rfl, hm, hc⟩
  go_wp2_with fail
  go_end0
  exact ⟨rfl, hm, ((Ext.drew w).kp _ _).trans hc⟩
theorem put_own {t k : Nat} (h : Mem w B M n b vm vo c l ow) (ht : t < 256) (hlen : (ow t).length < b) (hb : b ≤ 64) :
    Calls Tryd.prog 26 #[.pointer (some ⟨M, 0, none⟩), .int .i64 (t : Int), .int .i64 (k : Int)] w fun e w' => ∃ vo', e = .returned (.tuple #[]) ∧ Mem w' B M n b vm vo' c l (updO ow t (ow t ++ [k])) ∧ Kp TP B w w' := by
  obtain ⟨A, cap, hv⟩ := own_sl (h.own t ht)
  have r1 := (h.blk.cell (3 + t)).trans (tc_own ht)
  rw [hv] at r1
  have r2 := (h.blk.cell 1).trans tc_1
  have H := hide h
  have HV := hide hv
  clear hv h
  go_enter Tryd.func26, Tryd.ntmps26
  go_wp2_with fail
  go_region
  go_wp2_with fail
  clear r1 r2
  have hX : Ext w w.drew := Ext.drew w
  generalize w.drew = w1 at *
  have HX := hide hX
  have H1 := hide (H.out.ext hX)
  have r3 := ((H1.out.ext (Ext.drew w1)).blk.cell (3 + t)).trans (tc_own ht)
  rw [HV.out] at r3
  have r5 := ((H1.out.ext (Ext.alloc w1 (.cells #[.int .i64 (k : Int)] 3))).blk.cell (3 + t)).trans (tc_own ht)
  rw [HV.out] at r5
  have hO := (H1.out.own t ht)
  rw [HV.out] at hO
  have HO := hide hO
  have ht2 : (t : Int) < 256 := by omega
  clear hO hX
  go_region_law (refine step_app3 (base := B) rfl (.tmp 25) (.tmp 27) 51 rfl Tryd.underlying51 inf_int rfl (by omega) (v := .slice A (ow t).length cap) (n := (ow t).length) (xs := (ow t).map enI) (by simp [Act.eval, Act.put]) (own_ext (own_ext HO.out (Ext.drew _)) (Ext.alloc _ _)) (by simp; have := H1.out.lo; have := H1.out.ltM; omega) (ad := ⟨w1.heap.size, 0, none⟩) (m := 1) (c := 1) (news := [enI k]) (by simp [Act.eval, Act.put]) rfl (by intro j u hu; cases j with | zero => simp at hu; subst hu; simp [Addr.add, enI] | succ j => simp at hu) (by simp [enI, Value.oneCell']) (by unfold maxLen; omega) (by omega) ?_; intro A4 c4 w4 hown4 hg4 hk4; have b4 := ((H1.out.ext (Ext.drew w1)).blk.ext (Ext.alloc w1.drew (.cells #[.int .i64 (k : Int)] 3))).grown hg4 (fun q hq => H1.out.offO ht q (by rw [HV.out]; exact hq)); have r4 := (b4.cell (3 + t)).trans (tc_own ht); have f4 := b4.free (3 + t))
  all_goals
    clear r4 f4
    go_wp2_with fail
    refine bodyPost_ret (results_none rfl _ _ _) rfl ?_
    have hb4 := b4.set (3 + t) (.slice A4 ((ow t).length + 1) c4)
    rw [tc_seto ht] at hb4
    have e1 : (ow t).length + 1 = (ow t ++ [k]).length := by simp
    have e2 : (ow t).map enI ++ [enI k] = (ow t ++ [k]).map enI := by simp
    rw [e2, e1] at hown4
    rw [e1] at hb4 hk4
    have hx4 : Chg (M :: (vo t).ownBlock.toList) w1 w4 := ((Chg.drew _ w1).trans (Chg.alloc _ w1.drew (.cells #[.int .i64 (k : Int)] 3))).of_grow hg4 (fun q hq => by rw [HV.out]; simp [hq])
    have hown5 := own_chgB (T := [M]) hown4 ((Chg.refl [M] w4).set (p := ⟨M, 3 + t, none⟩) (.inl (by simp)) (.slice A4 (ow t ++ [k]).length c4)) (fun q hq hm => by
      have hq2 := List.mem_singleton.1 hm
      subst hq2
      obtain ⟨cs, hb⟩ := own_blk hown4 q hq
      exact absurd (hb.type b4) (by decide))
    have hm := H1.out.putO (xs := ow t ++ [k]) ht hown5 hb4 (hx4.set (p := ⟨M, 3 + t, none⟩) (.inl (by simp)) (.slice A4 (ow t ++ [k]).length c4)) (fun q hq => by
      rw [HV.out]
      rcases hk4 q hq with h | h
      · exact .inl h
      · right; simp at h; omega)
    rw [← e1] at hm
    exact ⟨_, rfl, hm.1, (HX.out.kp _ _).trans hm.2⟩

theorem inf_slot : (Tryd.prog.info? 73).map (fun i => (i.zero, i.size, i.bytes)) = some (some (.agg #[.int .i64 0, .int .u32 0]), 2, 16) := by kernel_rfl
theorem zero_pairs (m : Nat) : (Builtin.zeroCells (Value.agg #[.int .i64 0, .int .u32 0]).cells m).toList = pcells (List.replicate m (0, 0)) := by
  apply List.ext_getElem?
  intro j
  by_cases hj : j < m * 2
  · have hc : (Value.agg #[Value.int .i64 0, Value.int .u32 0]).cells = #[.int .i64 0, .int .u32 0] := rfl
    rw [hc]
    unfold Builtin.zeroCells
    rw [Array.getElem?_toList, Array.getElem?_map, Array.getElem?_range]
    simp only [List.size_toArray, List.length_cons, List.length_nil]
    rw [if_pos (by omega)]
    have h1 := pcells_at (List.replicate m ((0 : Int), (0 : Int))) (j / 2) (by simp; omega)
    rcases Nat.mod_two_eq_zero_or_one j with h | h
    · rw [show j = j / 2 * 2 by omega, h1.1]
      simp
    · rw [show j = j / 2 * 2 + 1 by omega, h1.2]
      have : (j / 2 * 2 + 1) % 2 = 1 := by omega
      simp [this]
  · rw [List.getElem?_eq_none (by rw [cells_length_aux]; show m * 2 ≤ j; omega), List.getElem?_eq_none (by rw [pcells_length, List.length_replicate]; omega)]
theorem pcells_one (l : List (Int × Int)) : ∀ u ∈ pcells l, u.oneCell' = true := by
  intro u hu
  simp only [pcells, List.mem_flatMap, List.mem_cons, List.not_mem_nil, or_false] at hu
  obtain ⟨p, _, rfl | rfl⟩ := hu <;> rfl
theorem grow_none (h : Mem w B M n b vm vo c l ow) (hl : l.length = n) (hn : n ≤ 4096) (hb0 : 0 < b) (hb : b ≤ 64) :
    Calls Tryd.prog 39 #[.pointer (some ⟨M, 0, none⟩)] w fun e w' => e = .returned (.tuple #[.int .i64 0, .bool false]) ∧ Ext w w' := by
  obtain ⟨A, cap, rfl⟩ := h.sl
  have r0 := (h.blk.cell 0).trans tc_0
  have r1 := (h.blk.cell 1).trans tc_1
  have r2 := (h.blk.cell 2).trans tc_2
  rw [← hl] at r0
  have w1 : IntKind.i64.wrap ((l.length : Int) + (b : Int)) = (l.length : Int) + (b : Int) := by rw [IntKind.wrap_i64]; omega
  clear h
  go_enter Tryd.func39, Tryd.ntmps39
  go_wp2_with fail
  go_region
  go_wp2_with fail
  go_ret2
  exact ⟨rfl, Ext.drew _⟩
/-- The common ones, and those from f + 1 up to ahead of a. -/
def cG (c : Nat → Bool) (f a : Nat) (k : Nat) : Bool := c k || (decide (f < k) && decide (k < a))
theorem cG_one (c : Nat → Bool) (f : Nat) : cG c f (f + 1) = c := by
  funext k
  unfold cG
  by_cases h : f < k
  · have : ¬ k < f + 1 := by omega
    simp [this]
  · simp [h]
theorem cG_s (c : Nat → Bool) {f a : Nat} (h : f < a) : updB (cG c f a) a true = cG c f (a + 1) := by
  funext k
  unfold updB cG
  by_cases e : k = a
  · subst e; rw [if_pos rfl]; simp [h]
  · rw [if_neg e]
    have : decide (k < a + 1) = decide (k < a) := by by_cases q : k < a <;> simp [q] <;> omega
    rw [this]
theorem grow_some {en : Nat} (h : Mem w B M n b vm vo c l ow) (hl : l.length < n) (hn : n ≤ 4096) (hb0 : 0 < b) (hb : b ≤ 64) (hen : en = min (l.length + b) n) :
    Calls Tryd.prog 39 #[.pointer (some ⟨M, 0, none⟩)] w fun e w' => ∃ vm', e = .returned (.tuple #[.int .i64 (l.length : Int), .bool true]) ∧ Mem w' B M n b vm' vo (cG c l.length en) (l ++ List.replicate (en - l.length) (0, 0)) ow ∧ Kp TP B w w' := by
  obtain ⟨A, cap, rfl⟩ := h.sl
  have r0 := (h.blk.cell 0).trans tc_0
  have r1 := (h.blk.cell 1).trans tc_1
  have r2 := (h.blk.cell 2).trans tc_2
  have w1 : IntKind.i64.wrap ((l.length : Int) + (b : Int)) = (l.length : Int) + (b : Int) := by rw [IntKind.wrap_i64]; omega
  have H := hide h
  have he : (if (n : Int) < (l.length : Int) + (b : Int) then (n : Int) else (l.length : Int) + (b : Int)) = (en : Int) := by
    split <;> omega
  have k1 : l.length < en := by omega
  have k2 : en ≤ n := by omega
  have HZ := hide (pcells_one (List.replicate (en - l.length) (0, 0)))
  clear h hen
  go_enter Tryd.func39, Tryd.ntmps39
  go_wp2_with fail
  go_region
  clear r0 r1 r2 he
  have H1 := hide (H.out.ext (Ext.drew w))
  have HX := hide (Ext.drew w)
  generalize w.drew = w1 at *
  have r2 := (H1.out.blk.cell 2).trans tc_2
  have f2 := H1.out.blk.free 2
  have D : ((l.length : Int) == (en : Int)) = false := by simp; omega
  have W3 : IntKind.i64.wrap ((en : Int) - (l.length : Int)) = ((en - l.length : Nat) : Int) := by rw [IntKind.wrap_i64]; omega
  go_wp2_with (first
    | (at_builtin; refine wpList_zeros (base := B) (m := en - l.length) rfl rfl Tryd.underlying57 Tryd.underlying3 inf_slot rfl (by omega) (by rw [zero_pairs]; exact HZ.out) rfl H1.out.row (by have := H1.out.lo; have := H1.out.ltM; omega) rfl (by omega) (by unfold maxLen; omega) (by omega) ?_; intro v4 w4 hown4 hg4 hk4; obtain ⟨A4, c4, rfl⟩ := own_sl hown4; have b4 := H1.out.blk.grown hg4 H1.out.offM; have r4 := (b4.cell 2).trans tc_2; have f4 := b4.free 2; go_frame)
    | go_in)
  have hb4 := b4.set 2 (.slice A4 (l.length + (en - l.length)) c4)
  rw [tc_setm] at hb4
  have e1 : l.length + (en - l.length) = (l ++ List.replicate (en - l.length) (0, 0)).length := by simp
  rw [zero_pairs, ← pcells_append] at hown4
  have hx4 : Chg (M :: (Value.slice A l.length cap).ownBlock.toList) w1 w4 := (Chg.refl _ w1).of_grow hg4 (fun q hq => by
    have hq2 : (Value.slice A l.length cap).ownBlock = some q := hq
    simp [hq2])
  have hown5 := own_chgB (T := [M]) hown4 ((Chg.refl [M] w4).set (p := ⟨M, 2, none⟩) (.inl (by simp)) (.slice A4 (l.length + (en - l.length)) c4)) (fun q hq hm => by
    have hq2 := List.mem_singleton.1 hm
    subst hq2
    obtain ⟨cs, hb⟩ := own_blk hown4 q hq
    exact absurd (hb.type b4) (by decide))
  rw [show w4.setCell ⟨M, 2, none⟩ (.slice A4 (l.length + (en - l.length)) c4) = w4.setCell ⟨M, 2, none⟩ (.slice A4 (l ++ List.replicate (en - l.length) (0, 0)).length c4) by rw [← e1]]
  rw [e1] at hown5 hb4
  have hm := H1.out.putM hown5 hb4 (hx4.set (p := ⟨M, 2, none⟩) (.inl (by simp)) (.slice A4 (l ++ List.replicate (en - l.length) (0, 0)).length c4))
  generalize w4.setCell ⟨M, 2, none⟩ (.slice A4 (l ++ List.replicate (en - l.length) (0, 0)).length c4) = w5 at *
  obtain ⟨hm, hkp⟩ := hm
  have hkp := (HX.out.kp TP B).trans hkp
  have HM := hide hm
  have HK := hide hkp
  clear hown4 hown5 hb4 hx4 hg4 hk4 b4 r4 f4 r2 f2 W3 e1 hm hkp H1 HX D H HZ
  go_loopw [6] (fun i wr => ∃ a : Nat, l.length < a ∧ a ≤ en ∧ i = .int .i64 (a : Int) ∧ Mem wr B M n b (.slice A4 (l ++ List.replicate (en - l.length) (0, 0)).length c4) vo (cG c l.length a) (l ++ List.replicate (en - l.length) (0, 0)) ow ∧ Kp TP B w wr) (fun i _ => en - (intOf i).toNat)
  case atStart => exact ⟨l.length + 1, by omega, by omega, by simp, by rw [cG_one]; exact HM.out, HK.out⟩
  case round =>
    clear HM HK
    obtain ⟨a, h1, h2, rfl, hm, hc⟩ := hrel
    have HM := hide hm
    have HC := hide hc
    clear hm hc
    by_cases hlt : a < en
    · go_wp2_with fail
      refine (add_in HM.out (k := a) (by omega)).mono ?_
      rintro e w6 ⟨rfl, hm, hc⟩
      rw [cG_s c h1] at hm
      go_wp2_with fail
      go_roundw
      case rel => exact ⟨a + 1, by omega, by omega, by go_num, hm, HC.out.trans hc⟩
      case measure => simp [intOf]; omega
    · obtain rfl : a = en := by omega
      go_wp2_with fail
      go_ret2
      exact ⟨_, rfl, HM.out, HC.out⟩
end
end Go.Proofs.YtpadepamknbkoaaDoor
