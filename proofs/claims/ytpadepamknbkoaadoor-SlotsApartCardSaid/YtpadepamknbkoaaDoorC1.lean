/- The table behind a pointer, told by its slots: what each call answers, and what it leaves. -/
import Derived.Test.YtpadepamknbkoaaDoorA2
namespace Go.Proofs.YtpadepamknbkoaaDoor
open Go.RowKit
set_option linter.unusedSimpArgs false
set_option linter.unusedVariables false

theorem IsFr {S S' : TS} (ok' : Ok S') (hN : S'.N = S.N) : ∀ i, (S'.p i).a = 3 → (S'.p i).c ≤ S.N := fun i hi => by have := (ok'.ow i hi).2.2.2; rw [hN] at this; exact this
theorem mine_use {S : TS} (ok : Ok S) {k : Nat} (hk : (S.p k).a ≠ 0) (t : Int) : (S.set k ((S.p k).to 1)).mine t = (S.mine t).filter (fun i => i != k) :=
  mine_drop (TS.len_set S k _) (Nat.le_refl _) (IsFr (ok.use hk) rfl) (fun i hi => TS.p_other S _ hi) (by rw [TS.p_self S _ (ok.lt hk).2, to_a]; omega)
theorem mine_own {S : TS} (ok : Ok S) {r : List Nat} {k : Nat} {z : Int} (h : S.mine z = r ++ [k]) (t : Int) : (S.set k ((S.p k).to 1)).mine t = if t = z then r else S.mine t := by
  have hm := ok.mem.1 (show k ∈ S.mine z by rw [h]; simp)
  rw [mine_use ok (by omega)]
  split
  · rename_i e; subst e
    have := mine_nodup S t
    rw [h] at this ⊢
    exact filter_ne_last this
  · rename_i e
    exact filter_ne_self (fun q => e ((ok.mem.1 q).2.2.symm.trans hm.2.2))
theorem mine_com {S : TS} (ok : Ok S) {k : Nat} (h : S.com k = true) (t : Int) : (S.set k ((S.p k).to 1)).mine t = S.mine t := by
  have h2 : (S.p k).a = 2 := beq_iff_eq.1 h
  rw [mine_use ok (by omega)]
  exact filter_ne_self (fun q => by have := (ok.mem.1 q).2.1; omega)
theorem com_lt {S : TS} {k : Nat} (h : S.com k = true) : k < S.L.length := by
  unfold TS.com at h
  rcases Nat.lt_or_ge k S.L.length with q | q
  · exact q
  · rw [TS.p_far q] at h; exact absurd h (by decide)
theorem p_growm {S : TS} (ok : Ok S) (h : S.m < S.L.length) : S.grow.p S.m = (S.p S.m).to 2 := by
  rw [p_grow, if_pos ⟨Nat.le_refl _, (ok.en1 h).1, h⟩]
theorem isO_ne {x : Pl} {t : Int} {c : Nat} (h : x.a ≠ 3) : isO x t c = false := by unfold isO; simp [h]
theorem mine_grow {S : TS} (ok : Ok S) (h : S.m < S.L.length) (t : Int) : (S.grow.set S.m ((S.p S.m).to 1)).mine t = S.mine t := by
  refine mine_same (by rw [TS.len_set, len_grow]) rfl (fun i hi c => ?_)
  rw [TS.p_set]
  split
  · rename_i e
    rw [isO_ne (by rw [to_a]; omega), isO_ne (by rw [e.1, (ok.un S.m h).2 (Nat.le_refl _)]; omega)]
  · rw [p_grow]
    split
    · rename_i e
      rw [isO_ne (by rw [to_a]; omega), isO_ne (by rw [(ok.un i hi).2 e.1]; omega)]
    · rfl
theorem made_grow {S : TS} (ok : Ok S) (h : S.m < S.L.length) : S.grow.made = S.made ++ List.replicate (S.en - S.m) (0, 0) := by
  obtain ⟨e1, e2⟩ := ok.en1 h
  apply List.ext_getElem?
  intro i
  have hgm : S.grow.m = S.en := rfl
  by_cases hi : i < S.en
  · rw [made_at (S := S.grow) hi, p_grow]
    by_cases q : i < S.m
    · rw [if_neg (by omega), List.getElem?_append_left (by rw [made_len]; exact q), made_at q]
    · rw [if_pos ⟨by omega, hi, by omega⟩, List.getElem?_append_right (by rw [made_len]; omega), made_len, List.getElem?_replicate, if_pos (by omega), to_a, to_g, ok.gu i ((ok.un i (by omega)).2 (by omega))]
      rfl
  · rw [List.getElem?_eq_none (by rw [made_len, hgm]; omega), List.getElem?_eq_none (by rw [List.length_append, made_len, List.length_replicate]; omega)]
theorem com_grow {S : TS} (ok : Ok S) (h : S.m < S.L.length) : (S.grow.set S.m ((S.p S.m).to 1)).com = cG S.com S.m S.en := by
  obtain ⟨e1, e2⟩ := ok.en1 h
  rw [com_set S.grow _ (by rw [len_grow]; exact h)]
  funext i
  unfold updB cG
  rw [to_a]
  by_cases e : i = S.m
  · rw [if_pos e]
    have : S.com i = false := by unfold TS.com; rw [e, (ok.un S.m h).2 (Nat.le_refl _)]; rfl
    rw [this, e]
    simp
  · rw [if_neg e]
    unfold TS.com
    rw [p_grow]
    by_cases q : S.m ≤ i ∧ i < S.en ∧ i < S.L.length
    · have q1 : S.m < i := by omega
      rw [if_pos q, to_a]
      simp [q1, q.2.1]
    · rw [if_neg q]
      by_cases q1 : S.m < i
      · have q2 : ¬ i < S.en := fun h2 => q ⟨by omega, h2, by omega⟩
        simp [q2]
      · simp [q1]
theorem mine_fl {S : TS} (ok : Ok S) (z t : Int) : (S.fl z).mine t = if t = z then [] else S.mine t := by
  split
  · rename_i e; subst e
    apply List.eq_nil_iff_forall_not_mem.2
    intro i hi
    have h1 := (ok.fl t).mem.1 hi
    rw [p_fl] at h1
    by_cases q : i ∈ S.mine t
    · rw [if_pos q, to_a] at h1; omega
    · rw [if_neg q, len_fl] at h1
      exact q (ok.mem.2 h1)
  · rename_i e
    refine mine_same (len_fl S z) rfl (fun i hi c => ?_)
    rw [p_fl]
    split
    · rename_i q
      have h1 := (ok.mem.1 q).2.2
      rw [isO_ne (by rw [to_a]; omega)]
      unfold isO
      have : ((S.p i).t == t) = false := by simp; omega
      simp [this]
    · rfl
theorem com_fl (S : TS) (z : Int) : (S.fl z).com = cF S.com (S.mine z) := by
  funext i
  unfold TS.com cF
  rw [p_fl]
  by_cases q : i ∈ S.mine z
  · rw [if_pos q, to_a]; simp [q]
  · rw [if_neg q]; simp [q]
theorem made_fl {S : TS} (ok : Ok S) (z : Int) : (S.fl z).made = S.made := by
  apply List.ext_getElem?
  intro i
  by_cases hi : i < S.m
  · rw [made_at (S := S.fl z) hi, made_at hi, p_fl]
    split
    · rename_i q
      rw [to_a, to_g, (ok.mem.1 q).2.1]; rfl
    · rfl
  · rw [List.getElem?_eq_none (by rw [made_len]; exact Nat.le_of_not_lt hi), List.getElem?_eq_none (by rw [made_len]; exact Nat.le_of_not_lt hi)]
theorem fl_none {S : TS} {z : Int} (h : S.mine z = []) : S.fl z = S := by
  unfold TS.fl TS.mapL
  have : ((List.range S.L.length).map fun i => if i ∈ S.mine z then (S.p i).to 2 else S.p i) = S.L := by
    rw [h]
    apply List.ext_getElem?
    intro i
    by_cases hi : i < S.L.length
    · rw [List.getElem?_map, List.getElem?_range hi, TS.p_at hi]; simp
    · rw [List.getElem?_eq_none (by simp; omega), List.getElem?_eq_none (by omega)]
  rw [this]

/-- A table at block M, its blocks new to B. -/
def TabT (w : World) (B M : Nat) (S : TS) : Prop := ∃ vm vo, Mem w B M S.L.length S.b vm vo S.com S.made (fun t => S.mine (t : Int))
section
variable {w w' : World} {B M : Nat} {S : TS}
theorem TabT.ext (h : TabT w B M S) (x : Ext w w') : TabT w' B M S := by
  obtain ⟨vm, vo, h⟩ := h
  exact ⟨vm, vo, h.ext x⟩
theorem TabT.kp {ts : List TypeId} {B' : Nat} (h : TabT w B M S) (x : Kp ts B' w w') (hB : 0 < B') (h1 : 63 ∉ ts) (h2 : 73 ∉ ts) (h3 : 3 ∉ ts) : TabT w' B M S := by
  obtain ⟨vm, vo, h⟩ := h
  exact ⟨vm, vo, h.kp x hB h1 h2 h3⟩
theorem used_any (h : TabT w B M S) (ok : Ok S) (k : Nat) : Calls Tryd.prog 21 #[.pointer (some ⟨M, 0, none⟩), .int .i64 (k : Int)] w fun e w' => e = .returned (.bool ((S.p k).a == 1)) ∧ w = w' := by
  obtain ⟨vm, vo, h⟩ := h
  have := used_in (k : Int) h
  rw [st_at ok, show (stA (S.p k).a == 1) = ((S.p k).a == 1) by rw [Bool.eq_iff_iff]; simp [stA_1]] at this
  exact this
theorem used_neg (h : TabT w B M S) : Calls Tryd.prog 21 #[.pointer (some ⟨M, 0, none⟩), .int .i64 (-1)] w fun e w' => e = .returned (.bool false) ∧ w = w' := by
  obtain ⟨vm, vo, h⟩ := h
  have := used_in (-1) h
  rw [stZ_off (by omega)] at this
  exact this
theorem gen_any (h : TabT w B M S) (ok : Ok S) (k : Nat) : Calls Tryd.prog 22 #[.pointer (some ⟨M, 0, none⟩), .int .i64 (k : Int)] w fun e w' => e = .returned (.tuple #[.int .u32 (S.p k).g, .int .i64 (if k < S.L.length then 0 else 1)]) ∧ w = w' := by
  obtain ⟨vm, vo, h⟩ := h
  have := gen_in (k : Int) h (by have := ok.n0; omega) (by rw [made_len]; exact ok.m1)
  rw [gn_at ok] at this
  rw [show genE S.L.length (k : Int) = (if k < S.L.length then 0 else 1) by unfold genE; by_cases q : k < S.L.length <;> simp [q]] at this
  exact this
theorem check_any (h : TabT w B M S) (ok : Ok S) (k : Nat) (g : Int) : Calls Tryd.prog 23 #[.pointer (some ⟨M, 0, none⟩), .int .i64 (k : Int), .int .u32 g] w fun e w' => e = .returned (.bool ((S.p k).a == 1 && (S.p k).g == g)) ∧ w = w' := by
  obtain ⟨vm, vo, h⟩ := h
  have := check_in (k : Int) g h
  rw [st_at ok, gn_at ok, show (stA (S.p k).a == 1) = ((S.p k).a == 1) by rw [Bool.eq_iff_iff]; simp [stA_1]] at this
  exact this
theorem filter_le {p : Nat → Bool} {m n : Nat} (h : m ≤ n) (hp : ∀ i, m ≤ i → i < n → p i = false) : (List.range n).filter p = (List.range m).filter p := by
  obtain ⟨d, rfl⟩ : ∃ d, n = m + d := ⟨n - m, by omega⟩
  rw [List.range_add, List.filter_append]
  have : ((List.range d).map (m + ·)).filter p = [] := by
    rw [List.filter_eq_nil_iff]
    intro a ha
    obtain ⟨q, hq, rfl⟩ := List.mem_map.1 ha
    have := List.mem_range.1 hq
    rw [hp _ (by omega) (by omega)]
    decide
  rw [this, List.append_nil]
theorem usedL_eq (ok : Ok S) : usedL S.made S.made.length = S.inuse := by
  unfold usedL TS.inuse
  rw [made_len, filter_le (n := S.L.length) ok.m1 (fun i h1 h2 => by rw [(ok.un i h2).2 h1]; rfl)]
  apply List.filter_congr
  intro i _
  rw [st_at ok, Bool.eq_iff_iff]
  simp [stA_1]
theorem inuse_any (h : TabT w B M S) (ok : Ok S) :
    Calls Tryd.prog 18 #[.pointer (some ⟨M, 0, none⟩)] w fun e w' => ∃ v, e = .returned v ∧ w'.ownsRow w.heap.size 3 1 v S.inuse.length (S.inuse.map enI) ∧ Ext w w' := by
  obtain ⟨vm, vo, h⟩ := h
  have := inuse_in h (by rw [made_len]; exact Nat.le_trans ok.m1 ok.n1)
  rw [usedL_eq ok] at this
  exact this
theorem own_any (h : TabT w B M S) (ok : Ok S) (z : Int) :
    Calls Tryd.prog 20 #[.pointer (some ⟨M, 0, none⟩), .int .i64 z] w fun e w' => ∃ v, e = .returned v ∧ w'.ownsRow w.heap.size 3 1 v (S.mine z).length ((S.mine z).map enI) ∧ Ext w w' := by
  obtain ⟨vm, vo, h⟩ := h
  have hn : 0 < S.L.length := by have := ok.n0; omega
  by_cases hz : 0 ≤ z ∧ z < 256
  · obtain ⟨t, rfl⟩ : ∃ t : Nat, z = (t : Int) := ⟨z.toNat, by omega⟩
    exact own_in h hn (by omega) (mine_len S _ ok)
  · refine (own_no h hn hz).mono ?_
    rintro e w' ⟨rfl, rfl⟩
    rw [mine_none ok hz]
    exact ⟨_, rfl, own_nil _ _ _ _, Ext.refl _⟩
def TS.gone (S : TS) : Nat := (List.range S.L.length).countP fun i => (S.p i).a == 1 || (S.p i).a == 4
theorem offL_eq (ok : Ok S) : offL S.made S.made.length = S.gone := by
  unfold offL TS.gone
  rw [List.countP_eq_length_filter, List.countP_eq_length_filter, made_len, filter_le (n := S.L.length) ok.m1 (fun i h1 h2 => by rw [(ok.un i h2).2 h1]; rfl)]
  congr 1
  apply List.filter_congr
  intro i _
  rw [st_at ok, Bool.eq_iff_iff]
  simp only [bne_iff_ne, ne_eq, Bool.or_eq_true, beq_iff_eq]
  rw [stA_0]
  omega
theorem left_any (h : TabT w B M S) (ok : Ok S) : Calls Tryd.prog 19 #[.pointer (some ⟨M, 0, none⟩)] w fun e w' => e = .returned (.int .i64 ((S.L.length : Int) - (S.gone : Nat))) ∧ Ext w w' := by
  obtain ⟨vm, vo, h⟩ := h
  have := left_in h (by have := ok.n0; omega) (by rw [made_len]; exact ok.m1) ok.n1
  rw [offL_eq ok] at this
  exact this
theorem take_any (h : TabT w B M S) (ok : Ok S) (z : Int) :
    Calls Tryd.prog 15 #[.pointer (some ⟨M, 0, none⟩), .int .i64 z] w fun e w' => ∃ a g er S', e = .returned (.tuple #[.int .i64 a, .int .u32 g, .int .i64 er]) ∧ Tk S z a g er S' ∧ TabT w' B M S' ∧ Kp TP B w w' := by
  obtain ⟨vm, vo, h⟩ := h
  have hn : 0 < S.L.length := by have := ok.n0; omega
  by_cases hz : 0 ≤ z ∧ z < 256
  · obtain ⟨t, rfl⟩ : ∃ t : Nat, z = (t : Int) := ⟨z.toNat, by omega⟩
    have ht : t < 256 := by omega
    rcases List.eq_nil_or_concat (S.mine (t : Int)) with he | ⟨r, k, he⟩
    · by_cases hc : ∃ k, IsL S.com k
      · obtain ⟨k, hk⟩ := hc
        have ha : (S.p k).a = 2 := beq_iff_eq.1 hk.2.1
        have hlt := ok.lt (i := k) (by omega)
        refine (take_via h hn ht (made_at hlt.1) ((pick_com h ht he hk).mono fun e w' ⟨h1, h2, h3⟩ => ⟨vm, vo, h1, h2, h3⟩)).mono ?_
        rintro e w' ⟨vm', vo', rfl, hm, hx⟩
        refine ⟨_, _, _, _, rfl, .com k hz he hk, ⟨vm', vo', ?_⟩, hx⟩
        have e1 : (fun q : Nat => (S.set k ((S.p k).to 1)).mine (q : Int)) = fun q : Nat => S.mine (q : Int) := by
          funext q; exact mine_com ok hk.2.1 q
        rw [TS.len_set, com_set S _ hlt.2, made_set S _ hlt.1 hlt.2, e1]
        exact hm
      · have hc2 : ∀ j, S.com j = false := by
          intro j
          apply Bool.eq_false_iff.2
          intro hj
          have : ∃ k, S.com k = true ∧ ∀ i, i < k → S.com i = false := by
            induction j using Nat.strongRecOn with
            | _ j ih =>
              by_cases q : ∃ i, i < j ∧ S.com i = true
              · obtain ⟨i, h1, h2⟩ := q
                exact ih i h1 h2
              · exact ⟨j, hj, fun i hi => Bool.eq_false_iff.2 (fun h2 => q ⟨i, hi, h2⟩)⟩
          obtain ⟨k, h1, h2⟩ := this
          exact hc ⟨k, by have := com_lt h1; have := ok.n1; omega, h1, h2⟩
        by_cases hl : S.m < S.L.length
        · have e1 := ok.en1 hl
          have hge := p_growm ok hl
          have hx0 : (S.made ++ List.replicate (S.en - S.m) ((0 : Int), (0 : Int)))[S.m]? = some (0, 0) := by
            rw [List.getElem?_append_right (by rw [made_len]; exact Nat.le_refl _), made_len, Nat.sub_self, List.getElem?_replicate, if_pos (by omega)]
          have hp := pick_grow (en := S.en) h ht he (fun j _ => hc2 j) (by rw [made_len]; exact hl) ok.n1 ok.b0 ok.b1 (by rw [made_len]; rfl)
          rw [made_len] at hp
          refine (take_via h hn ht hx0 hp).mono ?_
          rintro e w' ⟨vm', vo', rfl, hm, hx⟩
          have hg0 : (S.p S.m).g = 0 := ok.gu S.m ((ok.un S.m hl).2 (Nat.le_refl _))
          refine ⟨_, _, _, _, by rw [hg0], .grow hz he hc2 hl, ⟨vm', vo', ?_⟩, hx⟩
          have e2 : (fun q : Nat => (S.grow.set S.m ((S.p S.m).to 1)).mine (q : Int)) = fun q : Nat => S.mine (q : Int) := by
            funext q; exact mine_grow ok hl q
          rw [TS.len_set, len_grow, com_grow ok hl, made_set S.grow _ e1.1 (by rw [len_grow]; exact hl), made_grow ok hl, e2, to_a, to_g, hg0]
          exact hm
        · have hl2 : S.m = S.L.length := by have := ok.m1; omega
          refine (take_none h hn ht (pick_out h ht he (fun j _ => hc2 j) (by rw [made_len]; exact hl2) ok.n1 ok.b0 ok.b1)).mono ?_
          rintro e w' ⟨rfl, hx⟩
          exact ⟨_, _, _, _, rfl, .out hz he hc2 hl2, ⟨vm, vo, h.ext hx⟩, hx.kp _ _⟩
    · rw [List.concat_eq_append] at he
      have hk := ok.mem.1 (show k ∈ S.mine (t : Int) by rw [he]; simp)
      have hlt := ok.lt (i := k) (by omega)
      have hlen := mine_len S (t : Int) ok
      rw [he] at hlen
      have hcom : S.com k = false := by unfold TS.com; rw [hk.2.1]; rfl
      refine (take_via h hn ht (made_at hlt.1) ((pick_own h ht he (by simp at hlen; omega)).mono fun e w' ⟨vo', h1, h2, h3⟩ => ⟨vm, vo', h1, h2, h3⟩)).mono ?_
      rintro e w' ⟨vm', vo', rfl, hm, hx⟩
      refine ⟨_, _, _, _, rfl, .own r k he, ⟨vm', vo', ?_⟩, hx⟩
      have e1 : (fun q : Nat => (S.set k ((S.p k).to 1)).mine (q : Int)) = updO (fun q : Nat => S.mine (q : Int)) t r := by
        funext q
        rw [mine_own ok he]
        unfold updO
        by_cases e : q = t
        · rw [if_pos e, if_pos (by rw [e])]
        · rw [if_neg e, if_neg (by omega)]
      rw [TS.len_set, com_set S _ hlt.2, made_set S _ hlt.1 hlt.2, e1, to_a, show updB S.com k ((1 : Int) == 2) = S.com from updB_self (by rw [hcom]; rfl)]
      exact hm
  · refine (take_arg h hn hz).mono ?_
    rintro e w' ⟨rfl, hx⟩
    exact ⟨_, _, _, _, rfl, .arg hz, ⟨vm, vo, h.ext hx⟩, hx.kp _ _⟩
theorem flush_any (h : TabT w B M S) (ok : Ok S) (z : Int) :
    Calls Tryd.prog 13 #[.pointer (some ⟨M, 0, none⟩), .int .i64 z] w fun e w' => e = .returned (.int .i64 ((S.mine z).length : Int)) ∧ TabT w' B M (S.fl z) ∧ Kp TP B w w' := by
  obtain ⟨vm, vo, h⟩ := h
  have hn : 0 < S.L.length := by have := ok.n0; omega
  by_cases hz : 0 ≤ z ∧ z < 256
  · obtain ⟨t, rfl⟩ : ∃ t : Nat, z = (t : Int) := ⟨z.toNat, by omega⟩
    refine (flush_in h hn (by omega) (mine_len S _ ok) (fun k hk => by have := (mem_mine.1 hk).1; have := ok.n1; omega)).mono ?_
    rintro e w' ⟨vo', rfl, hm, hx⟩
    refine ⟨rfl, ⟨vm, vo', ?_⟩, hx⟩
    have e1 : (fun q : Nat => (S.fl (t : Int)).mine (q : Int)) = updO (fun q : Nat => S.mine (q : Int)) t [] := by
      funext q
      rw [mine_fl ok]
      unfold updO
      by_cases e : q = t
      · rw [if_pos e, if_pos (by rw [e])]
      · rw [if_neg e, if_neg (by omega)]
    rw [len_fl, com_fl, made_fl ok, e1]
    exact hm
  · refine (flush_arg h hn hz).mono ?_
    rintro e w' ⟨rfl, hx⟩
    have e0 := mine_none ok hz
    rw [e0, fl_none e0]
    exact ⟨rfl, ⟨vm, vo, h.ext hx⟩, hx.kp _ _⟩
end
end Go.Proofs.YtpadepamknbkoaaDoor
