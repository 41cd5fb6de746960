/- A table behind a pointer: what its calls that only read tell. -/
import Derived.Test.YtpadepamknbkoaaDoorB2
import Derived.Test.YtpadepamknbkoaaDoorPhase
namespace Go.Proofs.YtpadepamknbkoaaDoor
open Go.RowKit
set_option linter.unusedSimpArgs false
set_option linter.unusedVariables false


structure Mem (w : World) (B M n b : Nat) (vm : Value) (vo : Nat → Value) (c : Nat → Bool) (l : List (Int × Int)) (ow : Nat → List Nat) : Prop where
  lo : B ≤ M
  bp : 0 < B
  tb : Tb w
  blk : Blk w M (tcells n b vm vo c) 63
  row : w.ownsRow B 73 2 vm l.length (pcells l)
  own : ∀ t, t < 256 → w.ownsRow B 3 1 (vo t) (ow t).length ((ow t).map enI)
  apart : ∀ s t k, s < 256 → t < 256 → (vo s).ownBlock = some k → (vo t).ownBlock = some k → s = t
section
variable {w w' : World} {B M n b : Nat} {vm : Value} {vo : Nat → Value} {c : Nat → Bool} {l : List (Int × Int)} {ow : Nat → List Nat}
theorem Mem.ext (h : Mem w B M n b vm vo c l ow) (x : Ext w w') : Mem w' B M n b vm vo c l ow :=
  ⟨h.lo, h.bp, h.tb.ext x, h.blk.ext x, own_ext h.row x, fun t ht => own_ext (h.own t ht) x, h.apart⟩
theorem Mem.kp {ts : List TypeId} {B' : Nat} (h : Mem w B M n b vm vo c l ow) (x : Kp ts B' w w') (hB : 0 < B') (h1 : 63 ∉ ts) (h2 : 73 ∉ ts) (h3 : 3 ∉ ts) : Mem w' B M n b vm vo c l ow :=
  ⟨h.lo, h.bp, h.tb.kp x hB, x.blk h.blk h1, x.own h.row h2, fun t ht => x.own (h.own t ht) h3, h.apart⟩
theorem Mem.slot {k : Nat} (h : Mem w B M n b vm vo c l ow) (hk : k < l.length) :
    ∃ g cap, vm = .slice (some ⟨g, 0, none⟩) l.length cap ∧ ∀ w', Ext w w' → w'.cell? ⟨g, k * 2, none⟩ = some (.int .i64 (l[k]).1) ∧ w'.cell? ⟨g, k * 2 + 1, none⟩ = some (.int .u32 (l[k]).2) := by
  rcases h.row.2 with ⟨_, h0⟩ | ⟨g, cap, cur, rfl, hb, hh, h3, h4, h5, h6⟩
  · omega
  · refine ⟨g, cap, rfl, fun w' x => ?_⟩
    have hb : Blk w' g cur 73 := Blk.ext (show Blk w g cur 73 from hh) x
    obtain ⟨e0, e1⟩ := pcells_at l k hk
    have q : ∀ j, j < l.length * 2 → cur[j]? = (pcells l)[j]? := fun j hj => by
      rw [← h6, List.getElem?_take, if_pos hj, Array.getElem?_toList]
    exact ⟨(hb.cell _).trans ((q _ (by omega)).trans e0), (hb.cell _).trans ((q _ (by omega)).trans e1)⟩
theorem Mem.sl (h : Mem w B M n b vm vo c l ow) : ∃ A cap, vm = .slice A l.length cap := own_sl h.row

theorem given_in (h : Mem w B M n b vm vo c l ow) (hn : 0 < n) : Calls Tryd.prog 35 #[.pointer (some ⟨M, 0, none⟩)] w fun e w' => e = .returned (.bool true) ∧ w = w' := by
  have r := h.blk.cell 0
  rw [tc_0] at r
  go_enter Tryd.func35, Tryd.ntmps35
  go_wp2
  go_ret
  exact ⟨by simp, rfl⟩
def mayE (z : Int) : Int := if 0 ≤ z ∧ z < 256 then 0 else 1
theorem may_in (z : Int) (h : Mem w B M n b vm vo c l ow) (hn : 0 < n) : Calls Tryd.prog 25 #[.pointer (some ⟨M, 0, none⟩), .int .i64 z] w fun e w' => e = .returned (.int .i64 (mayE z)) ∧ w = w' := by
  by_cases h0 : z < 0
  · have E := hide (show mayE z = 1 from if_neg (by omega))
    go_enter Tryd.func25, Tryd.ntmps25
    go_wp2_with fail
    refine (given_in h hn).mono ?_
    rintro e w1 ⟨rfl, rfl⟩
    go_wp2_with fail
    go_ret
    exact ⟨by rw [E.out]; simp, rfl⟩
  · by_cases h1 : 255 < z
    · have E := hide (show mayE z = 1 from if_neg (by omega))
      go_enter Tryd.func25, Tryd.ntmps25
      go_wp2_with fail
      refine (given_in h hn).mono ?_
      rintro e w1 ⟨rfl, rfl⟩
      go_wp2_with fail
      go_ret
      exact ⟨by rw [E.out]; simp, rfl⟩
    · have E := hide (show mayE z = 0 from if_pos (by omega))
      go_enter Tryd.func25, Tryd.ntmps25
      go_wp2_with fail
      refine (given_in h hn).mono ?_
      rintro e w1 ⟨rfl, rfl⟩
      go_wp2_with fail
      go_ret
      exact ⟨by rw [E.out]; simp, rfl⟩
theorem all_in (h : Mem w B M n b vm vo c l ow) : Calls Tryd.prog 34 #[.pointer (some ⟨M, 0, none⟩)] w fun e w' => e = .returned vm ∧ w = w' := by
  obtain ⟨A, cap, rfl⟩ := h.sl
  have r := h.blk.cell 2
  rw [tc_2] at r
  go_enter Tryd.func34, Tryd.ntmps34
  go_wp2
  go_ret
  exact ⟨by simp, rfl⟩
def stZ (l : List (Int × Int)) (z : Int) : Int := if 0 ≤ z then (l.getD z.toNat (0, 0)).1 else 0
def genZ (l : List (Int × Int)) (z : Int) : Int := if 0 ≤ z then (l.getD z.toNat (0, 0)).2 else 0
theorem stZ_at {l : List (Int × Int)} {k : Nat} (h : k < l.length) : stZ l k = (l[k]).1 := by
  unfold stZ; rw [if_pos (by omega), Int.toNat_natCast, List.getD_eq_getElem?_getD, List.getElem?_eq_getElem h]; rfl
theorem genZ_at {l : List (Int × Int)} {k : Nat} (h : k < l.length) : genZ l k = (l[k]).2 := by
  unfold genZ; rw [if_pos (by omega), Int.toNat_natCast, List.getD_eq_getElem?_getD, List.getElem?_eq_getElem h]; rfl
theorem stZ_off {l : List (Int × Int)} {z : Int} (h : ¬ (0 ≤ z ∧ z < l.length)) : stZ l z = 0 := by
  unfold stZ
  split
  · rw [List.getD_eq_getElem?_getD, List.getElem?_eq_none (by omega)]; rfl
  · rfl
theorem genZ_off {l : List (Int × Int)} {z : Int} (h : ¬ (0 ≤ z ∧ z < l.length)) : genZ l z = 0 := by
  unfold genZ
  split
  · rw [List.getD_eq_getElem?_getD, List.getElem?_eq_none (by omega)]; rfl
  · rfl
theorem used_in (z : Int) (h : Mem w B M n b vm vo c l ow) : Calls Tryd.prog 21 #[.pointer (some ⟨M, 0, none⟩), .int .i64 z] w fun e w' => e = .returned (.bool (stZ l z == 1)) ∧ w = w' := by
  obtain ⟨A, cap, rfl⟩ := h.sl
  by_cases h0 : z < 0
  · have E := hide (show (stZ l z == 1) = false by rw [stZ_off (by omega)]; rfl)
    have D : decide (z ≥ 0) = false := by simp; omega
    go_enter Tryd.func21, Tryd.ntmps21
    go_wp2_with fail
    refine (all_in h).mono ?_
    rintro e w1 ⟨rfl, rfl⟩
    go_wp2_with fail
    go_ret
    exact ⟨by rw [E.out]; simp, rfl⟩
  · by_cases h1 : z < (l.length : Int)
    · obtain ⟨k, rfl⟩ : ∃ k : Nat, z = (k : Int) := ⟨z.toNat, by omega⟩
      obtain ⟨g, cap', hv, r⟩ := h.slot (k := k) (by omega)
      cases hv
      have E := hide (show (stZ l k == 1) = ((l[k]'(by omega)).1 == 1) by rw [stZ_at (by omega)])
      have c1 := (r w (Ext.refl w)).1
      go_enter Tryd.func21, Tryd.ntmps21
      go_wp2_with fail
      refine (all_in h).mono ?_
      rintro e w1 ⟨rfl, rfl⟩
      go_wp2_with fail
      go_ret
      exact ⟨by rw [E.out]; simp, rfl⟩
    · have E := hide (show (stZ l z == 1) = false by rw [stZ_off (by omega)]; rfl)
      go_enter Tryd.func21, Tryd.ntmps21
      go_wp2_with fail
      refine (all_in h).mono ?_
      rintro e w1 ⟨rfl, rfl⟩
      go_wp2_with fail
      go_ret
      exact ⟨by rw [E.out]; simp, rfl⟩
def genE (n : Nat) (z : Int) : Int := if 0 ≤ z ∧ z < n then 0 else 1
theorem gen_in (z : Int) (h : Mem w B M n b vm vo c l ow) (hn : 0 < n) (hl : l.length ≤ n) :
    Calls Tryd.prog 22 #[.pointer (some ⟨M, 0, none⟩), .int .i64 z] w fun e w' => e = .returned (.tuple #[.int .u32 (genZ l z), .int .i64 (genE n z)]) ∧ w = w' := by
  obtain ⟨A, cap, rfl⟩ := h.sl
  have r0 := h.blk.cell 0
  rw [tc_0] at r0
  have r2 := h.blk.cell 2
  rw [tc_2] at r2
  by_cases h0 : z < 0
  · have E := hide (genZ_off (l := l) (z := z) (by omega))
    have E2 := hide (show genE n z = 1 from if_neg (by omega))
    go_enter Tryd.func22, Tryd.ntmps22
    go_wp2_with fail
    refine (given_in h hn).mono ?_
    rintro e w1 ⟨rfl, rfl⟩
    go_wp2_with fail
    go_ret2
    exact ⟨by rw [E.out, E2.out]; simp, rfl⟩
  · by_cases h2 : z < (n : Int)
    · by_cases h1 : z < (l.length : Int)
      · obtain ⟨k, rfl⟩ : ∃ k : Nat, z = (k : Int) := ⟨z.toNat, by omega⟩
        obtain ⟨g, cap', hv, r⟩ := h.slot (k := k) (by omega)
        cases hv
        have E := hide (show genZ l k = (l[k]'(by omega)).2 by rw [genZ_at (by omega)])
        have E2 := hide (show genE n k = 0 from if_pos (by omega))
        have c1 := (r w (Ext.refl w)).2
        go_enter Tryd.func22, Tryd.ntmps22
        go_wp2_with fail
        refine (given_in h hn).mono ?_
        rintro e w1 ⟨rfl, rfl⟩
        go_wp2_with fail
        go_ret2
        exact ⟨by rw [E.out, E2.out]; simp, rfl⟩
      · have E := hide (genZ_off (l := l) (z := z) (by omega))
        have E2 := hide (show genE n z = 0 from if_pos (by omega))
        go_enter Tryd.func22, Tryd.ntmps22
        go_wp2_with fail
        refine (given_in h hn).mono ?_
        rintro e w1 ⟨rfl, rfl⟩
        go_wp2_with fail
        go_ret2
        exact ⟨by rw [E.out, E2.out]; simp, rfl⟩
    · have E := hide (genZ_off (l := l) (z := z) (by omega))
      have E2 := hide (show genE n z = 1 from if_neg (by omega))
      go_enter Tryd.func22, Tryd.ntmps22
      go_wp2_with fail
      refine (given_in h hn).mono ?_
      rintro e w1 ⟨rfl, rfl⟩
      go_wp2_with fail
      go_ret2
      exact ⟨by rw [E.out, E2.out]; simp, rfl⟩
theorem check_in (z g : Int) (h : Mem w B M n b vm vo c l ow) : Calls Tryd.prog 23 #[.pointer (some ⟨M, 0, none⟩), .int .i64 z, .int .u32 g] w fun e w' => e = .returned (.bool (stZ l z == 1 && genZ l z == g)) ∧ w = w' := by
  obtain ⟨A, cap, rfl⟩ := h.sl
  have r2 := h.blk.cell 2
  rw [tc_2] at r2
  by_cases h0 : stZ l z = 1
  · have hz : 0 ≤ z ∧ z < l.length := by
      by_cases q : 0 ≤ z ∧ z < l.length
      · exact q
      · rw [stZ_off q] at h0; omega
    obtain ⟨k, rfl⟩ : ∃ k : Nat, z = (k : Int) := ⟨z.toNat, by omega⟩
    obtain ⟨g', cap', hv, r⟩ := h.slot (k := k) (by omega)
    cases hv
    have E := hide (show genZ l k = (l[k]'(by omega)).2 by rw [genZ_at (by omega)])
    have c1 := (r w (Ext.refl w)).2
    have D : (stZ l k == 1) = true := by simpa using h0
    clear h0
    go_enter Tryd.func23, Tryd.ntmps23
    go_wp2_with fail
    refine (used_in _ h).mono ?_
    rw [D]
    rintro e w1 ⟨rfl, rfl⟩
    go_wp2_with fail
    go_ret
    exact ⟨by rw [E.out, D]; simp, rfl⟩
  · have D : (stZ l z == 1) = false := by simpa using h0
    clear h0
    go_enter Tryd.func23, Tryd.ntmps23
    go_wp2_with fail
    refine (used_in _ h).mono ?_
    rw [D]
    rintro e w1 ⟨rfl, rfl⟩
    go_wp2_with fail
    go_ret
    exact ⟨by rw [D]; simp, rfl⟩
end
end Go.Proofs.YtpadepamknbkoaaDoor
