/- A package that is alive. -/
import Derived.Test.YtlgomkocalieeaaGreatDoorTT
import Derived.Test.YtlgomkocalieeaaGreatDoorE1
import Derived.Laws.BytesString
import Derived.Laws.BytesArg
namespace Go.Proofs.YtlgomkocalieeaaGreatDoor
open Go.RowKit
set_option linter.unusedSimpArgs false
set_option linter.unusedVariables false
set_option maxRecDepth 100000
set_option maxHeartbeats 8000000

def aC : Cf := ⟨1, 1, 1, 1, 0, 1, 0, 1, 1, 0⟩
def aP : List (List Op3) := [[(1, 0, 0)]]
def aT : List Tr := [(1, 0), (2, 5), (3, 0)]
theorem a_may : mayS aC aP aT = 0 := by decide
theorem a_len : (scB aC aP aT).length = 26 := by decide
theorem a_head : (scB aC aP aT)[0]? = some 77 := by decide
theorem config0 (w : World) : Calls Tryz.prog 16 #[.agg #[.int .u8 0, .int .u8 0, .int .u8 0, .int .u8 0, .int .u8 0, .int .u8 0, .int .u8 0, .int .u8 0, .int .u64 0]] w fun e w' => e = .returned (.agg #[.int .i64 1, .int .i64 1, .int .i64 1, .int .i64 1, .int .i64 0, .int .i64 1, .int .u8 0, .int .i64 1, .int .i64 1, .int .u64 0]) ∧ Ext w w' := by
  have hw : ∀ i, (((w.alloc (Obj.cells #[.int .u8 0, .int .u8 0, .int .u8 0, .int .u8 0, .int .u8 0, .int .u8 0, .int .u8 0, .int .u8 0, .int .u64 0] 51)).alloc (Obj.cells #[.int .i64 1, .int .i64 1, .int .i64 1, .int .i64 1, .int .i64 0, .int .i64 1, .int .u8 0, .int .i64 1, .int .i64 1, .int .u64 0] 24)).alloc (Obj.cells #[.int .i64 1, .int .i64 1, .int .i64 1, .int .i64 1, .int .i64 0, .int .i64 1, .int .u8 0, .int .i64 1, .int .i64 1, .int .u64 0] 24)).cell? ⟨w.heap.size + 1, i, none⟩ = (#[.int .i64 1, .int .i64 1, .int .i64 1, .int .i64 1, .int .i64 0, .int .i64 1, .int .u8 0, .int .i64 1, .int .i64 1, .int .u64 0] : Array Value)[i]? := fun i => by
    have := ((Blk.new (w.alloc (Obj.cells #[.int .u8 0, .int .u8 0, .int .u8 0, .int .u8 0, .int .u8 0, .int .u8 0, .int .u8 0, .int .u8 0, .int .u64 0] 51)) #[.int .i64 1, .int .i64 1, .int .i64 1, .int .i64 1, .int .i64 0, .int .i64 1, .int .u8 0, .int .i64 1, .int .i64 1, .int .u64 0] 24).ext (Ext.alloc _ (Obj.cells #[.int .i64 1, .int .i64 1, .int .i64 1, .int .i64 1, .int .i64 0, .int .i64 1, .int .u8 0, .int .i64 1, .int .i64 1, .int .u64 0] 24))).cell i
    simpa using this
  have z0 := hw 0
  have z1 := hw 1
  have z2 := hw 2
  have z3 := hw 3
  have z4 := hw 4
  have z5 := hw 5
  have z6 := hw 6
  have z7 := hw 7
  have z8 := hw 8
  have z9 := hw 9
  clear hw
  go_enter Tryz.func16, Tryz.ntmps16
  go_wp2
  refine bodyPost_ret (v := .agg #[.int .i64 1, .int .i64 1, .int .i64 1, .int .i64 1, .int .i64 0, .int .i64 1, .int .u8 0, .int .i64 1, .int .i64 1, .int .u64 0]) (by simp [results, Tryz.results16, go_sem]) rfl ⟨rfl, ?_⟩
  exact ((Ext.alloc _ _).trans (Ext.alloc _ _)).trans (Ext.alloc _ _)
theorem alive_any (w : World) (hG : GlobW w) : Calls Tryz.prog 7 #[] w fun e w' => e = .returned (.bool true) ∧ Ext w w' := by
  have HG := hide hG
  have hc := config0 w
  clear hG
  go_enter Tryz.func7, Tryz.ntmps7
  go_wp2_with fail
  refine hc.mono ?_
  rintro e w1 ⟨rfl, hx1⟩
  have HX1 := hide hx1
  have ho := Blk.new w1 #[.int .i64 1, .int .i64 0, .int .i64 0] 53
  have hs := Blk.new (w1.alloc (.cells #[.int .i64 1, .int .i64 0, .int .i64 0] 53)) #[.slice (some ⟨w1.heap.size, 0, none⟩) 1 1] 48
  have ht := Blk.new ((w1.alloc (.cells #[.int .i64 1, .int .i64 0, .int .i64 0] 53)).alloc (.cells #[.slice (some ⟨w1.heap.size, 0, none⟩) 1 1] 48)) #[.int .i64 1, .int .i64 0, .int .i64 2, .int .i64 5, .int .i64 3, .int .i64 0] 55
  have hr := Blk.new (((w1.alloc (.cells #[.int .i64 1, .int .i64 0, .int .i64 0] 53)).alloc (.cells #[.slice (some ⟨w1.heap.size, 0, none⟩) 1 1] 48)).alloc (.cells #[.int .i64 1, .int .i64 0, .int .i64 2, .int .i64 5, .int .i64 3, .int .i64 0] 55)) #[.int .i64 1, .int .i64 1, .int .i64 1, .int .i64 1, .int .i64 0, .int .i64 1, .int .u8 0, .int .i64 1, .int .i64 1, .int .u64 0, .slice (some ⟨w1.heap.size + 1, 0, none⟩) 1 1, .slice (some ⟨w1.heap.size + 1 + 1, 0, none⟩) 3 3] 37
  have x1 := Ext.alloc w1 (.cells #[.int .i64 1, .int .i64 0, .int .i64 0] 53)
  have x2 := Ext.alloc (w1.alloc (.cells #[.int .i64 1, .int .i64 0, .int .i64 0] 53)) (.cells #[.slice (some ⟨w1.heap.size, 0, none⟩) 1 1] 48)
  have x3 := Ext.alloc ((w1.alloc (.cells #[.int .i64 1, .int .i64 0, .int .i64 0] 53)).alloc (.cells #[.slice (some ⟨w1.heap.size, 0, none⟩) 1 1] 48)) (.cells #[.int .i64 1, .int .i64 0, .int .i64 2, .int .i64 5, .int .i64 3, .int .i64 0] 55)
  have x4 := Ext.alloc (((w1.alloc (.cells #[.int .i64 1, .int .i64 0, .int .i64 0] 53)).alloc (.cells #[.slice (some ⟨w1.heap.size, 0, none⟩) 1 1] 48)).alloc (.cells #[.int .i64 1, .int .i64 0, .int .i64 2, .int .i64 5, .int .i64 3, .int .i64 0] 55)) (.cells #[.int .i64 1, .int .i64 1, .int .i64 1, .int .i64 1, .int .i64 0, .int .i64 1, .int .u8 0, .int .i64 1, .int .i64 1, .int .u64 0, .slice (some ⟨w1.heap.size + 1, 0, none⟩) 1 1, .slice (some ⟨w1.heap.size + 1 + 1, 0, none⟩) 3 3] 37)
  simp only [World.size_alloc] at hs ht hr
  have ho4 := (((ho.ext x2).ext x3).ext x4)
  have hs4 := ((hs.ext x3).ext x4)
  have ht4 := ht.ext x4
  have hX4 := ((x1.trans x2).trans x3).trans x4
  clear ho hs ht x1 x2 x3 x4 hc hx1
  go_wp2_with fail
  generalize (((w1.alloc (.cells #[.int .i64 1, .int .i64 0, .int .i64 0] 53)).alloc (.cells #[.slice (some ⟨w1.heap.size, 0, none⟩) 1 1] 48)).alloc (.cells #[.int .i64 1, .int .i64 0, .int .i64 2, .int .i64 5, .int .i64 3, .int .i64 0] 55)).alloc (.cells #[.int .i64 1, .int .i64 1, .int .i64 1, .int .i64 1, .int .i64 0, .int .i64 1, .int .u8 0, .int .i64 1, .int .i64 1, .int .u64 0, .slice (some ⟨w1.heap.size + 1, 0, none⟩) 1 1, .slice (some ⟨w1.heap.size + 1 + 1, 0, none⟩) 3 3] 37) = w4 at *
  have hch : Ch w4 (some ⟨w1.heap.size, 0, none⟩) [(1, 0, 0)] := .inr ⟨w1.heap.size, 0, rfl, ho4.lt, fun j hj => by
    have : j = 0 := by simpa using hj
    subst this
    exact ⟨ho4.cell 0, ho4.cell 1, ho4.cell 2⟩⟩
  have hscr : Scr w4 (some ⟨w1.heap.size + 1, 0, none⟩) (some ⟨w1.heap.size + 1 + 1, 0, none⟩) aP aT := by
    refine ⟨.inr ⟨_, 0, rfl, hs4.lt, fun j hj => ?_⟩, .inr ⟨_, 0, rfl, ht4.lt, fun j hj => ?_⟩, by decide, by decide⟩
    · have : j = 0 := by simpa [aP] using hj
      subst this
      exact ⟨some ⟨w1.heap.size, 0, none⟩, 1, hs4.cell 0, show (1 : Nat) ≤ 1000000000000000 by omega, hch⟩
    · have : j = 0 ∨ j = 1 ∨ j = 2 := by simp [aT] at hj; omega
      rcases this with rfl | rfl | rfl
      · exact ⟨ht4.cell 0, ht4.cell 1⟩
      · exact ⟨ht4.cell 2, ht4.cell 3⟩
      · exact ⟨ht4.cell 4, ht4.cell 5⟩
  have hG4 : GlobW w4 := HG.out.ext (HX1.out.trans hX4)
  have hlay : Calls Tryz.prog 8 #[.agg #[.int .i64 1, .int .i64 1, .int .i64 1, .int .i64 1, .int .i64 0, .int .i64 1, .int .u8 0, .int .i64 1, .int .i64 1, .int .u64 0, .slice (some ⟨w1.heap.size + 1, 0, none⟩) 1 1, .slice (some ⟨w1.heap.size + 1 + 1, 0, none⟩) 3 3]] w4 fun e w' => LayR aC aP aT e w' ∧ Ext w4 w' :=
    lay_any 1 3 aC (by decide) (by decide) (by decide) (by decide) hscr hG4
  have HSC := hide hscr
  have HX4 := hide (HX1.out.trans hX4)
  clear hch ho4 hs4 ht4 hscr hG4 hX4
  refine hlay.mono ?_
  rintro e w5 ⟨hlr, hx5⟩
  unfold LayR at hlr
  rcases hlr with ⟨hne, _⟩ | ⟨_, A, c, rfl, hle, hmx, hby⟩
  · exact absurd a_may hne
  · obtain ⟨b, off, rfl, hblt, hcell⟩ := hby.at_ (by rw [a_len]; omega)
    have h77 : w5.cell? ⟨b, off, none⟩ = some (.int .u8 77) := by
      have := hcell 0 (by rw [a_len]; omega)
      have e : (scB aC aP aT)[0]'(by rw [a_len]; omega) = 77 := by
        have := a_head
        rw [List.getElem?_eq_getElem (by rw [a_len]; omega)] at this
        simpa using this
      rw [e] at this
      exact this
    have hrd := read_any hle hmx hby (.inr fun b e => by cases e; exact hblt)
    rw [a_len] at hrd hle ⊢
    have hr5 := hr.ext hx5
    have HX5 := hide hx5
    clear hlay hr hx5 hcell hby
    go_wp2_with fail
    refine hrd.mono ?_
    rintro e w6 ⟨hrr, hx6⟩
    have HX6 := hide hx6
    have h776 := (hx6.oldCell _ _ hblt).trans h77
    have hb6 := Nat.lt_of_lt_of_le hblt hx6.size
    have hr6 := hr5.ext hx6
    clear hrd hx6 hr5 h77
    unfold ReadR at hrr
    rcases hrr with ⟨er, h1, _⟩ | ⟨x, ps, ts, A2, c2, B2, d2, h1, he, hpr, htn⟩
    · rw [read_lay a_may (by decide) (by decide) (by decide) (by decide)] at h1
      cases h1
    · rw [read_lay a_may (by decide) (by decide) (by decide) (by decide)] at h1
      simp only [Except.ok.injEq, Prod.mk.injEq] at h1
      obtain ⟨rfl, rfl, rfl⟩ := h1
      have he2 : e = .returned (.tuple #[.agg #[.int .i64 1, .int .i64 1, .int .i64 1, .int .i64 1, .int .i64 0, .int .i64 1, .int .u8 0, .int .i64 1, .int .i64 1, .int .u64 0, .slice A2 1 c2, .slice B2 3 d2], .int .i64 0]) := he
      subst he2
      have hb7 := Blk.new w6 #[.int .i64 1, .int .i64 1, .int .i64 1, .int .i64 1, .int .i64 0, .int .i64 1, .int .u8 0, .int .i64 1, .int .i64 1, .int .u64 0, .slice A2 1 c2, .slice B2 3 d2] 37
      have hx7 := Ext.alloc w6 (.cells #[.int .i64 1, .int .i64 1, .int .i64 1, .int .i64 1, .int .i64 0, .int .i64 1, .int .u8 0, .int .i64 1, .int .i64 1, .int .u64 0, .slice A2 1 c2, .slice B2 3 d2] 37)
      have hnil := read_any (w := w6.alloc (.cells #[.int .i64 1, .int .i64 1, .int .i64 1, .int .i64 1, .int .i64 0, .int .i64 1, .int .u8 0, .int .i64 1, .int .i64 1, .int .u64 0, .slice A2 1 c2, .slice B2 3 d2] 37)) (A := none) (c := 0) (l := []) (Nat.le_refl _) (by unfold maxLen; omega) (.inl rfl) (.inl rfl)
      have HSC2 := hide (show Scr w6 A2 B2 aP aT from ⟨hpr, htn, by decide, by decide⟩)
      have hr7 := hr6.ext hx7
      have h777 := (hx7.oldCell _ _ hb6).trans h776
      have HX7 := hide hx7
      clear he hpr htn hr6 h776
      go_wp2_with fail
      refine hnil.mono ?_
      rintro e w8 ⟨hrr, hx8⟩
      have hb8 := hb7.ext hx8
      have hr8 := hr7.ext hx8
      have h778 := (hx8.oldCell _ _ (Nat.lt_of_lt_of_le hb6 HX7.out.size)).trans h777
      have HX8 := hide hx8
      clear hnil hx8 hb7 hr7 h777
      unfold ReadR at hrr
      rcases hrr with ⟨er, h1, _, rfl⟩ | ⟨x, ps, ts, A3, c3, B3, d3, h1, _⟩
      · have h1 : (Except.error 4 : Except Int (Cf × List (List Op3) × List Tr)) = .error er := h1
        cases h1
        have xz := Ext.alloc w8 (.cells #[.int .i64 0, .int .i64 0, .int .i64 0, .int .i64 0, .int .i64 0, .int .i64 0, .int .u8 0, .int .i64 0, .int .i64 0, .int .u64 0, .slice none 0 0, .slice none 0 0] 37)
        have q1 := (hr8.ext xz).cell
        have q4 := (hb8.ext xz).cell
        have q7 := (xz.oldCell _ _ (Nat.lt_of_lt_of_le (Nat.lt_of_lt_of_le hb6 HX7.out.size) HX8.out.size)).trans h778
        have hXX := ((HX7.out.trans HX8.out).trans xz)
        have hsm := same_any 1 3 c2 d2 aC aC (HSC.out.ext ((HX5.out.trans HX6.out).trans hXX)) (HSC2.out.ext hXX)
        have hsm2 : Calls Tryz.prog 13 #[.agg #[.int .i64 1, .int .i64 1, .int .i64 1, .int .i64 1, .int .i64 0, .int .i64 1, .int .u8 0, .int .i64 1, .int .i64 1, .int .u64 0, .slice (some ⟨w1.heap.size + 1, 0, none⟩) 1 1, .slice (some ⟨w1.heap.size + 1 + 1, 0, none⟩) 3 3], .agg #[.int .i64 1, .int .i64 1, .int .i64 1, .int .i64 1, .int .i64 0, .int .i64 1, .int .u8 0, .int .i64 1, .int .i64 1, .int .u64 0, .slice A2 1 c2, .slice B2 3 d2]] (w8.alloc (.cells #[.int .i64 0, .int .i64 0, .int .i64 0, .int .i64 0, .int .i64 0, .int .i64 0, .int .u8 0, .int .i64 0, .int .i64 0, .int .u64 0, .slice none 0 0, .slice none 0 0] 37)) fun e w' => e = .returned (.bool true) ∧ Ext (w8.alloc (.cells #[.int .i64 0, .int .i64 0, .int .i64 0, .int .i64 0, .int .i64 0, .int .i64 0, .int .u8 0, .int .i64 0, .int .i64 0, .int .u64 0, .slice none 0 0, .slice none 0 0] 37)) w' :=
          hsm.mono (fun e w' ⟨h1, h2⟩ => ⟨by rw [h1]; simp, h2⟩)
        have HXX := hide (((HX4.out.trans HX5.out).trans HX6.out).trans hXX)
        clear hsm hXX xz hr8 hb8 h778
        go_wp2_with fail
        refine hsm2.mono ?_
        rintro e w9 ⟨rfl, hx9⟩
        go_wp2_with fail
        go_ret
        exact ⟨by simp, HXX.out.trans hx9⟩
      · cases h1
end Go.Proofs.YtlgomkocalieeaaGreatDoor

namespace Go.Proofs.YtlgomkocalieeaaGreatDoor
open Go.RowKit
set_option linter.unusedSimpArgs false
set_option linter.unusedVariables false
set_option maxRecDepth 100000
set_option maxHeartbeats 8000000

theorem conv_by {w : World} {A : Option Addr} {l : List UInt8} (c : Nat) (h : By w A l) : Sem.run Tryz.prog (convert 31 9 (.slice A l.length c)) w = .ok (Value.string ⟨List.toArray (l)⟩) w := by
  rcases h with h | ⟨b, off, rfl, h2, h3⟩
  · obtain rfl := List.eq_nil_of_length_eq_zero h
    rw [show ([] : List UInt8).length = 0 from rfl]
    cases A with
    | none => exact run_convert_bytes_nil (P := Tryz.prog) (w := w) 31 5 Tryz.underlying31 Tryz.underlying5 0 c 9 Tryz.underlying9
    | some a => exact run_convert_bytes_back (P := Tryz.prog) w 31 9 5 a c [] Tryz.underlying31 Tryz.underlying5 Tryz.underlying9 (fun j hj => by simp at hj)
  · exact run_convert_bytes_back (P := Tryz.prog) w 31 9 5 ⟨b, off, none⟩ c l Tryz.underlying31 Tryz.underlying5 Tryz.underlying9 (fun j hj => by rw [Addr.add_mid]; exact h3 j hj)
def zC : Cf := ⟨0, 0, 0, 0, 0, 0, 0, 0, 0, 0⟩
theorem once_any {w : World} {A : Option Addr} {c : Nat} {l : List UInt8} (hc : l.length ≤ c) (hcm : c ≤ maxLen) (h : By w A l) (hA : l.length = 0 ∨ ∀ b, A = some b → b.block < w.heap.size) (hG : GlobW w) :
    Calls Tryz.prog 5 #[.slice A l.length c] w fun e w' => e = .returned (.bool true) ∧ Ext w w' := by
  have HG := hide hG
  by_cases hl : 3000 < l.length
  · have hli : (3000 : Int) < (l.length : Int) := by omega
    have hal := alive_any w hG
    clear h hG hA
    go_enter Tryz.func5, Tryz.ntmps5
    go_wp2_with fail
    refine hal.mono ?_
    rintro e w1 ⟨rfl, hx⟩
    go_wp2_with fail
    go_ret
    exact ⟨by simp, hx⟩
  · have hli : ¬ (3000 : Int) < (l.length : Int) := by omega
    have hrd := read_any hc hcm h hA
    have HBY := hide h
    clear h hG hA
    go_enter Tryz.func5, Tryz.ntmps5
    go_wp2_with fail
    refine hrd.mono ?_
    rintro e w1 ⟨hr, hx1⟩
    have HX1 := hide hx1
    clear hrd hx1
    unfold ReadR at hr
    rcases hr with ⟨er, h1, hne, rfl⟩ | ⟨x, ps, ts, A2, c2, B2, d2, h1, rfl, hpr, htn⟩
    · have hxz := Ext.alloc w1 (.cells #[.int .i64 0, .int .i64 0, .int .i64 0, .int .i64 0, .int .i64 0, .int .i64 0, .int .u8 0, .int .i64 0, .int .i64 0, .int .u64 0, .slice none 0 0, .slice none 0 0] 37)
      have hb := (Blk.new w1 #[.int .i64 0, .int .i64 0, .int .i64 0, .int .i64 0, .int .i64 0, .int .i64 0, .int .u8 0, .int .i64 0, .int .i64 0, .int .u64 0, .slice none 0 0, .slice none 0 0] 37).cell
      have hz : Scr (w1.alloc (.cells #[.int .i64 0, .int .i64 0, .int .i64 0, .int .i64 0, .int .i64 0, .int .i64 0, .int .u8 0, .int .i64 0, .int .i64 0, .int .u64 0, .slice none 0 0, .slice none 0 0] 37)) none none [] [] := ⟨.inl rfl, .inl rfl, by simp, by simp⟩
      have hs : Calls Tryz.prog 13 #[.agg #[.int .i64 0, .int .i64 0, .int .i64 0, .int .i64 0, .int .i64 0, .int .i64 0, .int .u8 0, .int .i64 0, .int .i64 0, .int .u64 0, .slice none 0 0, .slice none 0 0], .agg #[.int .i64 0, .int .i64 0, .int .i64 0, .int .i64 0, .int .i64 0, .int .i64 0, .int .u8 0, .int .i64 0, .int .i64 0, .int .u64 0, .slice none 0 0, .slice none 0 0]] (w1.alloc (.cells #[.int .i64 0, .int .i64 0, .int .i64 0, .int .i64 0, .int .i64 0, .int .i64 0, .int .u8 0, .int .i64 0, .int .i64 0, .int .u64 0, .slice none 0 0, .slice none 0 0] 37)) fun e w' => e = .returned (.bool true) ∧ Ext (w1.alloc (.cells #[.int .i64 0, .int .i64 0, .int .i64 0, .int .i64 0, .int .i64 0, .int .i64 0, .int .u8 0, .int .i64 0, .int .i64 0, .int .u64 0, .slice none 0 0, .slice none 0 0] 37)) w' :=
        (same_any 0 0 0 0 zC zC hz hz).mono (fun e w' ⟨q1, q2⟩ => ⟨by rw [q1]; simp, q2⟩)
      have HXZ := hide hxz
      clear hz hxz h1
      go_wp2_with fail
      refine hs.mono ?_
      rintro e w2 ⟨rfl, hx2⟩
      have hal := alive_any w2 (HG.out.ext ((HX1.out.trans HXZ.out).trans hx2))
      have HX2 := hide hx2
      clear hs hx2 hb
      go_wp2_with fail
      refine hal.mono ?_
      rintro e w3 ⟨rfl, hx3⟩
      go_wp2_with fail
      go_ret
      exact ⟨by simp, ((HX1.out.trans HXZ.out).trans HX2.out).trans hx3⟩
    · obtain ⟨m1, m2, ⟨b0, b1⟩, ⟨d0, d1⟩⟩ := lay_read h1
      have hxz := Ext.alloc w1 (.cells #[.int .i64 x.t, .int .i64 x.o, .int .i64 x.c, .int .i64 x.s, .int .i64 x.p, .int .i64 x.n, .int .u8 x.b, .int .i64 x.r, .int .i64 x.v, .int .u64 x.d, .slice A2 ps.length c2, .slice B2 ts.length d2] 37)
      have hbk := Blk.new w1 #[.int .i64 x.t, .int .i64 x.o, .int .i64 x.c, .int .i64 x.s, .int .i64 x.p, .int .i64 x.n, .int .u8 x.b, .int .i64 x.r, .int .i64 x.v, .int .u64 x.d, .slice A2 ps.length c2, .slice B2 ts.length d2] 37
      have hok := may_ok m1
      have hsc : Scr (w1.alloc (.cells #[.int .i64 x.t, .int .i64 x.o, .int .i64 x.c, .int .i64 x.s, .int .i64 x.p, .int .i64 x.n, .int .u8 x.b, .int .i64 x.r, .int .i64 x.v, .int .u64 x.d, .slice A2 ps.length c2, .slice B2 ts.length d2] 37)) A2 B2 ps ts := ⟨hpr.ext hxz, htn.ext hxz, by have := may_n hok.c; have := hok.n; omega, by have := hok.t; omega⟩
      have hlay := lay_any c2 d2 x b0 b1 d0 d1 hsc (HG.out.ext (HX1.out.trans hxz))
      have hq := hbk.cell
      have HSC := hide hsc
      have HXZ := hide hxz
      have HM2 := hide m2
      have HM1 := hide m1
      clear hpr htn hsc hxz hok m2 h1 m1
      go_wp2_with fail
      refine hlay.mono ?_
      rintro e w2 ⟨hlr, hx2⟩
      have hbk2 := hbk.ext hx2
      have HX2 := hide hx2
      clear hlay hx2 hbk hq
      unfold LayR at hlr
      rcases hlr with ⟨hne, _⟩ | ⟨_, A3, c3, rfl, hle3, hmx3, hby3⟩
      · exact absurd HM1.out hne
      · rw [HM2.out] at hby3 hle3 ⊢
        have hcv1 := fun w' (x : Ext w2 w') => conv_by c3 (hby3.ext x)
        have hcv2 := fun w' (x : Ext w2 w') => conv_by c (HBY.out.ext (((HX1.out.trans HXZ.out).trans HX2.out).trans x))
        have v1 := hcv1 w2 (Ext.refl _)
        have v2 := hcv2 w2 (Ext.refl _)
        have hq := hbk2.cell
        have hmay := smay_any c2 d2 x d0 d1 (HSC.out.ext HX2.out) (HG.out.ext ((HX1.out.trans HXZ.out).trans HX2.out))
        rw [HM1.out] at hmay
        clear hcv1 hcv2
        go_wp2_with fail
        refine hmay.mono ?_
        rintro e w3 ⟨rfl, hx3⟩
        have hal := alive_any w3 (HG.out.ext (((HX1.out.trans HXZ.out).trans HX2.out).trans hx3))
        have HX3 := hide hx3
        clear hmay hx3 hq v1 v2
        go_wp2_with fail
        refine hal.mono ?_
        rintro e w4 ⟨rfl, hx4⟩
        go_wp2_with fail
        go_ret
        exact ⟨by simp, (((HX1.out.trans HXZ.out).trans HX2.out).trans HX3.out).trans hx4⟩
end Go.Proofs.YtlgomkocalieeaaGreatDoor
