/- The document's scripts as the program's; too many. -/
import Derived.Test.YtlgomkocalieeaaGreatDoorSS
import Derived.Test.YtlgomkocalieeaaGreatDoorET
import Derived.Laws.BytesString
import Derived.Laws.BytesArg
import Derived.Test.YtlgomkocalieeaaGreatDoorHeld
import Derived.OrdersHeld
namespace Go.Proofs.YtlgomkocalieeaaGreatDoor
open Go.RowKit
set_option linter.unusedSimpArgs false
set_option linter.unusedVariables false
set_option maxRecDepth 100000
set_option maxHeartbeats 8000000

def FarR (ps : List (List Op3)) (ts : List Tr) (e : Ending) : Prop := ∃ b, e = .returned (.bool b) ∧ (b = false → ps.length ≤ 100 ∧ ts.length ≤ 10000)
theorem far_any {w : World} {A B : Option Addr} {ps : List (List Op3)} {ts : List Tr} (c d : Nat) (x : Cf) (h : Scr w A B ps ts) (hc : ps.length ≤ c) :
    Calls Tryz.prog 6 #[.agg #[.int .i64 x.t, .int .i64 x.o, .int .i64 x.c, .int .i64 x.s, .int .i64 x.p, .int .i64 x.n, .int .u8 x.b, .int .i64 x.r, .int .i64 x.v, .int .u64 x.d, .slice A ps.length c, .slice B ts.length d]] w fun e w' => FarR ps ts e ∧ Ext w w' := by
  have hX0 := Ext.alloc w (.cells #[.int .i64 x.t, .int .i64 x.o, .int .i64 x.c, .int .i64 x.s, .int .i64 x.p, .int .i64 x.n, .int .u8 x.b, .int .i64 x.r, .int .i64 x.v, .int .u64 x.d, .slice A ps.length c, .slice B ts.length d] 28)
  have hb := Blk.new w #[.int .i64 x.t, .int .i64 x.o, .int .i64 x.c, .int .i64 x.s, .int .i64 x.p, .int .i64 x.n, .int .u8 x.b, .int .i64 x.r, .int .i64 x.v, .int .u64 x.d, .slice A ps.length c, .slice B ts.length d] 28
  have H := hide (h.ext hX0).p
  have HL := hide (And.intro h.pl h.tl)
  have HX := hide hX0
  have q := hb.rule
  have HB := hide hb
  clear h hX0 hb
  by_cases h20 : 20 < ps.length
  · have h20' : (20 : Int) < (ps.length : Int) := by omega
    go_enter Tryz.func6, Tryz.ntmps6
    go_wp2_with fail
    generalize w.alloc (.cells #[.int .i64 x.t, .int .i64 x.o, .int .i64 x.c, .int .i64 x.s, .int .i64 x.p, .int .i64 x.n, .int .u8 x.b, .int .i64 x.r, .int .i64 x.v, .int .u64 x.d, .slice A ps.length c, .slice B ts.length d] 28) = W0 at *
    go_loopw [3, 14] (fun v i wr => ∃ j n : Nat, j ≤ 20 ∧ n ≤ 200 * j ∧ v = .int .i64 (n : Int) ∧ i = .int .i64 (j : Int) ∧ Ext W0 wr) (fun _ i _ => 20 - (intOf i).toNat)
    case atStart => exact ⟨0, 0, by omega, by omega, rfl, rfl, Ext.refl _⟩
    case round =>
      obtain ⟨j, n, hj, hn, rfl, rfl, hk⟩ := hrel
      have hcb := fun i => q wr hk i
      by_cases hlt : j < 20
      · have hlI : (j : Int) < (20 : Int) := by omega
        obtain ⟨b1, o1, A', c', rfl, hb1, r1, hch0, hch⟩ := (H.out.ext hk).at_ (show j < ps.length by omega)
        clear hch
        generalize ps[j]'(show j < ps.length by omega) = y at *
        have hm2 : min (y.length : Int) 200 = ((min y.length 200 : Nat) : Int) := by omega
        have hm3 : min y.length 200 ≤ 200 := Nat.min_le_right _ _
        go_wp2_with fail
        go_roundw
        case rel => exact ⟨j + 1, n + min y.length 200, by omega, by omega, by go_num, by go_num, hk⟩
        case measure => simp [intOf]; omega
      · obtain rfl : j = 20 := by omega
        have hlI : ¬ (20 : Int) < (20 : Int) := by omega
        go_wp2_with fail
        all_goals (go_ret; exact ⟨⟨_, rfl, fun hb => by first | exact absurd hb (by decide) | omega | (simp at hb; omega)⟩, HX.out.trans hk⟩)
  · have h20' : ¬ (20 : Int) < (ps.length : Int) := by omega
    go_enter Tryz.func6, Tryz.ntmps6
    go_wp2_with fail
    generalize w.alloc (.cells #[.int .i64 x.t, .int .i64 x.o, .int .i64 x.c, .int .i64 x.s, .int .i64 x.p, .int .i64 x.n, .int .u8 x.b, .int .i64 x.r, .int .i64 x.v, .int .u64 x.d, .slice A ps.length c, .slice B ts.length d] 28) = W0 at *
    go_loopw [3, 14] (fun v i wr => ∃ j n : Nat, j ≤ ps.length ∧ n ≤ 200 * j ∧ v = .int .i64 (n : Int) ∧ i = .int .i64 (j : Int) ∧ Ext W0 wr) (fun _ i _ => ps.length - (intOf i).toNat)
    case atStart => exact ⟨0, 0, by omega, by omega, rfl, rfl, Ext.refl _⟩
    case round =>
      obtain ⟨j, n, hj, hn, rfl, rfl, hk⟩ := hrel
      have hcb := fun i => q wr hk i
      by_cases hlt : j < ps.length
      · have hlI : (j : Int) < (ps.length : Int) := by omega
        obtain ⟨b1, o1, A', c', rfl, hb1, r1, hch0, hch⟩ := (H.out.ext hk).at_ (show j < ps.length by omega)
        clear hch
        generalize ps[j]'(show j < ps.length by omega) = y at *
        have hm2 : min (y.length : Int) 200 = ((min y.length 200 : Nat) : Int) := by omega
        have hm3 : min y.length 200 ≤ 200 := Nat.min_le_right _ _
        go_wp2_with fail
        go_roundw
        case rel => exact ⟨j + 1, n + min y.length 200, by omega, by omega, by go_num, by go_num, hk⟩
        case measure => simp [intOf]; omega
      · obtain rfl : j = ps.length := by omega
        have hlI : ¬ (ps.length : Int) < (ps.length : Int) := by omega
        go_wp2_with fail
        all_goals (go_ret; exact ⟨⟨_, rfl, fun hb => by first | exact absurd hb (by decide) | omega | (simp at hb; omega)⟩, HX.out.trans hk⟩)
end Go.Proofs.YtlgomkocalieeaaGreatDoor

namespace Go.Proofs.YtlgomkocalieeaaGreatDoor
open Go.RowKit
set_option linter.unusedSimpArgs false
set_option linter.unusedVariables false
set_option maxRecDepth 100000
set_option maxHeartbeats 8000000

def TheirR (x : Cf) (A : Option Addr) (ps : List (List Op3)) (c : Nat) (ts : List Tr) (e : Ending) (w' : World) : Prop :=
  ∃ B d, e = .returned (.agg #[.int .i64 x.t, .int .i64 x.o, .int .i64 x.c, .int .i64 x.s, .int .i64 x.p, .int .i64 x.n, .int .u8 x.b, .int .i64 x.r, .int .i64 x.v, .int .u64 x.d, .slice A ps.length c, .slice B ts.length d]) ∧ Scr w' A B ps ts
theorem theirs_any {w : World} {A B : Option Addr} {ps : List (List Op3)} {ts : List Tr} (c d : Nat) (x : Cf) (h : Scr w A B ps ts) (ht4 : ts.length ≤ 10000) :
    Calls Tryz.prog 9 #[.agg #[.int .i64 x.t, .int .i64 x.o, .int .i64 x.c, .int .i64 x.s, .int .i64 x.p, .int .i64 x.n, .int .u8 x.b, .int .i64 x.r, .int .i64 x.v, .int .u64 x.d, .slice A ps.length c, .slice B ts.length d]] w fun e w' => TheirR x A ps c ts e w' ∧ Ext w w' := by
  have H := hide h
  have hX0 := Ext.alloc w (.cells #[.int .i64 x.t, .int .i64 x.o, .int .i64 x.c, .int .i64 x.s, .int .i64 x.p, .int .i64 x.n, .int .u8 x.b, .int .i64 x.r, .int .i64 x.v, .int .u64 x.d, .slice A ps.length c, .slice B ts.length d] 28)
  have hb := Blk.new w #[.int .i64 x.t, .int .i64 x.o, .int .i64 x.c, .int .i64 x.s, .int .i64 x.p, .int .i64 x.n, .int .u8 x.b, .int .i64 x.r, .int .i64 x.v, .int .u64 x.d, .slice A ps.length c, .slice B ts.length d] 28
  have HX := hide hX0
  have q := hb.rule
  have HB := hide hb
  obtain ⟨w1, hw1⟩ : ∃ w1, w1 = w.alloc (.cells #[.int .i64 x.t, .int .i64 x.o, .int .i64 x.c, .int .i64 x.s, .int .i64 x.p, .int .i64 x.n, .int .u8 x.b, .int .i64 x.r, .int .i64 x.v, .int .u64 x.d, .slice A ps.length c, .slice B ts.length d] 28) := ⟨_, rfl⟩
  have hX2 := Ext.alloc w1 (.cells #[.int .i64 0, .int .i64 0, .int .i64 0, .int .i64 0, .int .i64 0, .int .i64 0, .int .u8 0, .int .i64 0, .int .i64 0, .int .u64 0, .slice none 0 0, .slice none 0 0] 37)
  have hX3 := Ext.alloc (w1.alloc (.cells #[.int .i64 0, .int .i64 0, .int .i64 0, .int .i64 0, .int .i64 0, .int .i64 0, .int .u8 0, .int .i64 0, .int .i64 0, .int .u64 0, .slice none 0 0, .slice none 0 0] 37)) (.cells #[.int .i64 x.t, .int .i64 x.o, .int .i64 x.c, .int .i64 x.s, .int .i64 x.p, .int .i64 x.n, .int .u8 x.b, .int .i64 x.r, .int .i64 x.v, .int .u64 x.d, .slice A ps.length c, .slice none 0 0] 37)
  have hs1 : w1.heap.size = w.heap.size + 1 := by rw [hw1]; simp
  have hR := (Blk.new w1 #[.int .i64 0, .int .i64 0, .int .i64 0, .int .i64 0, .int .i64 0, .int .i64 0, .int .u8 0, .int .i64 0, .int .i64 0, .int .u64 0, .slice none 0 0, .slice none 0 0] 37).ext hX3
  have hXB := Blk.new (w1.alloc (.cells #[.int .i64 0, .int .i64 0, .int .i64 0, .int .i64 0, .int .i64 0, .int .i64 0, .int .u8 0, .int .i64 0, .int .i64 0, .int .u64 0, .slice none 0 0, .slice none 0 0] 37)) #[.int .i64 x.t, .int .i64 x.o, .int .i64 x.c, .int .i64 x.s, .int .i64 x.p, .int .i64 x.n, .int .u8 x.b, .int .i64 x.r, .int .i64 x.v, .int .u64 x.d, .slice A ps.length c, .slice none 0 0] 37
  rw [World.size_alloc, hs1] at hXB
  rw [hs1] at hR
  rw [← hw1] at hb
  have hB3 := (hb.ext hX2).ext hX3
  have hXA := (show Ext w w1 by rw [hw1]; exact hX0).trans (hX2.trans hX3)
  subst hw1
  have HXA := hide hXA
  have HB3 := hide hB3
  have HR := hide hR
  have HXB := hide hXB
  have HT := hide (H.out.ext hXA).t
  have HP := hide (H.out.ext hXA).p
  have hpl := H.out.pl
  have htl := H.out.tl
  clear h hX0 hb hX2 hX3 hs1 hR hXB hB3 hXA
  go_enter Tryz.func9, Tryz.ntmps9
  go_wp2_with fail
  clear q
  generalize ((w.alloc (.cells #[.int .i64 x.t, .int .i64 x.o, .int .i64 x.c, .int .i64 x.s, .int .i64 x.p, .int .i64 x.n, .int .u8 x.b, .int .i64 x.r, .int .i64 x.v, .int .u64 x.d, .slice A ps.length c, .slice B ts.length d] 28)).alloc (.cells #[.int .i64 0, .int .i64 0, .int .i64 0, .int .i64 0, .int .i64 0, .int .i64 0, .int .u8 0, .int .i64 0, .int .i64 0, .int .u64 0, .slice none 0 0, .slice none 0 0] 37)).alloc (.cells #[.int .i64 x.t, .int .i64 x.o, .int .i64 x.c, .int .i64 x.s, .int .i64 x.p, .int .i64 x.n, .int .u8 x.b, .int .i64 x.r, .int .i64 x.v, .int .u64 x.d, .slice A ps.length c, .slice none 0 0] 37) = W0 at *
  go_loopw [14] (fun i wr => ∃ (j : Nat) (v : Value), j ≤ ts.length ∧ i = .int .i64 (j : Int) ∧ wr.ownsRow w.heap.size 55 2 v j (tcells (ts.take j)) ∧ Blk wr (w.heap.size + 1 + 1) #[.int .i64 x.t, .int .i64 x.o, .int .i64 x.c, .int .i64 x.s, .int .i64 x.p, .int .i64 x.n, .int .u8 x.b, .int .i64 x.r, .int .i64 x.v, .int .u64 x.d, .slice A ps.length c, v] 37 ∧ Blk wr (w.heap.size + 1) #[.int .i64 0, .int .i64 0, .int .i64 0, .int .i64 0, .int .i64 0, .int .i64 0, .int .u8 0, .int .i64 0, .int .i64 0, .int .u64 0, .slice none 0 0, .slice none 0 0] 37 ∧ Kp [55, 37] w.heap.size W0 wr) (fun i _ => ts.length - (intOf i).toNat)
  case atStart => exact ⟨0, _, by omega, rfl, by simpa [tcells] using own_nil _ _ _ _, HXB.out, HR.out, Kp.refl _ _ _⟩
  case round =>
    obtain ⟨j, v, hj, rfl, hown, hx, hr, hk⟩ := hrel
    have hs := hk.size
    obtain ⟨A1, c1, rfl⟩ := own_sl hown
    have HO1 := hide hown
    have HX1 := hide hx
    have HR1 := hide hr
    have HK1 := hide hk
    have hx0 := hk.ext HXA.out (Nat.le_refl _)
    have HT1 := hide (H.out.ext hx0).t
    have qx := hx.cell
    clear hown hr hk hx0 hx
    by_cases hlt : j < ts.length
    · have hltI : (j : Int) < (ts.length : Int) := by omega
      obtain ⟨b1, o1, rfl, hb1, r1, r2⟩ := HT1.out.at_ hlt
      have htk : ts.take (j + 1) = ts.take j ++ [ts[j]] := (List.take_append_getElem hlt).symm
      have HTK := hide htk
      clear htk
      generalize ts[j] = y at *
      have xr := Ext.alloc wr (.cells #[.int .i64 y.1, .int .i64 y.2] 59)
      have HO2 := hide (own_ext HO1.out xr)
      have HX2 := hide (HX1.out.ext xr)
      have HR2 := hide (HR1.out.ext xr)
      have hs2 : w.heap.size ≤ (wr.alloc (.cells #[.int .i64 y.1, .int .i64 y.2] 59)).heap.size := by
        have := HXA.out.size
        rw [World.size_alloc]; omega
      have HK2 := hide (HK1.out.trans (Ext.kp (w := wr) (ts := [55, 37]) xr w.heap.size))
      have qr := HX2.out.cell
      clear xr
      go_wp2_with (at_builtin; refine wpList_app3 (base := w.heap.size) rfl rfl Tryz.underlying35 inf_turn rfl (by omega) rfl HO2.out hs2 rfl (by rw [World.size_alloc]) rfl (by simp [Value.oneCell']) (by unfold maxLen; omega) (by omega) ?_; intro v' w4 hown' hg4 hk4; have xa := Ext.alloc (wr.alloc (.cells #[.int .i64 y.1, .int .i64 y.2] 59)) (.cells #[.int .i64 y.1, .int .i64 y.2] 55); have hg5 : ((wr.alloc (.cells #[.int .i64 y.1, .int .i64 y.2] 59)).alloc (.cells #[.int .i64 y.1, .int .i64 y.2] 55)).grownBy w4 (Value.slice A1 j c1).ownBlock := hg4; have k4 := Kp.grow (ts := [55]) hg5 (own_ext HO2.out xa) (by simp); have hx4 := k4.blk (HX2.out.ext xa) (by decide); have hr4 := k4.blk (HR2.out.ext xa) (by decide); have f4 := hx4.free 11; have q4 := hx4.cell; have HX4 := hide hx4; have HR4 := hide hr4; have HK4 := hide ((HK2.out.trans (Ext.kp (ts := [55, 37]) xa w.heap.size)).trans (k4.mono (by simp))); obtain ⟨A5, c5, rfl⟩ := own_sl hown'; clear hg4 hg5 hk4 k4 xa hx4 hr4; go_frame)
      clear qr
      go_roundw
      case rel => exact ⟨j + 1, _, by omega, by go_num, by rw [HTK.out, tcells_app]; exact (Kp.cell HX4.out (by omega) (by simp) : Kp [37] w.heap.size w4 _).own hown' (by decide), HX4.out.set 11 _, HR4.out.far (by simp) _, HK4.out.trans (Kp.cell HX4.out (by omega) (by simp))⟩
      case measure => simp [intOf]; omega
    · obtain rfl : j = ts.length := by omega
      have hltI : ¬ (ts.length : Int) < (ts.length : Int) := by omega
      have qr := HR1.out.cell
      have fr := HR1.out.free
      go_wp2_with (with_reducible refine wpList_rput 37 rfl _ _ rfl (w.heap.size + 1) #[.int .i64 x.t, .int .i64 x.o, .int .i64 x.c, .int .i64 x.s, .int .i64 x.p, .int .i64 x.n, .int .u8 x.b, .int .i64 x.r, .int .i64 x.v, .int .u64 x.d, .slice A ps.length c, .slice A1 ts.length c1] rfl rfl _ HR1.out (inf_scr _ rfl) rfl (by simp [Value.oneCell']) ?_; intro w9 hb9 hc9 hs9; go_frame)
      refine bodyPost_ret (results_cell_row Tryz.results9 _ _ (w.heap.size + 1) 37 _ _ _ rfl hb9 Tryz.underlying37 rfl (inf_scr _ rfl)) rfl ?_
      have hk9 : Kp [37] w.heap.size wr w9 := hc9.kp (fun k hk => by rw [List.mem_singleton.1 hk]; exact ⟨by omega, fun _ => ⟨_, _, HR1.out, by simp⟩⟩)
      have hx9 : Ext w w9 := (HK1.out.trans (hk9.mono (by simp))).ext HXA.out (Nat.le_refl _)
      obtain ⟨B2, d2, e2, htn⟩ := Tn.of_own (hk9.own HO1.out (by decide))
      rw [List.take_length] at e2 htn
      cases e2
      exact ⟨⟨_, _, rfl, H.out.p.ext hx9, htn, hpl, htl⟩, hx9⟩
end Go.Proofs.YtlgomkocalieeaaGreatDoor

namespace Go.Proofs.YtlgomkocalieeaaGreatDoor
open Go.RowKit
set_option linter.unusedSimpArgs false
set_option linter.unusedVariables false
set_option maxRecDepth 100000
set_option maxHeartbeats 8000000

def aC : Cf := ⟨1, 1, 1, 1, 0, 1, 0, 1, 1, 0⟩
def aP : List (List Op3) := [[(1, 0, 0)]]
def aT : List Tr := [(1, 0), (2, 5), (3, 0)]
theorem a_may : mayS aC aP aT = 0 := by decide
theorem a_len : (scB aC aP aT).length = 26 := by decide
theorem a_head : (scB aC aP aT)[0]? = some 77 := by decide
theorem config0 (w : World) : Calls Tryz.prog 16 #[.agg #[.int .u8 0, .int .u8 0, .int .u8 0, .int .u8 0, .int .u8 0, .int .u8 0, .int .u8 0, .int .u8 0, .int .u64 0]] w fun e w' => e = .returned (.agg #[.int .i64 1, .int .i64 1, .int .i64 1, .int .i64 1, .int .i64 0, .int .i64 1, .int .u8 0, .int .i64 1, .int .i64 1, .int .u64 0]) ∧ Ext w w' := by
  have hw : ∀ i, (((w.alloc (Obj.cells #[.int .u8 0, .int .u8 0, .int .u8 0, .int .u8 0, .int .u8 0, .int .u8 0, .int .u8 0, .int .u8 0, .int .u64 0] 51)).alloc (Obj.cells #[.int .i64 1, .int .i64 1, .int .i64 1, .int .i64 1, .int .i64 0, .int .i64 1, .int .u8 0, .int .i64 1, .int .i64 1, .int .u64 0] 24)).alloc (Obj.cells #[.int .i64 1, .int .i64 1, .int .i64 1, .int .i64 1, .int .i64 0, .int .i64 1, .int .u8 0, .int .i64 1, .int .i64 1, .int .u64 0] 24)).cell? ⟨w.heap.size + 1, i, none⟩ = (#[.int .i64 1, .int .i64 1, .int .i64 1, .int .i64 1, .int .i64 0, .int .i64 1, .int .u8 0, .int .i64 1, .int .i64 1, .int .u64 0] : Array Value)[i]? := fun i => by
    have := ((Blk.new (w.alloc (Obj.cells #[.int .u8 0, .int .u8 0, .int .u8 0, .int .u8 0, .int .u8 0, .int .u8 0, .int .u8 0, .int .u8 0, .int .u64 0] 51)) #[.int .i64 1, .int .i64 1, .int .i64 1, .int .i64 1, .int .i64 0, .int .i64 1, .int .u8 0, .int .i64 1, .int .i64 1, .int .u64 0] 24).ext (Ext.alloc _ (Obj.cells #[.int .i64 1, .int .i64 1, .int .i64 1, .int .i64 1, .int .i64 0, .int .i64 1, .int .u8 0, .int .i64 1, .int .i64 1, .int .u64 0] 24))).cell i
    simpa using this
  have z0 := hw 0
  have z1 := hw 1
  have z2 := hw 2
  have z3 := hw 3
  have z4 := hw 4
  have z5 := hw 5
  have z6 := hw 6
  have z7 := hw 7
  have z8 := hw 8
  have z9 := hw 9
  clear hw
  go_enter Tryz.func16, Tryz.ntmps16
  go_wp2
  refine bodyPost_ret (v := .agg #[.int .i64 1, .int .i64 1, .int .i64 1, .int .i64 1, .int .i64 0, .int .i64 1, .int .u8 0, .int .i64 1, .int .i64 1, .int .u64 0]) (by simp [results, Tryz.results16, go_sem]) rfl ⟨rfl, ?_⟩
  exact ((Ext.alloc _ _).trans (Ext.alloc _ _)).trans (Ext.alloc _ _)
theorem alive_any (w : World) (hG : GlobW w) : Calls Tryz.prog 7 #[] w fun e w' => e = .returned (.bool true) ∧ Ext w w' := by
  have HG := hide hG
  have hc := config0 w
  clear hG
  go_enter Tryz.func7, Tryz.ntmps7
  go_wp2_with fail
  refine hc.mono ?_
  rintro e w1 ⟨rfl, hx1⟩
  have HX1 := hide hx1
  have ho := Blk.new w1 #[.int .i64 1, .int .i64 0, .int .i64 0] 53
  have hs := Blk.new (w1.alloc (.cells #[.int .i64 1, .int .i64 0, .int .i64 0] 53)) #[.slice (some ⟨w1.heap.size, 0, none⟩) 1 1] 48
  have ht := Blk.new ((w1.alloc (.cells #[.int .i64 1, .int .i64 0, .int .i64 0] 53)).alloc (.cells #[.slice (some ⟨w1.heap.size, 0, none⟩) 1 1] 48)) #[.int .i64 1, .int .i64 0, .int .i64 2, .int .i64 5, .int .i64 3, .int .i64 0] 55
  have hr := Blk.new (((w1.alloc (.cells #[.int .i64 1, .int .i64 0, .int .i64 0] 53)).alloc (.cells #[.slice (some ⟨w1.heap.size, 0, none⟩) 1 1] 48)).alloc (.cells #[.int .i64 1, .int .i64 0, .int .i64 2, .int .i64 5, .int .i64 3, .int .i64 0] 55)) #[.int .i64 1, .int .i64 1, .int .i64 1, .int .i64 1, .int .i64 0, .int .i64 1, .int .u8 0, .int .i64 1, .int .i64 1, .int .u64 0, .slice (some ⟨w1.heap.size + 1, 0, none⟩) 1 1, .slice (some ⟨w1.heap.size + 1 + 1, 0, none⟩) 3 3] 37
  have x1 := Ext.alloc w1 (.cells #[.int .i64 1, .int .i64 0, .int .i64 0] 53)
  have x2 := Ext.alloc (w1.alloc (.cells #[.int .i64 1, .int .i64 0, .int .i64 0] 53)) (.cells #[.slice (some ⟨w1.heap.size, 0, none⟩) 1 1] 48)
  have x3 := Ext.alloc ((w1.alloc (.cells #[.int .i64 1, .int .i64 0, .int .i64 0] 53)).alloc (.cells #[.slice (some ⟨w1.heap.size, 0, none⟩) 1 1] 48)) (.cells #[.int .i64 1, .int .i64 0, .int .i64 2, .int .i64 5, .int .i64 3, .int .i64 0] 55)
  have x4 := Ext.alloc (((w1.alloc (.cells #[.int .i64 1, .int .i64 0, .int .i64 0] 53)).alloc (.cells #[.slice (some ⟨w1.heap.size, 0, none⟩) 1 1] 48)).alloc (.cells #[.int .i64 1, .int .i64 0, .int .i64 2, .int .i64 5, .int .i64 3, .int .i64 0] 55)) (.cells #[.int .i64 1, .int .i64 1, .int .i64 1, .int .i64 1, .int .i64 0, .int .i64 1, .int .u8 0, .int .i64 1, .int .i64 1, .int .u64 0, .slice (some ⟨w1.heap.size + 1, 0, none⟩) 1 1, .slice (some ⟨w1.heap.size + 1 + 1, 0, none⟩) 3 3] 37)
  simp only [World.size_alloc] at hs ht hr
  have ho4 := (((ho.ext x2).ext x3).ext x4)
  have hs4 := ((hs.ext x3).ext x4)
  have ht4 := ht.ext x4
  have hX4 := ((x1.trans x2).trans x3).trans x4
  clear ho hs ht x1 x2 x3 x4 hc hx1
  go_wp2_with fail
  generalize (((w1.alloc (.cells #[.int .i64 1, .int .i64 0, .int .i64 0] 53)).alloc (.cells #[.slice (some ⟨w1.heap.size, 0, none⟩) 1 1] 48)).alloc (.cells #[.int .i64 1, .int .i64 0, .int .i64 2, .int .i64 5, .int .i64 3, .int .i64 0] 55)).alloc (.cells #[.int .i64 1, .int .i64 1, .int .i64 1, .int .i64 1, .int .i64 0, .int .i64 1, .int .u8 0, .int .i64 1, .int .i64 1, .int .u64 0, .slice (some ⟨w1.heap.size + 1, 0, none⟩) 1 1, .slice (some ⟨w1.heap.size + 1 + 1, 0, none⟩) 3 3] 37) = w4 at *
  have hch : Ch w4 (some ⟨w1.heap.size, 0, none⟩) [(1, 0, 0)] := .inr ⟨w1.heap.size, 0, rfl, ho4.lt, fun j hj => by
    have : j = 0 := by simpa using hj
    subst this
    exact ⟨ho4.cell 0, ho4.cell 1, ho4.cell 2⟩⟩
  have hscr : Scr w4 (some ⟨w1.heap.size + 1, 0, none⟩) (some ⟨w1.heap.size + 1 + 1, 0, none⟩) aP aT := by
    refine ⟨.inr ⟨_, 0, rfl, hs4.lt, fun j hj => ?_⟩, .inr ⟨_, 0, rfl, ht4.lt, fun j hj => ?_⟩, by decide, by decide⟩
    · have : j = 0 := by simpa [aP] using hj
      subst this
      exact ⟨some ⟨w1.heap.size, 0, none⟩, 1, hs4.cell 0, show (1 : Nat) ≤ 9223372036854775807 by omega, hch⟩
    · have : j = 0 ∨ j = 1 ∨ j = 2 := by simp [aT] at hj; omega
      rcases this with rfl | rfl | rfl
      · exact ⟨ht4.cell 0, ht4.cell 1⟩
      · exact ⟨ht4.cell 2, ht4.cell 3⟩
      · exact ⟨ht4.cell 4, ht4.cell 5⟩
  have hG4 : GlobW w4 := HG.out.ext (HX1.out.trans hX4)
  have hlay : Calls Tryz.prog 8 #[.agg #[.int .i64 1, .int .i64 1, .int .i64 1, .int .i64 1, .int .i64 0, .int .i64 1, .int .u8 0, .int .i64 1, .int .i64 1, .int .u64 0, .slice (some ⟨w1.heap.size + 1, 0, none⟩) 1 1, .slice (some ⟨w1.heap.size + 1 + 1, 0, none⟩) 3 3]] w4 fun e w' => LayR aC aP aT e w' ∧ Ext w4 w' :=
    lay_any 1 3 aC (by decide) (by decide) (by decide) (by decide) hscr hG4
  have HSC := hide hscr
  have HX4 := hide (HX1.out.trans hX4)
  clear hch ho4 hs4 ht4 hscr hG4 hX4
  refine hlay.mono ?_
  rintro e w5 ⟨hlr, hx5⟩
  unfold LayR at hlr
  rcases hlr with ⟨hne, _⟩ | ⟨_, A, c, rfl, hle, hmx, hby⟩
  · exact absurd a_may hne
  · obtain ⟨b, off, rfl, hblt, hcell⟩ := hby.at_ (by rw [a_len]; omega)
    have h77 : w5.cell? ⟨b, off, none⟩ = some (.int .u8 77) := by
      have := hcell 0 (by rw [a_len]; omega)
      have e : (scB aC aP aT)[0]'(by rw [a_len]; omega) = 77 := by
        have := a_head
        rw [List.getElem?_eq_getElem (by rw [a_len]; omega)] at this
        simpa using this
      rw [e] at this
      exact this
    have hrd := read_any hle hmx hby (.inr fun b e => by cases e; exact hblt)
    rw [a_len] at hrd hle ⊢
    have hr5 := hr.ext hx5
    have HX5 := hide hx5
    clear hlay hr hx5 hcell hby
    go_wp2_with fail
    refine hrd.mono ?_
    rintro e w6 ⟨hrr, hx6⟩
    have HX6 := hide hx6
    have h776 := (hx6.oldCell _ _ hblt).trans h77
    have hb6 := Nat.lt_of_lt_of_le hblt hx6.size
    have hr6 := hr5.ext hx6
    clear hrd hx6 hr5 h77
    unfold ReadR at hrr
    rcases hrr with ⟨er, h1, _⟩ | ⟨x, ps, ts, A2, c2, B2, d2, h1, he, hpr, htn⟩
    · rw [read_lay a_may (by decide) (by decide) (by decide) (by decide)] at h1
      cases h1
    · rw [read_lay a_may (by decide) (by decide) (by decide) (by decide)] at h1
      simp only [Except.ok.injEq, Prod.mk.injEq] at h1
      obtain ⟨rfl, rfl, rfl⟩ := h1
      have he2 : e = .returned (.tuple #[.agg #[.int .i64 1, .int .i64 1, .int .i64 1, .int .i64 1, .int .i64 0, .int .i64 1, .int .u8 0, .int .i64 1, .int .i64 1, .int .u64 0, .slice A2 1 c2, .slice B2 3 d2], .int .i64 0]) := he
      subst he2
      have hb7 := Blk.new w6 #[.int .i64 1, .int .i64 1, .int .i64 1, .int .i64 1, .int .i64 0, .int .i64 1, .int .u8 0, .int .i64 1, .int .i64 1, .int .u64 0, .slice A2 1 c2, .slice B2 3 d2] 37
      have hx7 := Ext.alloc w6 (.cells #[.int .i64 1, .int .i64 1, .int .i64 1, .int .i64 1, .int .i64 0, .int .i64 1, .int .u8 0, .int .i64 1, .int .i64 1, .int .u64 0, .slice A2 1 c2, .slice B2 3 d2] 37)
      have hnil := read_any (w := w6.alloc (.cells #[.int .i64 1, .int .i64 1, .int .i64 1, .int .i64 1, .int .i64 0, .int .i64 1, .int .u8 0, .int .i64 1, .int .i64 1, .int .u64 0, .slice A2 1 c2, .slice B2 3 d2] 37)) (A := none) (c := 0) (l := []) (Nat.le_refl _) (by unfold maxLen; omega) (.inl rfl) (.inl rfl)
      have HSC2 := hide (show Scr w6 A2 B2 aP aT from ⟨hpr, htn, by decide, by decide⟩)
      have hr7 := hr6.ext hx7
      have h777 := (hx7.oldCell _ _ hb6).trans h776
      have HX7 := hide hx7
      clear he hpr htn hr6 h776
      go_wp2_with fail
      refine hnil.mono ?_
      rintro e w8 ⟨hrr, hx8⟩
      have hb8 := hb7.ext hx8
      have hr8 := hr7.ext hx8
      have h778 := (hx8.oldCell _ _ (Nat.lt_of_lt_of_le hb6 HX7.out.size)).trans h777
      have HX8 := hide hx8
      clear hnil hx8 hb7 hr7 h777
      unfold ReadR at hrr
      rcases hrr with ⟨er, h1, _, rfl⟩ | ⟨x, ps, ts, A3, c3, B3, d3, h1, _⟩
      · have h1 : (Except.error 4 : Except Int (Cf × List (List Op3) × List Tr)) = .error er := h1
        cases h1
        have xz := Ext.alloc w8 (.cells #[.int .i64 0, .int .i64 0, .int .i64 0, .int .i64 0, .int .i64 0, .int .i64 0, .int .u8 0, .int .i64 0, .int .i64 0, .int .u64 0, .slice none 0 0, .slice none 0 0] 37)
        have q1 := (hr8.ext xz).cell
        have q4 := (hb8.ext xz).cell
        have q7 := (xz.oldCell _ _ (Nat.lt_of_lt_of_le (Nat.lt_of_lt_of_le hb6 HX7.out.size) HX8.out.size)).trans h778
        have hXX := ((HX7.out.trans HX8.out).trans xz)
        have hsm := same_any 1 3 c2 d2 aC aC (HSC.out.ext ((HX5.out.trans HX6.out).trans hXX)) (HSC2.out.ext hXX)
        have hsm2 : Calls Tryz.prog 13 #[.agg #[.int .i64 1, .int .i64 1, .int .i64 1, .int .i64 1, .int .i64 0, .int .i64 1, .int .u8 0, .int .i64 1, .int .i64 1, .int .u64 0, .slice (some ⟨w1.heap.size + 1, 0, none⟩) 1 1, .slice (some ⟨w1.heap.size + 1 + 1, 0, none⟩) 3 3], .agg #[.int .i64 1, .int .i64 1, .int .i64 1, .int .i64 1, .int .i64 0, .int .i64 1, .int .u8 0, .int .i64 1, .int .i64 1, .int .u64 0, .slice A2 1 c2, .slice B2 3 d2]] (w8.alloc (.cells #[.int .i64 0, .int .i64 0, .int .i64 0, .int .i64 0, .int .i64 0, .int .i64 0, .int .u8 0, .int .i64 0, .int .i64 0, .int .u64 0, .slice none 0 0, .slice none 0 0] 37)) fun e w' => e = .returned (.bool true) ∧ Ext (w8.alloc (.cells #[.int .i64 0, .int .i64 0, .int .i64 0, .int .i64 0, .int .i64 0, .int .i64 0, .int .u8 0, .int .i64 0, .int .i64 0, .int .u64 0, .slice none 0 0, .slice none 0 0] 37)) w' :=
          hsm.mono (fun e w' ⟨h1, h2⟩ => ⟨by rw [h1]; simp, h2⟩)
        have HXX := hide (((HX4.out.trans HX5.out).trans HX6.out).trans hXX)
        clear hsm hXX xz hr8 hb8 h778
        go_wp2_with fail
        refine hsm2.mono ?_
        rintro e w9 ⟨rfl, hx9⟩
        go_wp2_with fail
        go_ret
        exact ⟨by simp, HXX.out.trans hx9⟩
      · cases h1
end Go.Proofs.YtlgomkocalieeaaGreatDoor

namespace Go.Proofs.YtlgomkocalieeaaGreatDoor
open Go.RowKit
set_option linter.unusedSimpArgs false
set_option linter.unusedVariables false
set_option maxRecDepth 100000
set_option maxHeartbeats 8000000

theorem conv_by {w : World} {A : Option Addr} {l : List UInt8} (c : Nat) (h : By w A l) : Sem.run Tryz.prog (convert 31 9 (.slice A l.length c)) w = .ok (Value.string ⟨List.toArray (l)⟩) w := by
  rcases h with h | ⟨b, off, rfl, h2, h3⟩
  · obtain rfl := List.eq_nil_of_length_eq_zero h
    rw [show ([] : List UInt8).length = 0 from rfl]
    cases A with
    | none => exact run_convert_bytes_nil (P := Tryz.prog) (w := w) 31 5 Tryz.underlying31 Tryz.underlying5 0 c 9 Tryz.underlying9
    | some a => exact run_convert_bytes_back (P := Tryz.prog) w 31 9 5 a c [] Tryz.underlying31 Tryz.underlying5 Tryz.underlying9 (fun j hj => by simp at hj)
  · exact run_convert_bytes_back (P := Tryz.prog) w 31 9 5 ⟨b, off, none⟩ c l Tryz.underlying31 Tryz.underlying5 Tryz.underlying9 (fun j hj => by rw [Addr.add_mid]; exact h3 j hj)
def zC : Cf := ⟨0, 0, 0, 0, 0, 0, 0, 0, 0, 0⟩
theorem once_any {w : World} {A : Option Addr} {c : Nat} {l : List UInt8} (hc : l.length ≤ c) (hcm : c ≤ maxLen) (h : By w A l) (hA : l.length = 0 ∨ ∀ b, A = some b → b.block < w.heap.size) (hG : GlobW w) :
    Calls Tryz.prog 5 #[.slice A l.length c] w fun e w' => e = .returned (.bool true) ∧ Ext w w' := by
  have HG := hide hG
  by_cases hl : 3000 < l.length
  · have hli : (3000 : Int) < (l.length : Int) := by omega
    have hal := alive_any w hG
    clear h hG hA
    go_enter Tryz.func5, Tryz.ntmps5
    go_wp2_with fail
    refine hal.mono ?_
    rintro e w1 ⟨rfl, hx⟩
    go_wp2_with fail
    go_ret
    exact ⟨by simp, hx⟩
  · have hli : ¬ (3000 : Int) < (l.length : Int) := by omega
    have hrd := read_any hc hcm h hA
    have HBY := hide h
    clear h hG hA
    go_enter Tryz.func5, Tryz.ntmps5
    go_wp2_with fail
    refine hrd.mono ?_
    rintro e w1 ⟨hr, hx1⟩
    have HX1 := hide hx1
    clear hrd hx1
    unfold ReadR at hr
    rcases hr with ⟨er, h1, hne, rfl⟩ | ⟨x, ps, ts, A2, c2, B2, d2, h1, rfl, hpr, htn⟩
    · have hxz := Ext.alloc w1 (.cells #[.int .i64 0, .int .i64 0, .int .i64 0, .int .i64 0, .int .i64 0, .int .i64 0, .int .u8 0, .int .i64 0, .int .i64 0, .int .u64 0, .slice none 0 0, .slice none 0 0] 37)
      have hb := (Blk.new w1 #[.int .i64 0, .int .i64 0, .int .i64 0, .int .i64 0, .int .i64 0, .int .i64 0, .int .u8 0, .int .i64 0, .int .i64 0, .int .u64 0, .slice none 0 0, .slice none 0 0] 37).cell
      have hz : Scr (w1.alloc (.cells #[.int .i64 0, .int .i64 0, .int .i64 0, .int .i64 0, .int .i64 0, .int .i64 0, .int .u8 0, .int .i64 0, .int .i64 0, .int .u64 0, .slice none 0 0, .slice none 0 0] 37)) none none [] [] := ⟨.inl rfl, .inl rfl, by simp, by simp⟩
      have hs : Calls Tryz.prog 13 #[.agg #[.int .i64 0, .int .i64 0, .int .i64 0, .int .i64 0, .int .i64 0, .int .i64 0, .int .u8 0, .int .i64 0, .int .i64 0, .int .u64 0, .slice none 0 0, .slice none 0 0], .agg #[.int .i64 0, .int .i64 0, .int .i64 0, .int .i64 0, .int .i64 0, .int .i64 0, .int .u8 0, .int .i64 0, .int .i64 0, .int .u64 0, .slice none 0 0, .slice none 0 0]] (w1.alloc (.cells #[.int .i64 0, .int .i64 0, .int .i64 0, .int .i64 0, .int .i64 0, .int .i64 0, .int .u8 0, .int .i64 0, .int .i64 0, .int .u64 0, .slice none 0 0, .slice none 0 0] 37)) fun e w' => e = .returned (.bool true) ∧ Ext (w1.alloc (.cells #[.int .i64 0, .int .i64 0, .int .i64 0, .int .i64 0, .int .i64 0, .int .i64 0, .int .u8 0, .int .i64 0, .int .i64 0, .int .u64 0, .slice none 0 0, .slice none 0 0] 37)) w' :=
        (same_any 0 0 0 0 zC zC hz hz).mono (fun e w' ⟨q1, q2⟩ => ⟨by rw [q1]; simp, q2⟩)
      have HXZ := hide hxz
      clear hz hxz h1
      go_wp2_with fail
      refine hs.mono ?_
      rintro e w2 ⟨rfl, hx2⟩
      have hal := alive_any w2 (HG.out.ext ((HX1.out.trans HXZ.out).trans hx2))
      have HX2 := hide hx2
      clear hs hx2 hb
      go_wp2_with fail
      refine hal.mono ?_
      rintro e w3 ⟨rfl, hx3⟩
      go_wp2_with fail
      go_ret
      exact ⟨by simp, ((HX1.out.trans HXZ.out).trans HX2.out).trans hx3⟩
    · obtain ⟨m1, m2, ⟨b0, b1⟩, ⟨d0, d1⟩⟩ := lay_read h1
      have hxz := Ext.alloc w1 (.cells #[.int .i64 x.t, .int .i64 x.o, .int .i64 x.c, .int .i64 x.s, .int .i64 x.p, .int .i64 x.n, .int .u8 x.b, .int .i64 x.r, .int .i64 x.v, .int .u64 x.d, .slice A2 ps.length c2, .slice B2 ts.length d2] 37)
      have hbk := Blk.new w1 #[.int .i64 x.t, .int .i64 x.o, .int .i64 x.c, .int .i64 x.s, .int .i64 x.p, .int .i64 x.n, .int .u8 x.b, .int .i64 x.r, .int .i64 x.v, .int .u64 x.d, .slice A2 ps.length c2, .slice B2 ts.length d2] 37
      have hok := may_ok m1
      have hsc : Scr (w1.alloc (.cells #[.int .i64 x.t, .int .i64 x.o, .int .i64 x.c, .int .i64 x.s, .int .i64 x.p, .int .i64 x.n, .int .u8 x.b, .int .i64 x.r, .int .i64 x.v, .int .u64 x.d, .slice A2 ps.length c2, .slice B2 ts.length d2] 37)) A2 B2 ps ts := ⟨hpr.ext hxz, htn.ext hxz, by have := may_n hok.c; have := hok.n; omega, by have := hok.t; omega⟩
      have hlay := lay_any c2 d2 x b0 b1 d0 d1 hsc (HG.out.ext (HX1.out.trans hxz))
      have hq := hbk.cell
      have HSC := hide hsc
      have HXZ := hide hxz
      have HM2 := hide m2
      have HM1 := hide m1
      clear hpr htn hsc hxz hok m2 h1 m1
      go_wp2_with fail
      refine hlay.mono ?_
      rintro e w2 ⟨hlr, hx2⟩
      have hbk2 := hbk.ext hx2
      have HX2 := hide hx2
      clear hlay hx2 hbk hq
      unfold LayR at hlr
      rcases hlr with ⟨hne, _⟩ | ⟨_, A3, c3, rfl, hle3, hmx3, hby3⟩
      · exact absurd HM1.out hne
      · rw [HM2.out] at hby3 hle3 ⊢
        have hcv1 := fun w' (x : Ext w2 w') => conv_by c3 (hby3.ext x)
        have hcv2 := fun w' (x : Ext w2 w') => conv_by c (HBY.out.ext (((HX1.out.trans HXZ.out).trans HX2.out).trans x))
        have v1 := hcv1 w2 (Ext.refl _)
        have v2 := hcv2 w2 (Ext.refl _)
        have hq := hbk2.cell
        have hmay := smay_any c2 d2 x d0 d1 (HSC.out.ext HX2.out) (HG.out.ext ((HX1.out.trans HXZ.out).trans HX2.out))
        rw [HM1.out] at hmay
        clear hcv1 hcv2
        go_wp2_with fail
        refine hmay.mono ?_
        rintro e w3 ⟨rfl, hx3⟩
        have hal := alive_any w3 (HG.out.ext (((HX1.out.trans HXZ.out).trans HX2.out).trans hx3))
        have HX3 := hide hx3
        clear hmay hx3 hq v1 v2
        go_wp2_with fail
        refine hal.mono ?_
        rintro e w4 ⟨rfl, hx4⟩
        go_wp2_with fail
        go_ret
        exact ⟨by simp, (((HX1.out.trans HXZ.out).trans HX2.out).trans HX3.out).trans hx4⟩
end Go.Proofs.YtlgomkocalieeaaGreatDoor

namespace Go.Proofs.YtlgomkocalieeaaGreatDoor
open Go.RowKit
set_option linter.unusedSimpArgs false
set_option linter.unusedVariables false
set_option maxRecDepth 100000
set_option maxHeartbeats 8000000

theorem blk_rng {w : World} {B : Nat} {cs : Array Value} {t : TypeId} (h : Blk w B cs t) : w.rangeAt B 0 cs.toList := fun j v hv => by rw [Nat.zero_add, h.cell, ← hv, Array.getElem?_toList]
theorem inf_rscr (cs : Array Value) (h : cs.size = 12) : (Tryz.prog.info? 28).map (·.size) = some cs.toList.length := by rw [Array.length_toList, h]; kernel_rfl
theorem inf_scrL (cs : Array Value) (h : cs.size = 12) : (Tryz.prog.info? 37).map (·.size) = some cs.toList.length := by rw [Array.length_toList, h]; kernel_rfl
theorem back_any {w : World} {A B : Option Addr} {ps : List (List Op3)} {ts : List Tr} (c d : Nat) (x : Cf) (hb0 : 0 ≤ x.b) (hb1 : x.b < 256) (hd0 : 0 ≤ x.d) (hd1 : x.d < 18446744073709551616) (h : Scr w A B ps ts) (hc : ps.length ≤ c) (hG : GlobW w) :
    Calls Tryz.prog 4 #[.agg #[.int .i64 x.t, .int .i64 x.o, .int .i64 x.c, .int .i64 x.s, .int .i64 x.p, .int .i64 x.n, .int .u8 x.b, .int .i64 x.r, .int .i64 x.v, .int .u64 x.d, .slice A ps.length c, .slice B ts.length d]] w fun e w' => e = .returned (.bool true) ∧ Ext w w' := by
  have H := hide h
  have hX0 := Ext.alloc w (.cells #[.int .i64 x.t, .int .i64 x.o, .int .i64 x.c, .int .i64 x.s, .int .i64 x.p, .int .i64 x.n, .int .u8 x.b, .int .i64 x.r, .int .i64 x.v, .int .u64 x.d, .slice A ps.length c, .slice B ts.length d] 28)
  have hb := Blk.new w #[.int .i64 x.t, .int .i64 x.o, .int .i64 x.c, .int .i64 x.s, .int .i64 x.p, .int .i64 x.n, .int .u8 x.b, .int .i64 x.r, .int .i64 x.v, .int .u64 x.d, .slice A ps.length c, .slice B ts.length d] 28
  have hfar := far_any c d x (h.ext hX0) hc
  have HG := hide hG
  have q := hb.cell
  have HX := hide hX0
  clear h hG hX0
  go_enter Tryz.func4, Tryz.ntmps4
  go_wp2_with fail
  refine hfar.mono ?_
  rintro e w1 ⟨hr, hx1⟩
  have hbk1 := hb.ext hx1
  have HX1 := hide (HX.out.trans hx1)
  have h0s := HX.out.size
  have hb0s := hb.lt
  clear hfar hx1 q hb HX
  generalize w.heap.size = g at *
  obtain ⟨b, rfl, hf⟩ := hr
  cases b with
  | true =>
    have hal := alive_any w1 (HG.out.ext HX1.out)
    clear hf
    go_wp2_with fail
    refine hal.mono ?_
    rintro e w2 ⟨rfl, hx2⟩
    go_wp2_with fail
    go_ret
    exact ⟨by simp, HX1.out.trans hx2⟩
  | false =>
    obtain ⟨hp100, ht4⟩ := hf rfl
    have hth := theirs_any c d x (H.out.ext HX1.out) ht4
    have q := hbk1.cell
    clear hf
    go_wp2_with fail
    refine hth.mono ?_
    rintro e w2 ⟨⟨B2, d2, rfl, hsc⟩, hx2⟩
    have hbk2 := hbk1.ext hx2
    have HX2 := hide (HX1.out.trans hx2)
    have hlay := lay_any c d2 x hb0 hb1 hd0 hd1 hsc (HG.out.ext HX2.out)
    clear hth q hx2 hsc hbk1
    go_wp2_with fail
    refine hlay.mono ?_
    rintro e w3 ⟨hlr, hx3⟩
    have hbk3 := hbk2.ext hx3
    have HX3 := hide (HX2.out.trans hx3)
    clear hlay hx3 hbk2
    have q := hbk3.cell
    unfold LayR at hlr
    have hth := theirs_any c d x (H.out.ext HX3.out) ht4
    rcases hlr with ⟨hne, rfl⟩ | ⟨h0, A3, c3, rfl, hle3, hmx3, hby3⟩
    · have HNE := hide hne
      clear hne
      have hmi : ¬ mayS x ps ts = 0 := HNE.out
      have hmi2 : (mayS x ps ts != 0) = true := by simpa using HNE.out
      have hsm := fun (w' : World) (B' : Option Addr) (d' : Nat) (hs : Scr w' A B' ps ts) (hg : GlobW w') => smay_any c d' x hd0 hd1 hs hg
      generalize mayS x ps ts = er at *
      go_wp2_with fail
      refine hth.mono ?_
      rintro e w4 ⟨⟨B4, d4, rfl, hsc⟩, hx4⟩
      have HX4 := hide (HX3.out.trans hx4)
      have hm := hsm w4 B4 d4 hsc (HG.out.ext HX4.out)
      clear hth q hsm hx4 hsc hbk3
      go_wp2_with fail
      refine hm.mono ?_
      rintro e w5 ⟨rfl, hx5⟩
      have HX5 := hide (HX4.out.trans hx5)
      have hal := alive_any w5 (HG.out.ext HX5.out)
      clear hm hx5
      go_wp2_with fail
      refine hal.mono ?_
      rintro e w6 ⟨rfl, hx6⟩
      go_wp2_with fail
      go_ret
      exact ⟨by simp, HX5.out.trans hx6⟩
    · have h77 : (scB x ps ts).length ≠ 0 := by simp [scB, hB]
      have H0 := hide h0
      have hrd := read_any hle3 hmx3 hby3 (.inr fun b e => by
        rcases hby3 with h | ⟨b', off, rfl, h2, _⟩
        · exact absurd h h77
        · cases e; exact h2)
      clear hby3 h0 hle3 hmx3 hth
      go_wp2_with fail
      refine hrd.mono ?_
      rintro e w4 ⟨hr, hx4⟩
      unfold ReadR at hr
      rw [read_lay H0.out hb0 hb1 hd0 hd1] at hr
      have HX4 := hide (HX3.out.trans hx4)
      have hbk4 := hbk3.ext hx4
      clear hrd q hx4 hbk3
      rcases hr with ⟨er, h1, _⟩ | ⟨x', ps', ts', A4, c4, B4, d4, h1, rfl, hpr, htn⟩
      · cases h1
      · simp only [Except.ok.injEq, Prod.mk.injEq] at h1
        obtain ⟨rfl, rfl, rfl⟩ := h1
        have hbx := Blk.new w4 #[.int .i64 x.t, .int .i64 x.o, .int .i64 x.c, .int .i64 x.s, .int .i64 x.p, .int .i64 x.n, .int .u8 x.b, .int .i64 x.r, .int .i64 x.v, .int .u64 x.d, .slice A4 ps.length c4, .slice B4 ts.length d4] 37
        have hX5 := Ext.alloc w4 (.cells #[.int .i64 x.t, .int .i64 x.o, .int .i64 x.c, .int .i64 x.s, .int .i64 x.p, .int .i64 x.n, .int .u8 x.b, .int .i64 x.r, .int .i64 x.v, .int .u64 x.d, .slice A4 ps.length c4, .slice B4 ts.length d4] 37)
        have HBX := hide hbx
        have HB5 := hide (hbk4.ext hX5)
        have HX5 := hide (HX4.out.trans hX5)
        have HS5 := hide (show Scr (w4.alloc (.cells #[.int .i64 x.t, .int .i64 x.o, .int .i64 x.c, .int .i64 x.s, .int .i64 x.p, .int .i64 x.n, .int .u8 x.b, .int .i64 x.r, .int .i64 x.v, .int .u64 x.d, .slice A4 ps.length c4, .slice B4 ts.length d4] 37)) A4 B4 ps ts from ⟨hpr.ext hX5, htn.ext hX5, H.out.pl, H.out.tl⟩)
        clear hX5 hbx hpr htn hbk4
        go_wp2_with fail
        generalize w4.alloc (.cells #[.int .i64 x.t, .int .i64 x.o, .int .i64 x.c, .int .i64 x.s, .int .i64 x.p, .int .i64 x.n, .int .u8 x.b, .int .i64 x.r, .int .i64 x.v, .int .u64 x.d, .slice A4 ps.length c4, .slice B4 ts.length d4] 37) = W5 at *
        generalize w4.heap.size = G at *
        have hk := Ext.drew W5
        refine wp_region_held_drew (S := fun w' => w'.rangeAt G 0 (#[.int .i64 x.t, .int .i64 x.o, .int .i64 x.c, .int .i64 x.s, .int .i64 x.p, .int .i64 x.n, .int .u8 x.b, .int .i64 x.r, .int .i64 x.v, .int .u64 x.d, .slice A4 ps.length c4, .slice B4 ts.length d4] : Array Value).toList ∧ w'.rangeAt g 0 (#[.int .i64 x.t, .int .i64 x.o, .int .i64 x.c, .int .i64 x.s, .int .i64 x.p, .int .i64 x.n, .int .u8 x.b, .int .i64 x.r, .int .i64 x.v, .int .u64 x.d, .slice A ps.length c, .slice B ts.length d] : Array Value).toList) (by kernel_rfl) ⟨blk_rng (HBX.out.ext hk), blk_rng (HB5.out.ext hk)⟩ (fun hHeld => ?_)
        (refine held_take (i := 0) (v := ?_) rfl (by kernel_rfl) (by kernel_rfl) (by kernel_rfl) (fun _ _ _ h => h) (by rfl) ?_ (by assumption) ?_; rotate_left; (intro w hSw; (try dsimp only at hSw); (first | (go_simp; done) | (go_simp; with_reducible rfl))); (try simp only [Act.put, List.setIfInBounds_toArray, List.set_cons_zero, List.set_cons_succ]))
        (refine held_take (i := 1) (v := ?_) rfl (by kernel_rfl) (by kernel_rfl) (by kernel_rfl) (fun _ _ _ h => h) (by rfl) ?_ (by assumption) ?_; rotate_left; (intro w hSw; (try dsimp only at hSw); (first | (go_simp; done) | (go_simp; with_reducible rfl))); (try simp only [Act.put, List.setIfInBounds_toArray, List.set_cons_zero, List.set_cons_succ]))
        (refine held_take (i := 2) (v := ?_) rfl (by kernel_rfl) (by kernel_rfl) (by kernel_rfl) (fun _ _ _ h => h) (by rfl) ?_ (by assumption) ?_; rotate_left; (intro w hSw; (try dsimp only at hSw); (first | (go_simp; done) | (go_simp; with_reducible rfl))); (try simp only [Act.put, List.setIfInBounds_toArray, List.set_cons_zero, List.set_cons_succ]))
        refine wpAnyH_take (i := 3) (at_drop rfl) (by kernel_rfl) (by kernel_rfl) (by kernel_rfl) (fun _ _ _ h => h) (yieldsIf_load_mid (by rfl) 37 _ rfl G 0 rfl (#[.int .i64 x.t, .int .i64 x.o, .int .i64 x.c, .int .i64 x.s, .int .i64 x.p, .int .i64 x.n, .int .u8 x.b, .int .i64 x.r, .int .i64 x.v, .int .u64 x.d, .slice A4 ps.length c4, .slice B4 ts.length d4] : Array Value).toList _ (fun w h => h.1) Tryz.underlying37 rfl (inf_scrL _ rfl)) (by assumption) ?_
        rw [Array.toArray_toList]
        (try simp only [Act.put, List.setIfInBounds_toArray, List.set_cons_zero, List.set_cons_succ])
        refine wpAnyH_take (i := 4) (at_drop rfl) (by kernel_rfl) (by kernel_rfl) (by kernel_rfl) (fun _ _ _ h => h) (yieldsIf_load_mid (by rfl) 28 _ rfl g 0 rfl (#[.int .i64 x.t, .int .i64 x.o, .int .i64 x.c, .int .i64 x.s, .int .i64 x.p, .int .i64 x.n, .int .u8 x.b, .int .i64 x.r, .int .i64 x.v, .int .u64 x.d, .slice A ps.length c, .slice B ts.length d] : Array Value).toList _ (fun w h => h.2) Tryz.underlying28 rfl (inf_rscr _ rfl)) (by assumption) ?_
        rw [Array.toArray_toList]
        (try simp only [Act.put, List.setIfInBounds_toArray, List.set_cons_zero, List.set_cons_succ])
        refine wpAnyH_ready (rs := [5]) (by kernel_rfl) (by simp) (held_cons rfl (fun K hK => ?_) AllReadyH.nil)
        rw [if_pos (by rfl)]
        go_simp
        go_at_call 9
        refine (theirs_any c d x (H.out.ext (HX5.out.trans hk)) ht4).mono ?_
        rintro e w6 ⟨⟨B6, d6, rfl, hsc6⟩, hx6⟩
        have hk := hk.trans hx6
        refine hK.out _ _ ⟨blk_rng (HBX.out.ext hk), blk_rng (HB5.out.ext hk)⟩ (fun hHeld => ?_)
        (try simp only [Act.put, List.setIfInBounds_toArray, List.set_cons_zero, List.set_cons_succ])
        have hsm : Calls Tryz.prog 13 #[.agg #[.int .i64 x.t, .int .i64 x.o, .int .i64 x.c, .int .i64 x.s, .int .i64 x.p, .int .i64 x.n, .int .u8 x.b, .int .i64 x.r, .int .i64 x.v, .int .u64 x.d, .slice A4 ps.length c4, .slice B4 ts.length d4], .agg #[.int .i64 x.t, .int .i64 x.o, .int .i64 x.c, .int .i64 x.s, .int .i64 x.p, .int .i64 x.n, .int .u8 x.b, .int .i64 x.r, .int .i64 x.v, .int .u64 x.d, .slice A ps.length c, .slice B6 ts.length d6]] w6 (fun e w' => e = .returned (.bool true) ∧ Ext w6 w') :=
          (same_any c4 d4 c d6 x x (HS5.out.ext hk) hsc6).mono (fun e w' ⟨q1, q2⟩ => ⟨by rw [q1]; simp, q2⟩)
        refine wpAnyH_ready (rs := [6]) (by kernel_rfl) (by simp) (held_cons rfl (fun K hK => ?_) AllReadyH.nil)
        rw [if_pos (by rfl)]
        go_simp
        go_at_call 13
        refine hsm.mono ?_
        rintro e w7 ⟨rfl, hx7⟩
        have hk := hk.trans hx7
        refine hK.out _ _ ⟨blk_rng (HBX.out.ext hk), blk_rng (HB5.out.ext hk)⟩ (fun hHeld => ?_)
        (try simp only [Act.put, List.setIfInBounds_toArray, List.set_cons_zero, List.set_cons_succ])
        (refine held_take (i := 7) (v := ?_) rfl (by kernel_rfl) (by kernel_rfl) (by kernel_rfl) (fun _ _ _ h => h) (by rfl) ?_ (by assumption) ?_; rotate_left; (intro w hSw; (try dsimp only at hSw); (first | (go_simp; done) | (go_simp; with_reducible rfl))); (try simp only [Act.put, List.setIfInBounds_toArray, List.set_cons_zero, List.set_cons_succ]))
        (refine held_take (i := 8) (v := ?_) rfl (by kernel_rfl) (by kernel_rfl) (by kernel_rfl) (fun _ _ _ h => h) (by rfl) ?_ (by assumption) ?_; rotate_left; (intro w hSw; (try dsimp only at hSw); (first | (go_simp; done) | (go_simp; with_reducible rfl))); (try simp only [Act.put, List.setIfInBounds_toArray, List.set_cons_zero, List.set_cons_succ]))
        refine wpAnyH_ready (rs := [9]) (by kernel_rfl) (by simp) (held_cons rfl (fun K hK => ?_) AllReadyH.nil)
        rw [if_pos (by rfl)]
        go_simp
        go_at_call 7
        refine (alive_any w7 (HG.out.ext (HX5.out.trans hk))).mono ?_
        rintro e w8 ⟨rfl, hx8⟩
        have hk := hk.trans hx8
        refine hK.out _ _ ⟨blk_rng (HBX.out.ext hk), blk_rng (HB5.out.ext hk)⟩ (fun hHeld => ?_)
        (try simp only [Act.put, List.setIfInBounds_toArray, List.set_cons_zero, List.set_cons_succ])
        (refine held_take (i := 10) (v := ?_) rfl (by kernel_rfl) (by kernel_rfl) (by kernel_rfl) (fun _ _ _ h => h) (by rfl) ?_ (by assumption) ?_; rotate_left; (intro w hSw; (try dsimp only at hSw); (first | (go_simp; done) | (go_simp; with_reducible rfl))); (try simp only [Act.put, List.setIfInBounds_toArray, List.set_cons_zero, List.set_cons_succ]))
        (refine held_take (i := 11) (v := ?_) rfl (by kernel_rfl) (by kernel_rfl) (by kernel_rfl) (fun _ _ _ h => h) (by rfl) ?_ (by assumption) ?_; rotate_left; (intro w hSw; (try dsimp only at hSw); (first | (go_simp; done) | (go_simp; with_reducible rfl))); (try simp only [Act.put, List.setIfInBounds_toArray, List.set_cons_zero, List.set_cons_succ]))
        refine wpAnyH_done (by kernel_rfl) ?_ _
        go_wp2_with fail
        go_ret
        exact ⟨by simp, HX5.out.trans hk⟩
end Go.Proofs.YtlgomkocalieeaaGreatDoor
