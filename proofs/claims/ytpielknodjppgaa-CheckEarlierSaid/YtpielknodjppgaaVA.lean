/- The law's own copies of calls; whether the program answers at all. -/
import Derived.Test.YtpielknodjppgaaGB
import Derived.Test.YtpielknodjppgaaGA
import Derived.Test.YtpielknodjppgaaOpens
import Derived.Deep.Strs
namespace Go.Proofs.Ytpielknodjppgaa
open Go.RowKit Go.Maps
set_option linter.unusedSimpArgs false
set_option linter.unusedVariables false
set_option maxRecDepth 100000
set_option maxHeartbeats 4000000


theorem inf_call : (Try.prog.info? 38).map (fun i => (i.zero, i.size, i.bytes)) = some (some (.agg #[.int .i64 0, .int .i64 0, .int .i64 0, .int .i64 0, .int .i64 0, .int .i64 0, .int .i64 0]), 7, 56) := by kernel_rfl
def ccl (g : Nat → Cl) (n : Nat) : List Value := (List.range n).flatMap fun i => (cc (g i)).toList
theorem cc_len (c : Cl) : (cc c).toList.length = 7 := rfl
theorem ccl_succ (g : Nat → Cl) (n : Nat) : ccl g (n + 1) = ccl g n ++ (cc (g n)).toList := by unfold ccl; rw [List.range_succ, List.flatMap_append]; simp
theorem ccl_len (g : Nat → Cl) (n : Nat) : (ccl g n).length = n * 7 := by
  induction n with
  | zero => rfl
  | succ n ih => rw [ccl_succ, List.length_append, ih, cc_len]; omega
theorem ccl_at (g : Nat → Cl) {n k i : Nat} (hk : k < n) (hi : i < 7) : (ccl g n)[k * 7 + i]? = (cc (g k))[i]? := by
  induction n with
  | zero => omega
  | succ n ih =>
    rw [ccl_succ]
    by_cases q : k = n
    · subst q
      rw [List.getElem?_append_right (by rw [ccl_len]; omega), ccl_len, show k * 7 + i - k * 7 = i by omega, Array.getElem?_toList]
    · rw [List.getElem?_append_left (by rw [ccl_len]; omega)]
      exact ih (by omega)
theorem ccl_one (g : Nat → Cl) (n : Nat) : ∀ u ∈ ccl g n, u.oneCell' = true := by
  unfold ccl
  intro u hu
  simp only [List.mem_flatMap] at hu
  obtain ⟨i, _, hu⟩ := hu
  unfold cc at hu
  simp at hu
  rcases hu with rfl | rfl | rfl | rfl | rfl | rfl | rfl <;> rfl
theorem own_cs {w : World} {base n c : Nat} {A : Option Addr} {g : Nat → Cl} (h : w.ownsRow base 38 7 (.slice A n c) n (ccl g n)) : Cs w w.heap.size A n g := fun k hk => by
  rcases h.2 with ⟨_, h0⟩ | ⟨G, cap, cur, e, hb, hh, h3, h4, h5, h6⟩
  · omega
  · cases e
    refine ⟨G, 0, rfl, (show Blk w G cur 38 from hh).lt, fun i hi => ?_⟩
    have hlt : k * 7 + i < n * 7 := by
      have : (k + 1) * 7 ≤ n * 7 := Nat.mul_le_mul_right _ hk
      omega
    rw [Nat.zero_add, cell_of_row w G _ cur 38 (0, 0) hh, ← ccl_at g hk hi, ← h6, List.getElem?_take_of_lt hlt, Array.getElem?_toList]
theorem theirs_any {w : World} {b0 n c : Nat} {A : Option Addr} {g : Nat → Cl} (h : Cs w b0 A n g) (hb : b0 ≤ w.heap.size) (hn : n ≤ 1000) :
    Calls Try.prog 8 #[.slice A n c] w fun e w' => ∃ A' c', e = .returned (.slice A' n c') ∧ w'.ownsRow w.heap.size 38 7 (.slice A' n c') n (ccl g n) ∧ Ext w w' := by
  have H := hide h
  clear h
  go_enter Try.func8, Try.ntmps8
  go_wp2_with fail
  go_loopw [3, 9] (fun v i wr => ∃ j : Nat, j ≤ n ∧ i = .int .i64 (j : Int) ∧ wr.ownsRow w.heap.size 38 7 v j (ccl g j) ∧ Ext w wr) (fun _ i _ => n - (intOf i).toNat)
  case atStart => exact ⟨0, by omega, rfl, own_nil _ _ _ _, Ext.refl _⟩
  case round =>
    obtain ⟨j, hj, rfl, hown, hX⟩ := hrel
    by_cases hlt : j < n
    · obtain ⟨b, off, rfl, hb0, r0, r1, r2, r3, r4, r5, r6⟩ := (H.out.ext hX hb).rules hlt
      have E := hide (show ccl g (j + 1) = ccl g j ++ (cc (g j)).toList from ccl_succ g j)
      have HX := hide hX
      unfold cc at E
      generalize (g j).k = x0 at *
      generalize (g j).t = x1 at *
      generalize (g j).o = x2 at *
      generalize (g j).a = x3 at *
      generalize (g j).r = x4 at *
      generalize (g j).f = x5 at *
      generalize (g j).u = x6 at *
      obtain ⟨A1, c1, rfl⟩ := own_sl hown
      have HO := hide hown
      clear hown hX
      have hxw := (Ext.alloc wr (.cells #[.int .i64 x0, .int .i64 x1, .int .i64 x2, .int .i64 x3, .int .i64 x4, .int .i64 x5, .int .i64 x6] 44)).trans (Ext.alloc _ (.cells #[.int .i64 x0, .int .i64 x1, .int .i64 x2, .int .i64 x3, .int .i64 x4] 42))
      have hown2 := own_ext HO.out hxw
      have hX2 := HX.out.trans hxw
      have rz := fun i => (Ext.alloc (wr.alloc (.cells #[.int .i64 x0, .int .i64 x1, .int .i64 x2, .int .i64 x3, .int .i64 x4, .int .i64 x5, .int .i64 x6] 44)) (.cells #[.int .i64 x0, .int .i64 x1, .int .i64 x2, .int .i64 x3, .int .i64 x4] 42)).boxCell i
      clear hxw
      go_wp2_with (first
        | (at_builtin; refine wpList_app1 (W0 := w) rfl rfl Try.underlying28 inf_call rfl (by omega) rfl hown2 hX2 rfl (by simp) rfl (by simp [Value.oneCell']) (by unfold maxLen; omega) (by omega) ?_; intro v' w3 hown3 hX3; go_frame))
      exact ⟨⟨j + 1, by omega, by go_num, by rw [E.out]; exact hown3, hX3⟩, by simp [intOf]; omega⟩
    · obtain rfl : j = n := by omega
      obtain ⟨A1, c1, rfl⟩ := own_sl hown
      have HO := hide hown
      clear hown
      go_wp2_with fail
      go_ret
      exact ⟨_, _, rfl, HO.out, hX⟩
theorem cs_blk {w : World} {B n : Nat} {cs : Array Value} {g : Nat → Cl} (hb : Blk w B cs 38) (h : ∀ k, k < n → ∀ i, i < 7 → cs[k * 7 + i]? = (cc (g k))[i]?) : Cs w w.heap.size (some ⟨B, 0, none⟩) n g := fun k hk => ⟨B, 0, rfl, hb.lt, fun i hi => by rw [Nat.zero_add, hb.cell]; exact h k hk i hi⟩
def cA : Cl := ⟨1, 0, 0, 0, 0, 0, 9⟩
def cB : Cl := ⟨1, 1, 0, 0, 0, 1, 9⟩
def cX : Cl := ⟨3, 0, 0, 0, 0, 2, 9⟩
def gN (i : Nat) : Cl := if i = 0 then cA else cB
def gY (i : Nat) : Cl := if i = 0 then cB else if i = 1 then cA else cX
theorem al_1 : ordE 2 1 1 2 gN = 0 := by decide +kernel
theorem al_2 : (ordP 2 1 1 2 gN).isSome = false := by decide +kernel
theorem al_3 : ordE 2 1 1 3 gY = 0 := by decide +kernel
theorem al_4 : ordP 2 1 1 3 gY = some [1, 2, 0] := by decide +kernel
theorem ok_c {c : Cl} (h : c = cA ∨ c = cB ∨ c = cX) : OkC c := by
  rcases h with rfl | rfl | rfl <;> exact ⟨wfI_of (by decide) (by decide), wfI_of (by decide) (by decide), wfI_of (by decide) (by decide), wfI_of (by decide) (by decide), wfI_of (by decide) (by decide), wfI_of (by decide) (by decide), wfI_of (by decide) (by decide)⟩
theorem ok_gN (i : Nat) : OkC (gN i) := by unfold gN; split <;> exact ok_c (by simp)
theorem ok_gY (i : Nat) : OkC (gY i) := by unfold gY; repeat' split
                                           all_goals exact ok_c (by simp)
theorem l2_at : ∀ k, k < 2 → ∀ i, i < 7 → #[Value.int .i64 1, .int .i64 0, .int .i64 0, .int .i64 0, .int .i64 0, .int .i64 0, .int .i64 9, .int .i64 1, .int .i64 1, .int .i64 0, .int .i64 0, .int .i64 0, .int .i64 1, .int .i64 9][k * 7 + i]? = (cc (gN k))[i]? := by
  intro k hk i hi
  have hk : k = 0 ∨ k = 1 := by omega
  have hi : i = 0 ∨ i = 1 ∨ i = 2 ∨ i = 3 ∨ i = 4 ∨ i = 5 ∨ i = 6 := by omega
  rcases hk with rfl | rfl <;> rcases hi with rfl | rfl | rfl | rfl | rfl | rfl | rfl <;> rfl
theorem l3_at : ∀ k, k < 3 → ∀ i, i < 7 → #[Value.int .i64 1, .int .i64 1, .int .i64 0, .int .i64 0, .int .i64 0, .int .i64 1, .int .i64 9, .int .i64 1, .int .i64 0, .int .i64 0, .int .i64 0, .int .i64 0, .int .i64 0, .int .i64 9, .int .i64 3, .int .i64 0, .int .i64 0, .int .i64 0, .int .i64 0, .int .i64 2, .int .i64 9][k * 7 + i]? = (cc (gY k))[i]? := by
  intro k hk i hi
  have hk : k = 0 ∨ k = 1 ∨ k = 2 := by omega
  have hi : i = 0 ∨ i = 1 ∨ i = 2 ∨ i = 3 ∨ i = 4 ∨ i = 5 ∨ i = 6 := by omega
  rcases hk with rfl | rfl | rfl <;> rcases hi with rfl | rfl | rfl | rfl | rfl | rfl | rfl <;> rfl
theorem alive_any (w : World) : Calls Try.prog 6 #[] w fun e w' => e = .returned (.bool true) ∧ Ext w w' := by
  go_enter Try.func6, Try.ntmps6
  go_wp2_with fail
  have HA := hide (((Blk.new w #[Value.int .i64 1, .int .i64 0, .int .i64 0, .int .i64 0, .int .i64 0, .int .i64 0, .int .i64 9] 38).ext (Ext.alloc _ (.cells #[Value.int .i64 1, .int .i64 1, .int .i64 0, .int .i64 0, .int .i64 0, .int .i64 1, .int .i64 9] 38))).ext (Ext.alloc _ (.cells #[Value.int .i64 3, .int .i64 0, .int .i64 0, .int .i64 0, .int .i64 0, .int .i64 2, .int .i64 9] 38)))
  have HB := (Blk.new (w.alloc (.cells #[Value.int .i64 1, .int .i64 0, .int .i64 0, .int .i64 0, .int .i64 0, .int .i64 0, .int .i64 9] 38)) #[Value.int .i64 1, .int .i64 1, .int .i64 0, .int .i64 0, .int .i64 0, .int .i64 1, .int .i64 9] 38).ext (Ext.alloc _ (.cells #[Value.int .i64 3, .int .i64 0, .int .i64 0, .int .i64 0, .int .i64 0, .int .i64 2, .int .i64 9] 38))
  have HC := Blk.new ((w.alloc (.cells #[Value.int .i64 1, .int .i64 0, .int .i64 0, .int .i64 0, .int .i64 0, .int .i64 0, .int .i64 9] 38)).alloc (.cells #[Value.int .i64 1, .int .i64 1, .int .i64 0, .int .i64 0, .int .i64 0, .int .i64 1, .int .i64 9] 38)) #[Value.int .i64 3, .int .i64 0, .int .i64 0, .int .i64 0, .int .i64 0, .int .i64 2, .int .i64 9] 38
  have hs3 : (((w.alloc (.cells #[Value.int .i64 1, .int .i64 0, .int .i64 0, .int .i64 0, .int .i64 0, .int .i64 0, .int .i64 9] 38)).alloc (.cells #[Value.int .i64 1, .int .i64 1, .int .i64 0, .int .i64 0, .int .i64 0, .int .i64 1, .int .i64 9] 38)).alloc (.cells #[Value.int .i64 3, .int .i64 0, .int .i64 0, .int .i64 0, .int .i64 0, .int .i64 2, .int .i64 9] 38)).heap.size = w.heap.size + 1 + 1 + 1 := by simp
  have HX := hide (((Ext.alloc w (.cells #[Value.int .i64 1, .int .i64 0, .int .i64 0, .int .i64 0, .int .i64 0, .int .i64 0, .int .i64 9] 38)).trans (Ext.alloc _ (.cells #[Value.int .i64 1, .int .i64 1, .int .i64 0, .int .i64 0, .int .i64 0, .int .i64 1, .int .i64 9] 38))).trans (Ext.alloc _ (.cells #[Value.int .i64 3, .int .i64 0, .int .i64 0, .int .i64 0, .int .i64 0, .int .i64 2, .int .i64 9] 38)))
  simp only [World.size_alloc] at HB HC
  have HB := hide HB
  have HC := hide HC
  generalize ((w.alloc (.cells #[Value.int .i64 1, .int .i64 0, .int .i64 0, .int .i64 0, .int .i64 0, .int .i64 0, .int .i64 9] 38)).alloc (.cells #[Value.int .i64 1, .int .i64 1, .int .i64 0, .int .i64 0, .int .i64 0, .int .i64 1, .int .i64 9] 38)).alloc (.cells #[Value.int .i64 3, .int .i64 0, .int .i64 0, .int .i64 0, .int .i64 0, .int .i64 2, .int .i64 9] 38) = W3 at *
  have hb4 := Blk.new W3 #[Value.int .i64 1, .int .i64 0, .int .i64 0, .int .i64 0, .int .i64 0, .int .i64 0, .int .i64 9, .int .i64 1, .int .i64 1, .int .i64 0, .int .i64 0, .int .i64 0, .int .i64 1, .int .i64 9] 38
  rw [hs3] at hb4
  have HX4 := hide (Ext.alloc W3 (.cells #[Value.int .i64 1, .int .i64 0, .int .i64 0, .int .i64 0, .int .i64 0, .int .i64 0, .int .i64 9, .int .i64 1, .int .i64 1, .int .i64 0, .int .i64 0, .int .i64 0, .int .i64 1, .int .i64 9] 38))
  generalize W3.alloc (.cells #[Value.int .i64 1, .int .i64 0, .int .i64 0, .int .i64 0, .int .i64 0, .int .i64 0, .int .i64 9, .int .i64 1, .int .i64 1, .int .i64 0, .int .i64 0, .int .i64 0, .int .i64 1, .int .i64 9] 38) = W4 at *
  have hc := can_any (c := 2) (fun i _ => ok_gN i) (by omega) (cs_blk hb4 l2_at) (Nat.le_refl _) 2 1 1
  rw [al_1, al_2] at hc
  clear hb4 hs3
  refine hc.mono ?_
  rintro e w5 ⟨rfl, hx5⟩
  have hx := HX4.out.trans hx5
  have ra := (HA.out.ext hx).cell
  have rb := (HB.out.ext hx).cell
  have rc := (HC.out.ext hx).cell
  have HX5 := hide (HX.out.trans hx)
  clear hc hx hx5 HA HB HC HX HX4
  go_wp2_with fail
  have hb6 := Blk.new w5 #[Value.int .i64 1, .int .i64 1, .int .i64 0, .int .i64 0, .int .i64 0, .int .i64 1, .int .i64 9, .int .i64 1, .int .i64 0, .int .i64 0, .int .i64 0, .int .i64 0, .int .i64 0, .int .i64 9, .int .i64 3, .int .i64 0, .int .i64 0, .int .i64 0, .int .i64 0, .int .i64 2, .int .i64 9] 38
  have HX6 := hide (HX5.out.trans (Ext.alloc w5 (.cells #[Value.int .i64 1, .int .i64 1, .int .i64 0, .int .i64 0, .int .i64 0, .int .i64 1, .int .i64 9, .int .i64 1, .int .i64 0, .int .i64 0, .int .i64 0, .int .i64 0, .int .i64 0, .int .i64 9, .int .i64 3, .int .i64 0, .int .i64 0, .int .i64 0, .int .i64 0, .int .i64 2, .int .i64 9] 38)))
  generalize w5.alloc (.cells #[Value.int .i64 1, .int .i64 1, .int .i64 0, .int .i64 0, .int .i64 0, .int .i64 1, .int .i64 9, .int .i64 1, .int .i64 0, .int .i64 0, .int .i64 0, .int .i64 0, .int .i64 0, .int .i64 9, .int .i64 3, .int .i64 0, .int .i64 0, .int .i64 0, .int .i64 0, .int .i64 2, .int .i64 9] 38) = W6 at *
  have ho := order_any (c := 3) (fun i _ => ok_gY i) (by omega) (cs_blk hb6 l3_at) (Nat.le_refl _) 2 1 1
  rw [al_3, al_4] at ho
  clear ra rb rc hb6
  refine ho.mono ?_
  rintro e w7 ⟨v, rfl, hr, hx7⟩
  obtain ⟨G, cx, e1, _, h0⟩ := own_atX hr (j := 0) (u := .int .i64 1) rfl
  obtain ⟨G1, cx1, e2, _, h1⟩ := own_atX hr (j := 1) (u := .int .i64 2) rfl
  obtain ⟨G2, cx2, e3, _, h2⟩ := own_atX hr (j := 2) (u := .int .i64 0) rfl
  subst e1
  cases e2
  cases e3
  have r0 := h0 w7 (Ext.refl _)
  have r1 := h1 w7 (Ext.refl _)
  have r2 := h2 w7 (Ext.refl _)
  have HX8 := hide (HX6.out.trans hx7)
  clear ho h0 h1 h2 hr hx7
  go_wp2_with fail
  go_ret
  exact ⟨by simp, HX8.out⟩
end Go.Proofs.Ytpielknodjppgaa

namespace Go.Proofs.Ytpielknodjppgaa
open Go.ChangeShapes Go.WideShapes Go.ChangeAt Go.RowKit Go.Deep Go.Joins
set_option linter.unusedVariables false
set_option linter.unusedSimpArgs false
set_option maxRecDepth 100000
set_option maxHeartbeats 4000000


section
variable {H : Type} {enc : TypeId × Value → H} {W : World} {base : Nat}
theorem c_int : Try.prog.cellsOf 3 = 1 := by kernel_rfl
theorem c_re : Try.prog.cellsOf 42 = 5 := by kernel_rfl
theorem trod_i {fuel : Nat} {c : Value} {cs : List Value} {y : DataW H × List MemPlace} (h : DataW.trod enc Try.prog W 0 (fun _ => true) true fuel 3 (List.take (Try.prog.cellsOf 3) (c :: cs)) = some y) : ∃ q : Int, c = .int .i64 q ∧ wfI q := by
  obtain ⟨q, e, _, hw⟩ := DataW.trod_int Try.underlying3 h
  rw [c_int] at e
  simp at e
  exact ⟨q, e, hw⟩
theorem trod_ev {fuel : Nat} {cs : List Value} {x : DataW H × List MemPlace} (h : DataW.trod enc Try.prog W 0 (fun _ => true) true fuel 42 cs = some x) (hl : cs.length = 5) :
    ∃ a b c d e : Int, cs = [.int .i64 a, .int .i64 b, .int .i64 c, .int .i64 d, .int .i64 e] ∧ wfI a ∧ wfI b ∧ wfI c ∧ wfI d ∧ wfI e := by
  obtain ⟨xs, n, _, rfl, hl2, hlen, hf⟩ := DataW.trod_struct Try.underlying42 h
  match cs, hl, xs, hlen with
  | [c0, c1, c2, c3, c4], _, [y0, y1, y2, y3, y4], _ =>
    have t0 := hf 0 _ rfl
    have t1 := hf 1 _ rfl
    have t2 := hf 2 _ rfl
    have t3 := hf 3 _ rfl
    have t4 := hf 4 _ rfl
    simp at t0 t1 t2 t3 t4
    obtain ⟨q0, rfl, w0⟩ := trod_i t0
    obtain ⟨q1, rfl, w1⟩ := trod_i t1
    obtain ⟨q2, rfl, w2⟩ := trod_i t2
    obtain ⟨q3, rfl, w3⟩ := trod_i t3
    obtain ⟨q4, rfl, w4⟩ := trod_i t4
    exact ⟨q0, q1, q2, q3, q4, rfl, w0, w1, w2, w3, w4⟩
theorem open_call {fuel : Nat} {cs : List Value} {x : DataW H × List MemPlace} (hl : cs.length = 7) (ht : DataW.trod enc Try.prog W 0 (fun _ => true) true fuel 44 cs = some x) : ∃ s : Cl, cs = (cc s).toList ∧ OkC s := by
  obtain ⟨xs, n, _, rfl, hl2, hlen, hf⟩ := DataW.trod_struct Try.underlying44 ht
  match cs, hl, xs, hlen with
  | [c0, c1, c2, c3, c4, c5, c6], _, [y0, y1, y2], _ =>
    have t0 := hf 0 _ rfl
    have t1 := hf 1 _ rfl
    have t2 := hf 2 _ rfl
    simp at t0 t1 t2
    obtain ⟨q5, rfl, w5⟩ := trod_i t1
    obtain ⟨q6, rfl, w6⟩ := trod_i t2
    rw [c_re] at t0
    simp at t0
    obtain ⟨e0, e1, e2, e3, e4, e5, w0, w1, w2, w3, w4⟩ := trod_ev t0 rfl
    simp at e5
    obtain ⟨rfl, rfl, rfl, rfl, rfl⟩ := e5
    exact ⟨⟨e0, e1, e2, e3, e4, q5, q6⟩, rfl, w0, w1, w2, w3, w4, w5, w6⟩
theorem open_calls {v : Value} {d : DataW H} {p : List MemPlace} (hv : Value.okWide Try.prog W .any base 23 v) (h : DataW.Trod enc Try.prog W 0 (fun _ => true) true 23 v d p) :
    ∃ (A : Option Addr) (n c : Nat) (g : Nat → Cl), v = .slice A n c ∧ n ≤ c ∧ c ≤ maxLen ∧ Cs W W.heap.size A n g ∧ ∀ k, k < n → OkC (g k) := by
  obtain ⟨A, n, c, xs, rfl, hnc, hc, hs, hel⟩ := open_elems Try.underlying23 (sz := 7) (by kernel_rfl) (by omega) hv h
  have h1 : ∀ i, i < n → ∃ s : Cl, (∀ j, j < 7 → xs[i * 7 + j]? = (cc s)[j]?) ∧ OkC s := by
    intro i hi
    obtain ⟨m, y, ht⟩ := hel i hi
    have hl : ((xs.drop (i * 7)).take 7).length = 7 := by
      have := hs.1
      have : (i + 1) * 7 ≤ n * 7 := Nat.mul_le_mul_right _ hi
      simp; omega
    obtain ⟨s, hs2, ok⟩ := open_call hl ht
    refine ⟨s, fun j hj => ?_, ok⟩
    have e := congrArg (·[j]?) hs2
    simp only [List.getElem?_take, if_pos hj, List.getElem?_drop, Array.getElem?_toList] at e
    exact e
  obtain ⟨f, hf⟩ := choose_lt h1
  refine ⟨A, n, c, f, rfl, hnc, hc, fun k hk => ?_, fun k hk => (hf k hk).2⟩
  obtain ⟨b, off, ha, hb, hcells⟩ := hs.at_ hk
  exact ⟨b, off, ha, hb, fun i hi => (hcells i hi).trans ((hf k hk).1 i hi)⟩
end
theorem okWide_array {w : World} {base : Nat} {n : Nat} {t e : TypeId} {v : Value} (ht : Try.prog.underlying t = some (.array n e)) (h : Value.okWide Try.prog w .any base t v) : ∃ cs, v = .agg cs ∧ cs.size = Try.prog.cellsOf t := by
  simp only [Value.okWide, ht] at h
  cases v <;> simp_all
theorem array3 {cs : Array Value} (h : cs.size = 3) : ∃ x y z, cs = #[x, y, z] := by
  obtain ⟨l⟩ := cs
  match l, h with
  | [x, y, z], _ => exact ⟨x, y, z, rfl⟩
theorem open_trip {H : Type} {enc : TypeId × Value → H} {W : World} {base : Nat} {v : Value} {d : DataW H} {p : List MemPlace} (hv : Value.okWide Try.prog W .any base 22 v) (h : DataW.Trod enc Try.prog W 0 (fun _ => true) true 22 v d p) :
    ∃ a b c : Int, v = .agg #[Value.int .i64 a, .int .i64 b, .int .i64 c] := by
  obtain ⟨cs, rfl, hsz⟩ := okWide_array Try.underlying22 hv
  have hsz3 : cs.size = 3 := hsz.trans (by kernel_rfl)
  obtain ⟨c0, c1, c2, rfl⟩ := array3 hsz3
  obtain ⟨fuel, hf⟩ := h
  obtain ⟨xs, m, _, _, _, hl, hel⟩ := DataW.trod_array Try.underlying22 hf
  have hc : Try.prog.cellsOf 3 = 1 := by kernel_rfl
  rw [hc] at hel
  have g0 := hel 0 (by omega)
  have g1 := hel 1 (by omega)
  have g2 := hel 2 (by omega)
  rw [List.getElem?_eq_getElem (by omega)] at g0 g1 g2
  obtain ⟨a, e0, _, wa⟩ := DataW.trod_int Try.underlying3 g0
  obtain ⟨b, e1, _, wb⟩ := DataW.trod_int Try.underlying3 g1
  obtain ⟨c, e2, _, wc⟩ := DataW.trod_int Try.underlying3 g2
  simp [Value.cells] at e0 e1 e2
  subst e0 e1 e2
  exact ⟨a, b, c, rfl⟩
end Go.Proofs.Ytpielknodjppgaa
