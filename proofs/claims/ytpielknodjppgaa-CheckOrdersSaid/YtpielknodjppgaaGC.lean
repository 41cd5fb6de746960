/- The document's May, and whether a call may be the next one. -/
import Derived.Test.YtpielknodjppgaaGA
import Derived.BigRegion
import Derived.Test.YtpielknodjppgaaR19
import Derived.Test.YtpielknodjppgaaR20
import Derived.Test.YtpielknodjppgaaR13
import Derived.Test.YtpielknodjppgaaGB
namespace Go.Proofs.Ytpielknodjppgaa
open Go.RowKit Go.Maps
set_option linter.unusedSimpArgs false
set_option linter.unusedVariables false
set_option maxRecDepth 100000
set_option maxHeartbeats 1000000


theorem cmay_no {c : Cl} (h : ¬ c.f < c.u) : mayC c = false := by unfold mayC; simp [h]
theorem rmay_any (c : Cl) (w : World) : Calls Try.prog 12 #[.agg (cc c)] w fun e w' => e = .returned (.bool (mayC c)) ∧ Ext w w' := by
  obtain ⟨k, t, o, a, r, f, u⟩ := c
  have x1 := Ext.alloc w (.cells #[Value.int .i64 k, .int .i64 t, .int .i64 o, .int .i64 a, .int .i64 r, .int .i64 f, .int .i64 u] 44)
  by_cases hfu : f < u
  · have hq : ¬ u ≤ f := by omega
    have EE : ∀ b, cntE k a r = b → mayC ⟨k, t, o, a, r, f, u⟩ = b := fun b e => by unfold mayC; simp [e, hfu]
    unfold cc
    simp only
    by_cases k1 : k = 1
    · subst k1; rw [EE true rfl]; go_enter Try.func12, Try.ntmps12; go_wp2; go_ret; exact ⟨rfl, x1⟩
    by_cases k2 : k = 2
    · subst k2; rw [EE true rfl]; go_enter Try.func12, Try.ntmps12; go_wp2; go_ret; exact ⟨rfl, x1⟩
    by_cases k3 : k = 3
    · subst k3; rw [EE true rfl]; go_enter Try.func12, Try.ntmps12; go_wp2; go_ret; exact ⟨rfl, x1⟩
    by_cases k9 : k = 9
    · subst k9; rw [EE true rfl]; go_enter Try.func12, Try.ntmps12; go_wp2; go_ret; exact ⟨rfl, x1⟩
    by_cases k11 : k = 11
    · subst k11; rw [EE true rfl]; go_enter Try.func12, Try.ntmps12; go_wp2; go_ret; exact ⟨rfl, x1⟩
    by_cases k12 : k = 12
    · subst k12; rw [EE true rfl]; go_enter Try.func12, Try.ntmps12; go_wp2; go_ret; exact ⟨rfl, x1⟩
    by_cases k8 : k = 8
    · subst k8; rw [EE _ rfl]; go_enter Try.func12, Try.ntmps12; go_wp2; go_ret; exact ⟨rfl, x1⟩
    by_cases k10 : k = 10
    · subst k10; rw [EE _ rfl]; go_enter Try.func12, Try.ntmps12; go_wp2; go_ret; exact ⟨rfl, x1⟩
    have E : cntE k a r = false := by unfold cntE; rw [if_neg (by omega), if_neg k8, if_neg k10]
    rw [EE _ E]
    clear E EE
    go_enter Try.func12, Try.ntmps12
    go_wp2
    go_ret
    exact ⟨rfl, x1⟩
  · have hq : u ≤ f := by omega
    rw [cmay_no hfu]
    unfold cc
    simp only
    go_enter Try.func12, Try.ntmps12
    go_wp2
    go_ret
    exact ⟨rfl, x1⟩
theorem own_atY {w : World} {base n : Nat} {e : TypeId} {v u : Value} {xs : List Value} (h : w.ownsRow base e 1 v n xs) {j : Nat} (hj : xs[j]? = some u) :
    ∃ g c, v = .slice (some ⟨g, 0, none⟩) n c ∧ ∀ w', Ext w w' → w'.cell? ⟨g, j, none⟩ = some u := by
  have hjn : j < n := by
    have := (List.getElem?_eq_some_iff.1 hj).1
    have := h.1
    omega
  rcases h.2 with ⟨_, h0⟩ | ⟨g, cap, cur, rfl, hb, hh, h3, h4, h5, h6⟩
  · omega
  · refine ⟨g, cap, rfl, fun w' hx => (hx.oldCell _ _ (own_lt h g rfl)).trans ?_⟩
    rw [cell_of_row w g j cur e (0, 0) hh, ← Array.getElem?_toList, ← hj, ← h6, List.getElem?_take_of_lt (by omega)]
/-- Those that are left, as a row of Booleans. -/
def lfL (n d : Nat) : List Value := (List.range n).map fun i => .bool (!d.testBit i)
theorem lfL_at {n d i : Nat} (h : i < n) : (lfL n d)[i]? = some (.bool (!d.testBit i)) := by unfold lfL; rw [List.getElem?_map, List.getElem?_range h]; rfl
theorem lfL_set {n d k : Nat} (h : k < n) : (lfL n d).set k (.bool false) = lfL n (d ||| 2 ^ k) := by
  apply List.ext_getElem?
  intro i
  by_cases hi : i < n
  · rw [lfL_at hi, bt_or, List.getElem?_set]
    by_cases e : k = i
    · subst e
      rw [if_pos rfl, if_pos (by unfold lfL; simpa using h)]
      simp
    · rw [if_neg e, lfL_at hi]
      simp [e]
  · rw [List.getElem?_eq_none (by unfold lfL; simp; omega), List.getElem?_eq_none (by unfold lfL; simp; omega)]
theorem rfree_any {w : World} {b0 n c k d base : Nat} {A : Option Addr} {g : Nat → Cl} {lv : Value} (h : Cs w b0 A n g) (hl : w.ownsRow base 4 1 lv n (lfL n d)) (hk : k < n) (hn : n ≤ 1000) (hb : b0 ≤ w.heap.size) :
    Calls Try.prog 29 #[.slice A n c, lv, .int .i64 (k : Int)] w fun e w' => e = .returned (.bool (freeB n g d k)) ∧ Ext w w' := by
  have H := hide h
  have HL := hide hl
  obtain ⟨G, cx, rfl, hck⟩ := own_atY hl (lfL_at hk)
  have HCK := hide hck
  clear h hl hck
  go_enter Try.func29, Try.ntmps29
  go_wp2_with fail
  go_loopw [7] (fun v wr => ∃ j : Nat, j ≤ n ∧ v = .int .i64 (j : Int) ∧ (∀ i, i < j → d.testBit i = true ∨ ¬ (g i).u < (g k).f) ∧ Ext w wr) (fun v _ => n - (intOf v).toNat)
  case atStart => exact ⟨0, by omega, rfl, fun i hi => by omega, Ext.refl _⟩
  case round =>
    obtain ⟨j, hj, rfl, hbf, hX⟩ := hrel
    have HX := hide (hX.trans (Ext.drew wr))
    have HB := hide hbf
    by_cases hlt : j < n
    · obtain ⟨G2, c2, e2, hcj⟩ := own_atY HL.out (lfL_at hlt)
      cases e2
      have rj := hcj wr.drew HX.out
      have rk := HCK.out wr.drew HX.out
      obtain ⟨bj, oj, ej, hbj, r0, r1, r2, r3, r4, r5, r6⟩ := (H.out.ext HX.out hb).rules hlt
      obtain ⟨bk, ok, ek, hbk, q0, q1, q2, q3, q4, q5, q6⟩ := (H.out.ext HX.out hb).rules hk
      subst ej
      cases ek
      clear hcj r0 r1 r2 r3 r4 r5 q0 q1 q2 q3 q4 q6 hbf hX
      cases hdj : d.testBit j
      · rw [hdj] at rj
        simp only [Bool.not_false] at rj
        by_cases hu : (g j).u < (g k).f
        · have E : freeB n g d k = false := by
            cases q : freeB n g d k
            · rfl
            · rcases (free_iff.1 q).2 j hlt with z | z
              · rw [hdj] at z; cases z
              · exact absurd hu z
          have E := hide E
          generalize (g j).u = uj at *
          generalize (g k).f = fk at *
          clear hdj
          go_wp2_with fail
          go_region
          go_wp2_with fail
          go_ret
          exact ⟨by rw [E.out]; simp, HX.out⟩
        · have HJ := hide (show ∀ i, i < j + 1 → d.testBit i = true ∨ ¬ (g i).u < (g k).f from fun i hi => by
            by_cases q : i = j
            · subst q; exact .inr hu
            · exact HB.out i (by omega))
          clear HB
          generalize (g j).u = uj at *
          generalize (g k).f = fk at *
          clear hdj
          go_wp2_with fail
          go_region
          go_wp2_with fail
          exact ⟨⟨j + 1, by omega, by go_num, fun i hi => (HJ.out i hi).imp id (fun q => by omega), HX.out⟩, by simp [intOf]; omega⟩
      · rw [hdj] at rj
        simp only [Bool.not_true] at rj
        have HDJ := hide hdj
        clear hdj
        go_wp2_with fail
        go_region
        go_wp2_with fail
        go_roundw
        case rel => exact ⟨j + 1, by omega, by go_num, fun i hi => by
          by_cases q : i = j
          · subst q; exact .inl HDJ.out
          · exact (HB.out i (by omega)).imp id (fun q => by omega), HX.out⟩
        case measure => simp [intOf]; omega
    · obtain rfl : j = n := by omega
      have E := hide (show freeB j g d k = !d.testBit k by
        apply Bool.eq_iff_iff.2
        rw [free_iff]
        simp only [Bool.not_eq_true']
        exact ⟨fun h => h.1, fun h => ⟨h, hbf⟩⟩)
      have rk := HCK.out wr hX
      clear hbf
      go_wp2_with fail
      go_ret
      exact ⟨by rw [E.out]; simp, hX⟩
end Go.Proofs.Ytpielknodjppgaa

namespace Go.Proofs.Ytpielknodjppgaa
open Go.RowKit Go.Maps
set_option linter.unusedSimpArgs false
set_option linter.unusedVariables false
set_option maxRecDepth 100000
set_option maxHeartbeats 4000000


theorem inf_bool : (Try.prog.info? 4).map (fun i => (i.zero, i.size, i.bytes)) = some (some (.bool false), 1, 1) := by kernel_rfl
theorem own_one {w : World} {base g : Nat} {e : TypeId} {u : Value} (hb : Blk w g #[u] e) (h : base ≤ g) : w.ownsRow base e 1 (.slice (some ⟨g, 0, none⟩) 1 1) 1 [u] :=
  ⟨rfl, .inr ⟨g, 1, #[u], rfl, h, hb, Nat.le_refl _, by unfold maxLen; omega, rfl, rfl⟩⟩
/-- One element of a row of one's own is put. -/
theorem own_set {w : World} {base n c g k : Nat} {e : TypeId} {u : Value} {xs : List Value} (h : w.ownsRow base e 1 (.slice (some ⟨g, 0, none⟩) n c) n xs) (hk : k < n) :
    (w.setCell ⟨g, k, none⟩ u).ownsRow base e 1 (.slice (some ⟨g, 0, none⟩) n c) n (xs.set k u) := by
  obtain ⟨hl, ⟨h1, h2⟩ | ⟨g2, cap, cur, hv, hb, hh, h3, h4, h5, h6⟩⟩ := h
  · omega
  · simp only [Value.slice.injEq, Option.some.injEq, Addr.mk.injEq] at hv
    obtain ⟨⟨rfl, _⟩, _, rfl⟩ := hv
    refine ⟨by simpa using hl, .inr ⟨g, c, cur.setIfInBounds k u, rfl, hb, Blk.set (show Blk w g cur e from hh) k u, h3, h4, by simpa using h5, ?_⟩⟩
    rw [← h6]
    apply List.ext_getElem?
    intro i
    rw [List.getElem?_set]
    by_cases hi : i < n * 1
    · rw [List.getElem?_take_of_lt hi, Array.getElem?_toList, Array.getElem?_setIfInBounds]
      by_cases q : k = i
      · subst q
        rw [if_pos rfl, if_pos rfl, if_pos (by omega), if_pos (by simp; omega)]
      · rw [if_neg q, if_neg q, List.getElem?_take_of_lt hi, Array.getElem?_toList]
    · rw [List.getElem?_take_eq_none (by omega), if_neg (by omega), List.getElem?_take_eq_none (by omega)]
/-- 'append(v, x..)', x a row of one's own, or nil. -/
theorem wpList_join {P : Program} {w : World} {base base2 : Nat} {ops : Array Oper} {rest : List Oper} {o : Oper} {a : Act} {Q : Exit → Act → World → Prop} {s x : Operand} {t : TypeId} (hgd : o.guard = none)
    (ho : o.op = .call { callee := .builtin .append, args := #[s, x], argTypes := #[t, t] })
    {e : TypeId} {z : Value} {bytes : Nat} (ht : P.underlying t = some (.slice e)) (hinf : (P.info? e).map (fun i => (i.zero, i.size, i.bytes)) = some (some z, 1, bytes)) (hzs : z.cells.size = 1)
    {v v2 : Value} {n m : Nat} {xs ys : List Value} (hs : a.eval s = v) (hown : w.ownsRow base e 1 v n xs) (hx : a.eval x = v2) (hown2 : w.ownsRow base2 e 1 v2 m ys) (h1 : ∀ u ∈ ys, u.oneCell' = true)
    (hn : n + m ≤ maxLen) (hby : (n + m) * bytes ≤ 140737488355328) (hbase : base ≤ w.heap.size)
    (h : ∀ v' w', w'.ownsRow base e 1 v' (n + m) (xs ++ ys) → w.grownBy w' v.ownBlock → wpList P ops Q rest (a.put o.dst v') w') : wpList P ops Q (o :: rest) a w := by
  obtain ⟨i, hi, hz, hsize, hb⟩ := info_parts hinf
  have hl := hown2.1
  rcases hown2.2 with ⟨rfl, rfl⟩ | ⟨g, cap, cur, rfl, _, hh, hnc, _, hcs, htake⟩
  · have e0 : ys = [] := List.eq_nil_of_length_eq_zero (by simpa using hl)
    subst e0
    exact wpList_append_own_none hgd s x t ho base e i 1 ht hi v n xs hs hown hx (h _ _ (by simpa using hown) (World.grownBy.refl w _))
  · exact wpList_append_own w hgd s x t ho base e i z 1 bytes ht hi hz hsize hb hzs (by omega) v n xs hs hown ⟨g, 0, none⟩ m cap ys hx hl (hown2.cells rfl) h1 hn hby hbase (fun v' w' h2 hg _ => h v' w' h2 hg)
theorem own_some8 {w : World} {base n size c : Nat} {e : TypeId} {A : Option Addr} {xs : List Value} (h : w.ownsRow base e size (.slice A n c) n xs) (hn : 0 < n) : ∃ g, A = some ⟨g, 0, none⟩ ∧ n ≤ c ∧ c ≤ maxLen := by
  obtain ⟨hl, h | ⟨g, cap, cur, hv, hb, hh, h3, h4, h5, h6⟩⟩ := h
  · have := h.2; omega
  · simp only [Value.slice.injEq] at hv
    obtain ⟨rfl, _, rfl⟩ := hv
    exact ⟨g, rfl, h3, h4⟩
theorem own_cellY {w : World} {base n g c : Nat} {e : TypeId} {u : Value} {xs : List Value} (h : w.ownsRow base e 1 (.slice (some ⟨g, 0, none⟩) n c) n xs) {j : Nat} (hj : xs[j]? = some u) : w.cell? ⟨g, j, none⟩ = some u ∧ w.frozen? ⟨g, j, none⟩ = false := by
  obtain ⟨g2, c2, e2, hc⟩ := own_atY h hj
  cases e2
  obtain ⟨cs, hb⟩ := own_blk h g rfl
  exact ⟨hc w (Ext.refl w), hb.free j⟩
def RestC (n : Nat) (g : Nat → Cl) (m : Nat) : Prop := ∀ (w : World) (b0 base c d : Nat) (A : Option Addr) (lv : Value) (S : St), Ok S → Cs w b0 A n g → b0 ≤ w.heap.size → w.ownsRow base 4 1 lv n (lfL n d) →
  Calls Try.prog 21 #[.agg (rc S), .slice A n c, lv, .int .i64 (m : Int)] w fun e w' => ∃ v, e = .returned (.tuple #[v, .bool (pick n g m S d).isSome]) ∧ w'.ownsRow w.heap.size 3 1 v ((pick n g m S d).getD []).length (((pick n g m S d).getD []).map enI) ∧ Ext w w'

theorem rest_0 {n : Nat} {g : Nat → Cl} : RestC n g 0 := by
  intro w b0 base c d A lv S ok h hb hl
  have HX := hide (Ext.alloc w (.cells (rc S) 56))
  have E := hide (show pick n g 0 S d = some [] from rfl)
  clear h hl
  go_enter Try.func21, Try.ntmps21
  go_wp2_with fail
  go_ret2
  refine ⟨.slice none 0 0, by rw [E.out]; simp, ?_, HX.out⟩
  rw [E.out]
  exact own_nil _ _ _ _
theorem rest_succ {n : Nat} {g : Nat → Cl} {m : Nat} (IH : RestC n g m) (hn : n ≤ 1000) (hm : m < 1000) : RestC n g (m + 1) := by
  intro w b0 base c d A lv S ok h hb hl
  have H := hide h
  have HL := hide hl
  have HOK := hide ok
  have HB := hide (Blk.new w (rc S) 56)
  have HX := hide (Ext.alloc w (.cells (rc S) 56))
  have HP := hide (pick_succ n g m S d)
  obtain ⟨AL, cl, rfl⟩ := own_sl hl
  obtain ⟨mi, hmi⟩ : ∃ mi : Int, mi = ((m + 1 : Nat) : Int) := ⟨_, rfl⟩
  rw [← hmi]
  have hm0 : (mi == 0) = false := by simp; omega
  have HMI := hide hmi
  obtain ⟨R, hR⟩ : ∃ R, R = w.heap.size := ⟨_, rfl⟩
  rw [← hR] at HB
  clear ok h hl hmi
  obtain ⟨zz, hz1, hz2, hz3, hz4, -⟩ : ∃ zz : Array Value, (∀ w, (zeroValue 56).run Try.prog w = .ok (.agg zz) w) ∧ ¬ zz = #[] ∧ ¬ zz.size < 2 ∧ zz.size = 227 ∧ zz = zr := ⟨_, fun w => by kernel_rfl, by decide +kernel, by decide +kernel, by decide +kernel, rfl⟩
  have HZ := hide hz4
  clear hz4
  go_enter Try.func21, Try.ntmps21
  go_wp2_with fail
  rw [← hR]
  have HR0 := hide hR
  generalize w.alloc (.cells (rc S) 56) = W0 at *
  clear hm0 hR
  go_loopw [10] (fun v wr => ∃ j : Nat, j ≤ n ∧ v = .int .i64 (j : Int) ∧ Ext W0 wr ∧ ∀ i, i < j → tryK n g m S d i = none) (fun v _ => n - (intOf v).toNat)
  case atStart => exact ⟨0, by omega, rfl, Ext.refl _, fun i hi => by omega⟩
  case round =>
    obtain ⟨j, hj, rfl, hX, hno⟩ := hrel
    have HX0 := hide hX
    have HNO := hide hno
    have HX1 := hide (HX.out.trans hX)
    have HB1 := hide (HB.out.ext hX)
    by_cases hlt : j < n
    · have hfr := rfree_any (c := c) (H.out.ext HX1.out hb) (own_ext HL.out HX1.out) hlt hn (by have := HX1.out.size; omega)
      clear hno hX
      cases qf : freeB n g d j
      · rw [qf] at hfr
        have HT := hide (show tryK n g m S d j = none by unfold tryK; rw [qf]; rfl)
        clear qf
        go_wp2_with fail
        refine hfr.mono ?_
        rintro e w1 ⟨rfl, hx1⟩
        have HX2 := hide (HX0.out.trans hx1)
        go_wp2_with fail
        go_roundw
        case rel => exact ⟨j + 1, by omega, by go_num, HX2.out, fun i hi => by
          by_cases q : i = j
          · subst q; exact HT.out
          · exact HNO.out i (by omega)⟩
        case measure => simp [intOf]; omega
      · rw [qf] at hfr
        have HT := hide (show tryK n g m S d j = (if acc S (g j) = true then (pick n g m (nxt S (g j)) (d ||| 2 ^ j)).map (j :: ·) else none) by unfold tryK; rw [qf, Bool.true_and])
        have HOK1 := hide (show Ok (nxt S (g j)) from ap_ok HOK.out _ _ _ _ _)
        have CR := hide (fun w' => rapply_any HOK.out (g j).k (g j).t (g j).o (g j).a (g j).r w')
        unfold RAp at CR
        have HA := hide (show apE S (g j).k (g j).t (g j).o (g j).a (g j).r = (if acc S (g j) = true then 0 else 15) from rfl)
        have HN := hide (show apS S (g j).k (g j).t (g j).o (g j).a (g j).r = nxt S (g j) from rfl)
        have hlen9 := hide (show ∀ out, tryK n g m S d j = some (j :: out) → out.length = m from fun out q => by
          have := HP.out.trans (find_some (x := j :: out) hlt HNO.out q)
          have := (pick_sound _ _ _ _ this).1
          simpa using this)
        clear qf
        go_wp2_with fail
        refine hfr.mono ?_
        rintro e w1 ⟨rfl, hx1⟩
        have HX2 := hide (HX0.out.trans hx1)
        have HBW := hide (HB.out.ext HX2.out)
        obtain ⟨b, off, rfl, hbb, -⟩ := (H.out).rules hlt
        have HCW := hide (show ∀ w', Ext w1 w' → w'.cell? ⟨b, off + j * 7, none⟩ = some (.int .i64 (g j).k) ∧ w'.cell? ⟨b, off + j * 7 + 1, none⟩ = some (.int .i64 (g j).t) ∧ w'.cell? ⟨b, off + j * 7 + 2, none⟩ = some (.int .i64 (g j).o) ∧ w'.cell? ⟨b, off + j * 7 + 3, none⟩ = some (.int .i64 (g j).a) ∧ w'.cell? ⟨b, off + j * 7 + 4, none⟩ = some (.int .i64 (g j).r) from fun w' x => by
          obtain ⟨b2, off2, e2, -, r0, r1, r2, r3, r4, -⟩ := (H.out.ext ((HX.out.trans HX2.out).trans x) hb).rules hlt
          cases e2
          exact ⟨r0, r1, r2, r3, r4⟩)
        generalize apS S (g j).k (g j).t (g j).o (g j).a (g j).r = S1 at *
        generalize apE S (g j).k (g j).t (g j).o (g j).a (g j).r = er at *
        generalize (g j).k = x0 at *
        generalize (g j).t = x1 at *
        generalize (g j).o = x2 at *
        generalize (g j).a = x3 at *
        generalize (g j).r = x4 at *
        clear hfr hx1 HB1 HX1 HX0
        go_upto_region 7 with fail
        have hk := Ext.drew w1
        have hz0 := HCW.out _ hk
        refine wp_region_held_drew (S := fun w' => w'.rangeAt R 0 (rc S).toList ∧ w'.cell? ⟨b, off + j * 7, none⟩ = some (.int .i64 x0) ∧ w'.cell? ⟨b, off + j * 7 + 1, none⟩ = some (.int .i64 x1) ∧ w'.cell? ⟨b, off + j * 7 + 2, none⟩ = some (.int .i64 x2) ∧ w'.cell? ⟨b, off + j * 7 + 3, none⟩ = some (.int .i64 x3) ∧ w'.cell? ⟨b, off + j * 7 + 4, none⟩ = some (.int .i64 x4)) (by kernel_rfl) (⟨rc_rng (HBW.out.ext hk), hz0.1, hz0.2.1, hz0.2.2.1, hz0.2.2.2.1, hz0.2.2.2.2⟩) (fun hHeld => ?_)
        clear hz0
        refine wpAnyH_take (i := 0) (at_drop rfl) (by kernel_rfl) (by kernel_rfl) (by kernel_rfl) (fun _ _ _ h => h) (yieldsIf_load_mid (by rfl) 56 _ rfl R 0 rfl (rc S).toList _ (fun w h => h.1) Try.underlying56 rfl (inf_rm S)) (by assumption) ?_
        rw [Array.toArray_toList]
        (try simp only [Act.put, List.setIfInBounds_toArray, List.set_cons_zero, List.set_cons_succ])
        (refine held_take (i := 1) (v := ?_) rfl (by kernel_rfl) (by kernel_rfl) (by kernel_rfl) (fun _ _ _ h => h) (by rfl) ?_ (by assumption) ?_; rotate_left; (intro w hSw; (try dsimp only at hSw); (first | (go_simp; done) | (go_simp; with_reducible rfl))); (try simp only [Act.put, List.setIfInBounds_toArray, List.set_cons_zero, List.set_cons_succ]))
        (refine held_take (i := 2) (v := ?_) rfl (by kernel_rfl) (by kernel_rfl) (by kernel_rfl) (fun _ _ _ h => h) (by rfl) ?_ (by assumption) ?_; rotate_left; (intro w hSw; (try dsimp only at hSw); (first | (go_simp; done) | (go_simp; with_reducible rfl))); (try simp only [Act.put, List.setIfInBounds_toArray, List.set_cons_zero, List.set_cons_succ]))
        (refine held_take (i := 3) (v := ?_) rfl (by kernel_rfl) (by kernel_rfl) (by kernel_rfl) (fun _ _ _ h => h) (by rfl) ?_ (by assumption) ?_; rotate_left; (intro w hSw; (try dsimp only at hSw); (first | (go_simp; done) | (go_simp; with_reducible rfl))); (try simp only [Act.put, List.setIfInBounds_toArray, List.set_cons_zero, List.set_cons_succ]))
        (refine held_take (i := 4) (v := ?_) rfl (by kernel_rfl) (by kernel_rfl) (by kernel_rfl) (fun _ _ _ h => h) (by rfl) ?_ (by assumption) ?_; rotate_left; (intro w hSw; (try dsimp only at hSw); (first | (go_simp; done) | (go_simp; with_reducible rfl))); (try simp only [Act.put, List.setIfInBounds_toArray, List.set_cons_zero, List.set_cons_succ]))
        (refine held_take (i := 5) (v := ?_) rfl (by kernel_rfl) (by kernel_rfl) (by kernel_rfl) (fun _ _ _ h => h) (by rfl) ?_ (by assumption) ?_; rotate_left; (intro w hSw; (try dsimp only at hSw); (first | (go_simp; done) | (go_simp; with_reducible rfl))); (try simp only [Act.put, List.setIfInBounds_toArray, List.set_cons_zero, List.set_cons_succ]))
        refine wpAnyH_ready (rs := [6, 10]) (by kernel_rfl) (by simp) (held_cons rfl (fun K hK => ?_) (held_cons rfl (fun K hK => ?_) AllReadyH.nil))
        · rw [if_pos (by rfl)]
          go_simp
          go_at_call 24
          refine (CR.out _).mono ?_
          rintro e w5 ⟨rfl, hx5⟩
          have hk := hk.trans hx5
          refine hK.out _ _ ⟨rc_rng (HBW.out.ext hk), (HCW.out _ hk).1, (HCW.out _ hk).2.1, (HCW.out _ hk).2.2.1, (HCW.out _ hk).2.2.2.1, (HCW.out _ hk).2.2.2.2⟩ (fun hHeld => ?_)
          (try simp only [Act.put, List.setIfInBounds_toArray, List.set_cons_zero, List.set_cons_succ])
          (refine held_take (i := 7) (v := ?_) rfl (by kernel_rfl) (by kernel_rfl) (by kernel_rfl) (fun _ _ _ h => h) (by rfl) ?_ (by assumption) ?_; rotate_left; (intro w hSw; (try dsimp only at hSw); (first | (go_simp; done) | (go_simp; with_reducible rfl))); (try simp only [Act.put, List.setIfInBounds_toArray, List.set_cons_zero, List.set_cons_succ]))
          (refine held_take (i := 8) (v := ?_) rfl (by kernel_rfl) (by kernel_rfl) (by kernel_rfl) (fun _ _ _ h => h) (by rfl) ?_ (by assumption) ?_; rotate_left; (intro w hSw; (try dsimp only at hSw); (first | (go_simp; done) | (go_simp; with_reducible rfl))); (try simp only [Act.put, List.setIfInBounds_toArray, List.set_cons_zero, List.set_cons_succ]))
          (refine held_take (i := 9) (v := ?_) rfl (by kernel_rfl) (by kernel_rfl) (by kernel_rfl) (fun _ _ _ h => h) (by rfl) ?_ (by assumption) ?_; rotate_left; (intro w hSw; (try dsimp only at hSw); (first | (go_simp; done) | (go_simp; with_reducible rfl))); (try simp only [Act.put, List.setIfInBounds_toArray, List.set_cons_zero, List.set_cons_succ]))
          refine wpAnyH_ready (rs := [10]) (by kernel_rfl) (by simp) (held_cons rfl (fun K hK => ?_) AllReadyH.nil)
          rw [if_pos (by rfl)]
          go_wp2
          have HR := hide (Blk.new w5 zz 56)
          have HLX := hide hk.size
          have hk := hk.trans (Ext.alloc w5 (.cells zz 56))
          generalize w5.alloc (.cells zz 56) = W6 at *
          generalize w5.heap.size = X at *
          refine hK.out _ _ ⟨rc_rng (HBW.out.ext hk), (HCW.out _ hk).1, (HCW.out _ hk).2.1, (HCW.out _ hk).2.2.1, (HCW.out _ hk).2.2.2.1, (HCW.out _ hk).2.2.2.2⟩ (fun hHeld => ?_)
          (try simp only [Act.put, List.setIfInBounds_toArray, List.set_cons_zero, List.set_cons_succ])
          have HX6 := hide hk
          refine wpAnyH_ready (rs := [11]) (by kernel_rfl) (by simp) (held_cons rfl (fun K hK => ?_) AllReadyH.nil)
          rw [if_pos (by rfl)]
          refine wp_store_row 56 _ _ rfl X (rc S1) rfl rfl 56 zz HR.out (by rw [rc_size]; exact inf_rz) (by rw [HZ.out, rc_size]) (all_rc S1) ?_
          have HQ := hide (setRow_heap W6 X zz (rc S1) 56 _ HR.out)
          have hc' := Chg.row (cs := rc S1) HR.out
          have HX7 := hide ((HX6.out).turn hc' (by simpa using HLX.out))
          clear hc'
          have hk := HX7.out
          generalize W6.setRow X (rc S1) = W7 at *
          refine hK.out _ _ ⟨rc_rng (HBW.out.ext hk), (HCW.out _ hk).1, (HCW.out _ hk).2.1, (HCW.out _ hk).2.2.1, (HCW.out _ hk).2.2.2.1, (HCW.out _ hk).2.2.2.2⟩ (fun hHeld => ?_)
          (try simp only [Act.put, List.setIfInBounds_toArray, List.set_cons_zero, List.set_cons_succ])
          (refine held_take (i := 12) (v := ?_) rfl (by kernel_rfl) (by kernel_rfl) (by kernel_rfl) (fun _ _ _ h => h) (by rfl) ?_ (by assumption) ?_; rotate_left; (intro w hSw; (try dsimp only at hSw); (first | (go_simp; done) | (go_simp; with_reducible rfl))); (try simp only [Act.put, List.setIfInBounds_toArray, List.set_cons_zero, List.set_cons_succ]))
          refine wpAnyH_done (by kernel_rfl) ?_ _
          clear hK hHeld
          have HX8 := hide (HX2.out.trans HX7.out)
          have HXW := hide (HX.out.trans HX8.out)
          clear hk HBW HCW HX7 HX6 HR CR
          cases hac : acc S (g j)
          · have e15 : er = 15 := by rw [HA.out, hac]; rfl
            subst e15
            have HT2 := hide (show tryK n g m S d j = none by rw [HT.out, hac]; rfl)
            clear hac HA HT
            go_wp2_with fail
            go_roundw
            case rel => exact ⟨j + 1, by omega, by go_num, HX8.out, fun i hi => by
              by_cases q : i = j
              · subst q; exact HT2.out
              · exact HNO.out i (by omega)⟩
            case measure => simp [intOf]; omega
          · have e0 : er = 0 := by rw [HA.out, hac]; rfl
            subst e0
            have HT2 := hide (show tryK n g m S d j = (pick n g m (nxt S (g j)) (d ||| 2 ^ j)).map (j :: ·) by rw [HT.out, hac]; rfl)
            rw [HN.out] at HQ
            rw [← HN.out] at HQ HT2 HOK1
            clear hac HA HT HN
            have hown := own_ext HL.out HXW.out
            go_wp2_with (first
              | (at_builtin; refine wpList_clone (W0 := W7) rfl _ _ _ rfl Try.underlying67 inf_bool rfl (by omega) rfl rfl hown (Ext.refl W7) (by unfold lfL; simp [Value.oneCell']) (by unfold maxLen; omega) (by omega) ?_; intro v' w8 ho8 hx8; obtain ⟨A8, c8, rfl⟩ := own_sl ho8; obtain ⟨G8, rfl, hc8, hm8⟩ := own_some8 ho8 (by omega); have HO8 := hide ho8; have HX9 := hide hx8; have gc := (own_cellY ho8 (lfL_at hlt)).1; have gf := (own_cellY ho8 (lfL_at hlt)).2; clear ho8 hx8; go_frame))
            have hG8 : W7.heap.size ≤ G8 := own_row HO8.out G8 rfl
            have hXl : X < W7.heap.size := (show Blk W7 X (rc S1) 56 from HQ.out).lt
            have hb9 : Blk (w8.setCell ⟨G8, j, none⟩ (.bool false)) X (rc S1) 56 := ((show Blk W7 X (rc S1) 56 from HQ.out).ext HX9.out).far (p := ⟨G8, j, none⟩) (by simp; omega) _
            have ho9 := own_set (u := .bool false) HO8.out hlt
            rw [lfL_set hlt] at ho9
            have HX10 := hide (HX8.out.trans (HX9.out.set (p := ⟨G8, j, none⟩) hG8 (.bool false)))
            have hcs9 := H.out.ext (HX.out.trans HX10.out) hb
            have hs9 := (HX.out.trans HX10.out).size
            generalize w8.setCell ⟨G8, j, none⟩ (.bool false) = W9 at *
            clear hown gc gf HO8 HX9 HQ HX8 HXW hG8 hXl hc8 hm8
            refine wp_get _ rfl X S1 rfl hb9 ?_
            go_frame
            clear hb9
            have hmi1 : mi - 1 = (m : Int) := by have := HMI.out; omega
            have hmi2 : 0 ≤ mi := by have := HMI.out; omega
            have hmi3 : mi ≤ 1001 := by have := HMI.out; omega
            have hih := IH W9 b0 _ c (d ||| 2 ^ j) _ _ S1 HOK1.out hcs9 (by omega) ho9
            obtain ⟨r, hr⟩ : ∃ r, r = pick n g m S1 (d ||| 2 ^ j) := ⟨_, rfl⟩
            rw [← hr] at hih HT2
            clear hcs9 ho9 hr
            go_wp2_with fail
            refine hih.mono ?_
            rintro e w10 ⟨v10, rfl, hr10, hx10⟩
            obtain ⟨A10, c10, rfl⟩ := own_sl hr10
            have HX11 := hide (HX10.out.trans hx10)
            clear hih hmi1 hmi2 hmi3
            cases r with
            | none =>
              have HT3 := hide (show tryK n g m S d j = none from HT2.out)
              clear hr10 hx10
              go_wp2_with fail
              go_roundw
              case rel => exact ⟨j + 1, by omega, by go_num, HX11.out, fun i hi => by
                by_cases q : i = j
                · subst q; exact HT3.out
                · exact HNO.out i (by omega)⟩
              case measure => simp [intOf]; omega
            | some out =>
              have E := hide (HP.out.trans (find_some hlt HNO.out HT2.out))
              have hlen : out.length = m := hlen9.out _ HT2.out
              have HLN := hide hlen
              have hlm : out.length < 1000 := by omega
              have hs10 : w.heap.size ≤ w10.heap.size := (HX.out.trans HX11.out).size
              have hr11 := own_ext hr10 (Ext.alloc w10 (.cells #[.int .i64 (j : Int)] 3))
              simp only [Option.getD_some] at hr11
              clear hr10 hx10 hlen
              go_wp2_with (first
                | (at_builtin; refine wpList_join (base := w.heap.size) rfl rfl Try.underlying30 inf_int rfl rfl (own_one (Blk.new w10 #[.int .i64 (j : Int)] 3) hs10) rfl hr11 (by simp [enI, Value.oneCell']) (by unfold maxLen; omega) (by omega) (by simp; omega) ?_; intro v11 w11 ho11 hg11; obtain ⟨A11, c11, rfl⟩ := own_sl ho11; have HO11 := hide ho11; have HX12 := hide (((HX.out.trans HX11.out).trans (Ext.alloc w10 (.cells #[.int .i64 (j : Int)] 3))).grown hg11 (fun k hk => by cases hk; exact hs10)); clear ho11 hg11; go_frame))
              go_ret2
              refine ⟨_, by rw [E.out]; simp; rfl, ?_, HX12.out⟩
              rw [E.out]
              have hz := HO11.out
              simp only [Option.getD_some, List.length_cons, List.map_cons]
              rw [Nat.add_comm 1] at hz ⊢
              exact hz
        · rw [if_pos (by rfl)]
          go_wp2
          have HR := hide ((Blk.new w1 zz 56).ext (Ext.drew _))
          have HLX := hide (Nat.le_refl w1.heap.size)
          have hk := (Ext.alloc w1 (.cells zz 56)).trans (Ext.drew _)
          generalize (w1.alloc (.cells zz 56)).drew = W5 at *
          obtain ⟨X, hX⟩ : ∃ X, X = w1.heap.size := ⟨_, rfl⟩
          rw [← hX] at HR
          have HLX : Hid (w1.heap.size ≤ X) := hide (by omega)
          rw [← hX]
          clear hX
          refine hK.out _ _ ⟨rc_rng (HBW.out.ext hk), (HCW.out _ hk).1, (HCW.out _ hk).2.1, (HCW.out _ hk).2.2.1, (HCW.out _ hk).2.2.2.1, (HCW.out _ hk).2.2.2.2⟩ (fun hHeld => ?_)
          (try simp only [Act.put, List.setIfInBounds_toArray, List.set_cons_zero, List.set_cons_succ])
          refine wpAnyH_ready (rs := [6]) (by kernel_rfl) (by simp) (held_cons rfl (fun K hK => ?_) AllReadyH.nil)
          rw [if_pos (by rfl)]
          go_simp
          go_at_call 24
          refine (CR.out _).mono ?_
          rintro e w5 ⟨rfl, hx5⟩
          have hk := hk.trans hx5
          have HR := hide (HR.out.ext hx5)
          generalize w5 = W6 at *
          refine hK.out _ _ ⟨rc_rng (HBW.out.ext hk), (HCW.out _ hk).1, (HCW.out _ hk).2.1, (HCW.out _ hk).2.2.1, (HCW.out _ hk).2.2.2.1, (HCW.out _ hk).2.2.2.2⟩ (fun hHeld => ?_)
          (try simp only [Act.put, List.setIfInBounds_toArray, List.set_cons_zero, List.set_cons_succ])
          (refine held_take (i := 7) (v := ?_) rfl (by kernel_rfl) (by kernel_rfl) (by kernel_rfl) (fun _ _ _ h => h) (by rfl) ?_ (by assumption) ?_; rotate_left; (intro w hSw; (try dsimp only at hSw); (first | (go_simp; done) | (go_simp; with_reducible rfl))); (try simp only [Act.put, List.setIfInBounds_toArray, List.set_cons_zero, List.set_cons_succ]))
          (refine held_take (i := 8) (v := ?_) rfl (by kernel_rfl) (by kernel_rfl) (by kernel_rfl) (fun _ _ _ h => h) (by rfl) ?_ (by assumption) ?_; rotate_left; (intro w hSw; (try dsimp only at hSw); (first | (go_simp; done) | (go_simp; with_reducible rfl))); (try simp only [Act.put, List.setIfInBounds_toArray, List.set_cons_zero, List.set_cons_succ]))
          (refine held_take (i := 9) (v := ?_) rfl (by kernel_rfl) (by kernel_rfl) (by kernel_rfl) (fun _ _ _ h => h) (by rfl) ?_ (by assumption) ?_; rotate_left; (intro w hSw; (try dsimp only at hSw); (first | (go_simp; done) | (go_simp; with_reducible rfl))); (try simp only [Act.put, List.setIfInBounds_toArray, List.set_cons_zero, List.set_cons_succ]))
          have HX6 := hide hk
          refine wpAnyH_ready (rs := [11]) (by kernel_rfl) (by simp) (held_cons rfl (fun K hK => ?_) AllReadyH.nil)
          rw [if_pos (by rfl)]
          refine wp_store_row 56 _ _ rfl X (rc S1) rfl rfl 56 zz HR.out (by rw [rc_size]; exact inf_rz) (by rw [HZ.out, rc_size]) (all_rc S1) ?_
          have HQ := hide (setRow_heap W6 X zz (rc S1) 56 _ HR.out)
          have hc' := Chg.row (cs := rc S1) HR.out
          have HX7 := hide ((HX6.out).turn hc' (by simpa using HLX.out))
          clear hc'
          have hk := HX7.out
          generalize W6.setRow X (rc S1) = W7 at *
          refine hK.out _ _ ⟨rc_rng (HBW.out.ext hk), (HCW.out _ hk).1, (HCW.out _ hk).2.1, (HCW.out _ hk).2.2.1, (HCW.out _ hk).2.2.2.1, (HCW.out _ hk).2.2.2.2⟩ (fun hHeld => ?_)
          (try simp only [Act.put, List.setIfInBounds_toArray, List.set_cons_zero, List.set_cons_succ])
          (refine held_take (i := 12) (v := ?_) rfl (by kernel_rfl) (by kernel_rfl) (by kernel_rfl) (fun _ _ _ h => h) (by rfl) ?_ (by assumption) ?_; rotate_left; (intro w hSw; (try dsimp only at hSw); (first | (go_simp; done) | (go_simp; with_reducible rfl))); (try simp only [Act.put, List.setIfInBounds_toArray, List.set_cons_zero, List.set_cons_succ]))
          refine wpAnyH_done (by kernel_rfl) ?_ _
          clear hK hHeld
          have HX8 := hide (HX2.out.trans HX7.out)
          have HXW := hide (HX.out.trans HX8.out)
          clear hk HBW HCW HX7 HX6 HR CR
          cases hac : acc S (g j)
          · have e15 : er = 15 := by rw [HA.out, hac]; rfl
            subst e15
            have HT2 := hide (show tryK n g m S d j = none by rw [HT.out, hac]; rfl)
            clear hac HA HT
            go_wp2_with fail
            go_roundw
            case rel => exact ⟨j + 1, by omega, by go_num, HX8.out, fun i hi => by
              by_cases q : i = j
              · subst q; exact HT2.out
              · exact HNO.out i (by omega)⟩
            case measure => simp [intOf]; omega
          · have e0 : er = 0 := by rw [HA.out, hac]; rfl
            subst e0
            have HT2 := hide (show tryK n g m S d j = (pick n g m (nxt S (g j)) (d ||| 2 ^ j)).map (j :: ·) by rw [HT.out, hac]; rfl)
            rw [HN.out] at HQ
            rw [← HN.out] at HQ HT2 HOK1
            clear hac HA HT HN
            have hown := own_ext HL.out HXW.out
            go_wp2_with (first
              | (at_builtin; refine wpList_clone (W0 := W7) rfl _ _ _ rfl Try.underlying67 inf_bool rfl (by omega) rfl rfl hown (Ext.refl W7) (by unfold lfL; simp [Value.oneCell']) (by unfold maxLen; omega) (by omega) ?_; intro v' w8 ho8 hx8; obtain ⟨A8, c8, rfl⟩ := own_sl ho8; obtain ⟨G8, rfl, hc8, hm8⟩ := own_some8 ho8 (by omega); have HO8 := hide ho8; have HX9 := hide hx8; have gc := (own_cellY ho8 (lfL_at hlt)).1; have gf := (own_cellY ho8 (lfL_at hlt)).2; clear ho8 hx8; go_frame))
            have hG8 : W7.heap.size ≤ G8 := own_row HO8.out G8 rfl
            have hXl : X < W7.heap.size := (show Blk W7 X (rc S1) 56 from HQ.out).lt
            have hb9 : Blk (w8.setCell ⟨G8, j, none⟩ (.bool false)) X (rc S1) 56 := ((show Blk W7 X (rc S1) 56 from HQ.out).ext HX9.out).far (p := ⟨G8, j, none⟩) (by simp; omega) _
            have ho9 := own_set (u := .bool false) HO8.out hlt
            rw [lfL_set hlt] at ho9
            have HX10 := hide (HX8.out.trans (HX9.out.set (p := ⟨G8, j, none⟩) hG8 (.bool false)))
            have hcs9 := H.out.ext (HX.out.trans HX10.out) hb
            have hs9 := (HX.out.trans HX10.out).size
            generalize w8.setCell ⟨G8, j, none⟩ (.bool false) = W9 at *
            clear hown gc gf HO8 HX9 HQ HX8 HXW hG8 hXl hc8 hm8
            refine wp_get _ rfl X S1 rfl hb9 ?_
            go_frame
            clear hb9
            have hmi1 : mi - 1 = (m : Int) := by have := HMI.out; omega
            have hmi2 : 0 ≤ mi := by have := HMI.out; omega
            have hmi3 : mi ≤ 1001 := by have := HMI.out; omega
            have hih := IH W9 b0 _ c (d ||| 2 ^ j) _ _ S1 HOK1.out hcs9 (by omega) ho9
            obtain ⟨r, hr⟩ : ∃ r, r = pick n g m S1 (d ||| 2 ^ j) := ⟨_, rfl⟩
            rw [← hr] at hih HT2
            clear hcs9 ho9 hr
            go_wp2_with fail
            refine hih.mono ?_
            rintro e w10 ⟨v10, rfl, hr10, hx10⟩
            obtain ⟨A10, c10, rfl⟩ := own_sl hr10
            have HX11 := hide (HX10.out.trans hx10)
            clear hih hmi1 hmi2 hmi3
            cases r with
            | none =>
              have HT3 := hide (show tryK n g m S d j = none from HT2.out)
              clear hr10 hx10
              go_wp2_with fail
              go_roundw
              case rel => exact ⟨j + 1, by omega, by go_num, HX11.out, fun i hi => by
                by_cases q : i = j
                · subst q; exact HT3.out
                · exact HNO.out i (by omega)⟩
              case measure => simp [intOf]; omega
            | some out =>
              have E := hide (HP.out.trans (find_some hlt HNO.out HT2.out))
              have hlen : out.length = m := hlen9.out _ HT2.out
              have HLN := hide hlen
              have hlm : out.length < 1000 := by omega
              have hs10 : w.heap.size ≤ w10.heap.size := (HX.out.trans HX11.out).size
              have hr11 := own_ext hr10 (Ext.alloc w10 (.cells #[.int .i64 (j : Int)] 3))
              simp only [Option.getD_some] at hr11
              clear hr10 hx10 hlen
              go_wp2_with (first
                | (at_builtin; refine wpList_join (base := w.heap.size) rfl rfl Try.underlying30 inf_int rfl rfl (own_one (Blk.new w10 #[.int .i64 (j : Int)] 3) hs10) rfl hr11 (by simp [enI, Value.oneCell']) (by unfold maxLen; omega) (by omega) (by simp; omega) ?_; intro v11 w11 ho11 hg11; obtain ⟨A11, c11, rfl⟩ := own_sl ho11; have HO11 := hide ho11; have HX12 := hide (((HX.out.trans HX11.out).trans (Ext.alloc w10 (.cells #[.int .i64 (j : Int)] 3))).grown hg11 (fun k hk => by cases hk; exact hs10)); clear ho11 hg11; go_frame))
              go_ret2
              refine ⟨_, by rw [E.out]; simp; rfl, ?_, HX12.out⟩
              rw [E.out]
              have hz := HO11.out
              simp only [Option.getD_some, List.length_cons, List.map_cons]
              rw [Nat.add_comm 1] at hz ⊢
              exact hz
    · obtain rfl : j = n := by omega
      have E := hide (HP.out.trans (find_none HNO.out))
      clear hno hX HB1
      go_wp2_with fail
      go_ret2
      refine ⟨.slice none 0 0, by rw [E.out]; simp, ?_, HX1.out⟩
      rw [E.out]
      exact own_nil _ _ _ _
theorem rest_any {n : Nat} {g : Nat → Cl} (hn : n ≤ 1000) : ∀ m, m ≤ 1000 → RestC n g m
  | 0, _ => rest_0
  | m + 1, h => rest_succ (rest_any hn m (by omega)) hn (by omega)
end Go.Proofs.Ytpielknodjppgaa

namespace Go.Proofs.Ytpielknodjppgaa
open Go.RowKit Go.Maps
set_option linter.unusedSimpArgs false
set_option linter.unusedVariables false
set_option maxRecDepth 100000
set_option maxHeartbeats 4000000


theorem res_of8 {fn : Func} (h : fn.results = #[.cell 8 56, .tmp 9]) (tmps : Array Value) (w : World) {b : Nat} {S : St} {u : Value} (e4 : tmps.getD 8 undef = .pointer (some ⟨b, 0, none⟩)) (e5 : tmps.getD 9 undef = u) (hb : Blk w b (rc S) 56) :
    (results fn tmps).run Try.prog w = .ok (.tuple #[.agg (rc S), u]) w := by
  rw [results_cell_tmp h, e4, e5]
  simp only [asAddr, Sem.run_pure, Result.andThen_ok, ld_run w hb]
def askS (N M K : Int) : St := if okN N M K = true then st0 N.toNat M.toNat K.toNat else st0 0 0 0
theorem rasked_any {n : Nat} {g : Nat → Cl} {w : World} {b0 c : Nat} {A : Option Addr} (hn : n ≤ 1000000) (h : Cs w b0 A n g) (hb : b0 ≤ w.heap.size) (N M K : Int) :
    Calls Try.prog 20 #[.int .i64 N, .int .i64 M, .int .i64 K, .slice A n c] w fun e w' => e = .returned (.tuple #[.agg (rc (askS N M K)), .int .i64 (ordE N M K n g)]) ∧ Ext w w' := by
  have H := hide h
  clear h
  cases q1 : okN N M K
  · have E := hide (show ordE N M K n g = 1 by unfold ordE; rw [q1]; rfl)
    have ES : askS N M K = st0 0 0 0 := by unfold askS; rw [q1]; rfl
    rw [ES]
    have CN := hide (fun w' => rnew_no q1 w')
    clear q1 ES
    generalize st0 0 0 0 = S0 at *
    obtain ⟨zz, hz1, hz2, hz3, hz4, -⟩ : ∃ zz : Array Value, (∀ w, (zeroValue 56).run Try.prog w = .ok (.agg zz) w) ∧ ¬ zz = #[] ∧ ¬ zz.size < 2 ∧ zz.size = 227 ∧ zz = zr := ⟨_, fun w => by kernel_rfl, by decide +kernel, by decide +kernel, by decide +kernel, rfl⟩
    have HZ := hide hz4
    clear hz4
    have HR := hide (Blk.new w zz 56)
    have HX := hide (Ext.alloc w (.cells zz 56))
    go_enter Try.func20, Try.ntmps20
    go_wp2_with fail
    obtain ⟨R, hR⟩ : ∃ R, R = w.heap.size := ⟨_, rfl⟩
    rw [← hR] at HR ⊢
    have HRW := hide hR
    generalize w.alloc (.cells zz 56) = W0 at *
    clear hR
    refine (CN.out _).mono ?_
    rintro e w1 ⟨rfl, hx1⟩
    have HR1 := hide (HR.out.ext hx1)
    have HX1 := hide (HX.out.trans hx1)
    have lR := HR1.out.lt
    clear HR HX hx1
    go_wp2_with (first | (refine wpList_put rfl _ _ rfl w1.heap.size S0 rfl rfl zz (Blk.new w1 zz 56) HZ.out ?_; intro W3 hb3 hc3 hs3; have hc4 := ((Ext.alloc w1 (.cells zz 56)).chg [w1.heap.size]).trans hc3; have HX3 := hide (HX1.out.turn hc4 (by have := HX1.out.size; simp; omega)); have HR3 := hide (HR1.out.chg hc4 (by simp; omega)); have HQ3 := hide hb3; have lQ := HX1.out.size; clear hb3 hc3 hs3 hc4; obtain ⟨Q, hQ⟩ : ∃ Q, Q = w1.heap.size := ⟨_, rfl⟩; rw [← hQ] at HQ3 lQ ⊢; clear hQ; go_frame) | (with_reducible refine wpList_get rfl _ rfl Q _ rfl HQ3.out ?_; go_frame) | (with_reducible refine wpList_put rfl _ _ rfl R _ rfl rfl zz HR3.out HZ.out ?_; intro w' hb' hc' hs'; clear hs'; go_frame))
    refine bodyPost_ret (res_of8 Try.results20 _ _ rfl rfl hb') rfl ?_
    exact ⟨by rw [E.out]; rfl, HX3.out.turn hc' (by have := HRW.out; simp; omega)⟩
  · obtain ⟨N, M, K, rfl, rfl, rfl⟩ := okN_nat q1
    have ES : askS N M K = st0 N M K := by unfold askS; rw [q1]; rfl
    rw [ES]
    have CN := hide (fun w' => rnew_ok q1 w')
    have HE := hide (show ordE N M K n g = (if allM g n = true then (if 12 < n then 5 else 0) else 1) by unfold ordE; rw [q1]; rfl)
    clear q1 ES
    generalize st0 N M K = S0 at *
    generalize ordE N M K n g = er at *
    obtain ⟨zz, hz1, hz2, hz3, hz4, -⟩ : ∃ zz : Array Value, (∀ w, (zeroValue 56).run Try.prog w = .ok (.agg zz) w) ∧ ¬ zz = #[] ∧ ¬ zz.size < 2 ∧ zz.size = 227 ∧ zz = zr := ⟨_, fun w => by kernel_rfl, by decide +kernel, by decide +kernel, by decide +kernel, rfl⟩
    have HZ := hide hz4
    clear hz4
    have HR := hide (Blk.new w zz 56)
    have HX := hide (Ext.alloc w (.cells zz 56))
    go_enter Try.func20, Try.ntmps20
    go_wp2_with fail
    obtain ⟨R, hR⟩ : ∃ R, R = w.heap.size := ⟨_, rfl⟩
    rw [← hR] at HR ⊢
    have HRW := hide hR
    generalize w.alloc (.cells zz 56) = W0 at *
    clear hR
    refine (CN.out _).mono ?_
    rintro e w1 ⟨rfl, hx1⟩
    have HR1 := hide (HR.out.ext hx1)
    have HX1 := hide (HX.out.trans hx1)
    have lR := HR1.out.lt
    clear HR HX hx1
    go_wp2_with (first | (refine wpList_put rfl _ _ rfl w1.heap.size S0 rfl rfl zz (Blk.new w1 zz 56) HZ.out ?_; intro W3 hb3 hc3 hs3; have hc4 := ((Ext.alloc w1 (.cells zz 56)).chg [w1.heap.size]).trans hc3; have HX3 := hide (HX1.out.turn hc4 (by have := HX1.out.size; simp; omega)); have HR3 := hide (HR1.out.chg hc4 (by simp; omega)); have HQ3 := hide hb3; have lQ := HX1.out.size; clear hb3 hc3 hs3 hc4; obtain ⟨Q, hQ⟩ : ∃ Q, Q = w1.heap.size := ⟨_, rfl⟩; rw [← hQ] at HQ3 lQ ⊢; clear hQ; go_frame))
    go_loopw [12] (fun v wr => ∃ j : Nat, j ≤ n ∧ v = .int .i64 (j : Int) ∧ (∀ i, i < j → mayC (g i) = true) ∧ Ext W3 wr) (fun v _ => n - (intOf v).toNat)
    case atStart => exact ⟨0, by omega, rfl, fun i hi => by omega, Ext.refl _⟩
    case round =>
      obtain ⟨j, hj, rfl, hbf, hX⟩ := hrel
      have HX0 := hide hX
      have HB := hide hbf
      have HXW := hide (HX3.out.trans hX)
      by_cases hlt : j < n
      · obtain ⟨b, off, rfl, hb0, r0, r1, r2, r3, r4, r5, r6⟩ := (H.out.ext HXW.out hb).rules hlt
        have CM := hide (rmay_any (g j) wr)
        have HE1 := hide (show mayC (g j) = false → er = 1 from fun q => by rw [HE.out, allM_no hlt q]; rfl)
        have HNX := hide (show mayC (g j) = true → ∀ i, i < j + 1 → mayC (g i) = true from fun q i hi => by
          by_cases z : i = j
          · subst z; exact q
          · exact hbf i (by omega))
        unfold cc at CM
        generalize mayC (g j) = mj at *
        generalize (g j).k = x0 at *
        generalize (g j).t = x1 at *
        generalize (g j).o = x2 at *
        generalize (g j).a = x3 at *
        generalize (g j).r = x4 at *
        generalize (g j).f = x5 at *
        generalize (g j).u = x6 at *
        clear hbf hX
        go_wp2_with fail
        refine CM.out.mono ?_
        rintro e w5 ⟨rfl, hx5⟩
        have HX5 := hide (HX0.out.trans hx5)
        have HQ5 := hide (HQ3.out.ext HX5.out)
        have HR5 := hide (HR3.out.ext HX5.out)
        cases mj
        · have E := hide (HE1.out rfl)
          go_wp2_with (first | (with_reducible refine wpList_get rfl _ rfl Q _ rfl HQ5.out ?_; go_frame) | (with_reducible refine wpList_put rfl _ _ rfl R _ rfl rfl zz HR5.out HZ.out ?_; intro w' hb' hc' hs'; clear hs'; go_frame))
          refine bodyPost_ret (res_of8 Try.results20 _ _ rfl rfl hb') rfl ?_
          exact ⟨by rw [E.out]; rfl, (HX3.out.trans HX5.out).turn hc' (by have := HRW.out; simp; omega)⟩
        · have HN := hide (HNX.out rfl)
          clear HE1 HNX
          go_wp2_with fail
          go_roundw
          case rel => exact ⟨j + 1, by omega, by go_num, HN.out, HX5.out⟩
          case measure => simp [intOf]; omega
      · obtain rfl : j = n := by omega
        have E0 : er = if 12 < j then 5 else 0 := by rw [HE.out, allM_iff.2 hbf]; rfl
        have HQ5 := hide (HQ3.out.ext hX)
        have HR5 := hide (HR3.out.ext hX)
        clear hbf hX
        by_cases q12 : 12 < j
        · have E := hide (show er = 5 by rw [E0, if_pos q12])
          clear E0
          go_wp2_with (first | (with_reducible refine wpList_get rfl _ rfl Q _ rfl HQ5.out ?_; go_frame) | (with_reducible refine wpList_put rfl _ _ rfl R _ rfl rfl zz HR5.out HZ.out ?_; intro w' hb' hc' hs'; clear hs'; go_frame))
          refine bodyPost_ret (res_of8 Try.results20 _ _ rfl rfl hb') rfl ?_
          exact ⟨by rw [E.out]; rfl, HXW.out.turn hc' (by have := HRW.out; simp; omega)⟩
        · have E := hide (show er = 0 by rw [E0, if_neg q12])
          clear E0
          go_wp2_with (first | (with_reducible refine wpList_get rfl _ rfl Q _ rfl HQ5.out ?_; go_frame) | (with_reducible refine wpList_put rfl _ _ rfl R _ rfl rfl zz HR5.out HZ.out ?_; intro w' hb' hc' hs'; clear hs'; go_frame))
          refine bodyPost_ret (res_of8 Try.results20 _ _ rfl rfl hb') rfl ?_
          exact ⟨by rw [E.out]; rfl, HXW.out.turn hc' (by have := HRW.out; simp; omega)⟩
end Go.Proofs.Ytpielknodjppgaa

namespace Go.Proofs.Ytpielknodjppgaa
open Go.RowKit Go.Maps
set_option linter.unusedSimpArgs false
set_option linter.unusedVariables false
set_option maxRecDepth 100000
set_option maxHeartbeats 4000000


/-- A row whose first j are true. -/
def rowT (n j : Nat) : List Value := (List.range n).map fun i => .bool (decide (i < j))
theorem rowT_at {n j i : Nat} (h : i < n) : (rowT n j)[i]? = some (.bool (decide (i < j))) := by unfold rowT; rw [List.getElem?_map, List.getElem?_range h]; rfl
theorem rowT_len (n j : Nat) : (rowT n j).length = n := by unfold rowT; simp
theorem rowT_set {n j : Nat} (h : j < n) : (rowT n j).set j (.bool true) = rowT n (j + 1) := by
  apply List.ext_getElem?
  intro i
  by_cases hi : i < n
  · rw [rowT_at hi, List.getElem?_set]
    by_cases e : j = i
    · subst e
      rw [if_pos rfl, if_pos (by rw [rowT_len]; exact h)]
      simp
    · rw [if_neg e, rowT_at hi]
      have : i < j + 1 ↔ i < j := by omega
      simp [this]
  · rw [List.getElem?_eq_none (by simp [rowT_len]; omega), List.getElem?_eq_none (by rw [rowT_len]; omega)]
theorem rowT_made (n : Nat) : (madeCells (Value.bool false).cells (n * 1)).toList = rowT n 0 := by
  apply List.ext_getElem
  · simp [madeCells, rowT]
  · intro i h1 h2
    simp [madeCells, rowT, Nat.mod_one, Value.cells]
theorem rowT_all (n : Nat) : rowT n n = lfL n 0 := by
  apply List.ext_getElem?
  intro i
  by_cases hi : i < n
  · rw [rowT_at hi, lfL_at hi]; simp [hi]
  · rw [List.getElem?_eq_none (by rw [rowT_len]; omega), List.getElem?_eq_none (by unfold lfL; simp; omega)]
theorem rorder_any {n : Nat} {g : Nat → Cl} {w : World} {b0 c : Nat} {A : Option Addr} (hn : n ≤ 1000000) (h : Cs w b0 A n g) (hb : b0 ≤ w.heap.size) (N M K : Int) :
    Calls Try.prog 10 #[.int .i64 N, .int .i64 M, .int .i64 K, .slice A n c] w fun e w' => ∃ v, e = .returned (.tuple #[v, .bool (decide (ordE N M K n g = 0) && (ordP N M K n g).isSome), .int .i64 (ordE N M K n g)]) ∧ w'.ownsRow w.heap.size 3 1 v ((ordP N M K n g).getD []).length (((ordP N M K n g).getD []).map enI) ∧ Ext w w' := by
  have H := hide h
  have CA := rasked_any (c := c) hn h hb N M K
  clear h
  obtain ⟨i, hi, hz0, hzs1, hzs2⟩ := info_parts inf_bool
  by_cases q : ordE N M K n g = 0
  · obtain ⟨q1, q2, q3⟩ := askS_ok q
    have E0 := hide q
    have EP : ordP N M K n g = pick n g n (askS N M K) 0 := by unfold ordP askS; rw [if_pos q, if_pos q1]
    have OK : Ok (askS N M K) := by
      obtain ⟨a, b, c, rfl, rfl, rfl⟩ := okN_nat q1
      unfold askS
      rw [if_pos q1]
      exact ok_st0 q1
    rw [q] at CA
    rw [EP]
    have HOK := hide OK
    clear q EP OK q1 q2
    generalize askS N M K = S0 at *
    obtain ⟨zz, hz1, hz2, hz3, hz4, -⟩ : ∃ zz : Array Value, (∀ w, (zeroValue 56).run Try.prog w = .ok (.agg zz) w) ∧ ¬ zz = #[] ∧ ¬ zz.size < 2 ∧ zz.size = 227 ∧ zz = zr := ⟨_, fun w => by kernel_rfl, by decide +kernel, by decide +kernel, by decide +kernel, rfl⟩
    have HZ := hide hz4
    clear hz4
    go_enter Try.func10, Try.ntmps10
    go_wp2_with fail
    refine CA.mono ?_
    rintro e w1 ⟨rfl, hx1⟩
    have HX1 := hide hx1
    clear CA hx1
    go_wp2_with (first
      | (refine wpList_put rfl _ _ rfl w1.heap.size S0 rfl rfl zz (Blk.new w1 zz 56) HZ.out ?_; intro W3 hb3 hc3 hs3; have hc4 := ((Ext.alloc w1 (.cells zz 56)).chg [w1.heap.size]).trans hc3; have HX3 := hide (HX1.out.turn hc4 (by have := HX1.out.size; simp; omega)); have HQ3 := hide hb3; have lQ := HX1.out.size; clear hb3 hc3 hs3 hc4; obtain ⟨Q, hQ⟩ : ∃ Q, Q = w1.heap.size := ⟨_, rfl⟩; rw [← hQ] at HQ3 lQ ⊢; clear hQ; go_frame)
      | (at_make; refine wpList_make_full _ rfl _ _ 67 rfl w.heap.size 4 i _ 1 Try.underlying67 hi hz0 hzs1 _ _ _ _ n rfl rfl rfl rfl (by rw [hzs2]; omega) (by unfold maxLen; omega) HX3.out.size ?_; intro w4 hown4 hg4; rw [rowT_made] at hown4; have HO4 := hide hown4; have HG4 := hide (Ext.grown (Ext.refl W3) hg4 (fun k hk => by cases hk)); clear hown4 hg4; go_frame))
    obtain ⟨G, hG⟩ : ∃ G, G = W3.heap.size := ⟨_, rfl⟩
    rw [← hG] at HO4 ⊢
    have hGw : w.heap.size ≤ G := by rw [hG]; exact HX3.out.size
    have HQ4 := hide (HQ3.out.ext HG4.out)
    have HX4 := hide (HX3.out.trans HG4.out)
    have hQG : Q ≠ G := by have := HQ3.out.lt; omega
    clear hG HG4 HQ3 HX3
    go_loopw [14] (fun v wr => ∃ j : Nat, j ≤ n ∧ v = .int .i64 (j : Int) ∧ wr.ownsRow w.heap.size 4 1 (.slice (some ⟨G, 0, none⟩) n n) n (rowT n j) ∧ Blk wr Q (rc S0) 56 ∧ Ext w wr) (fun v _ => n - (intOf v).toNat)
    case atStart => exact ⟨0, by omega, rfl, HO4.out, HQ4.out, HX4.out⟩
    case round =>
      clear HO4 HQ4 HX4
      obtain ⟨j, hj, rfl, ho, hq, hX⟩ := hrel
      have HX := hide hX
      by_cases hlt : j < n
      · have hos := own_set (u := .bool true) ho hlt
        rw [rowT_set hlt] at hos
        have HO := hide hos
        have HQ := hide (hq.far (p := ⟨G, j, none⟩) hQG (.bool true))
        have HX5 := hide (hX.set (p := ⟨G, j, none⟩) hGw (.bool true))
        have gc := (own_cellY ho (rowT_at hlt)).1
        have gf := (own_cellY ho (rowT_at hlt)).2
        clear hos ho hq hX HX
        go_wp2_with fail
        go_roundw
        case rel => exact ⟨j + 1, by omega, by go_num, HO.out, HQ.out, HX5.out⟩
        case measure => simp [intOf]; omega
      · obtain rfl : j = n := by omega
        rw [rowT_all] at ho
        have hre := rest_any (g := g) (by omega : j ≤ 1000) j (by omega) wr b0 _ c 0 A _ S0 HOK.out (H.out.ext hX hb) (by have := hX.size; omega) ho
        have HQ := hide hq
        obtain ⟨r, hr⟩ : ∃ r, r = pick j g j S0 0 := ⟨_, rfl⟩
        rw [← hr] at hre
        have HRR := hide hr
        clear ho hq hX hr
        go_wp2_with (with_reducible refine wpList_get rfl _ rfl Q _ rfl HQ.out ?_; go_frame)
        refine hre.mono ?_
        rintro e w5 ⟨v5, rfl, hr5, hx5⟩
        obtain ⟨A5, c5, rfl⟩ := own_sl hr5
        have HR5 := hide hr5
        have HX6 := hide (HX.out.trans hx5)
        clear hre hr5 hx5
        go_wp2_with fail
        go_ret3
        refine ⟨_, by rw [E0.out, ← HRR.out]; simp; rfl, ?_, HX6.out⟩
        rw [← HRR.out]
        exact own_low HR5.out HX.out.size
  · have EP : ordP N M K n g = none := by unfold ordP; rw [if_neg q]
    have ED : decide (ordE N M K n g = 0) = false := by simpa using q
    have hne : (ordE N M K n g == 0) = false := by simpa using q
    rw [EP, ED]
    clear EP ED q
    generalize ordE N M K n g = er at *
    generalize askS N M K = S0 at *
    obtain ⟨zz, hz1, hz2, hz3, hz4, -⟩ : ∃ zz : Array Value, (∀ w, (zeroValue 56).run Try.prog w = .ok (.agg zz) w) ∧ ¬ zz = #[] ∧ ¬ zz.size < 2 ∧ zz.size = 227 ∧ zz = zr := ⟨_, fun w => by kernel_rfl, by decide +kernel, by decide +kernel, by decide +kernel, rfl⟩
    have HZ := hide hz4
    clear hz4
    go_enter Try.func10, Try.ntmps10
    go_wp2_with fail
    refine CA.mono ?_
    rintro e w1 ⟨rfl, hx1⟩
    have HX1 := hide hx1
    clear CA hx1
    go_wp2_with (first | (refine wpList_put rfl _ _ rfl w1.heap.size S0 rfl rfl zz (Blk.new w1 zz 56) HZ.out ?_; intro W3 hb3 hc3 hs3; have hc4 := ((Ext.alloc w1 (.cells zz 56)).chg [w1.heap.size]).trans hc3; have HX3 := hide (HX1.out.turn hc4 (by have := HX1.out.size; simp; omega)); have HQ3 := hide hb3; have lQ := HX1.out.size; clear hb3 hc3 hs3 hc4; obtain ⟨Q, hQ⟩ : ∃ Q, Q = w1.heap.size := ⟨_, rfl⟩; rw [← hQ] at HQ3 lQ ⊢; clear hQ; go_frame))
    go_ret3
    exact ⟨.slice none 0 0, by simp, own_nil _ _ _ _, HX3.out⟩
end Go.Proofs.Ytpielknodjppgaa

namespace Go.Proofs.Ytpielknodjppgaa
open Go.RowKit Go.Maps
set_option linter.unusedSimpArgs false
set_option linter.unusedVariables false
set_option maxRecDepth 100000
set_option maxHeartbeats 4000000



theorem rserial_any {n : Nat} {g : Nat → Cl} {w : World} {b0 c : Nat} {A : Option Addr} (hn : n ≤ 1000000) (h : Cs w b0 A n g) (hb : b0 ≤ w.heap.size) (N M K : Int) :
    Calls Try.prog 14 #[.int .i64 N, .int .i64 M, .int .i64 K, .slice A n c] w fun e w' => ∃ j b, e = .returned (.tuple #[.int .i64 ((j : Nat) : Int), .bool b]) ∧ SerR N M K n g j b ∧ Ext w w' := by
  have H := hide h
  clear h
  cases q1 : okN N M K
  · have CN := hide (fun w' => rnew_no q1 w')
    have HQN := hide (show SerR N M K n g 0 false from .inl ⟨q1, rfl, rfl⟩)
    clear q1
    generalize st0 0 0 0 = S0 at *
    obtain ⟨zz, hz1, hz2, hz3, hz4, -⟩ : ∃ zz : Array Value, (∀ w, (zeroValue 56).run Try.prog w = .ok (.agg zz) w) ∧ ¬ zz = #[] ∧ ¬ zz.size < 2 ∧ zz.size = 227 ∧ zz = zr := ⟨_, fun w => by kernel_rfl, by decide +kernel, by decide +kernel, by decide +kernel, rfl⟩
    have HZ := hide hz4
    clear hz4
    go_enter Try.func14, Try.ntmps14
    go_wp2_with fail
    refine (CN.out _).mono ?_
    rintro e w1 ⟨rfl, hx1⟩
    have HX1 := hide hx1
    clear hx1
    go_wp2_with (first | (refine wpList_put rfl _ _ rfl w1.heap.size S0 rfl rfl zz (Blk.new w1 zz 56) HZ.out ?_; intro W3 hb3 hc3 hs3; have hc4 := ((Ext.alloc w1 (.cells zz 56)).chg [w1.heap.size]).trans hc3; have HX3 := hide (HX1.out.turn hc4 (by have := HX1.out.size; simp; omega)); have HQ3 := hide hb3; have lQ := HX1.out.size; clear hb3 hc3 hs3 hc4; obtain ⟨R, hQ⟩ : ∃ Q, Q = w1.heap.size := ⟨_, rfl⟩; rw [← hQ] at HQ3 lQ ⊢; clear hQ; go_frame))
    go_ret2
    exact ⟨0, false, by simp, HQN.out, HX3.out⟩
  · obtain ⟨N, M, K, rfl, rfl, rfl⟩ := okN_nat q1
    have CN := hide (fun w' => rnew_ok q1 w')
    have HOK0 := hide (ok_st0 q1)
    have HQN := hide (show ∀ j b, Ser g n (st0 N M K) j b → SerR N M K n g j b from fun j b h => .inr ⟨q1, h⟩)
    clear q1
    generalize st0 N M K = S0 at *
    obtain ⟨zz, hz1, hz2, hz3, hz4, -⟩ : ∃ zz : Array Value, (∀ w, (zeroValue 56).run Try.prog w = .ok (.agg zz) w) ∧ ¬ zz = #[] ∧ ¬ zz.size < 2 ∧ zz.size = 227 ∧ zz = zr := ⟨_, fun w => by kernel_rfl, by decide +kernel, by decide +kernel, by decide +kernel, rfl⟩
    have HZ := hide hz4
    clear hz4
    go_enter Try.func14, Try.ntmps14
    go_wp2_with fail
    refine (CN.out _).mono ?_
    rintro e w1 ⟨rfl, hx1⟩
    have HX1 := hide hx1
    clear hx1
    go_wp2_with (first | (refine wpList_put rfl _ _ rfl w1.heap.size S0 rfl rfl zz (Blk.new w1 zz 56) HZ.out ?_; intro W3 hb3 hc3 hs3; have hc4 := ((Ext.alloc w1 (.cells zz 56)).chg [w1.heap.size]).trans hc3; have HX3 := hide (HX1.out.turn hc4 (by have := HX1.out.size; simp; omega)); have HQ3 := hide hb3; have lQ := HX1.out.size; clear hb3 hc3 hs3 hc4; obtain ⟨R, hQ⟩ : ∃ Q, Q = w1.heap.size := ⟨_, rfl⟩; rw [← hQ] at HQ3 lQ ⊢; clear hQ; go_frame))
    clear CN HX1
    go_loopw [12] (fun v wr => ∃ j : Nat, j ≤ n ∧ v = .int .i64 (j : Int) ∧ Blk wr R (rc (run g S0 j)) 56 ∧ Ok (run g S0 j) ∧ (∀ i, i < j → acc (run g S0 i) (g i) = true) ∧ Ext w wr) (fun v _ => n - (intOf v).toNat)
    case atStart => exact ⟨0, by omega, rfl, HQ3.out, HOK0.out, fun i hi => by omega, HX3.out⟩
    case round =>
      clear HQ3 HX3 HOK0
      obtain ⟨j, hj, rfl, hq, hok, hbf, hX⟩ := hrel
      have HX := hide hX
      have HB := hide hbf
      by_cases hlt : j < n
      · have HN := hide (show apS (run g S0 j) (g j).k (g j).t (g j).o (g j).a (g j).r = run g S0 (j + 1) from rfl)
        have HOK1 := hide (show Ok (apS (run g S0 j) (g j).k (g j).t (g j).o (g j).a (g j).r) from ap_ok hok _ _ _ _ _)
        have HSER := hide (show acc (run g S0 j) (g j) = false → Ser g n S0 j false from fun q => ⟨hbf, .inr ⟨rfl, hlt, q⟩⟩)
        have CR := hide (fun w' => rapply_any hok (g j).k (g j).t (g j).o (g j).a (g j).r w')
        have HA := hide (show apE (run g S0 j) (g j).k (g j).t (g j).o (g j).a (g j).r = (if acc (run g S0 j) (g j) = true then 0 else 15) from rfl)
        have HBW := hide hq
        obtain ⟨b, off, rfl, hbb, -⟩ := (H.out).rules hlt
        have HCW := hide (show ∀ w', Ext wr w' → w'.cell? ⟨b, off + j * 7, none⟩ = some (.int .i64 (g j).k) ∧ w'.cell? ⟨b, off + j * 7 + 1, none⟩ = some (.int .i64 (g j).t) ∧ w'.cell? ⟨b, off + j * 7 + 2, none⟩ = some (.int .i64 (g j).o) ∧ w'.cell? ⟨b, off + j * 7 + 3, none⟩ = some (.int .i64 (g j).a) ∧ w'.cell? ⟨b, off + j * 7 + 4, none⟩ = some (.int .i64 (g j).r) from fun w' x => by
          obtain ⟨b2, off2, e2, -, r0, r1, r2, r3, r4, -⟩ := (H.out.ext (hX.trans x) hb).rules hlt
          cases e2
          exact ⟨r0, r1, r2, r3, r4⟩)
        unfold RAp at CR
        generalize hac : acc (run g S0 j) (g j) = ac at *
        have HAC := hide hac
        clear hac hq hok hbf hX
        generalize apS (run g S0 j) (g j).k (g j).t (g j).o (g j).a (g j).r = S1 at *
        generalize apE (run g S0 j) (g j).k (g j).t (g j).o (g j).a (g j).r = er at *
        obtain ⟨S, hS⟩ : ∃ S, S = run g S0 j := ⟨_, rfl⟩
        rw [← hS] at CR HBW
        clear hS
        generalize (g j).k = x0 at *
        generalize (g j).t = x1 at *
        generalize (g j).o = x2 at *
        generalize (g j).a = x3 at *
        generalize (g j).r = x4 at *
        go_upto_region 7 with fail
        have hk := Ext.drew wr
        have hz0 := HCW.out _ hk
        refine wp_region_held_drew (S := fun w' => w'.rangeAt R 0 (rc S).toList ∧ w'.cell? ⟨b, off + j * 7, none⟩ = some (.int .i64 x0) ∧ w'.cell? ⟨b, off + j * 7 + 1, none⟩ = some (.int .i64 x1) ∧ w'.cell? ⟨b, off + j * 7 + 2, none⟩ = some (.int .i64 x2) ∧ w'.cell? ⟨b, off + j * 7 + 3, none⟩ = some (.int .i64 x3) ∧ w'.cell? ⟨b, off + j * 7 + 4, none⟩ = some (.int .i64 x4)) (by kernel_rfl) (⟨rc_rng (HBW.out.ext hk), hz0.1, hz0.2.1, hz0.2.2.1, hz0.2.2.2.1, hz0.2.2.2.2⟩) (fun hHeld => ?_)
        clear hz0
        refine wpAnyH_take (i := 0) (at_drop rfl) (by kernel_rfl) (by kernel_rfl) (by kernel_rfl) (fun _ _ _ h => h) (yieldsIf_load_mid (by rfl) 56 _ rfl R 0 rfl (rc S).toList _ (fun w h => h.1) Try.underlying56 rfl (inf_rm S)) (by assumption) ?_
        rw [Array.toArray_toList]
        (try simp only [Act.put, List.setIfInBounds_toArray, List.set_cons_zero, List.set_cons_succ])
        (refine held_take (i := 1) (v := ?_) rfl (by kernel_rfl) (by kernel_rfl) (by kernel_rfl) (fun _ _ _ h => h) (by rfl) ?_ (by assumption) ?_; rotate_left; (intro w hSw; (try dsimp only at hSw); (first | (go_simp; done) | (go_simp; with_reducible rfl))); (try simp only [Act.put, List.setIfInBounds_toArray, List.set_cons_zero, List.set_cons_succ]))
        (refine held_take (i := 2) (v := ?_) rfl (by kernel_rfl) (by kernel_rfl) (by kernel_rfl) (fun _ _ _ h => h) (by rfl) ?_ (by assumption) ?_; rotate_left; (intro w hSw; (try dsimp only at hSw); (first | (go_simp; done) | (go_simp; with_reducible rfl))); (try simp only [Act.put, List.setIfInBounds_toArray, List.set_cons_zero, List.set_cons_succ]))
        (refine held_take (i := 3) (v := ?_) rfl (by kernel_rfl) (by kernel_rfl) (by kernel_rfl) (fun _ _ _ h => h) (by rfl) ?_ (by assumption) ?_; rotate_left; (intro w hSw; (try dsimp only at hSw); (first | (go_simp; done) | (go_simp; with_reducible rfl))); (try simp only [Act.put, List.setIfInBounds_toArray, List.set_cons_zero, List.set_cons_succ]))
        (refine held_take (i := 4) (v := ?_) rfl (by kernel_rfl) (by kernel_rfl) (by kernel_rfl) (fun _ _ _ h => h) (by rfl) ?_ (by assumption) ?_; rotate_left; (intro w hSw; (try dsimp only at hSw); (first | (go_simp; done) | (go_simp; with_reducible rfl))); (try simp only [Act.put, List.setIfInBounds_toArray, List.set_cons_zero, List.set_cons_succ]))
        (refine held_take (i := 5) (v := ?_) rfl (by kernel_rfl) (by kernel_rfl) (by kernel_rfl) (fun _ _ _ h => h) (by rfl) ?_ (by assumption) ?_; rotate_left; (intro w hSw; (try dsimp only at hSw); (first | (go_simp; done) | (go_simp; with_reducible rfl))); (try simp only [Act.put, List.setIfInBounds_toArray, List.set_cons_zero, List.set_cons_succ]))
        refine wpAnyH_ready (rs := [6, 10]) (by kernel_rfl) (by simp) (held_cons rfl (fun K hK => ?_) (held_cons rfl (fun K hK => ?_) AllReadyH.nil))
        · rw [if_pos (by rfl)]
          go_simp
          go_at_call 24
          refine (CR.out _).mono ?_
          rintro e w5 ⟨rfl, hx5⟩
          have hk := hk.trans hx5
          refine hK.out _ _ ⟨rc_rng (HBW.out.ext hk), (HCW.out _ hk).1, (HCW.out _ hk).2.1, (HCW.out _ hk).2.2.1, (HCW.out _ hk).2.2.2.1, (HCW.out _ hk).2.2.2.2⟩ (fun hHeld => ?_)
          (try simp only [Act.put, List.setIfInBounds_toArray, List.set_cons_zero, List.set_cons_succ])
          (refine held_take (i := 7) (v := ?_) rfl (by kernel_rfl) (by kernel_rfl) (by kernel_rfl) (fun _ _ _ h => h) (by rfl) ?_ (by assumption) ?_; rotate_left; (intro w hSw; (try dsimp only at hSw); (first | (go_simp; done) | (go_simp; with_reducible rfl))); (try simp only [Act.put, List.setIfInBounds_toArray, List.set_cons_zero, List.set_cons_succ]))
          (refine held_take (i := 8) (v := ?_) rfl (by kernel_rfl) (by kernel_rfl) (by kernel_rfl) (fun _ _ _ h => h) (by rfl) ?_ (by assumption) ?_; rotate_left; (intro w hSw; (try dsimp only at hSw); (first | (go_simp; done) | (go_simp; with_reducible rfl))); (try simp only [Act.put, List.setIfInBounds_toArray, List.set_cons_zero, List.set_cons_succ]))
          (refine held_take (i := 9) (v := ?_) rfl (by kernel_rfl) (by kernel_rfl) (by kernel_rfl) (fun _ _ _ h => h) (by rfl) ?_ (by assumption) ?_; rotate_left; (intro w hSw; (try dsimp only at hSw); (first | (go_simp; done) | (go_simp; with_reducible rfl))); (try simp only [Act.put, List.setIfInBounds_toArray, List.set_cons_zero, List.set_cons_succ]))
          refine wpAnyH_ready (rs := [10]) (by kernel_rfl) (by simp) (held_cons rfl (fun K hK => ?_) AllReadyH.nil)
          rw [if_pos (by rfl)]
          go_wp2
          have HR := hide (Blk.new w5 zz 56)
          have HLX := hide hk.size
          have hk := hk.trans (Ext.alloc w5 (.cells zz 56))
          generalize w5.alloc (.cells zz 56) = W6 at *
          generalize w5.heap.size = X at *
          refine hK.out _ _ ⟨rc_rng (HBW.out.ext hk), (HCW.out _ hk).1, (HCW.out _ hk).2.1, (HCW.out _ hk).2.2.1, (HCW.out _ hk).2.2.2.1, (HCW.out _ hk).2.2.2.2⟩ (fun hHeld => ?_)
          (try simp only [Act.put, List.setIfInBounds_toArray, List.set_cons_zero, List.set_cons_succ])
          have HX6 := hide hk
          refine wpAnyH_ready (rs := [11]) (by kernel_rfl) (by simp) (held_cons rfl (fun K hK => ?_) AllReadyH.nil)
          rw [if_pos (by rfl)]
          refine wp_store_row 56 _ _ rfl X (rc S1) rfl rfl 56 zz HR.out (by rw [rc_size]; exact inf_rz) (by rw [HZ.out, rc_size]) (all_rc S1) ?_
          have HQ := hide (setRow_heap W6 X zz (rc S1) 56 _ HR.out)
          have hc' := Chg.row (cs := rc S1) HR.out
          have HX7 := hide ((HX6.out).turn hc' (by simpa using HLX.out))
          clear hc'
          have hk := HX7.out
          generalize W6.setRow X (rc S1) = W7 at *
          refine hK.out _ _ ⟨rc_rng (HBW.out.ext hk), (HCW.out _ hk).1, (HCW.out _ hk).2.1, (HCW.out _ hk).2.2.1, (HCW.out _ hk).2.2.2.1, (HCW.out _ hk).2.2.2.2⟩ (fun hHeld => ?_)
          (try simp only [Act.put, List.setIfInBounds_toArray, List.set_cons_zero, List.set_cons_succ])
          (refine held_take (i := 12) (v := ?_) rfl (by kernel_rfl) (by kernel_rfl) (by kernel_rfl) (fun _ _ _ h => h) (by rfl) ?_ (by assumption) ?_; rotate_left; (intro w hSw; (try dsimp only at hSw); (first | (go_simp; done) | (go_simp; with_reducible rfl))); (try simp only [Act.put, List.setIfInBounds_toArray, List.set_cons_zero, List.set_cons_succ]))
          refine wpAnyH_done (by kernel_rfl) ?_ _
          clear hK hHeld
          have HXW := hide (HX.out.trans HX7.out)
          have HB7 := hide (show Blk W7 R (rc S) 56 from HBW.out.ext HX7.out)
          have lX := HLX.out
          have HQB := hide (show Blk W7 X (rc S1) 56 from HQ.out)
          clear hk HBW HCW HX7 HX6 HR CR
          cases ac
          · have e15 : er = 15 := HA.out
            subst e15
            have E := hide (HSER.out rfl)
            clear HA HSER
            go_wp2_with fail
            go_ret2
            exact ⟨j, false, by simp, HQN.out _ _ E.out, HXW.out⟩
          · have e0 : er = 0 := HA.out
            subst e0
            clear HA HSER
            go_wp2_with (first
              | (with_reducible refine wpList_get rfl _ rfl X S1 rfl HQB.out ?_; go_frame)
              | (with_reducible refine wpList_put rfl _ _ rfl R S1 rfl rfl (rc S) HB7.out rc_size ?_; intro W8 hb8 hc8 hs8; have HB8 := hide hb8; have HX8 := hide (HXW.out.turn hc8 (by simp; omega)); clear hb8 hc8 hs8; go_frame))
            go_roundw
            case rel => exact ⟨j + 1, by omega, by go_num, by rw [← HN.out]; exact HB8.out, by rw [← HN.out]; exact HOK1.out, fun i hi => by
              by_cases q : i = j
              · subst q; exact HAC.out
              · exact HB.out i (by omega), HX8.out⟩
            case measure => simp [intOf]; omega
        · rw [if_pos (by rfl)]
          go_wp2
          have HR := hide ((Blk.new wr zz 56).ext (Ext.drew _))
          have hk := (Ext.alloc wr (.cells zz 56)).trans (Ext.drew _)
          generalize (wr.alloc (.cells zz 56)).drew = W5 at *
          obtain ⟨X, hX⟩ : ∃ X, X = wr.heap.size := ⟨_, rfl⟩
          rw [← hX] at HR
          have HLX : Hid (wr.heap.size ≤ X) := hide (by omega)
          rw [← hX]
          clear hX
          refine hK.out _ _ ⟨rc_rng (HBW.out.ext hk), (HCW.out _ hk).1, (HCW.out _ hk).2.1, (HCW.out _ hk).2.2.1, (HCW.out _ hk).2.2.2.1, (HCW.out _ hk).2.2.2.2⟩ (fun hHeld => ?_)
          (try simp only [Act.put, List.setIfInBounds_toArray, List.set_cons_zero, List.set_cons_succ])
          refine wpAnyH_ready (rs := [6]) (by kernel_rfl) (by simp) (held_cons rfl (fun K hK => ?_) AllReadyH.nil)
          rw [if_pos (by rfl)]
          go_simp
          go_at_call 24
          refine (CR.out _).mono ?_
          rintro e w5 ⟨rfl, hx5⟩
          have hk := hk.trans hx5
          have HR := hide (HR.out.ext hx5)
          generalize w5 = W6 at *
          refine hK.out _ _ ⟨rc_rng (HBW.out.ext hk), (HCW.out _ hk).1, (HCW.out _ hk).2.1, (HCW.out _ hk).2.2.1, (HCW.out _ hk).2.2.2.1, (HCW.out _ hk).2.2.2.2⟩ (fun hHeld => ?_)
          (try simp only [Act.put, List.setIfInBounds_toArray, List.set_cons_zero, List.set_cons_succ])
          (refine held_take (i := 7) (v := ?_) rfl (by kernel_rfl) (by kernel_rfl) (by kernel_rfl) (fun _ _ _ h => h) (by rfl) ?_ (by assumption) ?_; rotate_left; (intro w hSw; (try dsimp only at hSw); (first | (go_simp; done) | (go_simp; with_reducible rfl))); (try simp only [Act.put, List.setIfInBounds_toArray, List.set_cons_zero, List.set_cons_succ]))
          (refine held_take (i := 8) (v := ?_) rfl (by kernel_rfl) (by kernel_rfl) (by kernel_rfl) (fun _ _ _ h => h) (by rfl) ?_ (by assumption) ?_; rotate_left; (intro w hSw; (try dsimp only at hSw); (first | (go_simp; done) | (go_simp; with_reducible rfl))); (try simp only [Act.put, List.setIfInBounds_toArray, List.set_cons_zero, List.set_cons_succ]))
          (refine held_take (i := 9) (v := ?_) rfl (by kernel_rfl) (by kernel_rfl) (by kernel_rfl) (fun _ _ _ h => h) (by rfl) ?_ (by assumption) ?_; rotate_left; (intro w hSw; (try dsimp only at hSw); (first | (go_simp; done) | (go_simp; with_reducible rfl))); (try simp only [Act.put, List.setIfInBounds_toArray, List.set_cons_zero, List.set_cons_succ]))
          have HX6 := hide hk
          refine wpAnyH_ready (rs := [11]) (by kernel_rfl) (by simp) (held_cons rfl (fun K hK => ?_) AllReadyH.nil)
          rw [if_pos (by rfl)]
          refine wp_store_row 56 _ _ rfl X (rc S1) rfl rfl 56 zz HR.out (by rw [rc_size]; exact inf_rz) (by rw [HZ.out, rc_size]) (all_rc S1) ?_
          have HQ := hide (setRow_heap W6 X zz (rc S1) 56 _ HR.out)
          have hc' := Chg.row (cs := rc S1) HR.out
          have HX7 := hide ((HX6.out).turn hc' (by simpa using HLX.out))
          clear hc'
          have hk := HX7.out
          generalize W6.setRow X (rc S1) = W7 at *
          refine hK.out _ _ ⟨rc_rng (HBW.out.ext hk), (HCW.out _ hk).1, (HCW.out _ hk).2.1, (HCW.out _ hk).2.2.1, (HCW.out _ hk).2.2.2.1, (HCW.out _ hk).2.2.2.2⟩ (fun hHeld => ?_)
          (try simp only [Act.put, List.setIfInBounds_toArray, List.set_cons_zero, List.set_cons_succ])
          (refine held_take (i := 12) (v := ?_) rfl (by kernel_rfl) (by kernel_rfl) (by kernel_rfl) (fun _ _ _ h => h) (by rfl) ?_ (by assumption) ?_; rotate_left; (intro w hSw; (try dsimp only at hSw); (first | (go_simp; done) | (go_simp; with_reducible rfl))); (try simp only [Act.put, List.setIfInBounds_toArray, List.set_cons_zero, List.set_cons_succ]))
          refine wpAnyH_done (by kernel_rfl) ?_ _
          clear hK hHeld
          have HXW := hide (HX.out.trans HX7.out)
          have HB7 := hide (show Blk W7 R (rc S) 56 from HBW.out.ext HX7.out)
          have lX := HLX.out
          have HQB := hide (show Blk W7 X (rc S1) 56 from HQ.out)
          clear hk HBW HCW HX7 HX6 HR CR
          cases ac
          · have e15 : er = 15 := HA.out
            subst e15
            have E := hide (HSER.out rfl)
            clear HA HSER
            go_wp2_with fail
            go_ret2
            exact ⟨j, false, by simp, HQN.out _ _ E.out, HXW.out⟩
          · have e0 : er = 0 := HA.out
            subst e0
            clear HA HSER
            go_wp2_with (first
              | (with_reducible refine wpList_get rfl _ rfl X S1 rfl HQB.out ?_; go_frame)
              | (with_reducible refine wpList_put rfl _ _ rfl R S1 rfl rfl (rc S) HB7.out rc_size ?_; intro W8 hb8 hc8 hs8; have HB8 := hide hb8; have HX8 := hide (HXW.out.turn hc8 (by simp; omega)); clear hb8 hc8 hs8; go_frame))
            go_roundw
            case rel => exact ⟨j + 1, by omega, by go_num, by rw [← HN.out]; exact HB8.out, by rw [← HN.out]; exact HOK1.out, fun i hi => by
              by_cases q : i = j
              · subst q; exact HAC.out
              · exact HB.out i (by omega), HX8.out⟩
            case measure => simp [intOf]; omega
      · obtain rfl : j = n := by omega
        go_wp2_with fail
        go_ret2
        exact ⟨j, true, by simp, HQN.out _ _ ⟨HB.out, .inl ⟨rfl, rfl⟩⟩, HX.out⟩
end Go.Proofs.Ytpielknodjppgaa
