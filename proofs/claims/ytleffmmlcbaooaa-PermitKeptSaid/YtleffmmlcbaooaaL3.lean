/-
  A law of layer 8 holds of every input: PermitKept. No condition.
-/
import Derived.Test.YtleffmmlcbaooaaR1
import Derived.ChangeKeysEq
import Derived.Deep.RegionHeld3
import Derived.Test.YtleffmmlcbaooaaS2
namespace Go.Proofs.Ytleffmmlcbaooaa
open Go.ChangeShapes Go.WideShapes Go.ChangeAt Go.RowKit Go.Deep Go.Joins
set_option linter.unusedVariables false
set_option linter.unusedSimpArgs false

theorem al_43 (w : World) : (zeroValue 46).run Try.prog w = .ok (.agg (rows3 4 (fun _ => no3))) w := by kernel_rfl
/-- A thread as the law looks at it: permit, flag, asleep. -/
def per (s : B3) : B3 := ⟨s.y, s.z, s.x⟩
def seen (g : Tb) (k : Nat) : Tb := fun q => if q < k then per (g q) else no3
theorem seen_no (g : Tb) : seen g 0 = fun _ => no3 := by funext q; unfold seen; rw [if_neg (by omega)]
theorem seen_next (g : Tb) (k : Nat) : upd3 (seen g k) k (per (g k)) = seen g (k + 1) := by
  funext q
  show (if q = k then per (g k) else if q < k then per (g q) else no3) = if q < k + 1 then per (g q) else no3
  by_cases e : q = k
  · subst e; rw [if_pos rfl, if_pos (by omega)]
  · by_cases h : q < k
    · rw [if_neg e, if_pos h, if_pos (by omega)]
    · rw [if_neg e, if_neg h, if_neg (by omega)]
theorem seen_at (g : Tb) {q k : Nat} (h : q < k) : seen g k q = per (g q) := if_pos h
def Was (w : World) (B : Nat) (s : Tb) : Prop := Blk w B (rows3 4 s) 46
theorem Was.put {w : World} {B : Nat} {s : Tb} (h : Was w B s) {t : Nat} (ht : t < 4) (a b c : Bool) :
    Was (((w.setCell ⟨B, t * 3, none⟩ (.bool a)).setCell ⟨B, t * 3 + 1, none⟩ (.bool b)).setCell ⟨B, t * 3 + 2, none⟩ (.bool c)) B (upd3 s t ⟨a, b, c⟩) := by
  have h1 := Blk.set (Blk.set (Blk.set h (t * 3) (.bool a)) (t * 3 + 1) (.bool b)) (t * 3 + 2) (.bool c)
  rw [rows3_setx _ ht, rows3_sety _ ht, rows3_setz _ ht, upd3_upd3, upd3_same, upd3_upd3, upd3_same] at h1
  exact h1
theorem run_neq3 (a b c : Bool) (w : World) : Sem.run Try.prog (binOp .neq 41 (.agg #[.bool a, .bool b, .bool c]) (.agg #[.bool a, .bool b, .bool c])) w = .ok (.bool false) w := by
  cases a <;> cases b <;> cases c <;> kernel_rfl
set_option maxHeartbeats 8000000 in
set_option maxRecDepth 100000 in
theorem lkept_any (A : Option Addr) (n c : Nat) (f : Nat → Stp) (w : World) (hn : n ≤ c) (hc : c ≤ maxLen) (hs : Stps w w.heap.size A n f) (hf : ∀ k, k < n → Okst (f k)) :
    Calls Try.prog 4 #[.slice A n c] w fun e w' => e = .returned (.bool true) ∧ Ext w w' := by
  have HF := hide hf
  clear hf
  go_enter Try.func4, Try.ntmps4
  go_wp2_with fail
  refine (new_in 4 _ (by omega) (by omega)).mono ?_
  rintro e w1 ⟨M, V, rfl, hm, hM, hV, hX⟩
  have HA := al_4
  have l1 := hm.m.lt
  have l2 := hm.v.lt
  have z1 := hX.size
  have ha : Ar4 (w1.alloc (.cells (rows1 4 (fun _ => false)) 45)) w1.heap.size (fun k => ((fun _ => no3) k).y) := Blk.new w1 _ _
  have hm := hm.ext (Ext.alloc w1 (.cells (rows1 4 (fun _ => false)) 45))
  have hX := hX.trans (Ext.alloc w1 (.cells (rows1 4 (fun _ => false)) 45))
  have HT := hide (show ∀ t, t ∈ [V] → w.heap.size ≤ t by simp; omega)
  have HTQ := hide (show ∀ t, t ∈ [w1.heap.size] → w.heap.size ≤ t by simp; omega)
  have DQ := hide (show w1.heap.size ∉ [V] by simp; omega)
  have DM := hide (show M ∉ [w1.heap.size] by simp; omega)
  have DV := hide (show V ∉ [w1.heap.size] by simp; omega)
  have SM := hide (show ∀ k, k ∈ [V] → k ∈ [V, w1.heap.size] by simp)
  have SQ := hide (show ∀ k, k ∈ [w1.heap.size] → k ∈ [V, w1.heap.size] by simp)
  clear hM hV l1 l2 z1
  go_wp2_with fail
  clear HA
  generalize w1.alloc (.cells (rows1 4 (fun _ => false)) 45) = w2 at *
  generalize w1.heap.size = Q at *
  refine (short_any A n c _ hn hc).mono ?_
  rintro e w3 ⟨rfl, rfl⟩
  go_wp2_with fail
  go_loopw [30] (fun i wr => ∃ (j : Nat) (g : Tb), j ≤ min n 300 ∧ i = .int .i64 j ∧ TabT wr M V 4 g ∧ Ar4 wr Q (fun k => (g k).y) ∧ OkG g ∧ Ext w wr) (fun i _ => min n 300 - (intOf i).toNat)
  case atStart => exact ⟨0, _, by omega, rfl, hm, ha, fun t h => (by cases h), hX⟩
  case round =>
    clear hm hX ha
    obtain ⟨j, g, hj, rfl, hm, ha, hg, hX⟩ := hrel
    have HG := hide hg
    clear hg
    by_cases hlt : j < min n 300
    · have hj2 : j < n := by omega
      obtain ⟨b, off, rfl, hb, r0, r1⟩ := (hs.chg hX (Nat.le_refl _)).rules hj2
      have hok := HF.out j hj2
      have k0 := hok.k0
      have k1 := hok.k1
      have HS := hide (show wr.heap.size ∉ [V, Q] by have a2 := hm.v.lt; have a3 := Blk.lt ha; simp; omega)
      have bs := Blk.new wr #[.int .u8 (f j).k, .int .i64 (f j).n] 35
      have rs := bs.ruleC HS.out
      have s0 : ∀ w', Chg [V, Q] (wr.alloc (.cells #[.int .u8 (f j).k, .int .i64 (f j).n] 35)) w' → w'.cell? ⟨wr.heap.size, 0, none⟩ = some (.int .u8 (f j).k) := fun w' h => rs w' h 0
      have s1 : ∀ w', Chg [V, Q] (wr.alloc (.cells #[.int .u8 (f j).k, .int .i64 (f j).n] 35)) w' → w'.cell? ⟨wr.heap.size, 1, none⟩ = some (.int .i64 (f j).n) := fun w' h => rs w' h 1
      obtain ⟨t, ht, et⟩ : ∃ t : Nat, t < 4 ∧ bits .and .i64 (f j).n 3 = (t : Int) := ⟨((f j).n % 4).toNat, by omega, by rw [and3]; omega⟩
      have ht0 : (0 : Int) ≤ (t : Int) := by omega
      have ht4 : (t : Int) < 4 := by omega
      have HA := al_43
      clear bs hok rs
      go_wp2_with fail
      clear HA s0 s1
      have hY : Ext wr ((wr.alloc (.cells #[.int .u8 (f j).k, .int .i64 (f j).n] 35)).alloc (.cells (rows3 4 (fun _ => no3)) 46)) := (Ext.alloc _ _).trans (Ext.alloc _ _)
      have hw : Was ((wr.alloc (.cells #[.int .u8 (f j).k, .int .i64 (f j).n] 35)).alloc (.cells (rows3 4 (fun _ => no3)) 46)) (wr.heap.size + 1) (seen g 0) := by
        rw [seen_no]
        have h := Blk.new (wr.alloc (.cells #[.int .u8 (f j).k, .int .i64 (f j).n] 35)) (rows3 4 (fun _ => no3)) 46
        simp only [World.size_alloc] at h
        exact h
      have hz : Blk ((wr.alloc (.cells #[.int .u8 (f j).k, .int .i64 (f j).n] 35)).alloc (.cells (rows3 4 (fun _ => no3)) 46)) wr.heap.size #[.int .u8 (f j).k, .int .i64 (f j).n] 35 := (Blk.new wr _ _).ext (Ext.alloc _ _)
      have l1 := hm.m.lt
      have l2 := hm.v.lt
      have l3 := Blk.lt ha
      have l4 := hX.size
      have DBV := hide (show wr.heap.size + 1 ∉ [V] by simp; omega)
      have DBQ := hide (show wr.heap.size + 1 ∉ [Q] by simp; omega)
      have DMB := hide (show M ∉ [wr.heap.size + 1] by simp; omega)
      have DVB := hide (show V ∉ [wr.heap.size + 1] by simp; omega)
      have DQB := hide (show Q ∉ [wr.heap.size + 1] by simp; omega)
      have DZB := hide (show wr.heap.size ∉ [wr.heap.size + 1] by simp)
      have HTB := hide (show ∀ t, t ∈ [wr.heap.size + 1] → w.heap.size ≤ t by simp; omega)
      have hm := hm.ext hY
      have ha := ha.ext hY
      have hX := hX.trans hY
      clear hY l1 l2 l3 l4 HS
      generalize (wr.alloc (.cells #[.int .u8 (f j).k, .int .i64 (f j).n] 35)).alloc (.cells (rows3 4 (fun _ => no3)) 46) = w4 at *
      generalize wr.heap.size + 1 = B at *
      generalize wr.heap.size = Z at *
      go_loopw [37] (fun i wq => ∃ (k : Nat), k ≤ 4 ∧ i = .int .i64 k ∧ TabT wq M V 4 g ∧ Ar4 wq Q (fun k => (g k).y) ∧ Was wq B (seen g k) ∧ Blk wq Z #[.int .u8 (f j).k, .int .i64 (f j).n] 35 ∧ Ext w wq) (fun i _ => 4 - (intOf i).toNat)
      case atStart => exact ⟨0, by omega, rfl, hm, ha, hw, hz, hX⟩
      case round =>
        clear hm ha hX hw hz
        obtain ⟨k, hk4, rfl, hm, ha, hw, hz, hX⟩ := hrel
        by_cases hkl : k < 4
        · have k4 : (k : Int) < 4 := by omega
          go_wp2_with fail
          refine (permit_n hm hkl).mono ?_
          rintro e w5 ⟨rfl, hx⟩
          have hz := hz.ext hx
          (have hm := hm.ext hx; have ha := ha.ext hx; have hw := Blk.ext hw hx; have hX := hX.trans hx; clear hx)
          go_wp2_with fail
          refine (flag_n hm hkl).mono ?_
          rintro e w6 ⟨rfl, hx⟩
          have hz := hz.ext hx
          (have hm := hm.ext hx; have ha := ha.ext hx; have hw := Blk.ext hw hx; have hX := hX.trans hx; clear hx)
          go_wp2_with fail
          refine (asleep_n hm hkl).mono ?_
          rintro e w7 ⟨rfl, hx⟩
          have hz := hz.ext hx
          (have hm := hm.ext hx; have ha := ha.ext hx; have hw := Blk.ext hw hx; have hX := hX.trans hx; clear hx)
          have c0 := (Blk.cell hw (k * 3)).trans (rows3_at _ hkl).1
          have c1 := (Blk.cell hw (k * 3 + 1)).trans (rows3_at _ hkl).2.1
          have c2 := (Blk.cell hw (k * 3 + 2)).trans (rows3_at _ hkl).2.2
          have f0 := Blk.free hw
          have HP := hide (Was.put hw hkl (g k).y (g k).z (g k).x)
          have hc := ((chg_at (T := [B]) w7 B (k * 3) (.bool (g k).y) (by simp)).setV (o := k * 3 + 1) (.bool (g k).z)).setV (o := k * 3 + 2) (.bool (g k).x)
          have HC := hide hc
          have SN := hide (seen_next g k)
          clear hw hc
          go_wp2_with fail
          have hw := HP.out
          have hc := HC.out
          (have hm := hm.chg hc DMB.out DVB.out; have ha := ha.chg hc DQB.out; have hz := hz.chg hc DZB.out; have hX := hX.turn hc HTB.out; clear hc)
          clear HP HC c0 c1 c2 f0
          rw [show (⟨(g k).y, (g k).z, (g k).x⟩ : B3) = per (g k) from rfl, SN.out] at hw
          go_wp2_with fail
          go_roundw
          case rel => exact ⟨k + 1, by omega, by go_num, hm, ha, hw, hz, hX⟩
          case measure => simp [intOf]; omega
        · obtain rfl : k = 4 := by omega
          clear hk4 hkl
          have r0 := hz.cell 0
          clear hz
          by_cases q3 : (f j).k % 5 = 3
          · go_wp2_with fail
            refine (take_n hm ht).mono ?_
            rintro e w5 ⟨rfl, hm, hc⟩
            (have ha := ha.chg hc DQ.out; have hw := Blk.chg hw hc DBV.out; have hX := hX.turn hc HT.out; clear hc)
            clear r0
            rw [← row_stay g t (takS (g t)) (·.y) rfl] at ha
            have HG2 := hide (okG_upd HG.out t (s := takS (g t)) (HG.out t))
            have HO := hide (show ∀ k, k ≠ t → upd3 g t (takS (g t)) k = g k from fun k hk => upd3_other g _ hk)
            generalize upd3 g t (takS (g t)) = g2 at *
            go_wp2_with fail
            go_loopw [97] (fun i wq => ∃ (k : Nat), k ≤ 4 ∧ i = .int .i64 k ∧ TabT wq M V 4 g2 ∧ Ar4 wq Q (fun k => (g2 k).y) ∧ Was wq B (seen g 4) ∧ Ext w wq) (fun i _ => 4 - (intOf i).toNat)
            case atStart => exact ⟨0, by omega, rfl, hm, ha, hw, hX⟩
            case round =>
              clear hm ha hX hw
              obtain ⟨k, hk4, rfl, hm, ha, hw, hX⟩ := hrel
              by_cases hkl : k < 4
              · have k4 : (k : Int) < 4 := by omega
                go_wp2_with fail
                refine (permit_n hm hkl).mono ?_
                rintro e w5 ⟨rfl, hx⟩
                (have hm := hm.ext hx; have ha := ha.ext hx; have hw := Blk.ext hw hx; have hX := hX.trans hx; clear hx)
                go_wp2_with fail
                refine (flag_n hm hkl).mono ?_
                rintro e w6 ⟨rfl, hx⟩
                (have hm := hm.ext hx; have ha := ha.ext hx; have hw := Blk.ext hw hx; have hX := hX.trans hx; clear hx)
                go_wp2_with fail
                refine (asleep_n hm hkl).mono ?_
                rintro e w7 ⟨rfl, hx⟩
                (have hm := hm.ext hx; have ha := ha.ext hx; have hw := Blk.ext hw hx; have hX := hX.trans hx; clear hx)
                have q0 := fun wx (hx : Ext (w7.alloc (.cells #[.bool (g2 k).y, .bool (g2 k).z, .bool (g2 k).x] 41)) wx) => hx.boxCell 0
                have q1 := fun wx (hx : Ext (w7.alloc (.cells #[.bool (g2 k).y, .bool (g2 k).z, .bool (g2 k).x] 41)) wx) => hx.boxCell 1
                have q2 := fun wx (hx : Ext (w7.alloc (.cells #[.bool (g2 k).y, .bool (g2 k).z, .bool (g2 k).x] 41)) wx) => hx.boxCell 2
                have hx := Ext.alloc w7 (.cells #[.bool (g2 k).y, .bool (g2 k).z, .bool (g2 k).x] 41)
                (have hm := hm.ext hx; have ha := ha.ext hx; have hw := Blk.ext hw hx; have hX := hX.trans hx; clear hx)
                have p0 : ∀ wx, Ext (w7.alloc (.cells #[.bool (g2 k).y, .bool (g2 k).z, .bool (g2 k).x] 41)) wx → wx.cell? ⟨B, k * 3, none⟩ = some (.bool (g k).y) := fun wx hx => (Blk.cell (Blk.ext hw hx) (k * 3)).trans ((rows3_at (seen g 4) hkl).1.trans (by rw [seen_at g hkl]; rfl))
                have p1 : ∀ wx, Ext (w7.alloc (.cells #[.bool (g2 k).y, .bool (g2 k).z, .bool (g2 k).x] 41)) wx → wx.cell? ⟨B, k * 3 + 1, none⟩ = some (.bool (g k).z) := fun wx hx => (Blk.cell (Blk.ext hw hx) (k * 3 + 1)).trans ((rows3_at (seen g 4) hkl).2.1.trans (by rw [seen_at g hkl]; rfl))
                have p2 : ∀ wx, Ext (w7.alloc (.cells #[.bool (g2 k).y, .bool (g2 k).z, .bool (g2 k).x] 41)) wx → wx.cell? ⟨B, k * 3 + 2, none⟩ = some (.bool (g k).x) := fun wx hx => (Blk.cell (Blk.ext hw hx) (k * 3 + 2)).trans ((rows3_at (seen g 4) hkl).2.2.trans (by rw [seen_at g hkl]; rfl))
                have hN := run_neq3 (g k).y (g k).z (g k).x
                have hyx : (g2 k).y = true → (g2 k).x = false := fun h => by
                  cases hx : (g2 k).x
                  · rfl
                  · have := HG2.out k hx; rw [h] at this; cases this
                have hW := Ext.refl (w7.alloc (.cells #[.bool (g2 k).y, .bool (g2 k).z, .bool (g2 k).x] 41))
                by_cases hkt : k = t
                · have t1 : ((k : Int) != (t : Int)) = false := by rw [hkt]; simp
                  cases hy : (g2 k).y
                  · rw [hy] at q0 q1 q2 p0 p1 p2 hW hX hm ha hw
                    clear hkt hyx
                    go_wp2_with fail
                    refine wp_region_ext (by kernel_rfl) (by kernel_rfl) ?_
                    repeat
                      with_reducible refine wpQuiet_step (fun K hK => ?_)
                      go_simp
                      first
                      | (refine hK _ ?_; clear hK K)
                      | (apply Exists.intro
                         refine ⟨fun w1 h1 => ?_, hK _ ?_⟩
                         (have hW := hW.trans h1; (first | rfl | (go_simp; done) | (go_simp; rfl)))
                         clear hK K)
                    refine wpQuiet_nil (fun w' hw' => ?_)
                    go_wp2_with fail
                    have hx := hw'
                    (have hm := hm.ext hx; have ha := ha.ext hx; have hw := Blk.ext hw hx; have hX := hX.trans hx; clear hx)
                    go_roundw
                    case rel => exact ⟨k + 1, by omega, by go_num, hm, ha, hw, hX⟩
                    case measure => simp [intOf]; omega
                  · rw [hyx hy, hy] at q0 q1 q2 p0 p1 p2 hW hX hm ha hw
                    rw [hyx hy]
                    clear hkt hyx
                    go_wp2_with fail
                    refine wp_region_ext (by kernel_rfl) (by kernel_rfl) ?_
                    repeat
                      with_reducible refine wpQuiet_step (fun K hK => ?_)
                      go_simp
                      first
                      | (refine hK _ ?_; clear hK K)
                      | (apply Exists.intro
                         refine ⟨fun w1 h1 => ?_, hK _ ?_⟩
                         (have hW := hW.trans h1; (first | rfl | (go_simp; done) | (go_simp; rfl)))
                         clear hK K)
                    refine wpQuiet_nil (fun w' hw' => ?_)
                    go_wp2_with fail
                    have hx := hw'
                    (have hm := hm.ext hx; have ha := ha.ext hx; have hw := Blk.ext hw hx; have hX := hX.trans hx; clear hx)
                    go_roundw
                    case rel => exact ⟨k + 1, by omega, by go_num, hm, ha, hw, hX⟩
                    case measure => simp [intOf]; omega
                · have t1 : ((k : Int) != (t : Int)) = true := by have : ¬ (k : Int) = (t : Int) := by omega
                                                                  simpa using this
                  have ho := HO.out k hkt
                  rw [ho] at q0 q1 q2 p0 p1 p2 hW hX hm ha hw hyx ⊢
                  clear ho
                  cases hy : (g k).y
                  · rw [hy] at q0 q1 q2 p0 p1 p2 hW hX hm ha hw hN
                    clear hkt hyx
                    go_wp2_with fail
                    refine wp_region_ext (by kernel_rfl) (by kernel_rfl) ?_
                    repeat
                      with_reducible refine wpQuiet_step (fun K hK => ?_)
                      go_simp
                      first
                      | (refine hK _ ?_; clear hK K)
                      | (apply Exists.intro
                         refine ⟨fun w1 h1 => ?_, hK _ ?_⟩
                         (have hW := hW.trans h1; (first | rfl | (go_simp; done) | (go_simp; rfl)))
                         clear hK K)
                    refine wpQuiet_nil (fun w' hw' => ?_)
                    go_wp2_with fail
                    have hx := hw'
                    (have hm := hm.ext hx; have ha := ha.ext hx; have hw := Blk.ext hw hx; have hX := hX.trans hx; clear hx)
                    go_roundw
                    case rel => exact ⟨k + 1, by omega, by go_num, hm, ha, hw, hX⟩
                    case measure => simp [intOf]; omega
                  · rw [hyx hy, hy] at q0 q1 q2 p0 p1 p2 hW hX hm ha hw hN
                    rw [hyx hy]
                    clear hkt hyx
                    go_wp2_with fail
                    refine wp_region_ext (by kernel_rfl) (by kernel_rfl) ?_
                    repeat
                      with_reducible refine wpQuiet_step (fun K hK => ?_)
                      go_simp
                      first
                      | (refine hK _ ?_; clear hK K)
                      | (apply Exists.intro
                         refine ⟨fun w1 h1 => ?_, hK _ ?_⟩
                         (have hW := hW.trans h1; (first | rfl | (go_simp; done) | (go_simp; rfl)))
                         clear hK K)
                    refine wpQuiet_nil (fun w' hw' => ?_)
                    go_wp2_with fail
                    have hx := hw'
                    (have hm := hm.ext hx; have ha := ha.ext hx; have hw := Blk.ext hw hx; have hX := hX.trans hx; clear hx)
                    go_roundw
                    case rel => exact ⟨k + 1, by omega, by go_num, hm, ha, hw, hX⟩
                    case measure => simp [intOf]; omega
              · go_wp2_with fail
                go_roundw
                case rel => exact ⟨j + 1, _, by omega, by go_num, hm, ha, HG2.out, hX⟩
                case measure => simp [intOf]; omega
          · by_cases q1 : (f j).k % 5 = 1 ∨ (f j).k % 5 = 2
            · rcases q1 with q1 | q1
              · go_wp2_with fail
                refine (unpark_n hm ht).mono ?_
                rintro e w5 ⟨rfl, hm, hc⟩
                (have ha := ha.chg hc DQ.out; have hw := Blk.chg hw hc DBV.out; have hX := hX.turn hc HT.out; clear hc)
                clear r0
                have c2 := (Blk.cell hw (t * 3 + 2)).trans (rows3_at (seen g 4) ht).2.2
                rw [seen_at g ht, show (per (g t)).z = (g t).x from rfl] at c2
                have fa := ha.free t
                have ra := ha.l ht
                obtain ⟨ha, hc⟩ := ha.put ht (!(g t).x)
                have HA := hide (show Ar4 _ Q (fun k => (upd3 g t (unS (g t)) k).y) by rw [row_upd g t (unS (g t)) (·.y)]; exact ha)
                have HC := hide hc
                clear ha hc
                go_wp2_with fail
                have ha := HA.out
                have hc := HC.out
                clear HA HC fa ra c2
                (have hm := hm.chg hc DM.out DV.out; have hw := Blk.chg hw hc DBQ.out; have hX := hX.turn hc HTQ.out; clear hc)
                have HG2 := hide (okG_upd HG.out t (s := unS (g t)) (fun h => by cases h))
                have HO := hide (show ∀ k, k ≠ t → upd3 g t (unS (g t)) k = g k from fun k hk => upd3_other g _ hk)
                generalize upd3 g t (unS (g t)) = g2 at *
                go_wp2_with fail
                go_loopw [97] (fun i wq => ∃ (k : Nat), k ≤ 4 ∧ i = .int .i64 k ∧ TabT wq M V 4 g2 ∧ Ar4 wq Q (fun k => (g2 k).y) ∧ Was wq B (seen g 4) ∧ Ext w wq) (fun i _ => 4 - (intOf i).toNat)
                case atStart => exact ⟨0, by omega, rfl, hm, ha, hw, hX⟩
                case round =>
                  clear hm ha hX hw
                  obtain ⟨k, hk4, rfl, hm, ha, hw, hX⟩ := hrel
                  by_cases hkl : k < 4
                  · have k4 : (k : Int) < 4 := by omega
                    go_wp2_with fail
                    refine (permit_n hm hkl).mono ?_
                    rintro e w5 ⟨rfl, hx⟩
                    (have hm := hm.ext hx; have ha := ha.ext hx; have hw := Blk.ext hw hx; have hX := hX.trans hx; clear hx)
                    go_wp2_with fail
                    refine (flag_n hm hkl).mono ?_
                    rintro e w6 ⟨rfl, hx⟩
                    (have hm := hm.ext hx; have ha := ha.ext hx; have hw := Blk.ext hw hx; have hX := hX.trans hx; clear hx)
                    go_wp2_with fail
                    refine (asleep_n hm hkl).mono ?_
                    rintro e w7 ⟨rfl, hx⟩
                    (have hm := hm.ext hx; have ha := ha.ext hx; have hw := Blk.ext hw hx; have hX := hX.trans hx; clear hx)
                    have q0 := fun wx (hx : Ext (w7.alloc (.cells #[.bool (g2 k).y, .bool (g2 k).z, .bool (g2 k).x] 41)) wx) => hx.boxCell 0
                    have q1 := fun wx (hx : Ext (w7.alloc (.cells #[.bool (g2 k).y, .bool (g2 k).z, .bool (g2 k).x] 41)) wx) => hx.boxCell 1
                    have q2 := fun wx (hx : Ext (w7.alloc (.cells #[.bool (g2 k).y, .bool (g2 k).z, .bool (g2 k).x] 41)) wx) => hx.boxCell 2
                    have hx := Ext.alloc w7 (.cells #[.bool (g2 k).y, .bool (g2 k).z, .bool (g2 k).x] 41)
                    (have hm := hm.ext hx; have ha := ha.ext hx; have hw := Blk.ext hw hx; have hX := hX.trans hx; clear hx)
                    have p0 : ∀ wx, Ext (w7.alloc (.cells #[.bool (g2 k).y, .bool (g2 k).z, .bool (g2 k).x] 41)) wx → wx.cell? ⟨B, k * 3, none⟩ = some (.bool (g k).y) := fun wx hx => (Blk.cell (Blk.ext hw hx) (k * 3)).trans ((rows3_at (seen g 4) hkl).1.trans (by rw [seen_at g hkl]; rfl))
                    have p1 : ∀ wx, Ext (w7.alloc (.cells #[.bool (g2 k).y, .bool (g2 k).z, .bool (g2 k).x] 41)) wx → wx.cell? ⟨B, k * 3 + 1, none⟩ = some (.bool (g k).z) := fun wx hx => (Blk.cell (Blk.ext hw hx) (k * 3 + 1)).trans ((rows3_at (seen g 4) hkl).2.1.trans (by rw [seen_at g hkl]; rfl))
                    have p2 : ∀ wx, Ext (w7.alloc (.cells #[.bool (g2 k).y, .bool (g2 k).z, .bool (g2 k).x] 41)) wx → wx.cell? ⟨B, k * 3 + 2, none⟩ = some (.bool (g k).x) := fun wx hx => (Blk.cell (Blk.ext hw hx) (k * 3 + 2)).trans ((rows3_at (seen g 4) hkl).2.2.trans (by rw [seen_at g hkl]; rfl))
                    have hN := run_neq3 (g k).y (g k).z (g k).x
                    have hyx : (g2 k).y = true → (g2 k).x = false := fun h => by
                      cases hx : (g2 k).x
                      · rfl
                      · have := HG2.out k hx; rw [h] at this; cases this
                    have hW := Ext.refl (w7.alloc (.cells #[.bool (g2 k).y, .bool (g2 k).z, .bool (g2 k).x] 41))
                    by_cases hkt : k = t
                    · have t1 : ((k : Int) != (t : Int)) = false := by rw [hkt]; simp
                      cases hy : (g2 k).y
                      · rw [hy] at q0 q1 q2 p0 p1 p2 hW hX hm ha hw
                        clear hkt hyx
                        go_wp2_with fail
                        refine wp_region_ext (by kernel_rfl) (by kernel_rfl) ?_
                        repeat
                          with_reducible refine wpQuiet_step (fun K hK => ?_)
                          go_simp
                          first
                          | (refine hK _ ?_; clear hK K)
                          | (apply Exists.intro
                             refine ⟨fun w1 h1 => ?_, hK _ ?_⟩
                             (have hW := hW.trans h1; (first | rfl | (go_simp; done) | (go_simp; rfl)))
                             clear hK K)
                        refine wpQuiet_nil (fun w' hw' => ?_)
                        go_wp2_with fail
                        have hx := hw'
                        (have hm := hm.ext hx; have ha := ha.ext hx; have hw := Blk.ext hw hx; have hX := hX.trans hx; clear hx)
                        go_roundw
                        case rel => exact ⟨k + 1, by omega, by go_num, hm, ha, hw, hX⟩
                        case measure => simp [intOf]; omega
                      · rw [hyx hy, hy] at q0 q1 q2 p0 p1 p2 hW hX hm ha hw
                        rw [hyx hy]
                        clear hkt hyx
                        go_wp2_with fail
                        refine wp_region_ext (by kernel_rfl) (by kernel_rfl) ?_
                        repeat
                          with_reducible refine wpQuiet_step (fun K hK => ?_)
                          go_simp
                          first
                          | (refine hK _ ?_; clear hK K)
                          | (apply Exists.intro
                             refine ⟨fun w1 h1 => ?_, hK _ ?_⟩
                             (have hW := hW.trans h1; (first | rfl | (go_simp; done) | (go_simp; rfl)))
                             clear hK K)
                        refine wpQuiet_nil (fun w' hw' => ?_)
                        go_wp2_with fail
                        have hx := hw'
                        (have hm := hm.ext hx; have ha := ha.ext hx; have hw := Blk.ext hw hx; have hX := hX.trans hx; clear hx)
                        go_roundw
                        case rel => exact ⟨k + 1, by omega, by go_num, hm, ha, hw, hX⟩
                        case measure => simp [intOf]; omega
                    · have t1 : ((k : Int) != (t : Int)) = true := by have : ¬ (k : Int) = (t : Int) := by omega
                                                                      simpa using this
                      have ho := HO.out k hkt
                      rw [ho] at q0 q1 q2 p0 p1 p2 hW hX hm ha hw hyx ⊢
                      clear ho
                      cases hy : (g k).y
                      · rw [hy] at q0 q1 q2 p0 p1 p2 hW hX hm ha hw hN
                        clear hkt hyx
                        go_wp2_with fail
                        refine wp_region_ext (by kernel_rfl) (by kernel_rfl) ?_
                        repeat
                          with_reducible refine wpQuiet_step (fun K hK => ?_)
                          go_simp
                          first
                          | (refine hK _ ?_; clear hK K)
                          | (apply Exists.intro
                             refine ⟨fun w1 h1 => ?_, hK _ ?_⟩
                             (have hW := hW.trans h1; (first | rfl | (go_simp; done) | (go_simp; rfl)))
                             clear hK K)
                        refine wpQuiet_nil (fun w' hw' => ?_)
                        go_wp2_with fail
                        have hx := hw'
                        (have hm := hm.ext hx; have ha := ha.ext hx; have hw := Blk.ext hw hx; have hX := hX.trans hx; clear hx)
                        go_roundw
                        case rel => exact ⟨k + 1, by omega, by go_num, hm, ha, hw, hX⟩
                        case measure => simp [intOf]; omega
                      · rw [hyx hy, hy] at q0 q1 q2 p0 p1 p2 hW hX hm ha hw hN
                        rw [hyx hy]
                        clear hkt hyx
                        go_wp2_with fail
                        refine wp_region_ext (by kernel_rfl) (by kernel_rfl) ?_
                        repeat
                          with_reducible refine wpQuiet_step (fun K hK => ?_)
                          go_simp
                          first
                          | (refine hK _ ?_; clear hK K)
                          | (apply Exists.intro
                             refine ⟨fun w1 h1 => ?_, hK _ ?_⟩
                             (have hW := hW.trans h1; (first | rfl | (go_simp; done) | (go_simp; rfl)))
                             clear hK K)
                        refine wpQuiet_nil (fun w' hw' => ?_)
                        go_wp2_with fail
                        have hx := hw'
                        (have hm := hm.ext hx; have ha := ha.ext hx; have hw := Blk.ext hw hx; have hX := hX.trans hx; clear hx)
                        go_roundw
                        case rel => exact ⟨k + 1, by omega, by go_num, hm, ha, hw, hX⟩
                        case measure => simp [intOf]; omega
                  · go_wp2_with fail
                    go_roundw
                    case rel => exact ⟨j + 1, _, by omega, by go_num, hm, ha, HG2.out, hX⟩
                    case measure => simp [intOf]; omega
              · go_wp2_with fail
                refine (unpark_n hm ht).mono ?_
                rintro e w5 ⟨rfl, hm, hc⟩
                (have ha := ha.chg hc DQ.out; have hw := Blk.chg hw hc DBV.out; have hX := hX.turn hc HT.out; clear hc)
                clear r0
                have c2 := (Blk.cell hw (t * 3 + 2)).trans (rows3_at (seen g 4) ht).2.2
                rw [seen_at g ht, show (per (g t)).z = (g t).x from rfl] at c2
                have fa := ha.free t
                have ra := ha.l ht
                obtain ⟨ha, hc⟩ := ha.put ht (!(g t).x)
                have HA := hide (show Ar4 _ Q (fun k => (upd3 g t (unS (g t)) k).y) by rw [row_upd g t (unS (g t)) (·.y)]; exact ha)
                have HC := hide hc
                clear ha hc
                go_wp2_with fail
                have ha := HA.out
                have hc := HC.out
                clear HA HC fa ra c2
                (have hm := hm.chg hc DM.out DV.out; have hw := Blk.chg hw hc DBQ.out; have hX := hX.turn hc HTQ.out; clear hc)
                have HG2 := hide (okG_upd HG.out t (s := unS (g t)) (fun h => by cases h))
                have HO := hide (show ∀ k, k ≠ t → upd3 g t (unS (g t)) k = g k from fun k hk => upd3_other g _ hk)
                generalize upd3 g t (unS (g t)) = g2 at *
                go_wp2_with fail
                go_loopw [97] (fun i wq => ∃ (k : Nat), k ≤ 4 ∧ i = .int .i64 k ∧ TabT wq M V 4 g2 ∧ Ar4 wq Q (fun k => (g2 k).y) ∧ Was wq B (seen g 4) ∧ Ext w wq) (fun i _ => 4 - (intOf i).toNat)
                case atStart => exact ⟨0, by omega, rfl, hm, ha, hw, hX⟩
                case round =>
                  clear hm ha hX hw
                  obtain ⟨k, hk4, rfl, hm, ha, hw, hX⟩ := hrel
                  by_cases hkl : k < 4
                  · have k4 : (k : Int) < 4 := by omega
                    go_wp2_with fail
                    refine (permit_n hm hkl).mono ?_
                    rintro e w5 ⟨rfl, hx⟩
                    (have hm := hm.ext hx; have ha := ha.ext hx; have hw := Blk.ext hw hx; have hX := hX.trans hx; clear hx)
                    go_wp2_with fail
                    refine (flag_n hm hkl).mono ?_
                    rintro e w6 ⟨rfl, hx⟩
                    (have hm := hm.ext hx; have ha := ha.ext hx; have hw := Blk.ext hw hx; have hX := hX.trans hx; clear hx)
                    go_wp2_with fail
                    refine (asleep_n hm hkl).mono ?_
                    rintro e w7 ⟨rfl, hx⟩
                    (have hm := hm.ext hx; have ha := ha.ext hx; have hw := Blk.ext hw hx; have hX := hX.trans hx; clear hx)
                    have q0 := fun wx (hx : Ext (w7.alloc (.cells #[.bool (g2 k).y, .bool (g2 k).z, .bool (g2 k).x] 41)) wx) => hx.boxCell 0
                    have q1 := fun wx (hx : Ext (w7.alloc (.cells #[.bool (g2 k).y, .bool (g2 k).z, .bool (g2 k).x] 41)) wx) => hx.boxCell 1
                    have q2 := fun wx (hx : Ext (w7.alloc (.cells #[.bool (g2 k).y, .bool (g2 k).z, .bool (g2 k).x] 41)) wx) => hx.boxCell 2
                    have hx := Ext.alloc w7 (.cells #[.bool (g2 k).y, .bool (g2 k).z, .bool (g2 k).x] 41)
                    (have hm := hm.ext hx; have ha := ha.ext hx; have hw := Blk.ext hw hx; have hX := hX.trans hx; clear hx)
                    have p0 : ∀ wx, Ext (w7.alloc (.cells #[.bool (g2 k).y, .bool (g2 k).z, .bool (g2 k).x] 41)) wx → wx.cell? ⟨B, k * 3, none⟩ = some (.bool (g k).y) := fun wx hx => (Blk.cell (Blk.ext hw hx) (k * 3)).trans ((rows3_at (seen g 4) hkl).1.trans (by rw [seen_at g hkl]; rfl))
                    have p1 : ∀ wx, Ext (w7.alloc (.cells #[.bool (g2 k).y, .bool (g2 k).z, .bool (g2 k).x] 41)) wx → wx.cell? ⟨B, k * 3 + 1, none⟩ = some (.bool (g k).z) := fun wx hx => (Blk.cell (Blk.ext hw hx) (k * 3 + 1)).trans ((rows3_at (seen g 4) hkl).2.1.trans (by rw [seen_at g hkl]; rfl))
                    have p2 : ∀ wx, Ext (w7.alloc (.cells #[.bool (g2 k).y, .bool (g2 k).z, .bool (g2 k).x] 41)) wx → wx.cell? ⟨B, k * 3 + 2, none⟩ = some (.bool (g k).x) := fun wx hx => (Blk.cell (Blk.ext hw hx) (k * 3 + 2)).trans ((rows3_at (seen g 4) hkl).2.2.trans (by rw [seen_at g hkl]; rfl))
                    have hN := run_neq3 (g k).y (g k).z (g k).x
                    have hyx : (g2 k).y = true → (g2 k).x = false := fun h => by
                      cases hx : (g2 k).x
                      · rfl
                      · have := HG2.out k hx; rw [h] at this; cases this
                    have hW := Ext.refl (w7.alloc (.cells #[.bool (g2 k).y, .bool (g2 k).z, .bool (g2 k).x] 41))
                    by_cases hkt : k = t
                    · have t1 : ((k : Int) != (t : Int)) = false := by rw [hkt]; simp
                      cases hy : (g2 k).y
                      · rw [hy] at q0 q1 q2 p0 p1 p2 hW hX hm ha hw
                        clear hkt hyx
                        go_wp2_with fail
                        refine wp_region_ext (by kernel_rfl) (by kernel_rfl) ?_
                        repeat
                          with_reducible refine wpQuiet_step (fun K hK => ?_)
                          go_simp
                          first
                          | (refine hK _ ?_; clear hK K)
                          | (apply Exists.intro
                             refine ⟨fun w1 h1 => ?_, hK _ ?_⟩
                             (have hW := hW.trans h1; (first | rfl | (go_simp; done) | (go_simp; rfl)))
                             clear hK K)
                        refine wpQuiet_nil (fun w' hw' => ?_)
                        go_wp2_with fail
                        have hx := hw'
                        (have hm := hm.ext hx; have ha := ha.ext hx; have hw := Blk.ext hw hx; have hX := hX.trans hx; clear hx)
                        go_roundw
                        case rel => exact ⟨k + 1, by omega, by go_num, hm, ha, hw, hX⟩
                        case measure => simp [intOf]; omega
                      · rw [hyx hy, hy] at q0 q1 q2 p0 p1 p2 hW hX hm ha hw
                        rw [hyx hy]
                        clear hkt hyx
                        go_wp2_with fail
                        refine wp_region_ext (by kernel_rfl) (by kernel_rfl) ?_
                        repeat
                          with_reducible refine wpQuiet_step (fun K hK => ?_)
                          go_simp
                          first
                          | (refine hK _ ?_; clear hK K)
                          | (apply Exists.intro
                             refine ⟨fun w1 h1 => ?_, hK _ ?_⟩
                             (have hW := hW.trans h1; (first | rfl | (go_simp; done) | (go_simp; rfl)))
                             clear hK K)
                        refine wpQuiet_nil (fun w' hw' => ?_)
                        go_wp2_with fail
                        have hx := hw'
                        (have hm := hm.ext hx; have ha := ha.ext hx; have hw := Blk.ext hw hx; have hX := hX.trans hx; clear hx)
                        go_roundw
                        case rel => exact ⟨k + 1, by omega, by go_num, hm, ha, hw, hX⟩
                        case measure => simp [intOf]; omega
                    · have t1 : ((k : Int) != (t : Int)) = true := by have : ¬ (k : Int) = (t : Int) := by omega
                                                                      simpa using this
                      have ho := HO.out k hkt
                      rw [ho] at q0 q1 q2 p0 p1 p2 hW hX hm ha hw hyx ⊢
                      clear ho
                      cases hy : (g k).y
                      · rw [hy] at q0 q1 q2 p0 p1 p2 hW hX hm ha hw hN
                        clear hkt hyx
                        go_wp2_with fail
                        refine wp_region_ext (by kernel_rfl) (by kernel_rfl) ?_
                        repeat
                          with_reducible refine wpQuiet_step (fun K hK => ?_)
                          go_simp
                          first
                          | (refine hK _ ?_; clear hK K)
                          | (apply Exists.intro
                             refine ⟨fun w1 h1 => ?_, hK _ ?_⟩
                             (have hW := hW.trans h1; (first | rfl | (go_simp; done) | (go_simp; rfl)))
                             clear hK K)
                        refine wpQuiet_nil (fun w' hw' => ?_)
                        go_wp2_with fail
                        have hx := hw'
                        (have hm := hm.ext hx; have ha := ha.ext hx; have hw := Blk.ext hw hx; have hX := hX.trans hx; clear hx)
                        go_roundw
                        case rel => exact ⟨k + 1, by omega, by go_num, hm, ha, hw, hX⟩
                        case measure => simp [intOf]; omega
                      · rw [hyx hy, hy] at q0 q1 q2 p0 p1 p2 hW hX hm ha hw hN
                        rw [hyx hy]
                        clear hkt hyx
                        go_wp2_with fail
                        refine wp_region_ext (by kernel_rfl) (by kernel_rfl) ?_
                        repeat
                          with_reducible refine wpQuiet_step (fun K hK => ?_)
                          go_simp
                          first
                          | (refine hK _ ?_; clear hK K)
                          | (apply Exists.intro
                             refine ⟨fun w1 h1 => ?_, hK _ ?_⟩
                             (have hW := hW.trans h1; (first | rfl | (go_simp; done) | (go_simp; rfl)))
                             clear hK K)
                        refine wpQuiet_nil (fun w' hw' => ?_)
                        go_wp2_with fail
                        have hx := hw'
                        (have hm := hm.ext hx; have ha := ha.ext hx; have hw := Blk.ext hw hx; have hX := hX.trans hx; clear hx)
                        go_roundw
                        case rel => exact ⟨k + 1, by omega, by go_num, hm, ha, hw, hX⟩
                        case measure => simp [intOf]; omega
                  · go_wp2_with fail
                    go_roundw
                    case rel => exact ⟨j + 1, _, by omega, by go_num, hm, ha, HG2.out, hX⟩
                    case measure => simp [intOf]; omega
            · have q11 : ¬ (f j).k % 5 = 1 := fun h => q1 (.inl h)
              have q12 : ¬ (f j).k % 5 = 2 := fun h => q1 (.inr h)
              clear q1
              have c2 := (Blk.cell hw (t * 3 + 2)).trans (rows3_at (seen g 4) ht).2.2
              rw [seen_at g ht, show (per (g t)).z = (g t).x from rfl] at c2
              cases hx : (g t).x
              · rw [hx] at c2
                go_wp2_with fail
                refine (park_n hm ht).mono ?_
                rintro e w5 ⟨rfl, hm, hc⟩
                (have ha := ha.chg hc DQ.out; have hw := Blk.chg hw hc DBV.out; have hX := hX.turn hc HT.out; clear hc)
                clear c2 r0
                have fa := ha.free t
                have ra := ha.l ht
                obtain ⟨ha, hc⟩ := ha.put ht false
                have HA := hide (show Ar4 _ Q (fun k => (upd3 g t (parkS (g t)) k).y) by rw [row_upd g t (parkS (g t)) (·.y)]; exact ha)
                have HC := hide hc
                clear ha hc
                cases hy : (g t).y
                · rw [hy] at ra
                  go_wp2_with fail
                  have ha := HA.out
                  have hc := HC.out
                  clear HA HC fa ra
                  (have hm := hm.chg hc DM.out DV.out; have hw := Blk.chg hw hc DBQ.out; have hX := hX.turn hc HTQ.out; clear hc)
                  have HG2 := hide (okG_upd HG.out t (s := parkS (g t)) (fun _ => rfl))
                  have HO := hide (show ∀ k, k ≠ t → upd3 g t (parkS (g t)) k = g k from fun k hk => upd3_other g _ hk)
                  generalize upd3 g t (parkS (g t)) = g2 at *
                  go_wp2_with fail
                  go_loopw [97] (fun i wq => ∃ (k : Nat), k ≤ 4 ∧ i = .int .i64 k ∧ TabT wq M V 4 g2 ∧ Ar4 wq Q (fun k => (g2 k).y) ∧ Was wq B (seen g 4) ∧ Ext w wq) (fun i _ => 4 - (intOf i).toNat)
                  case atStart => exact ⟨0, by omega, rfl, hm, ha, hw, hX⟩
                  case round =>
                    clear hm ha hX hw
                    obtain ⟨k, hk4, rfl, hm, ha, hw, hX⟩ := hrel
                    by_cases hkl : k < 4
                    · have k4 : (k : Int) < 4 := by omega
                      go_wp2_with fail
                      refine (permit_n hm hkl).mono ?_
                      rintro e w5 ⟨rfl, hx⟩
                      (have hm := hm.ext hx; have ha := ha.ext hx; have hw := Blk.ext hw hx; have hX := hX.trans hx; clear hx)
                      go_wp2_with fail
                      refine (flag_n hm hkl).mono ?_
                      rintro e w6 ⟨rfl, hx⟩
                      (have hm := hm.ext hx; have ha := ha.ext hx; have hw := Blk.ext hw hx; have hX := hX.trans hx; clear hx)
                      go_wp2_with fail
                      refine (asleep_n hm hkl).mono ?_
                      rintro e w7 ⟨rfl, hx⟩
                      (have hm := hm.ext hx; have ha := ha.ext hx; have hw := Blk.ext hw hx; have hX := hX.trans hx; clear hx)
                      have q0 := fun wx (hx : Ext (w7.alloc (.cells #[.bool (g2 k).y, .bool (g2 k).z, .bool (g2 k).x] 41)) wx) => hx.boxCell 0
                      have q1 := fun wx (hx : Ext (w7.alloc (.cells #[.bool (g2 k).y, .bool (g2 k).z, .bool (g2 k).x] 41)) wx) => hx.boxCell 1
                      have q2 := fun wx (hx : Ext (w7.alloc (.cells #[.bool (g2 k).y, .bool (g2 k).z, .bool (g2 k).x] 41)) wx) => hx.boxCell 2
                      have hx := Ext.alloc w7 (.cells #[.bool (g2 k).y, .bool (g2 k).z, .bool (g2 k).x] 41)
                      (have hm := hm.ext hx; have ha := ha.ext hx; have hw := Blk.ext hw hx; have hX := hX.trans hx; clear hx)
                      have p0 : ∀ wx, Ext (w7.alloc (.cells #[.bool (g2 k).y, .bool (g2 k).z, .bool (g2 k).x] 41)) wx → wx.cell? ⟨B, k * 3, none⟩ = some (.bool (g k).y) := fun wx hx => (Blk.cell (Blk.ext hw hx) (k * 3)).trans ((rows3_at (seen g 4) hkl).1.trans (by rw [seen_at g hkl]; rfl))
                      have p1 : ∀ wx, Ext (w7.alloc (.cells #[.bool (g2 k).y, .bool (g2 k).z, .bool (g2 k).x] 41)) wx → wx.cell? ⟨B, k * 3 + 1, none⟩ = some (.bool (g k).z) := fun wx hx => (Blk.cell (Blk.ext hw hx) (k * 3 + 1)).trans ((rows3_at (seen g 4) hkl).2.1.trans (by rw [seen_at g hkl]; rfl))
                      have p2 : ∀ wx, Ext (w7.alloc (.cells #[.bool (g2 k).y, .bool (g2 k).z, .bool (g2 k).x] 41)) wx → wx.cell? ⟨B, k * 3 + 2, none⟩ = some (.bool (g k).x) := fun wx hx => (Blk.cell (Blk.ext hw hx) (k * 3 + 2)).trans ((rows3_at (seen g 4) hkl).2.2.trans (by rw [seen_at g hkl]; rfl))
                      have hN := run_neq3 (g k).y (g k).z (g k).x
                      have hyx : (g2 k).y = true → (g2 k).x = false := fun h => by
                        cases hx : (g2 k).x
                        · rfl
                        · have := HG2.out k hx; rw [h] at this; cases this
                      have hW := Ext.refl (w7.alloc (.cells #[.bool (g2 k).y, .bool (g2 k).z, .bool (g2 k).x] 41))
                      by_cases hkt : k = t
                      · have t1 : ((k : Int) != (t : Int)) = false := by rw [hkt]; simp
                        cases hy : (g2 k).y
                        · rw [hy] at q0 q1 q2 p0 p1 p2 hW hX hm ha hw
                          clear hkt hyx
                          go_wp2_with fail
                          refine wp_region_ext (by kernel_rfl) (by kernel_rfl) ?_
                          repeat
                            with_reducible refine wpQuiet_step (fun K hK => ?_)
                            go_simp
                            first
                            | (refine hK _ ?_; clear hK K)
                            | (apply Exists.intro
                               refine ⟨fun w1 h1 => ?_, hK _ ?_⟩
                               (have hW := hW.trans h1; (first | rfl | (go_simp; done) | (go_simp; rfl)))
                               clear hK K)
                          refine wpQuiet_nil (fun w' hw' => ?_)
                          go_wp2_with fail
                          have hx := hw'
                          (have hm := hm.ext hx; have ha := ha.ext hx; have hw := Blk.ext hw hx; have hX := hX.trans hx; clear hx)
                          go_roundw
                          case rel => exact ⟨k + 1, by omega, by go_num, hm, ha, hw, hX⟩
                          case measure => simp [intOf]; omega
                        · rw [hyx hy, hy] at q0 q1 q2 p0 p1 p2 hW hX hm ha hw
                          rw [hyx hy]
                          clear hkt hyx
                          go_wp2_with fail
                          refine wp_region_ext (by kernel_rfl) (by kernel_rfl) ?_
                          repeat
                            with_reducible refine wpQuiet_step (fun K hK => ?_)
                            go_simp
                            first
                            | (refine hK _ ?_; clear hK K)
                            | (apply Exists.intro
                               refine ⟨fun w1 h1 => ?_, hK _ ?_⟩
                               (have hW := hW.trans h1; (first | rfl | (go_simp; done) | (go_simp; rfl)))
                               clear hK K)
                          refine wpQuiet_nil (fun w' hw' => ?_)
                          go_wp2_with fail
                          have hx := hw'
                          (have hm := hm.ext hx; have ha := ha.ext hx; have hw := Blk.ext hw hx; have hX := hX.trans hx; clear hx)
                          go_roundw
                          case rel => exact ⟨k + 1, by omega, by go_num, hm, ha, hw, hX⟩
                          case measure => simp [intOf]; omega
                      · have t1 : ((k : Int) != (t : Int)) = true := by have : ¬ (k : Int) = (t : Int) := by omega
                                                                        simpa using this
                        have ho := HO.out k hkt
                        rw [ho] at q0 q1 q2 p0 p1 p2 hW hX hm ha hw hyx ⊢
                        clear ho
                        cases hy : (g k).y
                        · rw [hy] at q0 q1 q2 p0 p1 p2 hW hX hm ha hw hN
                          clear hkt hyx
                          go_wp2_with fail
                          refine wp_region_ext (by kernel_rfl) (by kernel_rfl) ?_
                          repeat
                            with_reducible refine wpQuiet_step (fun K hK => ?_)
                            go_simp
                            first
                            | (refine hK _ ?_; clear hK K)
                            | (apply Exists.intro
                               refine ⟨fun w1 h1 => ?_, hK _ ?_⟩
                               (have hW := hW.trans h1; (first | rfl | (go_simp; done) | (go_simp; rfl)))
                               clear hK K)
                          refine wpQuiet_nil (fun w' hw' => ?_)
                          go_wp2_with fail
                          have hx := hw'
                          (have hm := hm.ext hx; have ha := ha.ext hx; have hw := Blk.ext hw hx; have hX := hX.trans hx; clear hx)
                          go_roundw
                          case rel => exact ⟨k + 1, by omega, by go_num, hm, ha, hw, hX⟩
                          case measure => simp [intOf]; omega
                        · rw [hyx hy, hy] at q0 q1 q2 p0 p1 p2 hW hX hm ha hw hN
                          rw [hyx hy]
                          clear hkt hyx
                          go_wp2_with fail
                          refine wp_region_ext (by kernel_rfl) (by kernel_rfl) ?_
                          repeat
                            with_reducible refine wpQuiet_step (fun K hK => ?_)
                            go_simp
                            first
                            | (refine hK _ ?_; clear hK K)
                            | (apply Exists.intro
                               refine ⟨fun w1 h1 => ?_, hK _ ?_⟩
                               (have hW := hW.trans h1; (first | rfl | (go_simp; done) | (go_simp; rfl)))
                               clear hK K)
                          refine wpQuiet_nil (fun w' hw' => ?_)
                          go_wp2_with fail
                          have hx := hw'
                          (have hm := hm.ext hx; have ha := ha.ext hx; have hw := Blk.ext hw hx; have hX := hX.trans hx; clear hx)
                          go_roundw
                          case rel => exact ⟨k + 1, by omega, by go_num, hm, ha, hw, hX⟩
                          case measure => simp [intOf]; omega
                    · go_wp2_with fail
                      go_roundw
                      case rel => exact ⟨j + 1, _, by omega, by go_num, hm, ha, HG2.out, hX⟩
                      case measure => simp [intOf]; omega
                · rw [hy] at ra
                  go_wp2_with fail
                  have ha := HA.out
                  have hc := HC.out
                  clear HA HC fa ra
                  (have hm := hm.chg hc DM.out DV.out; have hw := Blk.chg hw hc DBQ.out; have hX := hX.turn hc HTQ.out; clear hc)
                  have HG2 := hide (okG_upd HG.out t (s := parkS (g t)) (fun _ => rfl))
                  have HO := hide (show ∀ k, k ≠ t → upd3 g t (parkS (g t)) k = g k from fun k hk => upd3_other g _ hk)
                  generalize upd3 g t (parkS (g t)) = g2 at *
                  go_wp2_with fail
                  go_loopw [97] (fun i wq => ∃ (k : Nat), k ≤ 4 ∧ i = .int .i64 k ∧ TabT wq M V 4 g2 ∧ Ar4 wq Q (fun k => (g2 k).y) ∧ Was wq B (seen g 4) ∧ Ext w wq) (fun i _ => 4 - (intOf i).toNat)
                  case atStart => exact ⟨0, by omega, rfl, hm, ha, hw, hX⟩
                  case round =>
                    clear hm ha hX hw
                    obtain ⟨k, hk4, rfl, hm, ha, hw, hX⟩ := hrel
                    by_cases hkl : k < 4
                    · have k4 : (k : Int) < 4 := by omega
                      go_wp2_with fail
                      refine (permit_n hm hkl).mono ?_
                      rintro e w5 ⟨rfl, hx⟩
                      (have hm := hm.ext hx; have ha := ha.ext hx; have hw := Blk.ext hw hx; have hX := hX.trans hx; clear hx)
                      go_wp2_with fail
                      refine (flag_n hm hkl).mono ?_
                      rintro e w6 ⟨rfl, hx⟩
                      (have hm := hm.ext hx; have ha := ha.ext hx; have hw := Blk.ext hw hx; have hX := hX.trans hx; clear hx)
                      go_wp2_with fail
                      refine (asleep_n hm hkl).mono ?_
                      rintro e w7 ⟨rfl, hx⟩
                      (have hm := hm.ext hx; have ha := ha.ext hx; have hw := Blk.ext hw hx; have hX := hX.trans hx; clear hx)
                      have q0 := fun wx (hx : Ext (w7.alloc (.cells #[.bool (g2 k).y, .bool (g2 k).z, .bool (g2 k).x] 41)) wx) => hx.boxCell 0
                      have q1 := fun wx (hx : Ext (w7.alloc (.cells #[.bool (g2 k).y, .bool (g2 k).z, .bool (g2 k).x] 41)) wx) => hx.boxCell 1
                      have q2 := fun wx (hx : Ext (w7.alloc (.cells #[.bool (g2 k).y, .bool (g2 k).z, .bool (g2 k).x] 41)) wx) => hx.boxCell 2
                      have hx := Ext.alloc w7 (.cells #[.bool (g2 k).y, .bool (g2 k).z, .bool (g2 k).x] 41)
                      (have hm := hm.ext hx; have ha := ha.ext hx; have hw := Blk.ext hw hx; have hX := hX.trans hx; clear hx)
                      have p0 : ∀ wx, Ext (w7.alloc (.cells #[.bool (g2 k).y, .bool (g2 k).z, .bool (g2 k).x] 41)) wx → wx.cell? ⟨B, k * 3, none⟩ = some (.bool (g k).y) := fun wx hx => (Blk.cell (Blk.ext hw hx) (k * 3)).trans ((rows3_at (seen g 4) hkl).1.trans (by rw [seen_at g hkl]; rfl))
                      have p1 : ∀ wx, Ext (w7.alloc (.cells #[.bool (g2 k).y, .bool (g2 k).z, .bool (g2 k).x] 41)) wx → wx.cell? ⟨B, k * 3 + 1, none⟩ = some (.bool (g k).z) := fun wx hx => (Blk.cell (Blk.ext hw hx) (k * 3 + 1)).trans ((rows3_at (seen g 4) hkl).2.1.trans (by rw [seen_at g hkl]; rfl))
                      have p2 : ∀ wx, Ext (w7.alloc (.cells #[.bool (g2 k).y, .bool (g2 k).z, .bool (g2 k).x] 41)) wx → wx.cell? ⟨B, k * 3 + 2, none⟩ = some (.bool (g k).x) := fun wx hx => (Blk.cell (Blk.ext hw hx) (k * 3 + 2)).trans ((rows3_at (seen g 4) hkl).2.2.trans (by rw [seen_at g hkl]; rfl))
                      have hN := run_neq3 (g k).y (g k).z (g k).x
                      have hyx : (g2 k).y = true → (g2 k).x = false := fun h => by
                        cases hx : (g2 k).x
                        · rfl
                        · have := HG2.out k hx; rw [h] at this; cases this
                      have hW := Ext.refl (w7.alloc (.cells #[.bool (g2 k).y, .bool (g2 k).z, .bool (g2 k).x] 41))
                      by_cases hkt : k = t
                      · have t1 : ((k : Int) != (t : Int)) = false := by rw [hkt]; simp
                        cases hy : (g2 k).y
                        · rw [hy] at q0 q1 q2 p0 p1 p2 hW hX hm ha hw
                          clear hkt hyx
                          go_wp2_with fail
                          refine wp_region_ext (by kernel_rfl) (by kernel_rfl) ?_
                          repeat
                            with_reducible refine wpQuiet_step (fun K hK => ?_)
                            go_simp
                            first
                            | (refine hK _ ?_; clear hK K)
                            | (apply Exists.intro
                               refine ⟨fun w1 h1 => ?_, hK _ ?_⟩
                               (have hW := hW.trans h1; (first | rfl | (go_simp; done) | (go_simp; rfl)))
                               clear hK K)
                          refine wpQuiet_nil (fun w' hw' => ?_)
                          go_wp2_with fail
                          have hx := hw'
                          (have hm := hm.ext hx; have ha := ha.ext hx; have hw := Blk.ext hw hx; have hX := hX.trans hx; clear hx)
                          go_roundw
                          case rel => exact ⟨k + 1, by omega, by go_num, hm, ha, hw, hX⟩
                          case measure => simp [intOf]; omega
                        · rw [hyx hy, hy] at q0 q1 q2 p0 p1 p2 hW hX hm ha hw
                          rw [hyx hy]
                          clear hkt hyx
                          go_wp2_with fail
                          refine wp_region_ext (by kernel_rfl) (by kernel_rfl) ?_
                          repeat
                            with_reducible refine wpQuiet_step (fun K hK => ?_)
                            go_simp
                            first
                            | (refine hK _ ?_; clear hK K)
                            | (apply Exists.intro
                               refine ⟨fun w1 h1 => ?_, hK _ ?_⟩
                               (have hW := hW.trans h1; (first | rfl | (go_simp; done) | (go_simp; rfl)))
                               clear hK K)
                          refine wpQuiet_nil (fun w' hw' => ?_)
                          go_wp2_with fail
                          have hx := hw'
                          (have hm := hm.ext hx; have ha := ha.ext hx; have hw := Blk.ext hw hx; have hX := hX.trans hx; clear hx)
                          go_roundw
                          case rel => exact ⟨k + 1, by omega, by go_num, hm, ha, hw, hX⟩
                          case measure => simp [intOf]; omega
                      · have t1 : ((k : Int) != (t : Int)) = true := by have : ¬ (k : Int) = (t : Int) := by omega
                                                                        simpa using this
                        have ho := HO.out k hkt
                        rw [ho] at q0 q1 q2 p0 p1 p2 hW hX hm ha hw hyx ⊢
                        clear ho
                        cases hy : (g k).y
                        · rw [hy] at q0 q1 q2 p0 p1 p2 hW hX hm ha hw hN
                          clear hkt hyx
                          go_wp2_with fail
                          refine wp_region_ext (by kernel_rfl) (by kernel_rfl) ?_
                          repeat
                            with_reducible refine wpQuiet_step (fun K hK => ?_)
                            go_simp
                            first
                            | (refine hK _ ?_; clear hK K)
                            | (apply Exists.intro
                               refine ⟨fun w1 h1 => ?_, hK _ ?_⟩
                               (have hW := hW.trans h1; (first | rfl | (go_simp; done) | (go_simp; rfl)))
                               clear hK K)
                          refine wpQuiet_nil (fun w' hw' => ?_)
                          go_wp2_with fail
                          have hx := hw'
                          (have hm := hm.ext hx; have ha := ha.ext hx; have hw := Blk.ext hw hx; have hX := hX.trans hx; clear hx)
                          go_roundw
                          case rel => exact ⟨k + 1, by omega, by go_num, hm, ha, hw, hX⟩
                          case measure => simp [intOf]; omega
                        · rw [hyx hy, hy] at q0 q1 q2 p0 p1 p2 hW hX hm ha hw hN
                          rw [hyx hy]
                          clear hkt hyx
                          go_wp2_with fail
                          refine wp_region_ext (by kernel_rfl) (by kernel_rfl) ?_
                          repeat
                            with_reducible refine wpQuiet_step (fun K hK => ?_)
                            go_simp
                            first
                            | (refine hK _ ?_; clear hK K)
                            | (apply Exists.intro
                               refine ⟨fun w1 h1 => ?_, hK _ ?_⟩
                               (have hW := hW.trans h1; (first | rfl | (go_simp; done) | (go_simp; rfl)))
                               clear hK K)
                          refine wpQuiet_nil (fun w' hw' => ?_)
                          go_wp2_with fail
                          have hx := hw'
                          (have hm := hm.ext hx; have ha := ha.ext hx; have hw := Blk.ext hw hx; have hX := hX.trans hx; clear hx)
                          go_roundw
                          case rel => exact ⟨k + 1, by omega, by go_num, hm, ha, hw, hX⟩
                          case measure => simp [intOf]; omega
                    · go_wp2_with fail
                      go_roundw
                      case rel => exact ⟨j + 1, _, by omega, by go_num, hm, ha, HG2.out, hX⟩
                      case measure => simp [intOf]; omega
              · rw [hx] at c2
                go_wp2_with fail
                go_roundw
                case rel => exact ⟨j + 1, _, by omega, by go_num, hm, ha, HG.out, hX⟩
                case measure => simp [intOf]; omega
    · go_wp2_with fail
      refine (alive_any _).mono ?_
      rintro e w3 ⟨rfl, hx⟩
      have hX := hX.trans hx
      clear hx
      go_wp2_with fail
      go_ret
      exact ⟨rfl, hX⟩

theorem permitKept_walk {H : Type} {enc : TypeId × Value → H} (W : World) (base : Nat) (args : Array Value) (ds : List (DataW H)) (p : List MemPlace)
    (hval0 : ∀ (j : Nat) t v, Try.f4.params[j]? = some t → args[j]? = some v → Value.okWide Try.prog W .any base t v)
    (hA0 : DataW.TrodAll enc Try.prog W 0 (fun _ => true) true Try.f4.params.toList args.toList ds p) (_hlt : ∀ x ∈ p, x.block < W.heap.size) :
    Calls Try.prog 4 args W fun e W' => e = .returned (.bool true) ∧ Ext W W' := by
  have hval := hval0
  have hA := hA0
  rw [Try.params4] at hA hval
  clear hval0 hA0
  obtain ⟨v0, d0, rfl, rfl, h0⟩ := trodAll_one hA
  obtain ⟨A, n, c, f, rfl, hn, hc, hs, hf⟩ := open_steps (hval 0 22 v0 rfl rfl) h0
  exact lkept_any A n c f W hn hc hs hf
set_option maxRecDepth 100000 in
theorem permitKept_lifted (os : Os) (started : os.Started) (H : Type) (enc : TypeId × Value → H) :
    ReturnsInHanded {} Try.checked os 4 .any (Rows.permitKeptSpec.pre6 enc Try.prog Try.f4 Rows.permitKeptRow.domain false) (Rows.permitKeptSpec.post enc Try.prog Try.f4 false true false false) :=
  law_lifted (fn := Try.f4) 4 os started (by kernel_rfl) Try.func4 rfl rfl Try.underlying4 (hread_of (by kernel_rfl))
    (fun l hl => by
      have hl2 : l.length = 1 := hl
      clear hl
      match l, hl2 with
      | [_], _ => rfl)
    (ChangeSpec.witness6 (enc := enc) (C := Try.checked) false ⟨#[], #[.slice none 0 0], []⟩ 8 (by kernel_rfl) (by kernel_rfl) (by kernel_rfl) (by kernel_rfl))
    (fun W base args ds p hval hA hlt => permitKept_walk W base args ds p hval hA hlt)
theorem permitKept_holds : Rows.PermitKeptSaid :=
  OpenClaim.holds_of_wide 4 Try.f4 rfl rfl rfl rfl rfl rfl rfl ⟨rfl, rfl, rfl, rfl, rfl⟩ rfl rfl rfl rfl rfl (by kernel_rfl) Try.func4 (by kernel_rfl)
    (of_decide_eq_true (by kernel_rfl)) (by unfold Func.isWrapper; rw [if_neg (of_decide_eq_false (by kernel_rfl))]; exact ⟨rfl, rfl⟩)
    (fun os started H enc _ => permitKept_lifted os started H enc)
end Go.Proofs.Ytleffmmlcbaooaa
