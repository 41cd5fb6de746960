/-
  A law of layer 7 holds of every input: TimerOnce. No condition.
-/
import Derived.Test.YtgfhpgbklcjooaaS2
import Derived.Test.YtgfhpgbklcjooaaR3
import Derived.Deep.RegionHeld3
import Derived.Deep.MidRow
namespace Go.Proofs.Ytgfhpgbklcjooaa
open Go.ChangeShapes Go.WideShapes Go.ChangeAt Go.RowKit Go.Deep Go.Joins
set_option linter.unusedVariables false
set_option linter.unusedSimpArgs false

theorem al_a (w : World) : (zeroValue 25).run Try.prog w = .ok (.agg (acells noA).toArray) w := by kernel_rfl
theorem sub_m {C m : Nat} : ∀ k, k ∈ [m] → k ∈ [C, m] := by simp
theorem set_cm {w : World} {C m : Nat} {now : Int} {f : Al} {z k : Int} (h : ClkT w C m now f) (hz : (ky z).wf = true) (hk : (ky k).wf = true) :
    Calls Try.prog 14 #[.pointer (some ⟨C, 0, none⟩), .int .i64 z, .int .i64 k] w fun e w' => e = .returned (.int .i64 (setE z k)) ∧ ClkT w' C m now (setF f now z k) ∧ Chg [C, m] w w' := (set_any h hz hk).mono fun _ _ ⟨a, b, c⟩ => ⟨a, b, c.mono sub_m⟩
theorem clear_cm {w : World} {C m : Nat} {now : Int} {f : Al} {z : Int} (h : ClkT w C m now f) (hz : (ky z).wf = true) :
    Calls Try.prog 9 #[.pointer (some ⟨C, 0, none⟩), .int .i64 z] w fun e w' => e = .returned (.bool (hasA f z)) ∧ ClkT w' C m now (clr f z) ∧ Chg [C, m] w w' := (clear_any h hz).mono fun _ _ ⟨a, b, c⟩ => ⟨a, b, c.mono sub_m⟩
/-- The law's own times, by threads. -/
def ArT (w : World) (R : Nat) (f : Al) : Prop := Blk w R (acells f).toArray 25
theorem ArT.l {w : World} {R : Nat} {f : Al} (h : ArT w R f) {t : Nat} (ht : t < 256) : w.cell? ⟨R, t, none⟩ = some (.int .i64 (f t)) := (Blk.cell h t).trans (by rw [List.getElem?_toArray]; exact acells_at f ht)
theorem ArT.set {w : World} {R : Nat} {f : Al} (h : ArT w R f) {t : Nat} (ht : t < 256) (v : Int) : ArT (w.setCell ⟨R, t, none⟩ (.int .i64 v)) R (upd f t v) := by
  have := Blk.set h t (.int .i64 v); rwa [List.setIfInBounds_toArray, acells_set f t v ht] at this
theorem ArT.chg {T' : List Nat} {w w' : World} {R : Nat} {f : Al} (h : ArT w R f) (x : Chg T' w w') (hR : R ∉ T') : ArT w' R f := Blk.chg h x hR
theorem ArT.put {w : World} {R : Nat} {f : Al} (h : ArT w R f) {t : Nat} (ht : t < 256) (v : Int) : ArT (w.setCell ⟨R, t, none⟩ (.int .i64 v)) R (upd f t v) ∧ Chg [R] w (w.setCell ⟨R, t, none⟩ (.int .i64 v)) :=
  ⟨h.set ht v, (Chg.refl [R] w).set (p := ⟨R, t, none⟩) (.inl (by simp)) (.int .i64 v)⟩
theorem ArT.range {w : World} {R : Nat} {f : Al} (h : ArT w R f) : w.rangeAt R 0 (acells f) := fun j v hv => by
  rw [Nat.zero_add]
  exact (Blk.cell h j).trans (by rw [List.getElem?_toArray]; exact hv)
theorem arr_size (f : Al) : (Try.prog.info? 25).map (·.size) = some (acells f).length := by rw [acells_len]; kernel_rfl
theorem run_ix (g : Al) {p : Nat} (hp : p < 256) (w : World) : (Instr.index 25 (.agg (acells g).toArray) (.int .i64 (p : Int))).run Try.prog w = .ok (.int .i64 (g p)) w := by
  have hu : Try.prog.underlying 25 = some (.array 256 2) := Try.underlying25
  have hs : ∀ w, (sizeOf 2).run Try.prog w = .ok 1 w := fun w => by kernel_rfl
  have ha : ∀ w, (isAgg 2).run Try.prog w = .ok false w := fun w => by kernel_rfl
  have h0 : (0 : Int) ≤ (p : Int) := by omega
  have a1 := acells_at g hp
  simp [Instr.index, asIntOf, run_underlying hu, Result.andThen, h0, hs, part, ha, a1]
  omega
/-- The time of the one that was told last. -/
def lst (f : Al) (l : List Nat) (q : Nat) : Int := if q = 0 then 0 else f (l.getD (q - 1) 0)
theorem told {f : Al} {T : Int} {l : List Nat} (h : DueL f T l) (ok : OkA f) {q : Nat} (hq : q < l.length) : gone f (l.take q) l[q] = f l[q] ∧ f l[q] ≠ 0 ∧ f l[q] ≤ T ∧ lst f l q ≤ f l[q] := by
  have hm := (h.mem l[q]).1 (List.getElem_mem hq)
  refine ⟨gone_out fun hx => ?_, hm.1, hm.2, ?_⟩
  · obtain ⟨i, hi, e⟩ := List.getElem_of_mem hx
    rw [List.getElem_take] at e
    have hi2 : i < q := by rw [List.length_take] at hi; omega
    have := List.pairwise_iff_getElem.1 h.nodup i q (by omega) hq hi2
    exact this e
  · unfold lst
    split
    · exact ok.lo _
    · rw [List.getD_eq_getElem?_getD, List.getElem?_eq_getElem (show q - 1 < l.length by omega), Option.getD_some]
      have := List.pairwise_iff_getElem.1 h.asc (q - 1) q (by omega) hq (by omega)
      unfold ahd at this
      omega
theorem has_pos {f : Al} (ok : OkA f) (t : Nat) : hasA f (t : Int) = decide (0 < f t) := by
  unfold hasA
  rw [ix_nat]
  have := ok.lo t
  by_cases h : f t = 0
  · rw [h]; rfl
  · have h2 : 0 < f t := by omega
    rw [decide_eq_true h2]; simpa using h
theorem clr_nat (f : Al) (t : Nat) : clr f (t : Int) = upd f t 0 := by unfold clr; rw [if_pos (by omega)]; rfl
set_option maxHeartbeats 2000000 in
set_option maxRecDepth 100000 in
theorem lonce_any (A : Option Addr) (n c : Nat) (f : Nat → Stp) (w : World) (hn : n ≤ c) (hc : c ≤ maxLen) (hs : Stps w w.heap.size A n f) (hf : ∀ k, k < n → Okst (f k)) :
    Calls Try.prog 4 #[.slice A n c] w fun e w' => e = .returned (.bool true) ∧ Ext w w' := by
  have HF := hide hf
  clear hf
  go_enter Try.func4, Try.ntmps4
  go_wp2_with fail
  refine (new_any _).mono ?_
  rintro e w1 ⟨C, m, rfl, hk, hC, hm, hX⟩
  have HA := al_a
  have l1 := hk.c.lt
  have l2 := hk.mp.lt
  have z1 := hX.size
  have ha : ArT (w1.alloc (.cells (acells noA).toArray 25)) w1.heap.size noA := Blk.new w1 _ _
  have hk := hk.ext (Ext.alloc w1 (.cells (acells noA).toArray 25))
  have hX := hX.trans (Ext.alloc w1 (.cells (acells noA).toArray 25))
  have HT := hide (show ∀ t, t ∈ [C, m] → w.heap.size ≤ t by simp; omega)
  have HTR := hide (show ∀ t, t ∈ [w1.heap.size] → w.heap.size ≤ t by simp; omega)
  have DR := hide (show w1.heap.size ∉ [C, m] by simp; omega)
  have DC := hide (show C ∉ [w1.heap.size] by simp; omega)
  have DM := hide (show m ∉ [w1.heap.size] by simp; omega)
  have SM := hide (show ∀ k, k ∈ [C, m] → k ∈ [C, m, w1.heap.size] by simp)
  have SR := hide (show ∀ k, k ∈ [w1.heap.size] → k ∈ [C, m, w1.heap.size] by simp)
  clear hC hm l1 l2 z1
  go_wp2_with fail
  clear HA
  generalize w1.alloc (.cells (acells noA).toArray 25) = w2 at *
  generalize w1.heap.size = R at *
  refine (short_any A n c _ hn hc).mono ?_
  rintro e w3 ⟨rfl, rfl⟩
  go_wp2_with fail
  go_loopw [19] (fun i wr => ∃ (j : Nat) (T : Int) (al : Al), j ≤ min n 200 ∧ i = .int .i64 j ∧ ClkT wr C m T al ∧ ArT wr R al ∧ Ext w wr) (fun i _ => min n 200 - (intOf i).toNat)
  case atStart => exact ⟨0, 0, _, by omega, rfl, hk, ha, hX⟩
  case round =>
    clear hk hX ha
    obtain ⟨j, T, al, hj, rfl, hk, ha, hX⟩ := hrel
    by_cases hlt : j < min n 200
    · have hj2 : j < n := by omega
      obtain ⟨b, off, rfl, hb, r0, r1, r2⟩ := (hs.chg hX (Nat.le_refl _)).rules hj2
      have hok := HF.out j hj2
      have wn := hok.wn
      have k0 := hok.k0
      have k1 := hok.k1
      have T0 := hide hk.n0
      have T1 := hide hk.n1
      have OK := hide hk.ok
      have HRL := hide (Blk.lt ha)
      have HS := hide (show wr.heap.size ∉ [C, m, R] by have a1 := hk.c.lt; have a2 := hk.mp.lt; have a3 := Blk.lt ha; simp; omega)
      have bs := Blk.new wr #[.int .u8 (f j).k, .int .i64 (f j).t, .int .i64 (f j).n] 30
      have rs := bs.ruleC HS.out
      have s1 : ∀ w', Chg [C, m, R] (wr.alloc (.cells #[.int .u8 (f j).k, .int .i64 (f j).t, .int .i64 (f j).n] 30)) w' → w'.cell? ⟨wr.heap.size, 1, none⟩ = some (.int .i64 (f j).t) := fun w' h => rs w' h 1
      have s2 : ∀ w', Chg [C, m, R] (wr.alloc (.cells #[.int .u8 (f j).k, .int .i64 (f j).t, .int .i64 (f j).n] 30)) w' → w'.cell? ⟨wr.heap.size, 2, none⟩ = some (.int .i64 (f j).n) := fun w' h => rs w' h 2
      have hk := hk.ext (Ext.alloc wr (.cells #[.int .u8 (f j).k, .int .i64 (f j).t, .int .i64 (f j).n] 30))
      have ha := ha.chg ((Ext.alloc wr (.cells #[.int .u8 (f j).k, .int .i64 (f j).t, .int .i64 (f j).n] 30)).chg []) (by simp)
      have hX := hX.trans (Ext.alloc wr (.cells #[.int .u8 (f j).k, .int .i64 (f j).t, .int .i64 (f j).n] 30))
      have hV := Chg.refl [C, m, R] (wr.alloc (.cells #[.int .u8 (f j).k, .int .i64 (f j).t, .int .i64 (f j).n] 30))
      obtain ⟨t, ht, et⟩ : ∃ t : Nat, t < 256 ∧ bits .and .i64 (f j).t 255 = (t : Int) := ⟨((f j).t % 256).toNat, by omega, by rw [and255]; omega⟩
      have ht1 : (t : Int) < 256 := by omega
      have ht0 : (0 : Int) ≤ (t : Int) := by omega
      have wt : (ky (t : Int)).wf = true := ky_wf (by omega) (by omega)
      clear bs hok rs
      by_cases q1 : (f j).k % 4 = 1
      · have E1 := hide (has_pos OK.out t)
        have sa : ∀ w', ArT w' R al → w'.cell? ⟨R, t, none⟩ = some (.int .i64 (al t)) := fun w' h => h.l ht
        go_wp2_with fail
        go_region_held3 (fun w' => w'.cell? ⟨R, t, none⟩ = some (.int .i64 (al t))) (first | exact sa _ ha | exact sa _ (ha.chg (Chg.drew [] _) (by simp)))
          (first | (go_at_call 9; refine (clear_cm (hk.ext (Ext.drew _)) wt).mono ?_; (have hk := hk.ext (Ext.drew _); have ha := ha.chg (Chg.drew [] _) (by simp); have hX := hX.trans (Ext.drew _); have hV := hV.trans (Chg.drew _ _)); rintro e w' ⟨rfl, hk, hc⟩; (have ha := ha.chg hc DR.out; have hX := hX.turn hc HT.out; have hV := hV.trans (hc.mono SM.out); clear hc); rw [E1.out]))
        have fa := Blk.free ha t
        have ra := ha.l ht
        obtain ⟨h2, hc2⟩ := ha.put ht 0
        rw [← clr_nat] at h2
        have hk2 := hk.chg hc2 DC.out DM.out
        have hX2 := hX.turn hc2 HTR.out
        go_wp2_with fail
        go_roundw
        case rel => exact ⟨j + 1, _, _, by omega, by go_num, hk2, h2, hX2⟩
        case measure => simp [intOf]; omega
      · by_cases q2 : (f j).k % 4 = 2
        · go_wp2_with fail
          refine (tick_any hk wn).mono ?_
          rintro e w4 ⟨v, l, rfl, hd, hrow, hk, hc⟩
          have ha := ha.chg hc DR.out
          have hX := hX.turn hc HT.out
          clear hc hV s1 s2
          generalize tkT T (f j).n = T' at *
          obtain ⟨A2, c2, rfl⟩ := own_len hrow
          have HD := hide hd
          have HLT := hide (hd.lt OK.out)
          have hlen := hd.len OK.out
          have HW := hide hrow
          have HRB := hide (show R < (wr.alloc (.cells #[.int .u8 (f j).k, .int .i64 (f j).t, .int .i64 (f j).n] 30)).heap.size by have := HRL.out; simp; omega)
          clear hd hrow
          go_wp2_with fail
          go_loopw [8, 73] (fun v i wq => ∃ (q : Nat), q ≤ l.length ∧ i = .int .i64 q ∧ v = .int .i64 (lst al l q) ∧ ClkT wq C m T' (rest al T') ∧ ArT wq R (gone al (l.take q)) ∧ Ext w wq ∧ Chg [R] w4 wq) (fun _ i _ => l.length - (intOf i).toNat)
          case atStart => exact ⟨0, by omega, rfl, rfl, hk, by rw [List.take_zero, gone_nil]; exact ha, hX, Chg.refl _ _⟩
          case round =>
            clear hk ha hX
            obtain ⟨q, hq, rfl, rfl, hk, ha, hX, hch⟩ := hrel
            by_cases hql : q < l.length
            · obtain ⟨g, c3, hv, hg, hcell⟩ := own_at (own_chg HW.out hch (by have := HRB.out; simpa using this)) hql
              simp only [Value.slice.injEq] at hv
              obtain ⟨rfl, -, rfl⟩ := hv
              obtain ⟨e1, e2, e3, e4⟩ := told HD.out OK.out hql
              have hx := HLT.out l[q] (List.getElem_mem hql)
              have HG := hide (show gone al (l.take (q + 1)) = upd (gone al (l.take q)) l[q] 0 by rw [List.take_succ_eq_append_getElem hql, ← gone_snoc, clr_nat])
              have HL := hide (show lst al l (q + 1) = al l[q] by unfold lst; simp [List.getElem?_eq_getElem hql])
              obtain ⟨h2, hc2⟩ := ha.put hx 0
              rw [← HG.out] at h2
              have HA2 := hide h2
              clear h2 hc2
              generalize hxe : l[q] = x at *
              have HXE := hide hxe
              clear hxe
              have x0 : ¬ (x : Int) < 0 := by omega
              have x1 : ¬ (255 : Int) < (x : Int) := by omega
              have x2 : (x : Int) < 256 := by omega
              have x3 : (0 : Int) ≤ (x : Int) := by omega
              have ra : ∀ wx, Ext wr wx → wx.cell? ⟨R, x, none⟩ = some (.int .i64 (al x)) := fun wx hw => by
                have h5 := ArT.l (ha.chg (hw.chg []) (by simp)) hx
                rw [e1] at h5; exact h5
              have fa : ∀ wx, Ext wr wx → wx.frozen? ⟨R, x, none⟩ = false := fun wx hw => Blk.free (Blk.ext ha hw) x
              have y1 : (al x == 0) = false := by simpa using e2
              have y2 : ¬ T' < al x := by omega
              have y3 : ¬ al x < lst al l q := by omega
              have hV := Ext.refl wr
              clear HA2 e1 e2 e3 e4
              go_wp2_with fail
              refine wp_region_ext (by kernel_rfl) (by kernel_rfl) ?_
              repeat
                with_reducible refine wpQuiet_step (fun K hK => ?_)
                go_simp
                first
                | (refine hK _ ?_; clear hK K)
                | (apply Exists.intro
                   refine ⟨fun w1 h1 => ?_, hK _ ?_⟩
                   (have hV := hV.trans h1; (first | rfl | (go_simp; done) | (go_simp; rfl) | (go_at_call 21; refine (now_any (hk.ext h1)).mono ?_; rintro e w2 ⟨rfl, rfl⟩; exact ⟨rfl, h1⟩)))
                   clear hK K)
              refine wpQuiet_nil (fun w' hw' => ?_)
              have r1 := ra _ hw'
              have f1 := fa _ hw'
              have hk := hk.ext hw'
              have ha := ha.chg (hw'.chg []) (by simp)
              obtain ⟨h2, hc2⟩ := ha.put hx 0
              rw [← HG.out] at h2
              have hk2 := hk.chg hc2 DC.out DM.out
              have hX2 := (hX.trans hw').turn hc2 HTR.out
              have hch2 := (hch.trans (hw'.chg _)).trans hc2
              clear ra fa hV
              go_wp2_with fail
              go_roundw
              case rel => exact ⟨q + 1, by omega, by go_num, by rw [HL.out], hk2, h2, hX2, hch2⟩
              case measure => simp [intOf]; omega
            · skip
              rw [List.take_of_length_le (by omega), gone_due HD.out hk.n0] at ha
              have hr := ha.range
              go_wp2_with (first | (with_reducible refine wpList_load_mid rfl 25 _ rfl R 0 rfl (acells (rest al T')) _ hr Try.underlying25 rfl (arr_size _) ?_; go_frame) | go_in)
              have OKR := hide hk.ok
              have N0 := hk.n0
              generalize hge : rest al T' = g at *
              have HGE := hide hge
              clear hge
              have HAR := hide ha
              clear hr ha
              go_loopw [111] (fun i wq => ∃ (p : Nat), p ≤ 256 ∧ i = .int .i64 p ∧ wq = wr) (fun i _ => 256 - (intOf i).toNat)
              case atStart => exact ⟨0, by omega, rfl, rfl⟩
              case round =>
                obtain ⟨p, hp, rfl, rfl⟩ := hrel
                by_cases hp2 : p < 256
                · have a1 := run_ix g hp2
                  by_cases hg0 : g p = 0
                  · rw [hg0] at a1
                    go_wp2_with fail
                    go_roundw
                    case rel => exact ⟨p + 1, by omega, by go_num, by first | rfl | trivial⟩
                    case measure => simp [intOf]; omega
                  · have hgp : 0 < g p := by have := OKR.out.lo p; omega
                    have hgT : ¬ g p ≤ T' := fun h5 => hg0 (by rw [← HGE.out] at h5 ⊢; unfold rest at h5 ⊢; split at h5 <;> (try split) <;> omega)
                    go_wp2_with fail
                    refine (now_any hk).mono ?_
                    rintro e w7 ⟨rfl, rfl⟩
                    go_wp2_with fail
                    go_roundw
                    case rel => exact ⟨p + 1, by omega, by go_num, by first | rfl | trivial⟩
                    case measure => simp [intOf]; omega
                · have hpe : p = 256 := by omega
                  go_wp2_with fail
                  go_roundw
                  case rel => exact ⟨j + 1, _, _, by omega, by go_num, hk, HAR.out, hX⟩
                  case measure => simp [intOf]; omega
        · go_wp2_with fail
          refine (set_cm hk wt wn).mono ?_
          rintro e w4 ⟨rfl, hk, hc⟩
          have ha := ha.chg hc DR.out
          have hX := hX.turn hc HT.out
          clear hc hV s1 s2
          by_cases hok2 : okS (t : Int) (f j).n
          · have e1 : setE (t : Int) (f j).n = 0 := if_pos hok2
            have e2 : setF al T (t : Int) (f j).n = upd al t (latI T (f j).n) := if_pos hok2
            have e3 := hok2.2.2
            have hn0 := hk.n0
            have hn1 := hk.n1
            have p1 := latI_le (k := (f j).n) hn1
            have p2 : T < TM → T < latI T (f j).n := fun h5 => by unfold latI; split <;> omega
            rw [e1]
            rw [e2] at hk
            clear e1 e2 hok2 e3
            generalize latI T (f j).n = v at *
            have HI := hide (show ix (upd al t v) (t : Int) = v by rw [ix_nat, upd_same])
            go_wp2_with fail
            refine (at_any hk wt).mono ?_
            rintro e w5 ⟨rfl, rfl⟩
            rw [HI.out]
            have ra := ha.l ht
            have fa := Blk.free ha t
            obtain ⟨h2, hc2⟩ := ha.put ht v
            have HS2 := hide h2
            have HK2 := hide (hk.chg hc2 DC.out DM.out)
            have HX2 := hide (hX.turn hc2 HTR.out)
            clear hc2 h2
            go_wp2_with fail
            clear ra fa ha hk hX
            generalize w4.setCell ⟨R, t, none⟩ (.int .i64 v) = w6 at *
            have hk := HK2.out
            have ra : ∀ wx, Ext w6 wx → wx.cell? ⟨R, t, none⟩ = some (.int .i64 v) := fun wx hw => by
              have h5 := ArT.l (HS2.out.chg (hw.chg []) (by simp)) ht
              rw [upd_same] at h5; exact h5
            have hV := Ext.refl w6
            unfold TM at p1 p2 hn1
            by_cases hlt2 : T < 1099511627776
            · have y1 : ¬ v ≤ T := by have := p2 hlt2; omega
              clear p2
              refine wp_region_ext (by kernel_rfl) (by kernel_rfl) ?_
              repeat
                with_reducible refine wpQuiet_step (fun K hK => ?_)
                go_simp
                first
                | (refine hK _ ?_; clear hK K)
                | (apply Exists.intro
                   refine ⟨fun w1 h1 => ?_, hK _ ?_⟩
                   (have hV := hV.trans h1; (first | rfl | (go_simp; done) | (go_simp; rfl) | (go_at_call 21; refine (now_any (hk.ext h1)).mono ?_; rintro e w2 ⟨rfl, rfl⟩; exact ⟨rfl, h1⟩)))
                   clear hK K)
              refine wpQuiet_nil (fun w' hw' => ?_)
              go_wp2_with fail
              go_roundw
              case rel => exact ⟨j + 1, _, _, by omega, by go_num, hk.ext hw', HS2.out.chg (hw'.chg []) (by simp), HX2.out.trans hw'⟩
              case measure => simp [intOf]; omega
            · have y1 : v ≤ T := by omega
              clear p2
              refine wp_region_ext (by kernel_rfl) (by kernel_rfl) ?_
              repeat
                with_reducible refine wpQuiet_step (fun K hK => ?_)
                go_simp
                first
                | (refine hK _ ?_; clear hK K)
                | (apply Exists.intro
                   refine ⟨fun w1 h1 => ?_, hK _ ?_⟩
                   (have hV := hV.trans h1; (first | rfl | (go_simp; done) | (go_simp; rfl) | (go_at_call 21; refine (now_any (hk.ext h1)).mono ?_; rintro e w2 ⟨rfl, rfl⟩; exact ⟨rfl, h1⟩)))
                   clear hK K)
              refine wpQuiet_nil (fun w' hw' => ?_)
              go_wp2_with fail
              go_roundw
              case rel => exact ⟨j + 1, _, _, by omega, by go_num, hk.ext hw', HS2.out.chg (hw'.chg []) (by simp), HX2.out.trans hw'⟩
              case measure => simp [intOf]; omega
          · have e1 : setE (t : Int) (f j).n = 1 := if_neg hok2
            have e2 : setF al T (t : Int) (f j).n = al := if_neg hok2
            rw [e1]
            rw [e2] at hk
            clear e1 e2 hok2
            go_wp2_with fail
            go_roundw
            case rel => exact ⟨j + 1, _, _, by omega, by go_num, hk, ha, hX⟩
            case measure => simp [intOf]; omega
    · go_wp2_with fail
      refine (alive_any _).mono ?_
      rintro e w3 ⟨rfl, hx⟩
      go_wp2_with fail
      go_ret
      exact ⟨rfl, hX.trans hx⟩

theorem timerOnce_walk {H : Type} {enc : TypeId × Value → H} (W : World) (base : Nat) (args : Array Value) (ds : List (DataW H)) (p : List MemPlace)
    (hval0 : ∀ (j : Nat) t v, Try.f4.params[j]? = some t → args[j]? = some v → Value.okWide Try.prog W .any base t v)
    (hA0 : DataW.TrodAll enc Try.prog W 0 (fun _ => true) true Try.f4.params.toList args.toList ds p) (_hlt : ∀ x ∈ p, x.block < W.heap.size) :
    Calls Try.prog 4 args W fun e W' => e = .returned (.bool true) ∧ Ext W W' := by
  have hval := hval0
  have hA := hA0
  rw [Try.params4] at hA hval
  clear hval0 hA0
  obtain ⟨v0, d0, rfl, rfl, h0⟩ := trodAll_one hA
  obtain ⟨A, n, c, f, rfl, hn, hc, hs, hf⟩ := open_steps (hval 0 22 v0 rfl rfl) h0
  exact lonce_any A n c f W hn hc hs hf
set_option maxRecDepth 100000 in
theorem timerOnce_lifted (os : Os) (started : os.Started) (H : Type) (enc : TypeId × Value → H) :
    ReturnsInHanded {} Try.checked os 4 .any (Rows.timerOnceSpec.pre6 enc Try.prog Try.f4 Rows.timerOnceRow.domain false) (Rows.timerOnceSpec.post enc Try.prog Try.f4 false true false false) :=
  law_lifted (fn := Try.f4) 4 os started (by kernel_rfl) Try.func4 rfl rfl Try.underlying4 (hread_of (by kernel_rfl))
    (fun l hl => by
      have hl2 : l.length = 1 := hl
      clear hl
      match l, hl2 with
      | [_], _ => rfl)
    (ChangeSpec.witness6 (enc := enc) (C := Try.checked) false ⟨#[], #[.slice none 0 0], []⟩ 8 (by kernel_rfl) (by kernel_rfl) (by kernel_rfl) (by kernel_rfl))
    (fun W base args ds p hval hA hlt => timerOnce_walk W base args ds p hval hA hlt)
theorem timerOnce_holds : Rows.TimerOnceSaid :=
  OpenClaim.holds_of_wide 4 Try.f4 rfl rfl rfl rfl rfl rfl rfl ⟨rfl, rfl, rfl, rfl, rfl⟩ rfl rfl rfl rfl rfl (by kernel_rfl) Try.func4 (by kernel_rfl)
    (of_decide_eq_true (by kernel_rfl)) (by unfold Func.isWrapper; rw [if_neg (of_decide_eq_false (by kernel_rfl))]; exact ⟨rfl, rfl⟩)
    (fun os started H enc _ => timerOnce_lifted os started H enc)
end Go.Proofs.Ytgfhpgbklcjooaa
