/-
  A law of layer 12 holds of every input: QueueOrder. No condition.
-/
import Derived.Test.YtnmegokppbdhdaaS2
namespace Go.Proofs.Ytnmegokppbdhdaa
open Go.ChangeShapes Go.WideShapes Go.ChangeAt Go.RowKit Go.Deep Go.Joins
set_option linter.unusedVariables false
set_option linter.unusedSimpArgs false
set_option maxRecDepth 100000

def apK (l : List Int) (j : Nat) : List Int := (l.take j).foldl apL []
theorem apK_succ (l : List Int) {j : Nat} (hj : j < l.length) : apK l (j + 1) = apL (apK l j) l[j] := by
  unfold apK
  rw [List.take_succ_eq_append_getElem hj, List.foldl_append]
  rfl
theorem okq_apK (l : List Int) (j : Nat) : OkQ (apK l j) := by
  induction j with
  | zero => exact okq_nil
  | succ j ih =>
    by_cases hj : j < l.length
    · rw [apK_succ l hj]; exact ih.ap _
    · have : apK l (j + 1) = apK l j := by unfold apK; rw [List.take_of_length_le (by omega), List.take_of_length_le (by omega)]
      rw [this]; exact ih
theorem apK_len (l : List Int) (j : Nat) : (apK l j).length ≤ j := by
  induction j with
  | zero => simp [apK]
  | succ j ih =>
    by_cases hj : j < l.length
    · rw [apK_succ l hj, apL_len]; split <;> omega
    · have : apK l (j + 1) = apK l j := by unfold apK; rw [List.take_of_length_le (by omega), List.take_of_length_le (by omega)]
      rw [this]; omega
theorem BM.setc {w : World} {m N : Nat} {u : Int → Bool} {p : Addr} (h : BM w m N u) (hne : m ≠ p.block) (v : Value) : BM (w.setCell p v) m N u :=
  h.chg ((Chg.refl [p.block] w).set (.inl (by simp)) v) (by simpa using hne)
theorem BM.noC {w : World} {m N : Nat} {u : Int → Bool} (h : BM w m N u) : ∀ cs t, ¬ Blk w m cs t := fun cs t hh => by
  obtain ⟨D, ⟨es, clock, hm, r⟩, h2⟩ := h
  unfold Blk at hh
  rw [hm] at hh
  cases hh
theorem own_setc {w : World} {base n g i : Nat} {v u : Value} {xs : List Value} {cs : Array Value} {t : TypeId} (h : w.ownsRow base 3 1 v n xs) (hb : Blk w g cs t) (ht : t ≠ 3) : (w.setCell ⟨g, i, none⟩ u).ownsRow base 3 1 v n xs :=
  own_chgB h ((Chg.refl [g] w).set (p := ⟨g, i, none⟩) (.inl (by simp)) u) (fun k hk hm => by
    obtain ⟨cs2, hb2⟩ := own_blk h k hk
    rw [List.mem_singleton.1 hm] at hb2
    exact ht (hb.type hb2))
/-- What the first loop keeps. -/
structure Inv1 (W wr : World) (Q M N : Nat) (A : Option Addr) (c : Nat) (v : Value) (xs : List Int) : Prop where
  q : Blk wr Q #[Value.slice A xs.length c] 27
  r : Row wr A xs.length c xs
  m : BM wr M N (hasQ xs)
  o : wr.ownsRow W.heap.size 3 1 v xs.length (xs.map enJ)
  x : Ext W wr
  lq : W.heap.size ≤ Q
  lm : W.heap.size ≤ M
  ok : OkQ xs
  ap : ∀ k, v.ownBlock = some k → ∀ b off, A = some ⟨b, off, none⟩ → b ≠ k
theorem Inv1.same {W wr w2 : World} {Q M N : Nat} {A A2 : Option Addr} {c c2 : Nat} {v : Value} {xs : List Int} (h : Inv1 W wr Q M N A c v xs) (x : Ext wr w2) (hr : Row w2 A2 xs.length c2 xs) (ha : ∀ b off, A2 = some ⟨b, off, none⟩ → A2 = A ∨ wr.heap.size ≤ b) :
    Inv1 W (w2.setCell ⟨Q, 0, none⟩ (.slice A2 xs.length c2)) Q M N A2 c2 v xs := by
  have hb := h.q.ext x
  have hap : ∀ k, v.ownBlock = some k → ∀ b off, A2 = some ⟨b, off, none⟩ → b ≠ k := fun k hk b off e => by
    rcases ha b off e with q | q
    · exact h.ap k hk b off (q ▸ e)
    · have := own_lt h.o k hk
      omega
  exact ⟨by simpa using hb.set 0 (.slice A2 xs.length c2), hr.set hb (by decide), (h.m.ext x).setc (by rintro e; simp at e; subst e; exact h.m.noC _ _ h.q) _, own_setc (own_ext h.o x) hb (by decide), (h.x.trans x).set (p := ⟨Q, 0, none⟩) h.lq _, h.lq, h.lm, h.ok, hap⟩
theorem Row.grownK {w w' : World} {A : Option Addr} {n c : Nat} {l : List Int} {row : Option Nat} (h : Row w A n c l) (hg : w.grownBy w' row) (hk : ∀ k, row = some k → ∀ b off, A = some ⟨b, off, none⟩ → b ≠ k) : Row w' A n c l := by
  obtain ⟨h1, h2, h3, h | ⟨b, off, cs, h4, h5, h6⟩⟩ := h
  · exact ⟨h1, h2, h3, .inl h⟩
  · exact ⟨h1, h2, h3, .inr ⟨b, off, cs, h4, h5.grown hg (fun k e q => hk k e b off h4 q.symm), h6⟩⟩
theorem Row.lt {w : World} {A : Option Addr} {n c : Nat} {l : List Int} (h : Row w A n c l) : ∀ b off, A = some ⟨b, off, none⟩ → b < w.heap.size := by
  intro b off e
  obtain ⟨h1, h2, h3, ⟨h4, _⟩ | ⟨b2, off2, cs, h4, h5, h6⟩⟩ := h
  · rw [h4] at e; cases e
  · rw [h4] at e; cases e; exact h5.lt
theorem Inv1.app {W wr w2 w3 w5 : World} {Q M N : Nat} {A A2 : Option Addr} {c c2 : Nat} {v v' : Value} {xs : List Int} {z : Int} {o : Obj} (h : Inv1 W wr Q M N A c v xs) (x : Ext wr w2) (hr : Row w2 A2 (xs.length + 1) c2 (xs ++ [z])) (ha : ∀ b off, A2 = some ⟨b, off, none⟩ → A2 = A ∨ wr.heap.size ≤ b)
    (hg3 : w2.grownBy w3 (some M)) (hm3 : BM w3 M (N + 1) (updB (hasQ xs) z true)) (hown5 : w5.ownsRow W.heap.size 3 1 v' (xs.length + 1) ((xs ++ [z]).map enJ)) (hg5 : (w3.alloc o).grownBy w5 v.ownBlock)
    (hor : ∀ k, v'.ownBlock = some k → v.ownBlock = some k ∨ w3.heap.size ≤ k) (ok : OkQ (xs ++ [z])) :
    Inv1 W (w5.setCell ⟨Q, 0, none⟩ (.slice A2 (xs.length + 1) c2)) Q M (N + 1) A2 c2 v' (xs ++ [z]) := by
  have hm2 := h.m.ext x
  have hn2 := hm2.noC
  have own3 : w3.ownsRow W.heap.size 3 1 v xs.length (xs.map enJ) := own_grownM (own_ext h.o x) hg3 (fun cs t => hn2 cs t)
  have e4 := Ext.alloc w3 o
  have own4 := own_ext own3 e4
  have hq3 : Blk w3 Q #[Value.slice A xs.length c] 27 := (h.q.ext x).grown hg3 (fun k e q => by cases e; exact hn2 _ _ (q ▸ h.q.ext x))
  have hty : ∀ k, v.ownBlock = some k → ∀ cs t, Blk (w3.alloc o) k cs t → t = 3 := fun k hk cs t hb => by
    obtain ⟨cs2, hb2⟩ := own_blk own4 k hk
    exact hb.type hb2
  have hq5 : Blk w5 Q #[Value.slice A xs.length c] 27 := (hq3.ext e4).grown hg5 (fun k e q => by subst q; exact absurd (hty k e _ _ (hq3.ext e4)) (by decide))
  have hap : ∀ k, v.ownBlock = some k → ∀ b off, A2 = some ⟨b, off, none⟩ → b ≠ k := fun k hk b off e => by
    rcases ha b off e with q | q
    · exact h.ap k hk b off (q ▸ e)
    · have := own_lt h.o k hk
      omega
  have hr3 : Row w3 A2 (xs.length + 1) c2 (xs ++ [z]) := hr.grown hg3 (fun cs => hn2 cs 3)
  have hr5 := (hr3.ext e4).grownK hg5 hap
  have hm5 : BM w5 M (N + 1) (updB (hasQ xs) z true) := by
    have hm4 := hm3.ext e4
    refine hm4.chg (T := (match v.ownBlock with | some k => [k] | none => [])) ((Chg.refl _ _).of_grow hg5 (fun k e => by rw [e]; simp)) ?_
    cases hv : v.ownBlock with
    | none => simp
    | some k =>
      simp only [List.mem_singleton]
      rintro rfl
      obtain ⟨cs2, hb2⟩ := own_blk own4 M hv
      exact hm4.noC _ _ hb2
  have hx5 : Ext W w5 := Ext.grown (((h.x.trans x).turn (Chg.of_grown (T := [M]) hg3 (by simp)) (by simp; exact h.lm)).trans e4) hg5 (own_row h.o)
  have e6 : (xs ++ [z]).length = xs.length + 1 := by simp
  refine ⟨?_, ?_, ?_, ?_, hx5.set (p := ⟨Q, 0, none⟩) h.lq _, h.lq, h.lm, ok, fun k hk b off e => ?_⟩
  · rw [e6]; simpa using hq5.set 0 (.slice A2 (xs.length + 1) c2)
  · rw [e6]; exact hr5.set hq5 (by decide)
  · rw [← updB_hasQ]; exact hm5.setc (by rintro e; simp at e; subst e; exact hm5.noC _ _ hq5) _
  · rw [e6]; exact own_setc hown5 hq5 (by decide)
  · rcases hor k hk with q | q
    · exact hap k q b off e
    · have := hr.lt b off e
      have := hg3.size
      omega
/-- What the second loop keeps. -/
structure Inv2 (W wr : World) (Q : Nat) (Aw : Option Addr) (cw : Nat) (xs : List Int) (k : Nat) (A : Option Addr) (c : Nat) : Prop where
  q : Blk wr Q #[Value.slice A (xs.drop k).length c] 27
  r : Row wr A (xs.drop k).length c (xs.drop k)
  w : Row wr Aw xs.length cw xs
  x : Ext W wr
set_option maxHeartbeats 2000000 in
theorem order_any {W : World} {A : Option Addr} {c : Nat} {l : List Int} (h : Ch W A l) (hwf : ∀ j (h : j < l.length), (ky l[j]).wf = true) :
    Calls Try.prog 5 #[.slice A l.length c] W fun e w' => e = .returned (.bool true) ∧ Ext W w' := by
  by_cases hl : 200 < l.length
  · go_enter Try.func5, Try.ntmps5
    go_wp2_with fail
    refine (alive_any _).mono ?_
    rintro e w1 ⟨rfl, hx⟩
    go_wp2_with fail
    go_ret
    exact ⟨rfl, hx⟩
  · have hmm := @run_makeMap Try.prog
    have H := hide h
    have HW := hide hwf
    have hi0 : Inv1 W ((W.alloc (Obj.cells #[.slice none 0 0] 27)).alloc (.map #[] 0)) W.heap.size (W.heap.size + 1) 0 none 0 (.slice none 0 0) (apK l 0) := by
      have hm := BM.made (W.alloc (Obj.cells #[.slice none 0 0] 27))
      rw [World.size_alloc] at hm
      exact ⟨(Blk.new W _ _).ext (Ext.alloc _ _), Row.nil _, hm.eq (by funext z; simp [hasQ, apK]), own_nil _ _ _ _, (Ext.alloc _ _).trans (Ext.alloc _ _), Nat.le_refl _, by omega, okq_nil, fun k hk => by cases hk⟩
    clear h hwf
    go_enter Try.func5, Try.ntmps5
    go_wp2_with fail
    obtain ⟨Q, hQ⟩ : ∃ Q, Q = W.heap.size := ⟨_, rfl⟩
    obtain ⟨M, hM⟩ : ∃ M, M = W.heap.size + 1 := ⟨_, rfl⟩
    rw [← hM, ← hQ] at hi0 ⊢
    have HQ := hide hQ
    clear hQ hM
    go_loopw [5, 22] (fun v i wr => ∃ (j : Nat) (A2 : Option Addr) (c2 N : Nat), j ≤ l.length ∧ N ≤ j ∧ i = .int .i64 (j : Int) ∧ Inv1 W wr Q M N A2 c2 v (apK l j)) (fun _ i _ => l.length - (intOf i).toNat)
    case atStart => exact ⟨0, none, 0, 0, by omega, by omega, rfl, hi0⟩
    case round =>
      clear hi0
      obtain ⟨j, A1, c1, N, hj, hN, rfl, hI⟩ := hrel
      by_cases hlt : j < l.length
      · obtain ⟨b, off, rfl, r⟩ := (H.out.ext hI.x).at_ hlt
        have r0 := r wr (Ext.refl _)
        have hz := HW.out j hlt
        have HE := hide (apK_succ l hlt)
        obtain ⟨Av, cv, rfl⟩ := own_sl hI.o
        have hxl := hI.ok.len
        have hcall := append_any l[j] hI.r hI.ok
        clear r
        generalize l[j] = z at *
        generalize apK l j = xs at *
        have q0 := hI.q.cell
        by_cases a0 : 0 ≤ z
        · by_cases a1 : z ≤ 65534
          · cases hh : hasQ xs z with
            | true =>
              have ea : apB xs z = false := by unfold apB; rw [hh]; simp
              rw [ea, apL_no ea] at hcall
              go_wp2_with fail
              refine hcall.mono ?_
              rintro e w1 ⟨A2, c2, rfl, hr2, hx, hnew⟩
              have HNEW := hide hnew
              have hx2 := hx.trans (Ext.alloc w1 (Obj.cells #[.slice A2 xs.length c2] 27))
              have q1 := (hI.q.ext hx2).cell
              have q1f := (hI.q.ext hx2).free
              have q2 := (Blk.new w1 #[Value.slice A2 xs.length c2] 27).cell
              have lk := (hI.m.ext hx2).look hz
              rw [hh] at lk
              have HI := hide hI
              have HX := hide hx2
              have HR2 := hide (hr2.ext (Ext.alloc w1 (Obj.cells #[.slice A2 xs.length c2] 27)))
              clear hcall hI hr2 hx hx2 q0 hnew
              go_wp2_with fail
              go_roundw
              case rel =>
                rw [apL_no ea] at HE
                exact ⟨j + 1, A2, c2, N, by omega, by omega, by go_num, by rw [HE.out]; exact HI.out.same HX.out HR2.out HNEW.out⟩
              case measure => simp [intOf]; omega
            | false =>
              have ea : apB xs z = true := by unfold apB thr; rw [hh]; simp; omega
              rw [ea, apL_yes ea] at hcall
              simp only [List.length_append, List.length_cons, List.length_nil, Nat.zero_add] at hcall
              go_wp2_with fail
              refine hcall.mono ?_
              rintro e w1 ⟨A2, c2, rfl, hr2, hx, hnew⟩
              have hx2 := hx.trans (Ext.alloc w1 (Obj.cells #[.slice A2 (xs.length + 1) c2] 27))
              have lk := (hI.m.ext hx2).look hz
              rw [hh] at lk
              have hxl2 : N ≤ 1000 := by omega
              obtain ⟨w3, hset, hm3, hg3⟩ := (hI.m.ext hx2).set (a0 := z) (by unfold maxLen; omega) hz true
              have hn2 := (hI.m.ext hx2).noC
              have hbx := (Blk.new w1 #[Value.slice A2 (xs.length + 1) c2] 27)
              have hbx3 := hbx.grown hg3 (fun k e q => by cases e; exact hn2 _ _ (q ▸ hbx))
              have hbq3 := (hI.q.ext hx2).grown hg3 (fun k e q => by cases e; exact hn2 _ _ (q ▸ hI.q.ext hx2))
              have own3 := own_grownM (own_ext hI.o hx2) hg3 (fun cs t => hn2 cs t)
              have HS := hide (Nat.le_trans hI.x.size (Nat.le_trans hx2.size hg3.size))
              have q1 := hbx3.cell
              have HI := hide hI
              have HX := hide hx2
              have HR2 := hide (hr2.ext (Ext.alloc w1 (Obj.cells #[.slice A2 (xs.length + 1) c2] 27)))
              have HNEW := hide hnew
              have HG3 := hide hg3
              have HM3 := hide hm3
              have HBX := hide hbx3
              have HBQ := hide hbq3
              have HO3 := hide own3
              have HEA := hide ea
              clear hcall hI hr2 hx hx2 q0 hnew hn2 hbx hbx3 hbq3 own3 hm3 hg3 ea
              go_wp2_with (first
                | (at_builtin; (refine wpList_app3 (g := w3.heap.size) (base := W.heap.size) rfl rfl Try.underlying25 inf_int rfl (by omega) rfl HO3.out HS.out rfl rfl rfl (by simp [Value.oneCell']) (by unfold maxLen; omega) (by omega) ?_; intro v5 w5 hown5 hg5 hor; obtain ⟨A5, c5, rfl⟩ := own_sl hown5; have HO5 := hide hown5; have HG5 := hide hg5; have HOR := hide hor; have hty : ∀ k, (Value.slice Av xs.length cv).ownBlock = some k → ∀ cs t, Blk (w3.alloc (.cells #[.int .i64 z] 3)) k cs t → t = 3 := (fun k hk cs t hb => by (obtain ⟨cs2, hb2⟩ := own_blk (own_ext HO3.out (Ext.alloc w3 (.cells #[.int .i64 z] 3))) k hk; exact hb.type hb2)); have hbx5 := (HBX.out.ext (Ext.alloc w3 (.cells #[.int .i64 z] 3))).grown hg5 (fun k e q => by (subst q; exact absurd (hty _ e _ _ (HBX.out.ext (Ext.alloc w3 (.cells #[.int .i64 z] 3)))) (by decide))); have hbq5 := (HBQ.out.ext (Ext.alloc w3 (.cells #[.int .i64 z] 3))).grown hg5 (fun k e q => by (subst q; exact absurd (hty _ e _ _ (HBQ.out.ext (Ext.alloc w3 (.cells #[.int .i64 z] 3)))) (by decide))); have z1 := hbx5.cell; have z2 := hbq5.cell; have z2f := hbq5.free; clear hown5 hg5 hor hty hbx5 hbq5; go_frame))
                | go_in)
              go_roundw
              case rel =>
                rw [apL_yes HEA.out] at HE
                have ok2 := HI.out.ok.ap z
                rw [apL_yes HEA.out] at ok2
                exact ⟨j + 1, A2, c2, N + 1, by omega, by omega, by go_num, by rw [HE.out]; exact HI.out.app HX.out HR2.out HNEW.out HG3.out HM3.out (by have q := HO5.out; rwa [show (#[Value.int .i64 z].toList) = [z].map enJ from rfl, ← List.map_append] at q) HG5.out HOR.out ok2⟩
              case measure => simp [intOf]; omega
          · have ea : apB xs z = false := by unfold apB thr; simp; omega
            rw [ea, apL_no ea] at hcall
            go_wp2_with fail
            refine hcall.mono ?_
            rintro e w1 ⟨A2, c2, rfl, hr2, hx, hnew⟩
            have HNEW := hide hnew
            have hx2 := hx.trans (Ext.alloc w1 (Obj.cells #[.slice A2 xs.length c2] 27))
            have q1 := (hI.q.ext hx2).cell
            have q1f := (hI.q.ext hx2).free
            have q2 := (Blk.new w1 #[Value.slice A2 xs.length c2] 27).cell
            have lk := (hI.m.ext hx2).look hz
            skip
            have HI := hide hI
            have HX := hide hx2
            have HR2 := hide (hr2.ext (Ext.alloc w1 (Obj.cells #[.slice A2 xs.length c2] 27)))
            clear hcall hI hr2 hx hx2 q0 hnew
            go_wp2_with fail
            go_roundw
            case rel =>
              rw [apL_no ea] at HE
              exact ⟨j + 1, A2, c2, N, by omega, by omega, by go_num, by rw [HE.out]; exact HI.out.same HX.out HR2.out HNEW.out⟩
            case measure => simp [intOf]; omega
        · have ea : apB xs z = false := by unfold apB thr; simp; omega
          rw [ea, apL_no ea] at hcall
          go_wp2_with fail
          refine hcall.mono ?_
          rintro e w1 ⟨A2, c2, rfl, hr2, hx, hnew⟩
          have HNEW := hide hnew
          have hx2 := hx.trans (Ext.alloc w1 (Obj.cells #[.slice A2 xs.length c2] 27))
          have q1 := (hI.q.ext hx2).cell
          have q1f := (hI.q.ext hx2).free
          have q2 := (Blk.new w1 #[Value.slice A2 xs.length c2] 27).cell
          have lk := (hI.m.ext hx2).look hz
          skip
          have HI := hide hI
          have HX := hide hx2
          have HR2 := hide (hr2.ext (Ext.alloc w1 (Obj.cells #[.slice A2 xs.length c2] 27)))
          clear hcall hI hr2 hx hx2 q0 hnew
          go_wp2_with fail
          go_roundw
          case rel =>
            rw [apL_no ea] at HE
            exact ⟨j + 1, A2, c2, N, by omega, by omega, by go_num, by rw [HE.out]; exact HI.out.same HX.out HR2.out HNEW.out⟩
          case measure => simp [intOf]; omega
      · obtain rfl : j = l.length := by omega
        obtain ⟨Aw, cw, rfl, hw⟩ := Row.of_own hI.o
        have hxl := hI.ok.len
        have ok := hI.ok
        have lq := hI.lq
        have hi2 : Inv2 W wr Q Aw cw (apK l l.length) 0 A1 c1 := ⟨by simpa using hI.q, by simpa using hI.r, hw, hI.x⟩
        generalize apK l l.length = xs at *
        clear hI hw
        go_wp2_with fail
        go_loopw [57] (fun i wr => ∃ (k : Nat) (A2 : Option Addr) (c2 : Nat), k ≤ xs.length ∧ i = .int .i64 (k : Int) ∧ Inv2 W wr Q Aw cw xs k A2 c2) (fun i _ => xs.length - (intOf i).toNat)
        case atStart => exact ⟨0, A1, c1, by omega, rfl, hi2⟩
        case round =>
          clear hi2
          obtain ⟨k, A2, c2, hk, rfl, hI⟩ := hrel
          by_cases hlt : k < xs.length
          · obtain ⟨b, off, rfl, r⟩ := hI.w.ch.at_ hlt
            have r0 := r wr (Ext.refl _)
            clear r
            have hd : xs.drop k = xs[k] :: xs.drop (k + 1) := List.drop_eq_getElem_cons hlt
            have okd : OkQ (xs.drop k) := ⟨ok.nd.sublist (List.drop_sublist _ _), fun x hx => ok.rng x (List.mem_of_mem_drop hx)⟩
            have hcall := pop_any hI.r okd
            have hq := hI.q
            rw [hd] at hcall hq
            rw [show hdQ (xs[k] :: xs.drop (k + 1)) = xs[k] from rfl, show neQ (xs[k] :: xs.drop (k + 1)) = true by simp [neQ]; omega, List.tail_cons, List.length_cons] at hcall
            rw [List.length_cons] at hq
            obtain ⟨n2, hn2⟩ : ∃ n2, n2 = (xs.drop (k + 1)).length := ⟨_, rfl⟩
            rw [← hn2] at hcall hq
            have hnl : n2 ≤ 65535 := by rw [hn2, List.length_drop]; omega
            have HI := hide hI
            have HN2 := hide hn2
            have q0 := hq.cell
            clear hI hn2 hd okd
            generalize xs[k] = z at *
            go_wp2_with fail
            refine hcall.mono ?_
            rintro e w1 ⟨A3, c3, rfl, hr3, hx⟩
            clear hcall q0
            have hx2 := hx.trans (Ext.alloc w1 (Obj.cells #[.slice A3 n2 c3] 27))
            have hbq := hq.ext hx2
            have hbx := Blk.new w1 #[Value.slice A3 n2 c3] 27
            have HBQ := hide hbq
            have HBX := hide hbx
            have HX := hide hx2
            have HR3 := hide hr3
            clear hq hx hr3 hx2
            go_wp2_with fail
            have HR3 := hide (HR3.out.ext (Ext.alloc w1 (Obj.cells #[.slice A3 n2 c3] 27)))
            generalize w1.alloc (Obj.cells #[.slice A3 n2 c3] 27) = w2 at *
            have hW := Ext.refl w2
            have g1 := hbq.rule
            have g2 := hbx.rule
            have gw : IntKind.i64.wrap ((n2 : Int) + 1) = (n2 : Int) + 1 := by rw [IntKind.wrap_i64]; omega
            clear hbq hbx
            refine wp_region_ext (by kernel_rfl) (by kernel_rfl) ?_
            repeat
              with_reducible refine wpQuiet_step (fun K hK => ?_)
              go_simp
              first
              | (refine hK _ ?_; clear hK K)
              | (apply Exists.intro
                 refine ⟨fun w1 h1 => ?_, hK _ ?_⟩
                 (have hW := Ext.trans2 hW (by repeat (first | exact Ext.refl _ | exact Ext.alloc _ _ | exact Ext.drewN _ _ | assumption | refine Ext.trans ?_ (Ext.alloc _ _) | refine Ext.trans ?_ (Ext.drew _) | refine Ext.trans ?_ (by assumption))) h1; (try have hV := Ext.trans2 hV (by repeat (first | exact Ext.refl _ | exact Ext.alloc _ _ | exact Ext.drewN _ _ | assumption | refine Ext.trans ?_ (Ext.alloc _ _) | refine Ext.trans ?_ (Ext.drew _) | refine Ext.trans ?_ (by assumption))) h1); (first | rfl | (go_simp; done) | (go_simp; rfl) | (first | (go_at_call 19; (with_reducible refine (len_ext _ _ _ _).mono ?_); rintro e w2 ⟨rfl, hb⟩; exact ⟨rfl, h1.trans hb⟩))))
                 clear hK K)
            refine wpQuiet_nil (fun w' hw' => ?_)
            have hW := Ext.trans2 hW (by repeat (first | exact Ext.refl _ | exact Ext.alloc _ _ | exact Ext.drewN _ _ | assumption | refine Ext.trans ?_ (Ext.alloc _ _) | refine Ext.trans ?_ (Ext.drew _) | refine Ext.trans ?_ (by assumption))) hw'
            try have hV := Ext.trans2 hV (by repeat (first | exact Ext.refl _ | exact Ext.alloc _ _ | exact Ext.drewN _ _ | assumption | refine Ext.trans ?_ (Ext.alloc _ _) | refine Ext.trans ?_ (Ext.drew _) | refine Ext.trans ?_ (by assumption))) hw'
            clear hw'
            have z1 := (HBX.out.ext hW).cell
            have z2 := (HBQ.out.ext hW).cell
            have z2f := (HBQ.out.ext hW).free
            have HE := hide hW
            clear g1 g2 hW
            go_wp2_with fail
            go_roundw
            case rel =>
              have hb := HBQ.out.ext HE.out
              have hxx := HX.out.trans HE.out
              have h1 := (HR3.out.ext HE.out).set (i := 0) (u := .slice A3 n2 c3) hb (by decide)
              have h2 := (HI.out.w.ext hxx).set (i := 0) (u := .slice A3 n2 c3) hb (by decide)
              have h3 := (HI.out.x.trans hxx).set (p := ⟨Q, 0, none⟩) lq (.slice A3 n2 c3)
              have h4 := hb.set 0 (.slice A3 n2 c3)
              rw [HN2.out] at h1 h2 h3 h4 ⊢
              exact ⟨k + 1, A3, c3, by omega, by go_num, by simpa using h4, h1, h2, h3⟩
            case measure => simp [intOf]; omega
          · obtain rfl : k = xs.length := by omega
            have hq := hI.q
            rw [List.drop_length, List.length_nil] at hq
            have q0 := hq.cell
            have HX := hide hI.x
            clear hI hq
            go_wp2_with (first | (go_at_call 19; refine (len_any _ _ _ _).mono ?_; rintro e w6 ⟨rfl, rfl⟩) | (go_at_call 8; refine (alive_any _).mono ?_; rintro e w6 ⟨rfl, hx⟩))
            go_ret
            exact ⟨by simp, (HX.out.trans (Ext.alloc _ _)).trans hx⟩

set_option maxRecDepth 100000 in
theorem queueOrder_walk {H : Type} {enc : TypeId × Value → H} (W : World) (base : Nat) (args : Array Value) (ds : List (DataW H)) (p : List MemPlace)
    (hval0 : ∀ (j : Nat) t v, Try.f5.params[j]? = some t → args[j]? = some v → Value.okWide Try.prog W .any base t v)
    (hA0 : DataW.TrodAll enc Try.prog W 0 (fun _ => true) true Try.f5.params.toList args.toList ds p) (_hlt : ∀ x ∈ p, x.block < W.heap.size) :
    Calls Try.prog 5 args W fun e W' => e = .returned (.bool true) ∧ Ext W W' := by
  have hval := hval0
  have hA := hA0
  rw [Try.params5] at hA hval
  clear hval0 hA0
  obtain ⟨v0, d0, rfl, rfl, h0⟩ := trodAll_one hA
  obtain ⟨A, c, l, rfl, hn, hc, hs, hf⟩ := open_ints (hval 0 25 v0 rfl rfl) h0
  exact order_any hs hf
set_option maxRecDepth 100000 in
theorem queueOrder_lifted (os : Os) (started : os.Started) (H : Type) (enc : TypeId × Value → H) :
    ReturnsInHanded {} Try.checked os 5 .any (Rows.queueOrderSpec.pre6 enc Try.prog Try.f5 Rows.queueOrderRow.domain false) (Rows.queueOrderSpec.post enc Try.prog Try.f5 false true false false) :=
  law_lifted (fn := Try.f5) 4 os started (by kernel_rfl) Try.func5 rfl rfl Try.underlying4 (hread_of (by kernel_rfl))
    (fun l hl => by
      have hl2 : l.length = 1 := hl
      clear hl
      match l, hl2 with
      | [_], _ => rfl)
    (ChangeSpec.witness6 (enc := enc) (C := Try.checked) false ⟨#[], #[.slice none 0 0], []⟩ 8 (by kernel_rfl) (by kernel_rfl) (by kernel_rfl) (by kernel_rfl))
    (fun W base args ds p hval hA hlt => queueOrder_walk W base args ds p hval hA hlt)
theorem queueOrder_holds : Rows.QueueOrderSaid :=
  OpenClaim.holds_of_wide 5 Try.f5 rfl rfl rfl rfl rfl rfl rfl ⟨rfl, rfl, rfl, rfl, rfl⟩ rfl rfl rfl rfl rfl (by kernel_rfl) Try.func5 (by kernel_rfl)
    (of_decide_eq_true (by kernel_rfl)) (by unfold Func.isWrapper; rw [if_neg (of_decide_eq_false (by kernel_rfl))]; exact ⟨rfl, rfl⟩)
    (fun os started H enc _ => queueOrder_lifted os started H enc)
end Go.Proofs.Ytnmegokppbdhdaa
