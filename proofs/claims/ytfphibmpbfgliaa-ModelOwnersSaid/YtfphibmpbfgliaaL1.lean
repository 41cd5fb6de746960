/-
  A law of layer 14 holds of every input: ModelOwners. No condition.
-/
import Derived.Test.YtfphibmpbfgliaaS1
import Derived.BigRegion
import Derived.Deep.RegionHeld3
namespace Go.Proofs.Ytfphibmpbfgliaa
open Go.ChangeShapes Go.WideShapes Go.ChangeAt Go.RowKit Go.Deep Go.Joins
set_option linter.unusedVariables false
set_option linter.unusedSimpArgs false
set_option maxRecDepth 100000
set_option maxHeartbeats 8000000


/-- What no transition turns; a hash that is there. -/
theorem do_same (S : St) (k : Int) (t o : Nat) (a r : Int) : (doS S k t o a r).N = S.N ∧ (doS S k t o a r).M = S.M ∧ (doS S k t o a r).K = S.K := by
  unfold doS tuS enS
  repeat' split
  all_goals exact ⟨rfl, rfl, rfl⟩
theorem ap_same (S : St) (k t o a r : Int) : (apS S k t o a r).N = S.N ∧ (apS S k t o a r).M = S.M ∧ (apS S k t o a r).K = S.K := by
  unfold apS
  split
  · exact do_same _ _ _ _ _ _
  · exact ⟨rfl, rfl, rfl⟩
theorem ap_hash (S : St) (k t o a r : Int) (i : Nat) (h : S.hsh i ≠ 0) : (apS S k t o a r).hsh i = S.hsh i := by
  unfold apS
  split
  · rename_i hb
    unfold doS
    repeat' split
    · rfl
    · unfold enS; split <;> rfl
    · rfl
    · unfold tuS
      repeat' split
      · rfl
      · rfl
      · rfl
      · rfl
      · rename_i k10
        subst k10
        unfold apB mayB at hb
        simp only [Bool.and_eq_true] at hb
        have hm := hb.2
        rw [if_neg (by omega)] at hm
        split at hm
        · cases hm
        · rw [if_neg (by omega)] at hm
          have r0 : r = 0 := by assumption
          subst r0
          have hm2 : (1 ≤ a ∧ a ≤ 2147483647) ∧ (S.hsh o.toNat = 0 ∨ S.hsh o.toNat = a) := by simpa [mwiB, hshB, witB] using hm
          show upd S.hsh o.toNat a i = S.hsh i
          unfold upd
          split
          · rename_i e
            subst e
            omega
          · rfl
      · rfl
      · rfl
    · rfl
  · rfl
def hv (S S' : St) (i k : Nat) : Value := .int .i64 (if k < i then S'.hsh k else S.hsh k)
def hc (S S' : St) (i : Nat) : Array Value := #[hv S S' i 0, hv S S' i 1, hv S S' i 2]
theorem hc_at (S S' : St) (i : Nat) {k : Nat} (h : k < 3) : (hc S S' i)[k]? = some (hv S S' i k) := by
  have : k = 0 ∨ k = 1 ∨ k = 2 := by omega
  rcases this with rfl | rfl | rfl <;> rfl
theorem hc_set (S S' : St) {i : Nat} (h : i < 3) : (hc S S' i).setIfInBounds i (.int .i64 (S'.hsh i)) = hc S S' (i + 1) := by
  have : i = 0 ∨ i = 1 ∨ i = 2 := by omega
  rcases this with rfl | rfl | rfl <;> rfl
theorem hc_0 (S S' : St) : hc S S' 0 = hc S S 3 := rfl
theorem hc_3 (S S' : St) : hc S S' 3 = hc S' S' 3 := rfl
/-- 'append(a, b...)' of two rows. -/
theorem wpList_two {P : Program} {w W0 : World} {ops : Array Oper} {rest : List Oper} {o : Oper} {a : Act} {Q : Exit → Act → World → Prop} (hgd : o.guard = none) (s x : Operand) (t : TypeId)
    (ho : o.op = .call { callee := .builtin .append, args := #[s, x], argTypes := #[t, t] })
    {e : TypeId} {z : Value} {size bytes : Nat} (ht : P.underlying t = some (.slice e)) (hinf : (P.info? e).map (fun i => (i.zero, i.size, i.bytes)) = some (some z, size, bytes))
    (hzs : z.cells.size = size) (hsz : 0 < size)
    {v1 v2 : Value} {n m base : Nat} {xs ys : List Value} (hs : a.eval s = v1) (hown1 : w.ownsRow W0.heap.size e size v1 n xs) (hx : a.eval x = v2) (hown : w.ownsRow base e size v2 m ys) (hW : Ext W0 w)
    (h1 : ∀ u ∈ ys, u.oneCell' = true) (hn : n + m ≤ maxLen) (hby : (n + m) * bytes ≤ 140737488355328)
    (h : ∀ v' w', w'.ownsRow W0.heap.size e size v' (n + m) (xs ++ ys) → Ext W0 w' → wpList P ops Q rest (a.put o.dst v') w') : wpList P ops Q (o :: rest) a w := by
  obtain ⟨i, hi, hz, hsize, hb⟩ := info_parts hinf
  have hl := hown.1
  rcases hown.2 with ⟨rfl, rfl⟩ | ⟨g, cap, cur, rfl, _, hh, hnc, _, hcs, htake⟩
  · have e0 : ys = [] := List.eq_nil_of_length_eq_zero (by simpa using hl)
    subst e0
    exact wpList_append_own_none hgd s x t ho W0.heap.size e i size ht hi v1 n xs hs hown1 hx (h _ _ (by simpa using hown1) hW)
  · refine wpList_append_own w hgd s x t ho W0.heap.size e i z size bytes ht hi hz hsize hb hzs hsz v1 n xs hs hown1 ⟨g, 0, none⟩ m cap ys hx hl (hown.cells rfl) h1 hn hby hW.size ?_
    intro v' w' h2 hg _
    exact h v' w' h2 (Ext.grown hW hg (own_row hown1))
def aw2 (S : St) (i : Nat) : List Int := atL S.wt i ++ atL S.lf i
theorem aw2_len (S : St) (i : Nat) : (aw2 S i).length ≤ 16 := by
  unfold aw2; rw [List.length_append]
  have := atL_len S.wt i
  have := atL_len S.lf i
  omega
theorem aw2_mem {S : St} (ok : Ok S) {i : Nat} {y : Int} (h : y ∈ aw2 S i) : 0 ≤ y ∧ y < S.N ∧ y ≠ S.own i := by
  unfold aw2 at h
  have hw := ok.ow i
  rcases List.mem_append.1 h with h | h
  · rw [atL_mem ok.domW] at h
    obtain ⟨c, hc⟩ := Option.isSome_iff_exists.1 h
    have := ok.wt _ _ _ hc
    exact ⟨by omega, by omega, by rintro rfl; rw [hw.1] at hc; cases hc⟩
  · rw [atL_mem ok.domL] at h
    obtain ⟨c, hc⟩ := Option.isSome_iff_exists.1 h
    have := ok.lf _ _ _ hc
    exact ⟨by omega, by omega, by rintro rfl; rw [hw.2] at hc; cases hc⟩
theorem idx3 (Q i : Nat) (h : i < 3) (w : World) : Sem.run Try.prog (Instr.indexAt 22 (.pointer (some ⟨Q, 0, none⟩)) (.int .i64 (i : Int))) w = .ok (.pointer (some ⟨Q, i, none⟩)) w := by
  have h2 : (i : Int) < 3 := by omega
  go_simp
theorem lowners_any (A : Option Addr) (n c : Nat) (f : Nat → Evt) (w : World) (hn : n ≤ c) (hc' : c ≤ maxLen) (hs : Stps w w.heap.size A n f) (hf : ∀ k, k < n → Okst (f k)) :
    Calls Try.prog 4 #[.slice A n c] w fun e w' => e = .returned (.bool true) ∧ Ext w w' := by
  have HF := hide hf
  clear hf
  have hnw := new_ok (n := 4) (m := 3) (k := 3) (by decide) w
  go_enter Try.func4, Try.ntmps4
  go_wp2_with fail
  refine hnw.mono ?_
  rintro e w1 ⟨B, W, L, rfl, hm, hB, hW, hL, hX⟩
  clear hnw
  have l1 := hm.lt
  have hQ : w1.heap.size ∉ [B, W, L] := by simp; omega
  have b0 := Blk.new w1 #[.int .i64 0, .int .i64 0, .int .i64 0] 22
  have hX0 := hX.trans (Ext.alloc w1 (.cells #[.int .i64 0, .int .i64 0, .int .i64 0] 22))
  have hm0 := hm.ext (Ext.alloc w1 (.cells #[.int .i64 0, .int .i64 0, .int .i64 0] 22))
  have lo : ∀ t, t ∈ [B, W, L] → w.heap.size ≤ t := by simp; omega
  have lQ : w.heap.size ≤ w1.heap.size := hX.size
  clear hX hm l1
  go_wp2_with fail
  refine (short_any A n c _ hn hc').mono ?_
  rintro e w2 ⟨rfl, rfl⟩
  go_wp2_with fail
  go_loopw [26] (fun i wr => ∃ (j : Nat) (S : St), j ≤ min n 200 ∧ i = .int .i64 (j : Int) ∧ ModT wr B W L S ∧ S.N = 4 ∧ S.M = 3 ∧ S.K = 3 ∧ Blk wr w1.heap.size (hc S S 3) 22 ∧ Ext w wr) (fun i _ => min n 200 - (intOf i).toNat)
  case atStart => exact ⟨0, st0 4 3 3, by omega, rfl, hm0, rfl, rfl, rfl, b0, hX0⟩
  case round =>
    clear hm0 b0 hX0
    obtain ⟨j, S, hj, rfl, hm, eN, eM, eK, hq, hX⟩ := hrel
    by_cases hlt : j < min n 200
    · have hj2 : j < n := by omega
      obtain ⟨b, off, rfl, hb, r0, r1, r2, r3, r4⟩ := (hs.chg hX (Nat.le_refl _)).rules hj2
      have hok := HF.out j hj2
      have hx := Ext.alloc wr (.cells #[Value.int .i64 (f j).k, .int .i64 (f j).t, .int .i64 (f j).o, .int .i64 (f j).a, .int .i64 (f j).r] 41)
      have ct := fun w' => theirs_any (f j) w'
      unfold sc at ct
      have ca := fun w' (x : Ext wr w') => apply_any (hm.ext x) (f j).k (f j).t (f j).o (f j).a (f j).r hok.a
      have es := ap_same S (f j).k (f j).t (f j).o (f j).a (f j).r
      have eh := hide (ap_hash S (f j).k (f j).t (f j).o (f j).a (f j).r)
      generalize apS S (f j).k (f j).t (f j).o (f j).a (f j).r = S' at *
      generalize apE S (f j).k (f j).t (f j).o (f j).a (f j).r = er at *
      rw [eN, eM, eK] at es
      go_wp2_with fail
      refine (ct _).mono ?_
      rintro e w2 ⟨rfl, hx2⟩
      go_wp2_with fail
      refine (ca _ (hx.trans hx2)).mono ?_
      rintro e w3 ⟨rfl, hm3, hc3⟩
      have hX3 := (hX.trans (hx.trans hx2)).turn hc3 lo
      have hq3 := (hq.ext (hx.trans hx2)).chg hc3 hQ
      rw [← hc_0 S S'] at hq3
      clear ca ct hx hx2 hc3 r0 r1 r2 r3 r4 hm hq hX hs
      go_wp2_with fail
      go_loopw [34] (fun v wq => ∃ i : Nat, i ≤ 3 ∧ v = .int .i64 (i : Int) ∧ ModT wq B W L S' ∧ Blk wq w1.heap.size (hc S S' i) 22 ∧ Ext w wq) (fun v _ => 3 - (intOf v).toNat)
      case atStart => exact ⟨0, by omega, rfl, hm3, hq3, hX3⟩
      case round =>
        clear hm3 hq3 hX3
        obtain ⟨i, hi, rfl, hm, hq, hX⟩ := hrel
        by_cases hlt2 : i < 3
        · have hi3 : (i : Int) < 3 := by omega
          have hio : (true && isO S' (i : Int)) = true := by rw [Bool.true_and]; exact isO_iff.2 ⟨by omega, by rw [es.2.1]; exact hi3⟩
          have co := fun w' (x : Ext wr w') => owner_any (hm.ext x).any (i : Int)
          have cc := fun w' (x : Ext wr w') => count_any (hm.ext x).any (i : Int)
          have ch := fun w' (x : Ext wr w') => hash_any (hm.ext x).any (i : Int)
          have cw := fun w' (x : Ext wr w') => waiters_any (hm.ext x).any (i : Int)
          have cl := fun w' (x : Ext wr w') => left_any (hm.ext x).any (i : Int)
          rw [show ownA true S' (i : Int) = S'.own i by unfold ownA; rw [if_pos hio]; rfl] at co
          rw [show cntA true S' (i : Int) = S'.cnt i by unfold cntA; rw [if_pos hio]; rfl] at cc
          rw [show hshA true S' (i : Int) = S'.hsh i by unfold hshA; rw [if_pos hio]; rfl] at ch
          rw [show watL true S' (i : Int) = atL S'.wt i by unfold watL; rw [if_pos hio]; rfl] at cw
          rw [show lefL true S' (i : Int) = atL S'.lf i by unfold lefL; rw [if_pos hio]; rfl] at cl
          have HA := hide (fun y h => aw2_mem hm.ok (i := i) (y := y) h)
          have AL := hide (aw2_len S' i)
          rw [es.1] at HA
          have HOW := hide (hm.ok.own i)
          rw [es.1, es.2.2] at HOW
          have EH := hide (eh.out i)
          have HQ := hide hq
          have HM := hide hm
          have HX := hide hX
          have R1 : Hid (∀ w', Ext wr w' → w'.cell? ⟨w1.heap.size, i, none⟩ = some (.int .i64 (S.hsh i))) := hide fun w' x => by rw [(HQ.out.ext x).cell, hc_at _ _ _ hlt2]; unfold hv; rw [if_neg (by omega)]
          have SE := hide (hc_set S S' hlt2)
          have EAW := hide (show aw2 S' i = atL S'.wt i ++ atL S'.lf i from rfl)
          clear hq hm hX eh
          generalize S'.own i = on at *
          generalize S'.cnt i = cn at *
          generalize S'.hsh i = h1 at *
          generalize S.hsh i = h0 at *
          have d1 : decide (0 < cn) = decide (0 ≤ on) := by rw [decide_eq_decide]; have := HOW.out; omega
          have d2 : decide (on < -1) = false := decide_eq_false (by have := HOW.out; omega)
          have d3 : decide (3 < on) = false := decide_eq_false (by have := HOW.out; omega)
          have d4 : decide (cn < 0) = false := decide_eq_false (by have := HOW.out; omega)
          have d5 : decide (3 < cn) = false := decide_eq_false (by have := HOW.out; omega)
          generalize hdb : decide (0 ≤ on) = db at *
          go_wp2_with fail
          refine (co _ (Ext.refl _)).mono ?_
          rintro e v1 ⟨rfl, x1⟩
          go_wp2_with fail
          refine (cc _ x1).mono ?_
          rintro e v2 ⟨rfl, x2⟩
          have x2 := x1.trans x2
          clear co cc x1
          have MEM := hide (show ∀ q, q < (aw2 S' i).length → ∀ y, (aw2 S' i)[q]? = some y → (y == on) = false ∧ decide (y < 0) = false ∧ decide (3 < y) = false from fun q hq y hy => by
            have := HA.out y (List.mem_of_getElem? hy)
            exact ⟨by simp; omega, decide_eq_false (by omega), decide_eq_false (by omega)⟩)
          clear HA HOW
          generalize aw2 S' i = la at *
          by_cases q0 : h0 = 0
          · subst q0
            have r1 := R1.out _ (x2.trans (Ext.drew _))
            have r2 := R1.out _ x2
            go_wp2_with fail
            go_region
            have x3 := x2.trans (Ext.drew v2)
            generalize v2.drew = v3 at *
            clear r1 r2 x2
            go_wp2_with fail
            refine (ch _ x3).mono ?_
            rintro e v4 ⟨rfl, x4⟩
            have x4 := x3.trans x4
            have b4 := HQ.out.ext x4
            have r4 := R1.out _ x4
            have f4 := b4.free i
            have b5 := b4.set i (.int .i64 h1)
            rw [SE.out] at b5
            have HX5 := hide ((HX.out.trans x4).set (p := ⟨w1.heap.size, i, none⟩) lQ (.int .i64 h1))
            have HM5 := hide ((HM.out.ext x4).chg ((Chg.refl [w1.heap.size] v4).set (p := ⟨w1.heap.size, i, none⟩) (.inl (by simp)) (.int .i64 h1)) (by simp at hQ ⊢; omega) (by simp at hQ ⊢; omega) (by simp at hQ ⊢; omega))
            clear x3 cw cl ch
            go_wp2_with fail
            clear r4 f4 b4 x4
            have HB5 := hide b5
            clear b5
            have cw := waiters_any HM5.out.any (i : Int)
            rw [show watL true S' (i : Int) = atL S'.wt i by unfold watL; rw [if_pos hio]; rfl] at cw
            generalize v4.setCell ⟨w1.heap.size, i, none⟩ (.int .i64 h1) = v5 at *
            refine cw.mono ?_
            rintro e v6 ⟨vw, rfl, ow, x6⟩
            clear cw
            obtain ⟨A6, c6, rfl⟩ := own_sl ow
            have cl := left_any (HM5.out.ext x6).any (i : Int)
            rw [show lefL true S' (i : Int) = atL S'.lf i by unfold lefL; rw [if_pos hio]; rfl] at cl
            have HO6 := hide ow
            clear ow
            go_wp2_with fail
            refine cl.mono ?_
            rintro e v7 ⟨vl, rfl, ol, x7⟩
            clear cl
            obtain ⟨A7, c7, rfl⟩ := own_sl ol
            have HO7 := hide ol
            have HO6' := hide (own_ext HO6.out x7)
            have x57 := x6.trans x7
            clear ol x6 x7 HO6
            have al1 := atL_len S'.wt i
            have al2 := atL_len S'.lf i
            generalize hL1 : (atL S'.wt i) = lw at *
            generalize hL2 : (atL S'.lf i) = ll at *
            clear hL1 hL2
            go_wp2_with (first
              | (at_builtin; (refine wpList_two rfl _ _ 50 rfl Try.underlying50 inf_int rfl (by omega) rfl HO6'.out rfl HO7.out x57 (by intro u hu; simp only [List.mem_map] at hu; obtain ⟨y, _, rfl⟩ := hu; rfl) (by unfold maxLen; omega) (by omega) ?_; intro v' v8 hown hx8; rw [← List.map_append, ← EAW.out, ← List.length_append, ← EAW.out] at hown; obtain ⟨A8, c8, rfl⟩ := own_sl hown; have HO8 := hide hown; have HX8 := hide hx8; clear hown hx8 x57; go_frame))
              | go_in)
            go_loopw [92] (fun v wz => ∃ q : Nat, q ≤ la.length ∧ v = .int .i64 (q : Int) ∧ Ext v8 wz) (fun v _ => la.length - (intOf v).toNat)
            case atStart => exact ⟨0, by omega, rfl, Ext.refl _⟩
            case round =>
              obtain ⟨q, hq, rfl, hz⟩ := hrel
              by_cases hlt3 : q < la.length
              · obtain ⟨g9, c9, e9, _, rr⟩ := own_atJ (own_ext HO8.out hz) hlt3
                cases e9
                have al := AL.out
                obtain ⟨d6, d7, d8⟩ := MEM.out q hlt3 _ (List.getElem?_eq_getElem hlt3)
                generalize la[q] = y at *
                go_wp2_with fail
                go_roundw
                case rel => exact ⟨q + 1, by omega, by go_num, hz⟩
                case measure => simp [intOf]; omega
              · obtain rfl : q = la.length := by omega
                have HM8 := hide ((HM5.out.ext HX8.out).ext hz)
                have HB8 := hide ((HB5.out.ext HX8.out).ext hz)
                have HX9 := hide ((HX5.out.trans HX8.out).trans hz)
                clear hz
                go_wp2_with fail
                go_roundw
                case rel => exact ⟨i + 1, by omega, by go_num, HM8.out, HB8.out, HX9.out⟩
                case measure => simp [intOf]; omega
          · have q0' : (h0 == 0) = false := by simpa using q0
            have e1 := EH.out q0
            subst e1
            have hk := x2
            go_wp2_with fail
            have hW := Ext.refl v2
            have hix := fun w' => idx3 w1.heap.size i hlt2 w'
            have r1 : ∀ w', Ext v2 w' → w'.cell? ⟨w1.heap.size, i, none⟩ = some (.int .i64 h1) := fun w' x => R1.out _ (hk.trans x)
            refine wp_region_ext (by kernel_rfl) (by kernel_rfl) ?_
            repeat
              with_reducible refine wpQuiet_step (fun K hK => ?_)
              go_simp
              first
              | (refine hK _ ?_; clear hK K)
              | (apply Exists.intro
                 refine ⟨fun w1 h1 => ?_, hK _ ?_⟩
                 (have hW := Ext.trans2 hW (by repeat (first | exact Ext.refl _ | exact Ext.alloc _ _ | exact Ext.drewN _ _ | assumption | refine Ext.trans ?_ (Ext.alloc _ _) | refine Ext.trans ?_ (Ext.drew _) | refine Ext.trans ?_ (by assumption))) h1; (try have hV := Ext.trans2 hV (by repeat (first | exact Ext.refl _ | exact Ext.alloc _ _ | exact Ext.drewN _ _ | assumption | refine Ext.trans ?_ (Ext.alloc _ _) | refine Ext.trans ?_ (Ext.drew _) | refine Ext.trans ?_ (by assumption))) h1); (first | rfl | (go_simp; done) | (go_simp; rfl) | (go_at_call 17; (with_reducible refine (ch _ (hk.trans (hW.trans (by repeat (first | exact Ext.refl _ | exact Ext.alloc _ _ | exact Ext.drewN _ _ | assumption | refine Ext.trans ?_ (Ext.alloc _ _) | refine Ext.trans ?_ (Ext.drew _) | refine Ext.trans ?_ (by assumption)))))).mono ?_); rintro e w2 ⟨rfl, hb⟩; exact ⟨rfl, h1.trans hb⟩)))
                 clear hK K)
            refine wpQuiet_nil (fun w' hw' => ?_)
            have hW := Ext.trans2 hW (by repeat (first | exact Ext.refl _ | exact Ext.alloc _ _ | exact Ext.drewN _ _ | assumption | refine Ext.trans ?_ (Ext.alloc _ _) | refine Ext.trans ?_ (Ext.drew _) | refine Ext.trans ?_ (by assumption))) hw'
            try have hV := Ext.trans2 hV (by repeat (first | exact Ext.refl _ | exact Ext.alloc _ _ | exact Ext.drewN _ _ | assumption | refine Ext.trans ?_ (Ext.alloc _ _) | refine Ext.trans ?_ (Ext.drew _) | refine Ext.trans ?_ (by assumption))) hw'
            clear hw'
            have x3 := hk.trans hW
            clear r1 hix hk hW
            go_wp2_with fail
            refine (ch _ x3).mono ?_
            rintro e v4 ⟨rfl, x4⟩
            have x4 := x3.trans x4
            have b4 := HQ.out.ext x4
            have r4 := R1.out _ x4
            have f4 := b4.free i
            have b5 := b4.set i (.int .i64 h1)
            rw [SE.out] at b5
            have HX5 := hide ((HX.out.trans x4).set (p := ⟨w1.heap.size, i, none⟩) lQ (.int .i64 h1))
            have HM5 := hide ((HM.out.ext x4).chg ((Chg.refl [w1.heap.size] v4).set (p := ⟨w1.heap.size, i, none⟩) (.inl (by simp)) (.int .i64 h1)) (by simp at hQ ⊢; omega) (by simp at hQ ⊢; omega) (by simp at hQ ⊢; omega))
            clear x3 cw cl ch
            go_wp2_with fail
            clear r4 f4 b4 x4
            have HB5 := hide b5
            clear b5
            have cw := waiters_any HM5.out.any (i : Int)
            rw [show watL true S' (i : Int) = atL S'.wt i by unfold watL; rw [if_pos hio]; rfl] at cw
            generalize v4.setCell ⟨w1.heap.size, i, none⟩ (.int .i64 h1) = v5 at *
            refine cw.mono ?_
            rintro e v6 ⟨vw, rfl, ow, x6⟩
            clear cw
            obtain ⟨A6, c6, rfl⟩ := own_sl ow
            have cl := left_any (HM5.out.ext x6).any (i : Int)
            rw [show lefL true S' (i : Int) = atL S'.lf i by unfold lefL; rw [if_pos hio]; rfl] at cl
            have HO6 := hide ow
            clear ow
            go_wp2_with fail
            refine cl.mono ?_
            rintro e v7 ⟨vl, rfl, ol, x7⟩
            clear cl
            obtain ⟨A7, c7, rfl⟩ := own_sl ol
            have HO7 := hide ol
            have HO6' := hide (own_ext HO6.out x7)
            have x57 := x6.trans x7
            clear ol x6 x7 HO6
            have al1 := atL_len S'.wt i
            have al2 := atL_len S'.lf i
            generalize hL1 : (atL S'.wt i) = lw at *
            generalize hL2 : (atL S'.lf i) = ll at *
            clear hL1 hL2
            go_wp2_with (first
              | (at_builtin; (refine wpList_two rfl _ _ 50 rfl Try.underlying50 inf_int rfl (by omega) rfl HO6'.out rfl HO7.out x57 (by intro u hu; simp only [List.mem_map] at hu; obtain ⟨y, _, rfl⟩ := hu; rfl) (by unfold maxLen; omega) (by omega) ?_; intro v' v8 hown hx8; rw [← List.map_append, ← EAW.out, ← List.length_append, ← EAW.out] at hown; obtain ⟨A8, c8, rfl⟩ := own_sl hown; have HO8 := hide hown; have HX8 := hide hx8; clear hown hx8 x57; go_frame))
              | go_in)
            go_loopw [92] (fun v wz => ∃ q : Nat, q ≤ la.length ∧ v = .int .i64 (q : Int) ∧ Ext v8 wz) (fun v _ => la.length - (intOf v).toNat)
            case atStart => exact ⟨0, by omega, rfl, Ext.refl _⟩
            case round =>
              obtain ⟨q, hq, rfl, hz⟩ := hrel
              by_cases hlt3 : q < la.length
              · obtain ⟨g9, c9, e9, _, rr⟩ := own_atJ (own_ext HO8.out hz) hlt3
                cases e9
                have al := AL.out
                obtain ⟨d6, d7, d8⟩ := MEM.out q hlt3 _ (List.getElem?_eq_getElem hlt3)
                generalize la[q] = y at *
                go_wp2_with fail
                go_roundw
                case rel => exact ⟨q + 1, by omega, by go_num, hz⟩
                case measure => simp [intOf]; omega
              · obtain rfl : q = la.length := by omega
                have HM8 := hide ((HM5.out.ext HX8.out).ext hz)
                have HB8 := hide ((HB5.out.ext HX8.out).ext hz)
                have HX9 := hide ((HX5.out.trans HX8.out).trans hz)
                clear hz
                go_wp2_with fail
                go_roundw
                case rel => exact ⟨i + 1, by omega, by go_num, HM8.out, HB8.out, HX9.out⟩
                case measure => simp [intOf]; omega
        · obtain rfl : i = 3 := by omega
          rw [hc_3] at hq
          go_wp2_with fail
          go_roundw
          case rel => exact ⟨j + 1, S', by omega, by go_num, hm, es.1, es.2.1, es.2.2, hq, hX⟩
          case measure => simp [intOf]; omega
    · clear hm hs hq
      go_wp2_with fail
      refine (alive_any _).mono ?_
      rintro e w2 ⟨rfl, hx⟩
      go_wp2_with fail
      go_ret
      exact ⟨rfl, hX.trans hx⟩

set_option maxRecDepth 100000 in
theorem modelOwners_walk {H : Type} {enc : TypeId × Value → H} (W : World) (base : Nat) (args : Array Value) (ds : List (DataW H)) (p : List MemPlace)
    (hval0 : ∀ (j : Nat) t v, Try.f4.params[j]? = some t → args[j]? = some v → Value.okWide Try.prog W .any base t v)
    (hA0 : DataW.TrodAll enc Try.prog W 0 (fun _ => true) true Try.f4.params.toList args.toList ds p) (_hlt : ∀ x ∈ p, x.block < W.heap.size) :
    Calls Try.prog 4 args W fun e W' => e = .returned (.bool true) ∧ Ext W W' := by
  have hval := hval0
  have hA := hA0
  rw [Try.params4] at hA hval
  clear hval0 hA0
  obtain ⟨v0, d0, rfl, rfl, h0⟩ := trodAll_one hA
  obtain ⟨A, n, c, f, rfl, hn, hc, hs, hf⟩ := open_steps (hval 0 23 v0 rfl rfl) h0
  exact lowners_any A n c f W hn hc hs hf
set_option maxRecDepth 100000 in
theorem modelOwners_lifted (os : Os) (started : os.Started) (H : Type) (enc : TypeId × Value → H) :
    ReturnsInHanded {} Try.checked os 4 .any (Rows.modelOwnersSpec.pre6 enc Try.prog Try.f4 Rows.modelOwnersRow.domain false) (Rows.modelOwnersSpec.post enc Try.prog Try.f4 false true false false) :=
  law_lifted (fn := Try.f4) 4 os started (by kernel_rfl) Try.func4 rfl rfl Try.underlying4 (hread_of (by kernel_rfl))
    (fun l hl => by
      have hl2 : l.length = 1 := hl
      clear hl
      match l, hl2 with
      | [_], _ => rfl)
    (ChangeSpec.witness6 (enc := enc) (C := Try.checked) false ⟨#[], #[.slice none 0 0], []⟩ 8 (by kernel_rfl) (by kernel_rfl) (by kernel_rfl) (by kernel_rfl))
    (fun W base args ds p hval hA hlt => modelOwners_walk W base args ds p hval hA hlt)
theorem modelOwners_holds : Rows.ModelOwnersSaid :=
  OpenClaim.holds_of_wide 4 Try.f4 rfl rfl rfl rfl rfl rfl rfl ⟨rfl, rfl, rfl, rfl, rfl⟩ rfl rfl rfl rfl rfl (by kernel_rfl) Try.func4 (by kernel_rfl)
    (of_decide_eq_true (by kernel_rfl)) (by unfold Func.isWrapper; rw [if_neg (of_decide_eq_false (by kernel_rfl))]; exact ⟨rfl, rfl⟩)
    (fun os started H enc _ => modelOwners_lifted os started H enc)
end Go.Proofs.Ytfphibmpbfgliaa
