/- The reference's Remove and Turn. -/
import Derived.Test.YtbkpmlcockkfnaaR1
namespace Go.Proofs.Ytbkpmlcockkfnaa
open Go.RowKit
set_option linter.unusedSimpArgs false
set_option linter.unusedVariables false
set_option maxRecDepth 100000


theorem rmL_yes {l : List Wt} {t : Int} {q : Nat} (hq : q < l.length) (e : (l[q]).1 = t) : rmL (l.take (q + 1)) t = rmL (l.take q) t := by
  rw [rmL_snoc hq, if_pos e, List.append_nil]
theorem rmL_not {l : List Wt} {t : Int} {q : Nat} (hq : q < l.length) (e : ¬ (l[q]).1 = t) : rmL (l.take (q + 1)) t = rmL (l.take q) t ++ [l[q]] := by
  rw [rmL_snoc hq, if_neg e]
theorem own_setN {w : World} {base n size g i : Nat} {e : TypeId} {v u : Value} {xs : List Value} (h : w.ownsRow base e size v n xs) (hg : g < base) : (w.setCell ⟨g, i, none⟩ u).ownsRow base e size v n xs :=
  own_chg h ((Chg.refl [g] w).set (p := ⟨g, i, none⟩) (.inl (by simp)) u) (fun t ht => by rw [List.mem_singleton.1 ht]; exact hg)
theorem rmL_le (l : List Wt) (t : Int) : (rmL l t).length ≤ l.length := List.length_filter_le _ _
/-- What the loop of Remove keeps. -/
structure InvR (w wr : World) (l : List Wt) (t : Int) (j : Nat) (x : Wt) (v : Value) (k : Nat) : Prop where
  o : wr.ownsRow (w.heap.size + 1 + 1) 29 2 v k (rcells (rmL (l.take j) t))
  z : Blk wr w.heap.size #[Value.int .i64 0, .int .i64 0] 29
  b : Blk wr (w.heap.size + 1) #[Value.int .i64 x.1, .int .i64 x.2] 29
  s : IsW l j t x
  x : Ext w wr
set_option maxHeartbeats 1000000 in
theorem rremove_any {w : World} {A : Option Addr} {n c : Nat} {l : List Wt} (t : Int) (h : Row 29 w A n c l) (ok : OkW l) :
    Calls Try.prog 9 #[.slice A n c, .int .i64 t] w fun e w' => ∃ A' n' c', e = .returned (.tuple #[(Value.agg #[.int .i64 (wtOf l t).1, .int .i64 (wtOf l t).2]), .slice A' n' c', .bool (hasT l t)]) ∧ Row 29 w' A' n' c' (rmL l t) ∧ Ext w w' ∧ (∀ b off, A' = some ⟨b, off, none⟩ → w.heap.size + 1 < b) := by
  have hl := ok.len
  have hm := h.1
  rw [← hm] at hl
  have H := hide h.ch
  have EB := hide (rmL_lt (t := t) ok)
  have HM := hide hm
  have OK := hide ok
  have HY := hide (fun x (h : IsW l l.length t x) => h.eq ok)
  generalize wtOf l t = y0 at *
  generalize hasT l t = hh at *
  have hI0 : InvR w ((w.alloc (Obj.cells #[.int .i64 0, .int .i64 0] 29)).alloc (Obj.cells #[.int .i64 0, .int .i64 0] 29)) l t 0 (0, 0) (.slice none 0 0) 0 := by
    have h2 := Blk.new (w.alloc (Obj.cells #[.int .i64 0, .int .i64 0] 29)) #[Value.int .i64 0, .int .i64 0] 29
    rw [World.size_alloc] at h2
    exact ⟨own_nil _ _ _ _, (Blk.new w _ _).ext (Ext.alloc _ _), h2, isW_zero l t, (Ext.alloc _ _).trans (Ext.alloc _ _)⟩
  clear h ok hm
  go_enter Try.func9, Try.ntmps9
  go_wp2_with fail
  go_loopw [7, 9] (fun v i wr => ∃ (j : Nat) (x : Wt) (k : Nat), j ≤ n ∧ k ≤ j ∧ i = .int .i64 (j : Int) ∧ InvR w wr l t j x v k) (fun _ i _ => n - (intOf i).toNat)
  case atStart => exact ⟨0, (0, 0), 0, by omega, by omega, rfl, hI0⟩
  case round =>
    clear hI0
    obtain ⟨j, x, k, hj, hk, rfl, hI⟩ := hrel
    by_cases hlt : j < n
    · have hjn : j < l.length := by have := HM.out; omega
      obtain ⟨b, off, rfl, r⟩ := (H.out.ext hI.x).at_ hjn
      obtain ⟨r0, r1⟩ := r wr (Ext.refl _)
      have q0 := hI.b.cell
      have q0f := hI.b.free
      obtain ⟨A1, c1, rfl⟩ := own_sl hI.o
      have HI := hide hI
      by_cases e : (l[j]).1 = t
      · have E := hide (rmL_yes hjn e)
        have HS : Hid (IsW l (j + 1) t l[j]) := IsW.yes hjn e
        rw [e] at r0
        obtain ⟨y, hy⟩ : ∃ y, y = l[j] := ⟨_, rfl⟩
        have e2 : y.1 = t := by rw [hy]; exact e
        rw [← hy] at r1 HS
        clear hI r hjn e hy
        go_wp2_with fail
        go_roundw
        case rel =>
          refine ⟨j + 1, y, k, by omega, by omega, by go_num, ?_⟩
          have hb := (HI.out.b.set 0 (.int .i64 t)).set 1 (.int .i64 y.2)
          exact ⟨by rw [E.out]; exact own_setN (own_setN HI.out.o (by omega)) (by omega), (HI.out.z.far (p := ⟨w.heap.size + 1, 0, none⟩) (by simp) _).far (p := ⟨w.heap.size + 1, 1, none⟩) (by simp) _, by rw [e2]; simpa using hb, HS.out, (HI.out.x.set (p := ⟨w.heap.size + 1, 0, none⟩) (by simp) _).set (p := ⟨w.heap.size + 1, 1, none⟩) (by simp) _⟩
        case measure => simp [intOf]; omega
      · have E := hide (rmL_not hjn e)
        have HS : Hid (IsW l (j + 1) t x) := hI.s.no hjn e
        have HO := hide hI.o
        have hbs := hI.b.lt
        have e0 : ((l[j]).1 == t) = false := by simpa using e
        obtain ⟨y, hy⟩ : ∃ y, y = l[j] := ⟨_, rfl⟩
        rw [← hy] at r0 r1 e0 E
        clear hI r e hy
        go_wp2_with (first
          | (at_builtin; refine wpList_app3 (g := wr.heap.size) rfl rfl Try.underlying26 inf_rw rfl (by omega) rfl HO.out (by omega) rfl rfl rfl (by simp [Value.oneCell']) (by unfold maxLen; omega) (by omega) ?_; intro v2 w2 hown2 hg2 _; obtain ⟨A2, c2, rfl⟩ := own_sl hown2; have HO3 := hide hown2; have HG3 := hide hg2; clear hown2 hg2; go_frame)
          | go_in)
        go_roundw
        case rel =>
          refine ⟨j + 1, x, k + 1, by omega, by omega, by go_num, ?_⟩
          have ho := HO3.out
          rw [show (#[Value.int .i64 y.1, .int .i64 y.2].toList) = rcells [y] by simp [rcells], ← rcells_append, ← E.out] at ho
          have hx1 := Ext.alloc wr (Obj.cells #[.int .i64 y.1, .int .i64 y.2] 29)
          have hne : ∀ g, g < w.heap.size + 1 + 1 → ∀ k2, (Value.slice A1 k c1).ownBlock = some k2 → k2 ≠ g := fun g hg k2 e => by have := own_row HI.out.o k2 e; omega
          exact ⟨ho, (HI.out.z.ext hx1).grown HG3.out (hne _ (by omega)), (HI.out.b.ext hx1).grown HG3.out (hne _ (by omega)), HS.out, Ext.grown (HI.out.x.trans hx1) HG3.out (fun k2 e => by have := own_row HI.out.o k2 e; omega)⟩
        case measure => simp [intOf]; omega
    · obtain rfl : j = n := by omega
      have hs := hI.s
      have ho := hI.o
      have hx := hI.x
      have q0 := hI.b.cell
      have q1 := hI.z.cell
      have q1f := hI.z.free
      rw [HM.out] at hs
      rw [List.take_of_length_le (by rw [HM.out]; omega)] at ho
      have e1 := HY.out _ hs
      subst e1
      obtain ⟨A1, c1, rfl, hr, hne⟩ := Row.of_own ho
      have hkk := hr.1
      have e5 : ((k : Int) < (j : Int)) ↔ (rmL l t).length < l.length := by have := HM.out; omega
      have e6 : decide (k < j) = hh := by rw [← EB.out]; exact decide_eq_decide.2 (by omega)
      have HR := hide hr
      have HN := hide hne
      have HX := hide hx
      clear hI hs ho hx hr hne hkk e5 EB
      go_wp2_with fail
      refine bodyPost_ret (v := .tuple #[(Value.agg #[.int .i64 x.1, .int .i64 x.2]), .slice A1 k c1, .bool hh]) (by simp [results, Try.results9, go_sem, *]) rfl ?_
      have q : ∀ b off, A1 = some ⟨b, off, none⟩ → b ≠ w.heap.size := fun b off e => by have := HN.out b off e; omega
      exact ⟨A1, k, c1, rfl, (HR.out.far q).far q, (HX.out.set (p := ⟨w.heap.size, 0, none⟩) (by simp) _).set (p := ⟨w.heap.size, 1, none⟩) (by simp) _, fun b off e => by have := HN.out b off e; omega⟩
theorem rturn_any {w : World} {A : Option Addr} {n c : Nat} {l : List Wt} (h : Row 29 w A n c l) (hl : n ≤ 65535) :
    Calls Try.prog 10 #[.slice A n c] w fun e w' => ∃ A' c', e = .returned (.slice A' n c') ∧ Row 29 w' A' n c' (tuL l) ∧ Ext w w' := by
  have H := hide h.ch
  have HM := hide h.1
  have hx0 := Ext.refl w
  clear h
  go_enter Try.func10, Try.ntmps10
  go_wp2_with fail
  go_loopw [3, 4] (fun v i wr => ∃ j : Nat, j ≤ n - 1 ∧ i = .int .i64 ((j : Int) + 1) ∧ wr.ownsRow w.heap.size 29 2 v j (rcells ((l.drop 1).take j)) ∧ Ext w wr) (fun _ i _ => n - (intOf i).toNat)
  case atStart => exact ⟨0, by omega, rfl, own_nil _ _ _ _, hx0⟩
  case round =>
    clear hx0
    obtain ⟨j, hj, rfl, ho, hX⟩ := hrel
    by_cases hlt : j + 1 < n
    · have hjn : j + 1 < l.length := by have := HM.out; omega
      obtain ⟨b, off, rfl, r⟩ := (H.out.ext hX).at_ hjn
      obtain ⟨r0, r1⟩ := r wr (Ext.refl _)
      have E := hide (show (l.drop 1).take (j + 1) = (l.drop 1).take j ++ [l[j + 1]] by
        rw [List.take_succ_eq_append_getElem (by rw [List.length_drop]; omega), List.getElem_drop]
        congr 3
        omega)
      obtain ⟨A1, c1, rfl⟩ := own_sl ho
      have HO := hide ho
      have HX := hide hX
      have HLE := hide (show (l.drop 1).length ≤ 70000 by rw [List.length_drop, ← HM.out]; omega)
      generalize l[j + 1] = y at *
      clear r ho hX hjn
      have g0 : (0 : Int) ≤ (j : Int) + 1 := by omega
      have g1 : (j : Int) + 1 < (n : Int) := by omega
      have gt : ((j : Int) + 1).toNat = j + 1 := by omega
      go_wp2_with (first
        | (at_builtin; refine wpList_app1 (W0 := w) rfl rfl Try.underlying26 inf_rw rfl (by omega) rfl HO.out HX.out rfl rfl rfl (by simp [Value.oneCell']) (by unfold maxLen; omega) (by omega) ?_; intro v2 w2 hown2 hX2; obtain ⟨A2, c2, rfl⟩ := own_sl hown2; have HO3 := hide hown2; have HX3 := hide hX2; clear hown2 hX2; go_frame)
        | go_in)
      go_roundw
      case rel =>
        have ho := HO3.out
        rw [show (#[Value.int .i64 y.1, .int .i64 y.2].toList) = rcells [y] by simp [rcells], ← rcells_append, ← E.out] at ho
        exact ⟨j + 1, by omega, by go_num, ho, HX3.out⟩
      case measure => simp [intOf]; omega
    · have HX := hide hX
      have hj0 : ¬ (j : Int) + 1 < (n : Int) := by omega
      rw [List.take_of_length_le (by rw [List.length_drop, ← HM.out]; omega)] at ho
      have HO := hide ho
      clear hX ho
      go_wp2_with fail
      have i0 := HO.out
      have x0 := HX.out
      go_loopw [3, 5] (fun v i wr => ∃ (k q : Nat), k ≤ 1 ∧ k ≤ n ∧ i = .int .i64 (k : Int) ∧ wr.ownsRow w.heap.size 29 2 v q (rcells (l.drop 1 ++ l.take k)) ∧ Ext w wr) (fun _ i _ => 1 - (intOf i).toNat)
      case atStart => exact ⟨0, j, by omega, by omega, rfl, by simpa using i0, x0⟩
      case round =>
        clear i0 x0 HO HX
        obtain ⟨k, q, hk, hkn, rfl, ho, hX⟩ := hrel
        have hq : q = n - 1 + k := by
          have h1 := ho.1
          rw [rcells_length, List.length_append, List.length_drop, List.length_take, ← HM.out] at h1
          omega
        obtain ⟨A1, c1, rfl⟩ := own_sl ho
        have HX := hide hX
        have HO := hide ho
        have HQ := hide hq
        clear hX ho hq
        by_cases k0 : k = 0
        · subst k0
          by_cases n0 : n = 0
          · subst n0
            have e0 : l = [] := List.eq_nil_of_length_eq_zero HM.out.symm
            subst e0
            obtain ⟨A2, c2, e9, hr, _⟩ := Row.of_own HO.out
            cases e9
            have HR := hide hr
            have eq0 : q = 0 := HQ.out
            subst eq0
            clear hr
            go_wp2_with fail
            go_ret
            exact ⟨A1, c1, rfl, by simpa [tuL] using HR.out, HX.out⟩
          · have hl0 : 0 < l.length := by have := HM.out; omega
            obtain ⟨b, off, rfl, r⟩ := (H.out.ext HX.out).at_ hl0
            obtain ⟨r0, r1⟩ := r wr (Ext.refl _)
            rw [Nat.zero_mul, Nat.add_zero] at r0 r1
            have E := hide (show l.drop 1 ++ l.take (0 + 1) = (l.drop 1 ++ l.take 0) ++ [l[0]] by rw [List.take_succ_eq_append_getElem hl0, List.append_assoc])
            have hq1 : q ≤ 70000 := by have := HQ.out; omega
            generalize l[0] = y at *
            clear r hl0
            have n1 : 0 < n := by omega
            go_wp2_with (first
              | (at_builtin; refine wpList_app1 (W0 := w) rfl rfl Try.underlying26 inf_rw rfl (by omega) rfl HO.out HX.out rfl rfl rfl (by simp [Value.oneCell']) (by unfold maxLen; omega) (by omega) ?_; intro v2 w2 hown2 hX2; obtain ⟨A2, c2, rfl⟩ := own_sl hown2; have HO3 := hide hown2; have HX3 := hide hX2; clear hown2 hX2; go_frame)
              | go_in)
            go_roundw
            case rel =>
              have ho := HO3.out
              rw [show (#[Value.int .i64 y.1, .int .i64 y.2].toList) = rcells [y] by simp [rcells], ← rcells_append, ← E.out] at ho
              exact ⟨1, q + 1, by omega, by omega, by go_num, ho, HX3.out⟩
            case measure => simp [intOf]
        · obtain rfl : k = 1 := by omega
          obtain ⟨A2, c2, e9, hr, _⟩ := Row.of_own HO.out
          cases e9
          have HR := hide hr
          have eq0 : q = n := by have := HQ.out; omega
          subst eq0
          clear hr
          have n1 : 1 ≤ q := by omega
          by_cases n2 : 1 < q
          · go_wp2_with fail
            go_ret
            exact ⟨A1, c1, rfl, HR.out, HX.out⟩
          · obtain rfl : q = 1 := by omega
            go_wp2_with fail
            go_ret
            exact ⟨A1, c1, rfl, HR.out, HX.out⟩
end Go.Proofs.Ytbkpmlcockkfnaa
