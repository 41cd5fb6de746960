/- New, All and Same; and slices.Equal. -/
import Derived.Test.YtlmlkclpfjbedaaC2
import Derived.Laws.MakeOwn
import Derived.Laws.CopyOwn
import Derived.Deep.QuietTactic
namespace Go.Proofs.Ytlmlkclpfjbedaa
open Go.RowKit
set_option linter.unusedSimpArgs false
set_option linter.unusedVariables false

theorem inf_u64 : (Try.prog.info? 32).map (fun i => (i.zero, i.size, i.bytes)) = some (some (.int .u64 0), 1, 8) := by kernel_rfl
def zeros (n : Nat) : List Int := List.replicate n 0
theorem made_zeros (n : Nat) : madeCells (Value.cells (.int .u64 0)) (n * 1) = wc (zeros n) := by
  apply Array.ext'
  simp only [madeCells, wc, zeros, Value.cells, Array.toList_map, Array.toList_range, List.map_replicate, Nat.mul_one]
  apply List.ext_getElem
  · simp
  · intro i h1 h2
    simp [Nat.mod_one]
theorem run_mk (w : World) (n : Nat) (hn : n ≤ 4096) :
    (Instr.makeSlice 42 (.int .i64 n) (.int .i64 n)).run Try.prog w = .ok (.slice (some ⟨w.heap.size, 0, none⟩) n n) (w.alloc (.cells (wc (zeros n)) 32)) := by
  obtain ⟨i, hi, hz, hsize, hb⟩ := info_parts inf_u64
  have h := run_make (P := Try.prog) w 42 32 i (.int .u64 0) Try.underlying42 hi hz .i64 .i64 n n (by omega) (by omega) (by rw [hb]; omega) (by omega)
  rw [hsize, Int.toNat_natCast, made_zeros] at h
  exact h
theorem new_in (n : Nat) (w : World) (h1 : 1 ≤ n) (h2 : n ≤ 4096) :
    Calls Try.prog 7 #[.int .i64 n] w fun e w' => ∃ M V, e = .returned (.tuple #[.pointer (some ⟨M, 0, none⟩), .int .i64 0]) ∧ MemT w' M V 0 (zeros n) ∧ w.heap.size ≤ M ∧ w.heap.size ≤ V ∧ Ext w w' := by
  have r := run_mk w n h2
  have hx : (1 : Int) ≤ n := by omega
  have hy : (n : Int) ≤ 4096 := by omega
  have hm := Blk.new (w.alloc (.cells (wc (zeros n)) 32)) #[.slice (some ⟨w.heap.size, 0, none⟩) n n, .int .i64 0] 46
  have hv := (Blk.new w (wc (zeros n)) 32).ext (Ext.alloc _ (.cells #[.slice (some ⟨w.heap.size, 0, none⟩) n n, .int .i64 0] 46))
  have hl : (zeros n).length = n := by simp [zeros]
  have hM : MemT ((w.alloc (.cells (wc (zeros n)) 32)).alloc (.cells #[.slice (some ⟨w.heap.size, 0, none⟩) n n, .int .i64 0] 46)) (w.heap.size + 1) w.heap.size 0 (zeros n) := by
    refine ⟨?_, hv, by omega, by omega, by omega, by omega⟩
    rw [hl]
    simpa using hm
  have HM := hide hM
  clear hM hm hv hl
  go_enter Try.func7, Try.ntmps7
  go_wp2
  go_ret2
  exact ⟨w.heap.size + 1, w.heap.size, by simp, HM.out, by omega, by omega, (Ext.alloc _ _).trans (Ext.alloc _ _)⟩
theorem new_out (n : Int) (w : World) (h : ¬ (1 ≤ n ∧ n ≤ 4096)) :
    Calls Try.prog 7 #[.int .i64 n] w fun e w' => e = .returned (.tuple #[.pointer none, .int .i64 1]) ∧ Ext w w' := by
  by_cases h1 : n < 1
  · go_enter Try.func7, Try.ntmps7
    go_wp2
    go_ret2
    exact ⟨by simp, Ext.refl _⟩
  · have h2 : 4096 < n := by omega
    go_enter Try.func7, Try.ntmps7
    go_wp2
    go_ret2
    exact ⟨by simp, Ext.refl _⟩
theorem Nob.ext {w w' : World} {p : Value} (h : Nob w p) (x : Ext w w') : Nob w' p := by
  rcases h with rfl | ⟨M, rfl, h⟩
  · exact .inl rfl
  · exact .inr ⟨M, rfl, h.ext x⟩
theorem splice_all {α : Type} (L cs : Array α) (h : cs.toList.length = L.toList.length) : (splice L.toList 0 cs.toList).toArray = cs := by
  unfold splice
  rw [List.take_zero, List.nil_append, Nat.zero_add, h, List.drop_length, List.append_nil]
theorem all_any (M V : Nat) (acc : Int) (ws : List Int) (w : World) (h : MemT w M V acc ws) :
    Calls Try.prog 20 #[.pointer (some ⟨M, 0, none⟩)] w fun e w' => ∃ g, e = .returned (.slice (some ⟨g, 0, none⟩) ws.length ws.length) ∧ Blk w' g (wc ws) 32 ∧ w.heap.size ≤ g ∧ Ext w w' := by
  have h1 := h.len
  go_enter Try.func20, Try.ntmps20
  go_wp2_with fail
  refine (len_any M V acc ws w h).mono ?_
  rintro e w1 ⟨rfl, hx⟩
  have r := run_mk w1 ws.length h1
  have hm := h.ext (hx.trans (Ext.alloc w1 (.cells (wc (zeros ws.length)) 32)))
  have hg := Blk.new w1 (wc (zeros ws.length)) 32
  have hX := hx.trans (Ext.alloc w1 (.cells (wc (zeros ws.length)) 32))
  have hz := hx.size
  go_wp2_with fail
  refine (alls_in M V acc ws _ hm).mono ?_
  rintro e w2 ⟨rfl, rfl⟩
  clear r
  generalize w1.alloc (.cells (wc (zeros ws.length)) 32) = W1 at *
  have hl : (zeros ws.length).length = ws.length := by simp [zeros]
  have hX' : Below w.heap.size w W1 := hX
  have HS := hide (show ∀ j v, (wc ws).toList[j]? = some v → W1.cell? (Addr.add ⟨V, 0, none⟩ j) = some v from fun j v hj => by
    have e : Addr.add ⟨V, 0, none⟩ j = ⟨V, j, none⟩ := by unfold Addr.add; split <;> simp_all
    rw [e, hm.v.cell, ← hj, Array.getElem?_toList])
  have HG := hide (show W1.heap[w1.heap.size]? = some (.cells (wc (zeros ws.length)).toList.toArray 32 (0, 0)) by have h9 := hg; unfold Blk at h9; simpa using h9)
  have HL := hide (show (wc ws).toList.length = Nat.min ws.length ws.length by simp [wc])
  have HF := hide (show 0 + (wc ws).toList.length ≤ (wc (zeros ws.length)).toList.length by simp [wc, hl])
  have HE := hide (show ((wc ws).toList.length : Nat) = (wc (zeros ws.length)).toList.length by simp [wc, hl])
  have H1 := hide (show ∀ v ∈ (wc ws).toList, v.oneCell' = true by simp [wc, Value.oneCell'])
  have HX := hide hX'
  clear hl hX' hX hg
  go_wp2_with ((with_reducible refine wpList_copy_splice rfl (.tmp 7) (.tmp 9) 42 42 rfl 32 Try.underlying42 (by kernel_rfl) _ _ _ _ _ _ rfl rfl w1.heap.size 0 _ 32 HG.out (wc ws).toList HL.out (fun _ => ⟨rfl, _, rfl, HS.out⟩) HF.out H1.out w.heap.size w HX.out hz ?_); intro w2 h2 h3)
  go_ret
  refine ⟨w1.heap.size, by simp, ?_, hz, h3⟩
  have h4 := h2.out
  unfold Blk
  rw [h4, splice_all _ _ HE.out]
def ucells (l : List Int) : List Value := l.map (.int .u64 ·)
theorem wc_list (l : List Int) : (wc l).toList = ucells l := rfl
def nth (l : List Int) (k : Nat) : Int := l.getD k 0
theorem Sl.words {w : World} {B n : Nat} {A : Option Addr} {vs : List Int} (h : Sl w B 1 A n (ucells vs)) {k : Nat} (hk : k < n) :
    ∃ b off, A = some ⟨b, off, none⟩ ∧ b < B ∧ w.cell? ⟨b, off + k, none⟩ = some (.int .u64 (nth vs k)) := by
  have hn : n = vs.length := by have := h.1; simp [ucells] at this; omega
  subst hn
  obtain ⟨b, off, ha, hb, hc⟩ := h.at_ hk
  refine ⟨b, off, ha, hb, ?_⟩
  have := hc 0 (by omega)
  simpa [ucells, hk, nth] using this
theorem Sl.ruleD {w : World} {B b off n : Nat} {vs : List Int} (h : Sl w B 1 (some ⟨b, off, none⟩) n (ucells vs)) (hB : B ≤ w.heap.size) :
    ∀ w', Ext w w' → ∀ k, k < n → w'.cell? ⟨b, off + k, none⟩ = some (.int .u64 (nth vs k)) := fun w' e k hk => by
  obtain ⟨b', off', e', _, c0⟩ := (h.ext e hB).words hk
  cases e'
  exact c0
theorem Sl.lenW {w : World} {B n : Nat} {A : Option Addr} {vs : List Int} (h : Sl w B 1 A n (ucells vs)) : n = vs.length := by have := h.1; simp [ucells] at this; omega
theorem eq_lists {xs ys : List Int} (hl : xs.length = ys.length) (h : ∀ k, k < xs.length → nth xs k = nth ys k) : xs = ys := by
  apply List.ext_getElem hl
  intro i h1 h2
  have := h i h1
  simpa [nth, List.getD, h1, h2] using this

set_option maxHeartbeats 400000 in
theorem equal_any (A1 A2 : Option Addr) (n1 n2 c1 c2 : Nat) (xs ys : List Int) (w : World) (h1 : Sl w w.heap.size 1 A1 n1 (ucells xs)) (h2 : Sl w w.heap.size 1 A2 n2 (ucells ys)) (hm1 : n1 ≤ 4096) :
    Calls Try.prog 27 #[.slice A1 n1 c1, .slice A2 n2 c2] w fun e w' => e = .returned (.bool (decide (xs = ys))) ∧ Ext w w' := by
  have hX0 := Ext.refl w
  have hW := Ext.refl w
  have L1 := hide h1.lenW
  have L2 := hide h2.lenW
  by_cases hn : n1 = n2
  · subst hn
    go_enter Try.func27, Try.ntmps27
    go_wp2
    go_loopw [13] (fun i wr => ∃ j : Nat, j ≤ n1 ∧ i = .int .i64 j ∧ (∀ k, k < j → nth xs k = nth ys k) ∧ Ext w wr) (fun i _ => n1 - (intOf i).toNat)
    case atStart => exact ⟨0, by omega, rfl, fun k hk => by omega, hW⟩
    case round =>
      clear hW
      obtain ⟨j, hj, rfl, hok, hW⟩ := hrel
      have OK := hide hok
      clear hok
      by_cases hlt : j < n1
      · obtain ⟨b, off, rfl, hb, _⟩ := h1.words hlt
        obtain ⟨b2, off2, rfl, hb2, _⟩ := h2.words hlt
        have r1 := h1.ruleD (Nat.le_refl _)
        have r2 := h2.ruleD (Nat.le_refl _)
        by_cases he : nth xs j = nth ys j
        · have E := hide he
          have hd : (nth xs j != nth ys j) = false := by rw [he]; simp
          clear he
          go_wp2
          refine wp_region_ext (by kernel_rfl) (by kernel_rfl) ?_
          repeat
            with_reducible refine wpQuiet_step (fun K hK => ?_)
            go_simp
            first
            | (refine hK _ ?_; clear hK K)
            | (apply Exists.intro
               refine ⟨fun w1 h1 => ?_, hK _ ?_⟩
               (have hW := Ext.trans2 hW (by repeat (first | exact Ext.refl _ | exact Ext.alloc _ _ | exact Ext.drewN _ _ | assumption | refine Ext.trans ?_ (Ext.alloc _ _) | refine Ext.trans ?_ (Ext.drew _) | refine Ext.trans ?_ (by assumption))) h1; (try have hV := Ext.trans2 hV (by repeat (first | exact Ext.refl _ | exact Ext.alloc _ _ | exact Ext.drewN _ _ | assumption | refine Ext.trans ?_ (Ext.alloc _ _) | refine Ext.trans ?_ (Ext.drew _) | refine Ext.trans ?_ (by assumption))) h1); (first | rfl | (go_simp; done) | (go_simp; rfl) | fail))
               clear hK K)
          refine wpQuiet_nil (fun w' hw' => ?_)
          have hW := Ext.trans2 hW (by repeat (first | exact Ext.refl _ | exact Ext.alloc _ _ | exact Ext.drewN _ _ | assumption | refine Ext.trans ?_ (Ext.alloc _ _) | refine Ext.trans ?_ (Ext.drew _) | refine Ext.trans ?_ (by assumption))) hw'
          try have hV := Ext.trans2 hV (by repeat (first | exact Ext.refl _ | exact Ext.alloc _ _ | exact Ext.drewN _ _ | assumption | refine Ext.trans ?_ (Ext.alloc _ _) | refine Ext.trans ?_ (Ext.drew _) | refine Ext.trans ?_ (by assumption))) hw'
          clear hw'
          go_wp2
          go_roundw
          case rel =>
            refine ⟨j + 1, by omega, by go_num, fun k hk => ?_, hW⟩
            by_cases e : k = j
            · subst e; exact E.out
            · exact OK.out k (by omega)
          case measure => simp [intOf]; omega
        · have hd : (nth xs j != nth ys j) = true := by simpa using he
          have E := hide (show decide (xs = ys) = false from decide_eq_false fun e => he (by rw [e]))
          clear he
          go_wp2
          refine wp_region_ext (by kernel_rfl) (by kernel_rfl) ?_
          repeat
            with_reducible refine wpQuiet_step (fun K hK => ?_)
            go_simp
            first
            | (refine hK _ ?_; clear hK K)
            | (apply Exists.intro
               refine ⟨fun w1 h1 => ?_, hK _ ?_⟩
               (have hW := Ext.trans2 hW (by repeat (first | exact Ext.refl _ | exact Ext.alloc _ _ | exact Ext.drewN _ _ | assumption | refine Ext.trans ?_ (Ext.alloc _ _) | refine Ext.trans ?_ (Ext.drew _) | refine Ext.trans ?_ (by assumption))) h1; (try have hV := Ext.trans2 hV (by repeat (first | exact Ext.refl _ | exact Ext.alloc _ _ | exact Ext.drewN _ _ | assumption | refine Ext.trans ?_ (Ext.alloc _ _) | refine Ext.trans ?_ (Ext.drew _) | refine Ext.trans ?_ (by assumption))) h1); (first | rfl | (go_simp; done) | (go_simp; rfl) | fail))
               clear hK K)
          refine wpQuiet_nil (fun w' hw' => ?_)
          have hW := Ext.trans2 hW (by repeat (first | exact Ext.refl _ | exact Ext.alloc _ _ | exact Ext.drewN _ _ | assumption | refine Ext.trans ?_ (Ext.alloc _ _) | refine Ext.trans ?_ (Ext.drew _) | refine Ext.trans ?_ (by assumption))) hw'
          try have hV := Ext.trans2 hV (by repeat (first | exact Ext.refl _ | exact Ext.alloc _ _ | exact Ext.drewN _ _ | assumption | refine Ext.trans ?_ (Ext.alloc _ _) | refine Ext.trans ?_ (Ext.drew _) | refine Ext.trans ?_ (by assumption))) hw'
          clear hw'
          go_wp2
          go_ret
          exact ⟨by rw [E.out]; simp, (hX0.trans (hW.trans (by repeat (first | exact Ext.refl _ | exact Ext.alloc _ _ | exact Ext.drewN _ _ | assumption | refine Ext.trans ?_ (Ext.alloc _ _) | refine Ext.trans ?_ (Ext.drew _) | refine Ext.trans ?_ (by assumption)))))⟩
      · have E := hide (show decide (xs = ys) = true from decide_eq_true (eq_lists (L1.out.symm.trans L2.out) fun k hk => OK.out k (by have := L1.out; omega)))
        go_wp2
        go_ret
        exact ⟨by rw [E.out]; simp, (hX0.trans (hW.trans (by repeat (first | exact Ext.refl _ | exact Ext.alloc _ _ | exact Ext.drewN _ _ | assumption | refine Ext.trans ?_ (Ext.alloc _ _) | refine Ext.trans ?_ (Ext.drew _) | refine Ext.trans ?_ (by assumption)))))⟩
  · have E := hide (show decide (xs = ys) = false from decide_eq_false fun e => hn (L1.out.trans (by rw [e]; exact L2.out.symm)))
    have hne : ((n1 : Int) != (n2 : Int)) = true := by rw [bne_iff_ne]; omega
    clear hn
    go_enter Try.func27, Try.ntmps27
    go_wp2
    go_ret
    exact ⟨by rw [E.out]; simp, Ext.refl _⟩
theorem MemT.sl {w : World} {M V : Nat} {acc : Int} {ws : List Int} (h : MemT w M V acc ws) : Sl w w.heap.size 1 (some ⟨V, 0, none⟩) ws.length (ucells ws) :=
  ⟨by simp [ucells], fun _ => ⟨V, 0, rfl, h.v.lt, fun j hj => by rw [Nat.zero_add, h.v.cell, ← wc_list, Array.getElem?_toList]⟩⟩
theorem same_any (M V : Nat) (acc : Int) (ws : List Int) (M' V' : Nat) (acc' : Int) (ws' : List Int) (w : World) (h : MemT w M V acc ws) (h' : MemT w M' V' acc' ws') :
    Calls Try.prog 21 #[.pointer (some ⟨M, 0, none⟩), .pointer (some ⟨M', 0, none⟩)] w fun e w' => e = .returned (.bool (decide (ws = ws'))) ∧ Ext w w' := by
  go_enter Try.func21, Try.ntmps21
  go_wp2_with fail
  refine (alls_in M V acc ws w h).mono ?_
  rintro e w1 ⟨rfl, rfl⟩
  go_wp2_with fail
  refine (alls_in M' V' acc' ws' w h').mono ?_
  rintro e w1 ⟨rfl, rfl⟩
  go_wp2_with fail
  refine (equal_any _ _ _ _ _ _ ws ws' w h.sl h'.sl h.len).mono ?_
  rintro e w1 ⟨rfl, hx⟩
  go_wp2_with fail
  go_ret
  exact ⟨by simp, hx⟩
theorem same_nob (p q : Value) (w : World) (h : Nob w p) (h' : Nob w q) : Calls Try.prog 21 #[p, q] w fun e w' => e = .returned (.bool true) ∧ Ext w w' := by
  have s : Sl w w.heap.size 1 none 0 (ucells []) := ⟨rfl, fun h => by omega⟩
  go_enter Try.func21, Try.ntmps21
  go_wp2_with fail
  refine (alls_nob p w h).mono ?_
  rintro e w1 ⟨rfl, rfl⟩
  go_wp2_with fail
  refine (alls_nob q w h').mono ?_
  rintro e w1 ⟨rfl, rfl⟩
  go_wp2_with fail
  refine (equal_any none none 0 0 0 0 [] [] w s s (by omega)).mono ?_
  rintro e w1 ⟨rfl, hx⟩
  go_wp2_with fail
  go_ret
  exact ⟨by simp, hx⟩
theorem all_nob (p : Value) (w : World) (h : Nob w p) : Calls Try.prog 20 #[p] w fun e w' => ∃ g, e = .returned (.slice (some ⟨g, 0, none⟩) 0 0) ∧ Ext w w' := by
  go_enter Try.func20, Try.ntmps20
  go_wp2_with fail
  refine (len_nob p w h).mono ?_
  rintro e w1 ⟨rfl, hx⟩
  have r := run_mk w1 0 (by omega)
  rw [show ((0 : Nat) : Int) = 0 from rfl] at r
  have hX := hx.trans (Ext.alloc w1 (.cells (wc (zeros 0)) 32))
  go_wp2_with fail
  refine (alls_nob p _ (h.ext hX)).mono ?_
  rintro e w2 ⟨rfl, rfl⟩
  clear r
  generalize w1.alloc (.cells (wc (zeros 0)) 32) = W1 at *
  have HX := hide hX
  clear hX
  go_wp2_with (with_reducible refine wpList_copy_nothing rfl (.tmp 7) (.tmp 9) 42 42 rfl 32 Try.underlying42 (by kernel_rfl) _ _ _ _ _ _ rfl rfl rfl ?_)
  go_ret
  exact ⟨w1.heap.size, by simp, HX.out⟩
end Go.Proofs.Ytlmlkclpfjbedaa
