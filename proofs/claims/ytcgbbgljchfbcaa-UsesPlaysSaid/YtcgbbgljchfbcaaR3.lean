/- The document's book: Add. -/
import Derived.Test.YtcgbbgljchfbcaaR1
import Derived.Laws.AppendOwnNone
import Derived.Deep.RegionLaw
namespace Go.Proofs.Ytcgbbgljchfbcaa
open Go.RowKit
set_option linter.unusedSimpArgs false
set_option linter.unusedVariables false

/-- 'append(v, u..)', both rows of the call's own, or nil. -/
theorem wpList_cat {P : Program} {w W0 : World} {ops : Array Oper} {rest : List Oper} {o : Oper} {a : Act} {Q : Exit → Act → World → Prop} (hgd : o.guard = none) (s x : Operand) (t : TypeId)
    (ho : o.op = .call { callee := .builtin .append, args := #[s, x], argTypes := #[t, t] })
    {e : TypeId} {z : Value} {size bytes : Nat} (ht : P.underlying t = some (.slice e)) (hinf : (P.info? e).map (fun i => (i.zero, i.size, i.bytes)) = some (some z, size, bytes))
    (hzs : z.cells.size = size) (hsz : 0 < size)
    {v u : Value} {n m base : Nat} {xs ys : List Value} (hs : a.eval s = v) (hown : w.ownsRow W0.heap.size e size v n xs) (hx : a.eval x = u) (hown2 : w.ownsRow base e size u m ys) (hW : Ext W0 w)
    (h1 : ∀ u ∈ ys, u.oneCell' = true) (hn : n + m ≤ maxLen) (hby : (n + m) * bytes ≤ 140737488355328)
    (h : ∀ v' w', w'.ownsRow W0.heap.size e size v' (n + m) (xs ++ ys) → Ext W0 w' → wpList P ops Q rest (a.put o.dst v') w') : wpList P ops Q (o :: rest) a w := by
  obtain ⟨i, hi, hz, hsize, hb⟩ := info_parts hinf
  have hl := hown2.1
  rcases hown2.2 with ⟨rfl, rfl⟩ | ⟨g, cap, cur, rfl, _, hh, hnc, _, hcs, htake⟩
  · have e0 : ys = [] := List.eq_nil_of_length_eq_zero (by simpa using hl)
    subst e0
    exact wpList_append_own_none hgd s x t ho W0.heap.size e i size ht hi v n xs hs hown hx (h _ _ (by simpa using hown) hW)
  · refine wpList_append_own w hgd s x t ho W0.heap.size e i z size bytes ht hi hz hsize hb hzs hsz v n xs hs hown ⟨g, 0, none⟩ m cap ys hx hl (hown2.cells rfl) h1 hn hby hW.size ?_
    intro v' w' h2 hg _
    exact h v' w' h2 (Ext.grown hW hg (own_row hown))
theorem lowL_snoc {S : List Pr} {z : Int} {j : Nat} (hj : j < S.length) : lowL (S.take (j + 1)) z = lowL (S.take j) z ++ (if (S[j]).s < z then [S[j]] else []) := by
  unfold lowL
  rw [← List.take_append_getElem hj, List.filter_append]
  congr 1
  by_cases h : (S[j]).s < z
  · rw [if_pos h]; simp [h]
  · rw [if_neg h]; simp; omega
theorem higL_snoc {S : List Pr} {z : Int} {j : Nat} (hj : j < S.length) : higL (S.take (j + 1)) z = higL (S.take j) z ++ (if (S[j]).s < z then [] else [S[j]]) := by
  unfold higL
  rw [← List.take_append_getElem hj, List.filter_append]
  congr 1
  by_cases h : (S[j]).s < z
  · rw [if_pos h]; simp; omega
  · rw [if_neg h]; simp; omega
theorem low_le (S : List Pr) (z : Int) : (lowL S z).length ≤ S.length := List.length_filter_le _ _
theorem hig_le (S : List Pr) (z : Int) : (higL S z).length ≤ S.length := List.length_filter_le _ _
theorem Sl.prR {w : World} {B : Nat} {A : Option Addr} {l : List Pr} (h : Sl w B 3 A l.length (pcells l)) (hB : B ≤ w.heap.size) {k : Nat} (hk : k < l.length) :
    ∃ b off, A = some ⟨b, off, none⟩ ∧ (∀ w', Ext w w' → w'.cell? ⟨b, off + k * 3, none⟩ = some (.int .i64 (l[k]).s)) ∧ (∀ w', Ext w w' → w'.cell? ⟨b, off + k * 3 + 1, none⟩ = some (.int .i64 (l[k]).o)) ∧ (∀ w', Ext w w' → w'.cell? ⟨b, off + k * 3 + 2, none⟩ = some (.int .i64 (l[k]).t)) := by
  obtain ⟨b, off, rfl, hb, c0, c1, c2⟩ := h.pr hk
  exact ⟨b, off, rfl, fun w' x => (x.oldCell b _ (by omega)).trans c0, fun w' x => (x.oldCell b _ (by omega)).trans c1, fun w' x => (x.oldCell b _ (by omega)).trans c2⟩
theorem radd_arg {w : World} {B R : Nat} {S : List Pr} (p : Pr) (hr : RefT w B R S) (hp : okP p = false) :
    Calls Try.prog 13 #[(.pointer (some ⟨R, 0, none⟩)), (Value.agg #[.int .i64 p.s, .int .i64 p.o, .int .i64 p.t])] w fun e w' => e = .returned (.int .i64 1) ∧ Ext w w' := by
  obtain ⟨s, o, t⟩ := p
  simp only
  have hx := Ext.alloc w (.cells #[.int .i64 s, .int .i64 o, .int .i64 t] 30)
  by_cases a1 : s < 0
  · go_enter Try.func13, Try.ntmps13
    go_wp2
    go_ret
    exact ⟨by simp, hx⟩
  · by_cases a2 : 4096 ≤ s
    · go_enter Try.func13, Try.ntmps13
      go_wp2
      go_ret
      exact ⟨by simp, hx⟩
    · by_cases a3 : o < 0
      · go_enter Try.func13, Try.ntmps13
        go_wp2
        go_ret
        exact ⟨by simp, hx⟩
      · by_cases a4 : 65536 ≤ o
        · go_enter Try.func13, Try.ntmps13
          go_wp2
          go_ret
          exact ⟨by simp, hx⟩
        · by_cases a5 : t < 0
          · go_enter Try.func13, Try.ntmps13
            go_wp2
            go_ret
            exact ⟨by simp, hx⟩
          · by_cases a6 : 256 ≤ t
            · go_enter Try.func13, Try.ntmps13
              go_wp2
              go_ret
              exact ⟨by simp, hx⟩
            · exact absurd ((okP_iff ⟨s, o, t⟩).2 ⟨by simp only; omega, by simp only; omega, by simp only; omega, by simp only; omega, by simp only; omega, by simp only; omega⟩) (by rw [hp]; decide)
theorem apart_ne {u v : Value} (h : ∀ k, u.ownBlock = some k → v.ownBlock ≠ some k) : v.ownBlock = none ∨ v.ownBlock ≠ u.ownBlock := by
  cases e : v.ownBlock with
  | none => exact .inl rfl
  | some k => exact .inr fun q => h k q.symm e
theorem addE_hit {S : List Pr} {p : Pr} {j : Nat} (hp : okP p = true) (hj : j < S.length) (h : (S[j]).s = p.s ∨ (S[j]).o = p.o) : addE S p = 7 := by
  unfold addE
  rw [if_pos hp, if_pos]
  rw [Bool.or_eq_true]
  rcases h with h | h
  · left
    rw [Option.isSome_iff_ne_none]
    intro q
    exact bySlot_none.1 q _ (List.getElem_mem hj) h
  · right
    rw [Option.isSome_iff_ne_none]
    intro q
    exact byObj_none.1 q _ (List.getElem_mem hj) h
theorem addE_ok {S : List Pr} {p : Pr} (hp : okP p = true) (h1 : ∀ k (h : k < S.length), (S[k]).s ≠ p.s) (h2 : ∀ k (h : k < S.length), (S[k]).o ≠ p.o) : addE S p = 0 := by
  unfold addE
  rw [if_pos hp, bySlot_out h1, byObj_out h2]
  rfl
set_option maxHeartbeats 4000000 in
set_option maxRecDepth 100000 in
theorem radd_ok {w : World} {B R : Nat} {S : List Pr} (p : Pr) (hr : RefT w B R S) (ok : OkS S) (hp : okP p = true) (hBR : R < B) (hBw : B ≤ w.heap.size) :
    Calls Try.prog 13 #[(.pointer (some ⟨R, 0, none⟩)), (Value.agg #[.int .i64 p.s, .int .i64 p.o, .int .i64 p.t])] w fun e w' => e = .returned (.int .i64 (addE S p)) ∧ RefT w' B R (addS S p) ∧ Chg [R] w w' := by
  have hl := ok.len
  have HP := hide hp
  have OP := (okP_iff p).1 hp
  have a1 := OP.s0
  have a2 := OP.s1
  have a3 := OP.o0
  have a4 := OP.o1
  have a5 := OP.t0
  have a6 := OP.t1
  have d1 : ¬ p.s < 0 := by omega
  have d2 : ¬ 4096 ≤ p.s := by omega
  have d3 : ¬ p.o < 0 := by omega
  have d4 : ¬ 65536 ≤ p.o := by omega
  have d5 : ¬ p.t < 0 := by omega
  have d6 : ¬ 256 ≤ p.t := by omega
  have hX := Ext.alloc w (.cells #[.int .i64 p.s, .int .i64 p.o, .int .i64 p.t] 30)
  have HR0 := hide hr
  have hr2 := hr.ext hX
  have bP0 := hide (Blk.new w #[.int .i64 p.s, .int .i64 p.o, .int .i64 p.t] 30)
  have lR := hr.lt
  obtain ⟨v, hb, hrow⟩ := hr2
  have hrow9 := hrow
  obtain ⟨A, c, rfl, hs⟩ := Sl.of_own hrow
  have HB := hide hb
  have HO := hide hrow9
  have HS := hide hs
  have HXX := hide hX
  have sz1 : (w.alloc (.cells #[.int .i64 p.s, .int .i64 p.o, .int .i64 p.t] 30)).heap.size = w.heap.size + 1 := by simp
  have r := hb.cell
  clear hrow hrow9 hb hr hX hs OP a1 a2 a3 a4 a5 a6 hp
  go_enter Try.func13, Try.ntmps13
  go_wp2_with fail
  clear d1 d2 d3 d4 d5 d6 r
  generalize w.alloc (.cells #[.int .i64 p.s, .int .i64 p.o, .int .i64 p.t] 30) = W1 at *
  go_loopw [5, 6, 7] (fun vl vh i wr => ∃ j : Nat, ∃ hj : j ≤ S.length, i = .int .i64 j ∧ Hid (∀ k (h : k < j), (S[k]'(by omega)).s ≠ p.s) ∧ Hid (∀ k (h : k < j), (S[k]'(by omega)).o ≠ p.o) ∧
    wr.ownsRow W1.heap.size 30 3 vl (lowL (S.take j) p.s).length (pcells (lowL (S.take j) p.s)) ∧ wr.ownsRow W1.heap.size 30 3 vh (higL (S.take j) p.s).length (pcells (higL (S.take j) p.s)) ∧
    (∀ k, vl.ownBlock = some k → vh.ownBlock ≠ some k) ∧ Ext W1 wr) (fun _ _ i _ => S.length - (intOf i).toNat)
  case atStart => exact ⟨0, by omega, rfl, hide (fun k h => by omega), hide (fun k h => by omega), own_nil _ _ _ _, own_nil _ _ _ _, fun k hk => (by simp [Value.ownBlock] at hk), Ext.refl _⟩
  case round =>
    obtain ⟨j, hj, rfl, HN1, HN2, hol, hoh, hap, hW1⟩ := hrel
    have r := (HB.out.ext hW1).rule
    have rp := (bP0.out.ext hW1).rule
    have hW := Ext.refl wr
    have HOL := hide hol
    have HOH := hide hoh
    have HAP := hide hap
    have HW1 := hide hW1
    have sl := low_le (S.take j) p.s
    have sh := hig_le (S.take j) p.s
    rw [List.length_take] at sl sh
    clear hol hoh hap hW1
    by_cases hlt : j < S.length
    · obtain ⟨b, off, rfl, c0, c1, c2⟩ := (HS.out.ext HW1.out (Nat.le_refl _)).prR HW1.out.size hlt
      have HS2 := hide (lowL_snoc (z := p.s) hlt)
      have HH2 := hide (higL_snoc (z := p.s) hlt)
      generalize hg : S[j] = g at *
      have HG := hide hg
      clear hg
      by_cases e1 : g.s = p.s
      · have E1 := hide (addE_hit HP.out hlt (.inl (by rw [HG.out]; exact e1)))
        have E2 := hide (show addS S p = S by unfold addS; rw [E1.out]; rfl)
        have d1 : (g.s == p.s) = true := by simpa using e1
        clear e1
        go_wp2_with fail
        refine wp_region_ext (by kernel_rfl) (by kernel_rfl) ?_
        repeat
          with_reducible refine wpQuiet_step (fun K hK => ?_)
          go_simp
          first
          | (refine hK _ ?_; clear hK K)
          | (apply Exists.intro
             refine ⟨fun w1 h1 => ?_, hK _ ?_⟩
             (have hW := Ext.trans2 hW (by repeat (first | exact Ext.refl _ | exact Ext.alloc _ _ | exact Ext.drewN _ _ | assumption | refine Ext.trans ?_ (Ext.alloc _ _) | refine Ext.trans ?_ (Ext.drew _) | refine Ext.trans ?_ (by assumption))) h1; (try have hV := Ext.trans2 hV (by repeat (first | exact Ext.refl _ | exact Ext.alloc _ _ | exact Ext.drewN _ _ | assumption | refine Ext.trans ?_ (Ext.alloc _ _) | refine Ext.trans ?_ (Ext.drew _) | refine Ext.trans ?_ (by assumption))) h1); (first | rfl | (go_simp; done) | (go_simp; rfl) | fail))
             clear hK K)
        refine wpQuiet_nil (fun w' hw' => ?_)
        have hW := Ext.trans2 hW (by repeat (first | exact Ext.refl _ | exact Ext.alloc _ _ | exact Ext.drewN _ _ | assumption | refine Ext.trans ?_ (Ext.alloc _ _) | refine Ext.trans ?_ (Ext.drew _) | refine Ext.trans ?_ (by assumption))) hw'
        try have hV := Ext.trans2 hV (by repeat (first | exact Ext.refl _ | exact Ext.alloc _ _ | exact Ext.drewN _ _ | assumption | refine Ext.trans ?_ (Ext.alloc _ _) | refine Ext.trans ?_ (Ext.drew _) | refine Ext.trans ?_ (by assumption))) hw'
        clear hw'
        go_wp2_with fail
        go_ret
        have hx := (HXX.out.trans HW1.out).trans hW
        exact ⟨by rw [E1.out]; simp, by rw [E2.out]; exact HR0.out.ext hx, hx.chg _⟩
      · have d1 : (g.s == p.s) = false := by simpa using e1
        by_cases e2 : g.o = p.o
        · have E1 := hide (addE_hit HP.out hlt (.inr (by rw [HG.out]; exact e2)))
          have E2 := hide (show addS S p = S by unfold addS; rw [E1.out]; rfl)
          have d2 : (g.o == p.o) = true := by simpa using e2
          clear e1 e2
          go_wp2_with fail
          refine wp_region_ext (by kernel_rfl) (by kernel_rfl) ?_
          repeat
            with_reducible refine wpQuiet_step (fun K hK => ?_)
            go_simp
            first
            | (refine hK _ ?_; clear hK K)
            | (apply Exists.intro
               refine ⟨fun w1 h1 => ?_, hK _ ?_⟩
               (have hW := Ext.trans2 hW (by repeat (first | exact Ext.refl _ | exact Ext.alloc _ _ | exact Ext.drewN _ _ | assumption | refine Ext.trans ?_ (Ext.alloc _ _) | refine Ext.trans ?_ (Ext.drew _) | refine Ext.trans ?_ (by assumption))) h1; (try have hV := Ext.trans2 hV (by repeat (first | exact Ext.refl _ | exact Ext.alloc _ _ | exact Ext.drewN _ _ | assumption | refine Ext.trans ?_ (Ext.alloc _ _) | refine Ext.trans ?_ (Ext.drew _) | refine Ext.trans ?_ (by assumption))) h1); (first | rfl | (go_simp; done) | (go_simp; rfl) | fail))
               clear hK K)
          refine wpQuiet_nil (fun w' hw' => ?_)
          have hW := Ext.trans2 hW (by repeat (first | exact Ext.refl _ | exact Ext.alloc _ _ | exact Ext.drewN _ _ | assumption | refine Ext.trans ?_ (Ext.alloc _ _) | refine Ext.trans ?_ (Ext.drew _) | refine Ext.trans ?_ (by assumption))) hw'
          try have hV := Ext.trans2 hV (by repeat (first | exact Ext.refl _ | exact Ext.alloc _ _ | exact Ext.drewN _ _ | assumption | refine Ext.trans ?_ (Ext.alloc _ _) | refine Ext.trans ?_ (Ext.drew _) | refine Ext.trans ?_ (by assumption))) hw'
          clear hw'
          go_wp2_with fail
          go_ret
          have hx := (HXX.out.trans HW1.out).trans hW
          exact ⟨by rw [E1.out]; simp, by rw [E2.out]; exact HR0.out.ext hx, hx.chg _⟩
        · have d2 : (g.o == p.o) = false := by simpa using e2
          have HN1' := hide (show ∀ k (h : k < j + 1), (S[k]'(by omega)).s ≠ p.s from fun k h => by
            rcases Nat.lt_or_ge k j with q | q
            · exact HN1.out k q
            · obtain rfl : k = j := by omega
              rw [HG.out]; exact e1)
          have HN2' := hide (show ∀ k (h : k < j + 1), (S[k]'(by omega)).o ≠ p.o from fun k h => by
            rcases Nat.lt_or_ge k j with q | q
            · exact HN2.out k q
            · obtain rfl : k = j := by omega
              rw [HG.out]; exact e2)
          clear e1 e2
          by_cases e3 : g.s < p.s
          · have d3 : decide (g.s < p.s) = true := by simpa using e3
            go_wp2_with fail
            refine wp_region_ext (by kernel_rfl) (by kernel_rfl) ?_
            repeat
              with_reducible refine wpQuiet_step (fun K hK => ?_)
              go_simp
              first
              | (refine hK _ ?_; clear hK K)
              | (apply Exists.intro
                 refine ⟨fun w1 h1 => ?_, hK _ ?_⟩
                 (have hW := Ext.trans2 hW (by repeat (first | exact Ext.refl _ | exact Ext.alloc _ _ | exact Ext.drewN _ _ | assumption | refine Ext.trans ?_ (Ext.alloc _ _) | refine Ext.trans ?_ (Ext.drew _) | refine Ext.trans ?_ (by assumption))) h1; (try have hV := Ext.trans2 hV (by repeat (first | exact Ext.refl _ | exact Ext.alloc _ _ | exact Ext.drewN _ _ | assumption | refine Ext.trans ?_ (Ext.alloc _ _) | refine Ext.trans ?_ (Ext.drew _) | refine Ext.trans ?_ (by assumption))) h1); (first | rfl | (go_simp; done) | (go_simp; rfl) | fail))
                 clear hK K)
            refine wpQuiet_nil (fun w' hw' => ?_)
            have hW := Ext.trans2 hW (by repeat (first | exact Ext.refl _ | exact Ext.alloc _ _ | exact Ext.drewN _ _ | assumption | refine Ext.trans ?_ (Ext.alloc _ _) | refine Ext.trans ?_ (Ext.drew _) | refine Ext.trans ?_ (by assumption))) hw'
            try have hV := Ext.trans2 hV (by repeat (first | exact Ext.refl _ | exact Ext.alloc _ _ | exact Ext.drewN _ _ | assumption | refine Ext.trans ?_ (Ext.alloc _ _) | refine Ext.trans ?_ (Ext.drew _) | refine Ext.trans ?_ (by assumption))) hw'
            clear hw'
            go_wp2_with fail
            refine wp_region_ext (by kernel_rfl) (by kernel_rfl) ?_
            repeat
              with_reducible refine wpQuiet_step (fun K hK => ?_)
              go_simp
              first
              | (refine hK _ ?_; clear hK K)
              | (apply Exists.intro
                 refine ⟨fun w1 h1 => ?_, hK _ ?_⟩
                 (have hW := Ext.trans2 hW (by repeat (first | exact Ext.refl _ | exact Ext.alloc _ _ | exact Ext.drewN _ _ | assumption | refine Ext.trans ?_ (Ext.alloc _ _) | refine Ext.trans ?_ (Ext.drew _) | refine Ext.trans ?_ (by assumption))) h1; (try have hV := Ext.trans2 hV (by repeat (first | exact Ext.refl _ | exact Ext.alloc _ _ | exact Ext.drewN _ _ | assumption | refine Ext.trans ?_ (Ext.alloc _ _) | refine Ext.trans ?_ (Ext.drew _) | refine Ext.trans ?_ (by assumption))) h1); (first | rfl | (go_simp; done) | (go_simp; rfl) | fail))
                 clear hK K)
            refine wpQuiet_nil (fun w' hw' => ?_)
            have hW := Ext.trans2 hW (by repeat (first | exact Ext.refl _ | exact Ext.alloc _ _ | exact Ext.drewN _ _ | assumption | refine Ext.trans ?_ (Ext.alloc _ _) | refine Ext.trans ?_ (Ext.drew _) | refine Ext.trans ?_ (by assumption))) hw'
            try have hV := Ext.trans2 hV (by repeat (first | exact Ext.refl _ | exact Ext.alloc _ _ | exact Ext.drewN _ _ | assumption | refine Ext.trans ?_ (Ext.alloc _ _) | refine Ext.trans ?_ (Ext.drew _) | refine Ext.trans ?_ (by assumption))) hw'
            clear hw'
            have HOL2 := hide (own_ext HOL.out hW)
            have HOH2 := hide (own_ext HOH.out hW)
            have HWW := hide (HW1.out.trans hW)
            have hsw := HWW.out.size
            have rw1 := r _ hW
            have rw2 := c0 _ hW
            have rw3 := c1 _ hW
            have rw4 := c2 _ hW
            clear r rp c0 c1 c2 hW
            go_wp2_with (first
              | (at_builtin; refine wpList_app3 rfl rfl Try.underlying25 inf_rpair rfl (by omega) rfl HOL2.out hsw rfl rfl rfl (by simp [Value.oneCell']) (by unfold maxLen; omega) (by omega) ?_; intro v' w3 hown' hg3 hap3; go_frame)
              | go_in)
            have HX3 := hide (Ext.grown (HWW.out.trans (Ext.alloc _ _)) hg3 (own_row HOL2.out))
            go_roundw
            case rel =>
              refine ⟨j + 1, by omega, by go_num, HN1', HN2', ?_, ?_, ?_, HX3.out⟩
              · rw [HS2.out, if_pos e3, List.length_append, ← pcells_snoc]; exact hown'
              · rw [HH2.out, if_pos e3, List.append_nil]
                exact (own_ext HOH2.out (Ext.alloc _ _)).kept hg3 (apart_ne HAP.out)
              · intro k hk q
                rcases hap3 k hk with h | h
                · exact HAP.out k h q
                · have := own_lt HOH2.out k q
                  omega
            case measure => simp [intOf]; omega
          · have d3 : decide (g.s < p.s) = false := by simpa using e3
            go_wp2_with fail
            refine wp_region_ext (by kernel_rfl) (by kernel_rfl) ?_
            repeat
              with_reducible refine wpQuiet_step (fun K hK => ?_)
              go_simp
              first
              | (refine hK _ ?_; clear hK K)
              | (apply Exists.intro
                 refine ⟨fun w1 h1 => ?_, hK _ ?_⟩
                 (have hW := Ext.trans2 hW (by repeat (first | exact Ext.refl _ | exact Ext.alloc _ _ | exact Ext.drewN _ _ | assumption | refine Ext.trans ?_ (Ext.alloc _ _) | refine Ext.trans ?_ (Ext.drew _) | refine Ext.trans ?_ (by assumption))) h1; (try have hV := Ext.trans2 hV (by repeat (first | exact Ext.refl _ | exact Ext.alloc _ _ | exact Ext.drewN _ _ | assumption | refine Ext.trans ?_ (Ext.alloc _ _) | refine Ext.trans ?_ (Ext.drew _) | refine Ext.trans ?_ (by assumption))) h1); (first | rfl | (go_simp; done) | (go_simp; rfl) | fail))
                 clear hK K)
            refine wpQuiet_nil (fun w' hw' => ?_)
            have hW := Ext.trans2 hW (by repeat (first | exact Ext.refl _ | exact Ext.alloc _ _ | exact Ext.drewN _ _ | assumption | refine Ext.trans ?_ (Ext.alloc _ _) | refine Ext.trans ?_ (Ext.drew _) | refine Ext.trans ?_ (by assumption))) hw'
            try have hV := Ext.trans2 hV (by repeat (first | exact Ext.refl _ | exact Ext.alloc _ _ | exact Ext.drewN _ _ | assumption | refine Ext.trans ?_ (Ext.alloc _ _) | refine Ext.trans ?_ (Ext.drew _) | refine Ext.trans ?_ (by assumption))) hw'
            clear hw'
            go_wp2_with fail
            refine wp_region_ext (by kernel_rfl) (by kernel_rfl) ?_
            repeat
              with_reducible refine wpQuiet_step (fun K hK => ?_)
              go_simp
              first
              | (refine hK _ ?_; clear hK K)
              | (apply Exists.intro
                 refine ⟨fun w1 h1 => ?_, hK _ ?_⟩
                 (have hW := Ext.trans2 hW (by repeat (first | exact Ext.refl _ | exact Ext.alloc _ _ | exact Ext.drewN _ _ | assumption | refine Ext.trans ?_ (Ext.alloc _ _) | refine Ext.trans ?_ (Ext.drew _) | refine Ext.trans ?_ (by assumption))) h1; (try have hV := Ext.trans2 hV (by repeat (first | exact Ext.refl _ | exact Ext.alloc _ _ | exact Ext.drewN _ _ | assumption | refine Ext.trans ?_ (Ext.alloc _ _) | refine Ext.trans ?_ (Ext.drew _) | refine Ext.trans ?_ (by assumption))) h1); (first | rfl | (go_simp; done) | (go_simp; rfl) | fail))
                 clear hK K)
            refine wpQuiet_nil (fun w' hw' => ?_)
            have hW := Ext.trans2 hW (by repeat (first | exact Ext.refl _ | exact Ext.alloc _ _ | exact Ext.drewN _ _ | assumption | refine Ext.trans ?_ (Ext.alloc _ _) | refine Ext.trans ?_ (Ext.drew _) | refine Ext.trans ?_ (by assumption))) hw'
            try have hV := Ext.trans2 hV (by repeat (first | exact Ext.refl _ | exact Ext.alloc _ _ | exact Ext.drewN _ _ | assumption | refine Ext.trans ?_ (Ext.alloc _ _) | refine Ext.trans ?_ (Ext.drew _) | refine Ext.trans ?_ (by assumption))) hw'
            clear hw'
            have HOL2 := hide (own_ext HOL.out hW)
            have HOH2 := hide (own_ext HOH.out hW)
            have HWW := hide (HW1.out.trans hW)
            have hsw := HWW.out.size
            have rw1 := r _ hW
            have rw2 := c0 _ hW
            have rw3 := c1 _ hW
            have rw4 := c2 _ hW
            clear r rp c0 c1 c2 hW
            go_wp2_with (first
              | (at_builtin; refine wpList_app3 rfl rfl Try.underlying25 inf_rpair rfl (by omega) rfl HOH2.out hsw rfl rfl rfl (by simp [Value.oneCell']) (by unfold maxLen; omega) (by omega) ?_; intro v' w3 hown' hg3 hap3; go_frame)
              | go_in)
            have HX3 := hide (Ext.grown (HWW.out.trans (Ext.alloc _ _)) hg3 (own_row HOH2.out))
            go_roundw
            case rel =>
              refine ⟨j + 1, by omega, by go_num, HN1', HN2', ?_, ?_, ?_, HX3.out⟩
              · rw [HS2.out, if_neg (by omega), List.append_nil]
                exact (own_ext HOL2.out (Ext.alloc _ _)).kept hg3 (apart_ne fun k hk q => HAP.out k q hk)
              · rw [HH2.out, if_neg (by omega), List.length_append, ← pcells_snoc]; exact hown'
              · intro k hk q
                rcases hap3 k q with h | h
                · exact HAP.out k hk h
                · have := own_lt HOL2.out k hk
                  omega
            case measure => simp [intOf]; omega
    · obtain rfl : j = S.length := by omega
      have E1 := hide (addE_ok HP.out HN1.out HN2.out)
      have E2 := hide (show addS S p = ins S p by unfold addS; rw [E1.out]; rfl)
      have hol := HOL.out
      have hoh := HOH.out
      rw [List.take_length] at hol hoh sl sh
      have HOL2 := hide hol
      have HOH2 := hide hoh
      have hsw := HW1.out.size
      have EP := hide (filter_part (fun q : Pr => decide (q.s < p.s)) S)
      have lt : (lowL S p.s).length + (higL S p.s).length = S.length := EP.out
      have rw1 := r _ hW
      have rw2 := rp _ hW
      clear hol hoh HOL HOH r rp hW
      go_wp2_with (first
        | (at_builtin; refine wpList_app3 rfl rfl Try.underlying25 inf_rpair rfl (by omega) rfl HOL2.out hsw rfl rfl rfl (by simp [Value.oneCell']) (by unfold maxLen; omega) (by omega) ?_; intro v1 w3 hown1 hg3 hap3; have HX3 := hide (Ext.grown (HW1.out.trans (Ext.alloc _ _)) hg3 (own_row HOL2.out)); have HOH3 := hide ((own_ext HOH2.out (Ext.alloc _ _)).kept hg3 (apart_ne HAP.out)); have HO1 := hide hown1; clear hown1 hg3 hap3; go_frame)
        | (at_builtin; refine wpList_cat (W0 := W1) rfl _ _ _ rfl Try.underlying25 inf_rpair rfl (by omega) rfl HO1.out rfl HOH3.out HX3.out (pcells_one _) (by unfold maxLen; omega) (by omega) ?_; intro v2 w4 hown2 hX4; obtain ⟨A2, c2, rfl⟩ := own_sl hown2; have HO2 := hide hown2; have HX4 := hide hX4; have HB4 := hide (HB.out.ext hX4); have q1 := HB4.out.cell; have q2 := HB4.out.free; clear hown2 hX4; go_frame)
        | go_in)
      go_ret
      have hb := HB4.out.set 0 (.slice A2 ((lowL S p.s).length + 1 + (higL S p.s).length) c2)
      rw [show (#[Value.slice A S.length c].setIfInBounds 0 (.slice A2 ((lowL S p.s).length + 1 + (higL S p.s).length) c2)) = #[.slice A2 ((lowL S p.s).length + 1 + (higL S p.s).length) c2] by simp] at hb
      have hs := (Chg.refl [R] w4).set (p := ⟨R, 0, none⟩) (.inl (by simp)) (.slice A2 ((lowL S p.s).length + 1 + (higL S p.s).length) c2)
      have hx := HXX.out.trans HX4.out
      refine ⟨by rw [E1.out]; simp, ?_, (hx.chg [R]).trans hs⟩
      rw [E2.out]
      refine ⟨_, hb, ?_⟩
      have q := own_low (own_chg HO2.out hs (by intro t ht; simp at ht; omega)) (show B ≤ W1.heap.size by omega)
      have ei : (ins S p).length = (lowL S p.s).length + 1 + (higL S p.s).length := by unfold ins; rw [List.length_append, List.length_cons]; omega
      have ec : pcells (ins S p) = pcells (lowL S p.s) ++ [.int .i64 p.s, .int .i64 p.o, .int .i64 p.t] ++ pcells (higL S p.s) := by unfold ins; rw [pcells_append, List.append_assoc]; rfl
      rw [ei, ec]
      exact q
theorem radd_any {w : World} {B R : Nat} {S : List Pr} (p : Pr) (hr : RefT w B R S) (ok : OkS S) (hBR : R < B) (hBw : B ≤ w.heap.size) :
    Calls Try.prog 13 #[(.pointer (some ⟨R, 0, none⟩)), (Value.agg #[.int .i64 p.s, .int .i64 p.o, .int .i64 p.t])] w fun e w' => e = .returned (.int .i64 (addE S p)) ∧ RefT w' B R (addS S p) ∧ Chg [R] w w' := by
  cases hp : okP p with
  | true => exact radd_ok p hr ok hp hBR hBw
  | false =>
    have E1 : addE S p = 1 := by unfold addE; rw [hp]; rfl
    have E2 : addS S p = S := by unfold addS; rw [E1]; rfl
    rw [E1, E2]
    exact (radd_arg p hr hp).mono fun e w' ⟨h1, h2⟩ => ⟨h1, hr.ext h2, h2.chg _⟩
end Go.Proofs.Ytcgbbgljchfbcaa
