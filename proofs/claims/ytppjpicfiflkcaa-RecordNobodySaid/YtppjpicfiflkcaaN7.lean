/- Push, and Delete of the library, and Pop. -/
import Derived.Test.YtppjpicfiflkcaaN6
import Derived.Lib.SliceRun
import Derived.Deep.RegionLaw
namespace Go.Proofs.Ytppjpicfiflkcaa
open Go.RowKit
set_option linter.unusedSimpArgs false
set_option linter.unusedVariables false

theorem inf_rec : (Try.prog.info? 38).map (fun i => (i.zero, i.size, i.bytes)) = some (some (.agg #[.int .i64 0, .int .u64 0]), 2, 16) := by kernel_rfl
theorem Blk.type {w : World} {g : Nat} {a b : Array Value} {s t : TypeId} (h : Blk w g a s) (k : Blk w g b t) : s = t := by
  unfold Blk at h k
  rw [h] at k
  simp only [Option.some.injEq, Obj.cells.injEq] at k
  exact k.2.1
def okO (a : Int) : Bool := decide (0 ≤ a ∧ a ≤ 65535)
def pushE (N : Int) (l : List Rec) (a : Int) : Int := if 0 < N then (if okO a = true then (if (l.length : Int) = N then 5 else 0) else 1) else 2
def pushA (N : Int) (l : List Rec) (a : Int) : Int := if pushE N l a = 0 then l.length else 0
def pushL (N : Int) (l : List Rec) (a s : Int) : List Rec := if pushE N l a = 0 then l ++ [(a, s)] else l
theorem Row.ownB {w : World} {E : TypeId} {M g base : Nat} {v : Value} {l : List Rec} (h : Row w E M g v l) (hb : base ≤ g) : w.ownsRow base E 2 v l.length (rcells l) := by
  rcases h with ⟨rfl, rfl, _⟩ | ⟨cap, cur, rfl, _, hb2, h1, h2, h3, h4⟩
  · exact own_nil _ _ _ _
  · exact ⟨rcells_length l, .inr ⟨g, cap, cur, rfl, hb, hb2, h1, h2, h3, h4⟩⟩
/-- What a row that was made is, of a structure at M whose type is another one. -/
theorem row_own {w : World} {E T : TypeId} {M base : Nat} {c : Array Value} {v : Value} {l : List Rec} (h : w.ownsRow base E 2 v l.length (rcells l)) (hM : Blk w M c T) (hne : E ≠ T) (hb : base ≤ M) : ∃ g, Row w E M g v l ∧ base ≤ g := by
  rcases h.2 with ⟨rfl, h0⟩ | ⟨g, cap, cur, rfl, hb, hh, h3, h4, h5, h6⟩
  · exact ⟨M, .inl ⟨rfl, List.eq_nil_of_length_eq_zero h0, rfl⟩, hb⟩
  · exact ⟨g, .inr ⟨cap, cur, rfl, by rintro rfl; exact hne (Blk.type (show Blk w g cur E from hh) hM), hh, h3, h4, h5, h6⟩, hb⟩
theorem Row.ownBlock {w : World} {E : TypeId} {M g : Nat} {v : Value} {l : List Rec} (h : Row w E M g v l) : ∀ k, v.ownBlock = some k → k = g ∧ g ≠ M := by
  intro k hk
  rcases h with ⟨rfl, rfl, _⟩ | ⟨cap, cur, rfl, hn, _⟩
  · cases hk
  · cases hk; exact ⟨rfl, hn⟩
theorem Chg.of_grow {T : List Nat} {w0 w w' : World} {row : Option Nat} (h : Chg T w0 w) (hg : w.grownBy w' row) (hr : ∀ k, row = some k → k ∈ T) : Chg T w0 w' :=
  ⟨hg.os.trans h.os, hg.tape.trans h.tape, hg.output.trans h.output, Nat.le_trans h.size hg.size, fun k hk hT => (hg.block k (Nat.lt_of_lt_of_le hk h.size) (fun e => hT (hr k e.symm))).trans (h.block k hk hT)⟩
theorem push_out {w : World} {p : Value} {N a : Int} {l : List Rec} (s : Int) (h : Lst w p N l) (he : pushE N l a ≠ 0) :
    Calls Try.prog 15 #[p, .int .i64 a, .int .u64 s] w fun e w' => e = .returned (.tuple #[.int .i64 0, .int .i64 (pushE N l a)]) ∧ Ext w w' := by
  unfold pushE at he
  by_cases h0 : 0 < N
  · have E0 := decide_eq_true h0
    by_cases h1 : okO a = true
    · by_cases h2 : (l.length : Int) = N
      · have E := hide (show pushE N l a = 5 by unfold pushE; rw [if_pos h0, if_pos h1, if_pos h2])
        obtain ⟨k0, k1⟩ := of_decide_eq_true h1
        have b0 : ¬ a < 0 := by omega
        have b1 : ¬ 65535 < a := by omega
        clear he
        rcases h with ⟨rfl, rfl, rfl⟩ | ⟨M, g, rfl, h⟩
        · omega
        · have h9 := h
          obtain ⟨v, hb, hr⟩ := h9
          obtain ⟨A, c, rfl, hs⟩ := hr.len
          have r := hb.rule
          have hW := Ext.refl w
          have H2 : ((l.length : Int) == N) = true := by simp [h2]
          clear hr hs hb h2
          go_enter Try.func15, Try.ntmps15
          go_wp2_with fail
          refine (made_any h.lst).mono ?_
          rw [E0]
          rintro e w1 ⟨rfl, rfl⟩
          go_wp2_with fail
          refine wp_region_ext (by kernel_rfl) (by kernel_rfl) ?_
          repeat
            with_reducible refine wpQuiet_step (fun K hK => ?_)
            go_simp
            first
            | (refine hK _ ?_; clear hK K)
            | (apply Exists.intro
               refine ⟨fun w1 h1 => ?_, hK _ ?_⟩
               (have hW := Ext.trans2 hW (by repeat (first | exact Ext.refl _ | exact Ext.alloc _ _ | exact Ext.drewN _ _ | assumption | refine Ext.trans ?_ (Ext.alloc _ _) | refine Ext.trans ?_ (Ext.drew _) | refine Ext.trans ?_ (by assumption))) h1; (try have hV := Ext.trans2 hV (by repeat (first | exact Ext.refl _ | exact Ext.alloc _ _ | exact Ext.drewN _ _ | assumption | refine Ext.trans ?_ (Ext.alloc _ _) | refine Ext.trans ?_ (Ext.drew _) | refine Ext.trans ?_ (by assumption))) h1); (first | rfl | (go_simp; done) | (go_simp; rfl) | fail))
               clear hK K)
          refine wpQuiet_nil (fun w' hw' => ?_)
          have hW := Ext.trans2 hW (by repeat (first | exact Ext.refl _ | exact Ext.alloc _ _ | exact Ext.drewN _ _ | assumption | refine Ext.trans ?_ (Ext.alloc _ _) | refine Ext.trans ?_ (Ext.drew _) | refine Ext.trans ?_ (by assumption))) hw'
          try have hV := Ext.trans2 hV (by repeat (first | exact Ext.refl _ | exact Ext.alloc _ _ | exact Ext.drewN _ _ | assumption | refine Ext.trans ?_ (Ext.alloc _ _) | refine Ext.trans ?_ (Ext.drew _) | refine Ext.trans ?_ (by assumption))) hw'
          clear hw'
          go_wp2_with fail
          go_ret2
          exact ⟨by rw [E.out]; simp, by assumption⟩
      · exact absurd (show (if 0 < N then (if okO a = true then (if (l.length : Int) = N then (5 : Int) else 0) else 1) else 2) = 0 by rw [if_pos h0, if_pos h1, if_neg h2]) he
    · have E := hide (show pushE N l a = 1 by unfold pushE; rw [if_pos h0, if_neg h1])
      have h1 : ¬ (0 ≤ a ∧ a ≤ 65535) := fun q => h1 (decide_eq_true q)
      clear he
      by_cases hz : a < 0
      · go_enter Try.func15, Try.ntmps15
        go_wp2_with fail
        refine (made_any h).mono ?_
        rw [E0]
        rintro e w1 ⟨rfl, rfl⟩
        go_wp2_with fail
        go_ret2
        exact ⟨by rw [E.out]; simp, Ext.refl _⟩
      · have hz2 : 65535 < a := by omega
        go_enter Try.func15, Try.ntmps15
        go_wp2_with fail
        refine (made_any h).mono ?_
        rw [E0]
        rintro e w1 ⟨rfl, rfl⟩
        go_wp2_with fail
        go_ret2
        exact ⟨by rw [E.out]; simp, Ext.refl _⟩
  · have E := hide (show pushE N l a = 2 by unfold pushE; rw [if_neg h0])
    have E0 := decide_eq_false h0
    clear he
    go_enter Try.func15, Try.ntmps15
    go_wp2_with fail
    refine (made_any h).mono ?_
    rw [E0]
    rintro e w1 ⟨rfl, rfl⟩
    go_wp2_with fail
    go_ret2
    exact ⟨by rw [E.out]; simp, Ext.refl _⟩
/-- 'out = append(out, x)': the row stays where it lay, or is a new block. -/
theorem wpList_app3 {P : Program} {w : World} {base : Nat} {ops : Array Oper} {rest : List Oper} {o : Oper} {a : Act} {Q : Exit → Act → World → Prop} {s x : Operand} {t : TypeId} (hgd : o.guard = none)
    (ho : o.op = .call { callee := .builtin .append, args := #[s, x], argTypes := #[t, t] })
    {e : TypeId} {z : Value} {size bytes : Nat} (ht : P.underlying t = some (.slice e)) (hinf : (P.info? e).map (fun i => (i.zero, i.size, i.bytes)) = some (some z, size, bytes))
    (hzs : z.cells.size = size) (hsz : 0 < size)
    {v : Value} {n : Nat} {xs : List Value} (hs : a.eval s = v) (hown : w.ownsRow base e size v n xs) (hbase : base ≤ w.heap.size)
    {cs : Array Value} {c g : Nat} (hx : a.eval x = .slice (some ⟨g, 0, none⟩) 1 c) (hg : g = w.heap.size) (hcs : cs.size = size) (h1 : ∀ u ∈ cs.toList, u.oneCell' = true)
    (hn : n + 1 ≤ maxLen) (hby : (n + 1) * bytes ≤ 140737488355328)
    (h : ∀ v' w', w'.ownsRow base e size v' (n + 1) (xs ++ cs.toList) → (w.alloc (.cells cs e)).grownBy w' v.ownBlock → (∀ k, v'.ownBlock = some k → v.ownBlock = some k ∨ w.heap.size ≤ k) → wpList P ops Q rest (a.put o.dst v') w') :
    wpList P ops Q (o :: rest) a (w.alloc (.cells cs e)) := by
  subst hg
  have hnews : ∀ j u, cs.toList[j]? = some u → (w.alloc (.cells cs e)).cell? ((⟨w.heap.size, 0, none⟩ : Addr).add j) = some u := by
    intro j u hu
    have : (w.alloc (.cells cs e)).cell? ⟨w.heap.size, j, none⟩ = cs[j]? := cell_of_row _ _ j cs e (0, 0) (heap_alloc_new w _)
    rw [Array.getElem?_toList] at hu
    rw [← hu, ← this, Addr.add_lit, Nat.zero_add]
  obtain ⟨i, hi, hz, hsize, hb⟩ := info_parts hinf
  have hl : cs.toList.length = 1 * size := by simp [hcs]
  have hown' := own_ext hown (Ext.alloc w (.cells cs e))
  have hnew : ∀ v' w', w'.ownsRow (w.alloc (.cells cs e)).heap.size e size v' (n + 1) (xs ++ cs.toList) → (w.alloc (.cells cs e)).grownBy w' none → wpList P ops Q rest (a.put o.dst v') w' := by
    intro v' w' h2 h3
    exact h v' w' (own_low h2 (by simp; omega)) ⟨h3.os, h3.tape, h3.output, h3.size, fun k hk _ => h3.block k hk (by simp)⟩ (fun k hk => .inr (by have := own_row h2 k hk; simp at this; omega))
  rcases hown'.2 with ⟨rfl, rfl⟩ | ⟨g, cap, cur, rfl, hbg, hh, hnc, hcm, hcs2, htake⟩
  · have e0 : xs = [] := List.eq_nil_of_length_eq_zero (by simpa using hown.1)
    subst e0
    refine wpList_append_own _ hgd s x t ho (w.alloc (.cells cs e)).heap.size e i z size bytes ht hi hz hsize hb hzs hsz (.slice none 0 0) 0 [] hs (own_nil _ _ _ _) ⟨w.heap.size, 0, none⟩ 1 c cs.toList hx hl hnews h1 hn hby (Nat.le_refl _) ?_
    intro v' w' h2 h3 _
    exact hnew v' w' h2 ⟨h3.os, h3.tape, h3.output, h3.size, fun k hk _ => h3.block k hk (by simp [Value.ownBlock])⟩
  · by_cases hr : n + 1 ≤ cap
    · refine wpList_append_fits _ hgd s x t ho base e i size ht hi hsize g n cap xs hs hown' ⟨w.heap.size, 0, none⟩ 1 c cs.toList hx hl hnews h1 hr ?_
      intro w' h2 h3
      exact h _ w' h2 h3 (fun k hk => .inl hk)
    · refine wpList_append_grows _ hgd s x t ho e i z size bytes ht hi hz hsize hb hzs hsz (some ⟨g, 0, none⟩) n cap xs hs (fun q => by cases q) hown'.1 (fun b hbb => ?_) ⟨w.heap.size, 0, none⟩ 1 c cs.toList hx hl hnews h1 (by omega) hn hby hnew
      simp only [Option.some.injEq] at hbb
      subst hbb
      exact hown'.cells rfl
set_option maxRecDepth 100000 in
theorem push_in {w : World} {M g base : Nat} {N a : Int} {l : List Rec} (s : Int) (h : St 58 38 w M g N l) (hbM : base ≤ M) (hbg : base ≤ g) (hl : (l.length : Int) ≤ N) (hN : N ≤ 512) (he : pushE N l a = 0) :
    Calls Try.prog 15 #[(.pointer (some ⟨M, 0, none⟩)), .int .i64 a, .int .u64 s] w fun e w' => e = .returned (.tuple #[.int .i64 l.length, .int .i64 0]) ∧ ∃ g', St 58 38 w' M g' N (l ++ [(a, s)]) ∧ base ≤ g' ∧ Chg [M, g] w w' ∧ (g' = g ∨ w.heap.size ≤ g') := by
  have hh : 0 < N ∧ okO a = true ∧ ¬ (l.length : Int) = N := by
    unfold pushE at he
    by_cases h0 : 0 < N
    · rw [if_pos h0] at he
      by_cases h1 : okO a = true
      · rw [if_pos h1] at he
        by_cases h2 : (l.length : Int) = N
        · rw [if_pos h2] at he; omega
        · exact ⟨h0, h1, h2⟩
      · rw [if_neg h1] at he; omega
    · rw [if_neg h0] at he; omega
  obtain ⟨h0, h1, h2⟩ := hh
  have E0 := decide_eq_true h0
  obtain ⟨k0, k1⟩ := of_decide_eq_true h1
  have b0 : ¬ a < 0 := by omega
  have b1 : ¬ 65535 < a := by omega
  have H2 : ((l.length : Int) == N) = false := by simp [h2]
  have h9 := h
  obtain ⟨v, hb, hr⟩ := h9
  have hown := hr.ownB hbg
  have HR := hide hr.ownBlock
  obtain ⟨A, c, rfl, hs⟩ := hr.len
  have r := hb.rule
  have hW := Ext.refl w
  have HB := hide hb
  have lM := h.ltM
  have lg := h.ltg
  clear hr hs hb h1 he
  go_enter Try.func15, Try.ntmps15
  go_wp2_with fail
  refine (made_any h.lst).mono ?_
  rw [E0]
  rintro e w1 ⟨rfl, rfl⟩
  go_wp2_with fail
  refine wp_region_ext (by kernel_rfl) (by kernel_rfl) ?_
  repeat
    with_reducible refine wpQuiet_step (fun K hK => ?_)
    go_simp
    first
    | (refine hK _ ?_; clear hK K)
    | (apply Exists.intro
       refine ⟨fun w1 h1 => ?_, hK _ ?_⟩
       (have hW := Ext.trans2 hW (by repeat (first | exact Ext.refl _ | exact Ext.alloc _ _ | exact Ext.drewN _ _ | assumption | refine Ext.trans ?_ (Ext.alloc _ _) | refine Ext.trans ?_ (Ext.drew _) | refine Ext.trans ?_ (by assumption))) h1; (try have hV := Ext.trans2 hV (by repeat (first | exact Ext.refl _ | exact Ext.alloc _ _ | exact Ext.drewN _ _ | assumption | refine Ext.trans ?_ (Ext.alloc _ _) | refine Ext.trans ?_ (Ext.drew _) | refine Ext.trans ?_ (by assumption))) h1); (first | rfl | (go_simp; done) | (go_simp; rfl) | fail))
       clear hK K)
  refine wpQuiet_nil (fun w' hw' => ?_)
  have hW := Ext.trans2 hW (by repeat (first | exact Ext.refl _ | exact Ext.alloc _ _ | exact Ext.drewN _ _ | assumption | refine Ext.trans ?_ (Ext.alloc _ _) | refine Ext.trans ?_ (Ext.drew _) | refine Ext.trans ?_ (by assumption))) hw'
  try have hV := Ext.trans2 hV (by repeat (first | exact Ext.refl _ | exact Ext.alloc _ _ | exact Ext.drewN _ _ | assumption | refine Ext.trans ?_ (Ext.alloc _ _) | refine Ext.trans ?_ (Ext.drew _) | refine Ext.trans ?_ (by assumption))) hw'
  clear hw'
  have hown2 := own_ext hown hW
  have HB2 := hide (HB.out.ext hW)
  have HC := hide (hW.chg [M, g])
  have HL := hW.size
  have r0 := HB2.out.cell
  have r2 := fun o => (HB2.out.ext (Ext.alloc w' o)).cell
  clear hW r hown h
  go_wp2_with (first
    | (at_builtin; refine wpList_app3 (g := w'.heap.size) rfl rfl Try.underlying53 inf_rec rfl (by omega) rfl hown2 (by omega) rfl rfl rfl (by simp [Value.oneCell']) (by unfold maxLen; omega) (by omega) ?_; intro v' w3 hown' hg3 hnw; obtain ⟨A3, c3, rfl⟩ := own_sl hown'; have HO := hide hown'; have HNW : Hid (∀ k, (Value.slice A3 (l.length + 1) c3).ownBlock = some k → (Value.slice A l.length c).ownBlock = some k ∨ w'.heap.size ≤ k) := hnw; clear hnw; have HB3 := hide ((HB2.out.ext (Ext.alloc _ _)).grown hg3 (fun k e => by have := HR.out k e; omega)); have HC3 := hide ((HC.out.trans (Chg.alloc _ _ _)).of_grow hg3 (fun k e => by have := HR.out k e; simp [this.1])); have q1 := HB3.out.cell; have q2 := HB3.out.free; clear hown' hg3 hown2; go_frame)
    | go_in)
  go_ret2
  have hb := HB3.out.set 1 (.slice A3 (l.length + 1) c3)
  rw [show (#[Value.int .i64 N, .slice A l.length c].setIfInBounds 1 (.slice A3 (l.length + 1) c3)) = #[.int .i64 N, .slice A3 (l.length + 1) c3] by simp] at hb
  have hs := (Chg.refl [M] w3).set (p := ⟨M, 1, none⟩) (.inl (by simp)) (.slice A3 (l.length + 1) c3)
  have hown3 := HO.out
  have e1 : l.length + 1 = (l ++ [(a, s)]).length := by simp
  rw [show ([Value.int .i64 a, .int .u64 s] : List Value) = rcells [(a, s)] by simp [rcells], ← rcells_append, e1] at hown3
  obtain ⟨g', hrow, hbg'⟩ := row_own hown3 HB3.out (by decide) hbM
  have hne : g' ∉ [M] := by
    rcases hrow with ⟨q, q2, _⟩ | ⟨_, _, _, q, _⟩
    · exact absurd q2 (by simp)
    · simpa using q
  refine ⟨by simp, g', ⟨_, hb, by rw [← e1] at hrow; exact hrow.chg hs hne⟩, hbg', HC3.out.set (p := ⟨M, 1, none⟩) (.inl (by simp)) _, ?_⟩
  have hgn : (Value.slice A3 (l.length + 1) c3).ownBlock = some g' := by
    rcases hrow with ⟨q, q2, _⟩ | ⟨_, _, q, _⟩
    · exact absurd q2 (by simp)
    · rw [e1, q]; rfl
  rcases HNW.out g' hgn with q | q
  · exact .inl (HR.out g' q).1
  · exact .inr (by omega)
theorem push_any2 {w : World} {M g base : Nat} {N a : Int} {l : List Rec} (s : Int) (h : St 58 38 w M g N l) (hbM : base ≤ M) (hbg : base ≤ g) (hl : (l.length : Int) ≤ N) (hN : N ≤ 512) :
    Calls Try.prog 15 #[(.pointer (some ⟨M, 0, none⟩)), .int .i64 a, .int .u64 s] w fun e w' => e = .returned (.tuple #[.int .i64 (pushA N l a), .int .i64 (pushE N l a)]) ∧ ∃ g', St 58 38 w' M g' N (pushL N l a s) ∧ base ≤ g' ∧ Chg [M, g] w w' ∧ (g' = g ∨ w.heap.size ≤ g') := by
  by_cases he : pushE N l a = 0
  · unfold pushA pushL
    rw [if_pos he, if_pos he, he]
    exact push_in s h hbM hbg hl hN he
  · unfold pushA pushL
    rw [if_neg he, if_neg he]
    refine (push_out s h.lst he).mono ?_
    rintro e w1 ⟨rfl, hx⟩
    exact ⟨rfl, g, h.ext hx, hbg, hx.chg _, .inl rfl⟩
theorem push_any {w : World} {M g base : Nat} {N a : Int} {l : List Rec} (s : Int) (h : St 58 38 w M g N l) (hbM : base ≤ M) (hbg : base ≤ g) (hl : (l.length : Int) ≤ N) (hN : N ≤ 512) :
    Calls Try.prog 15 #[(.pointer (some ⟨M, 0, none⟩)), .int .i64 a, .int .u64 s] w fun e w' => e = .returned (.tuple #[.int .i64 (pushA N l a), .int .i64 (pushE N l a)]) ∧ ∃ g', St 58 38 w' M g' N (pushL N l a s) ∧ base ≤ g' ∧ Chg [M, g] w w' :=
  (push_any2 s h hbM hbg hl hN).mono fun e w' ⟨h1, g', h2, h3, h4, _⟩ => ⟨h1, g', h2, h3, h4⟩
/-- A row with values laid in it from a place on. -/
def layC (cs : Array Value) : Nat → List Value → Array Value
  | _, [] => cs
  | o, v :: r => layC (cs.setIfInBounds o v) (o + 1) r
theorem layC_size (vs : List Value) : ∀ (o : Nat) (cs : Array Value), (layC cs o vs).size = cs.size := by
  induction vs with
  | nil => intro o cs; rfl
  | cons v r ih => intro o cs; rw [layC, ih]; simp
theorem layC_get (vs : List Value) : ∀ (o k : Nat) (cs : Array Value), o + vs.length ≤ cs.size → (layC cs o vs)[k]? = if o ≤ k ∧ k < o + vs.length then vs[k - o]? else cs[k]? := by
  induction vs with
  | nil => intro o k cs _; rw [layC, if_neg (fun q => by simp at q; omega)]
  | cons v r ih =>
    intro o k cs h
    simp only [List.length_cons] at h ⊢
    rw [layC, ih (o + 1) k _ (by simp; omega), Array.getElem?_setIfInBounds]
    by_cases e : o = k
    · subst e
      rw [if_neg (by omega), if_pos rfl, if_pos (by omega), if_pos (by omega), Nat.sub_self]
      rfl
    · rw [if_neg e]
      by_cases q : o + 1 ≤ k ∧ k < o + 1 + r.length
      · rw [if_pos q, if_pos (by omega), show k - o = (k - (o + 1)) + 1 by omega, List.getElem?_cons_succ]
      · rw [if_neg q, if_neg (by omega)]
theorem Blk.lay {g : Nat} {t : TypeId} (vs : List Value) : ∀ (o : Nat) (w : World) (cs : Array Value), Blk w g cs t → Blk (w.setCells g o vs) g (layC cs o vs) t := by
  induction vs with
  | nil => intro o w cs h; exact h
  | cons v r ih => intro o w cs h; exact ih (o + 1) _ _ (h.set o v)
theorem Chg.lay {T : List Nat} {g : Nat} (hg : g ∈ T) (vs : List Value) : ∀ (o : Nat) (w w' : World), Chg T w w' → Chg T w (w'.setCells g o vs) := by
  induction vs with
  | nil => intro o w w' h; exact h
  | cons v r ih => intro o w w' h; exact ih (o + 1) _ _ (h.set (p := ⟨g, o, none⟩) (.inl hg) v)
theorem zero_rec (w : World) : (zeroValue 38).run Try.prog w = .ok (.agg #[.int .i64 0, .int .u64 0]) w := by kernel_rfl
theorem run_clear2 (w : World) (ty : TypeId) (b o c : Nat) (hc : ∀ j, j < 2 → (w.cell? ⟨b, o + j, none⟩).isSome = true) (hf : ∀ j, j < 2 → w.frozen? ⟨b, o + j, none⟩ = false) :
    (Builtin.clear_ #[53] ty #[.slice (some ⟨b, o, none⟩) 1 c]).run Try.prog w = .ok (.tuple #[]) (w.setCells b o [.int .i64 0, .int .u64 0]) := by
  have hst := run_storeCells_cells (P := Try.prog) b o [.int .i64 0, .int .u64 0] 0 w (by simpa using hc) (by simpa using hf) (by simp [Value.oneCell'])
  simp only [Nat.add_zero] at hst
  have hz : (Builtin.zeroCells (Value.agg #[.int .i64 0, .int .u64 0]).cells 1).toList = [.int .i64 0, .int .u64 0] := by simp [Builtin.zeroCells, Value.cells, List.range_succ]
  simp [Builtin.clear_, run_underlying Try.underlying53, zero_rec, hz, hst]
theorem del_cells (l : List Rec) (i : Nat) (hi : i < l.length) (cap : Nat) (cur : Array Value) (h1 : l.length ≤ cap) (h3 : cur.size = cap * 2) (h4 : cur.toList.take (l.length * 2) = rcells l) :
    (layC (layC cur (i * 2) (rcells (l.drop (i + 1)))) ((l.length - 1) * 2) [.int .i64 0, .int .u64 0]).toList.take ((l.length - 1) * 2) = rcells (l.eraseIdx i) := by
  have e0 : (rcells (l.drop (i + 1))).length = (l.length - (i + 1)) * 2 := by rw [rcells_length, List.length_drop]
  have e1 : (rcells (l.eraseIdx i)).length = (l.length - 1) * 2 := by rw [rcells_length, List.length_eraseIdx_of_lt hi]
  apply List.ext_getElem?
  intro k
  by_cases hk : k < (l.length - 1) * 2
  · rw [List.getElem?_take_of_lt hk, Array.getElem?_toList, layC_get _ _ _ _ (by rw [layC_size]; simp; omega), if_neg (by omega), layC_get _ _ _ _ (by rw [e0]; omega), e0, List.eraseIdx_eq_take_drop_succ, rcells_append]
    have e2 : (rcells (l.take i)).length = i * 2 := by rw [rcells_length, List.length_take]; congr 1; omega
    by_cases q : i * 2 ≤ k
    · rw [if_pos (by omega), List.getElem?_append_right (by omega), e2]
    · rw [if_neg (by omega), List.getElem?_append_left (by omega), rcells_take, List.getElem?_take_of_lt (by omega), ← h4, List.getElem?_take_of_lt (by omega), Array.getElem?_toList]
  · rw [List.getElem?_take_eq_none (by omega), List.getElem?_eq_none (by omega)]
set_option maxHeartbeats 4000000 in
set_option maxRecDepth 1000000 in
theorem del_any {w : World} {g i cap : Nat} {cur : Array Value} {l : List Rec} (hb : Blk w g cur 38) (hi : i < l.length) (h1 : l.length ≤ cap) (h2 : cap ≤ maxLen) (h3 : cur.size = cap * 2) (h4 : cur.toList.take (l.length * 2) = rcells l) (hl : l.length ≤ 1000) :
    Calls Try.prog 24 #[.slice (some ⟨g, 0, none⟩) l.length cap, .int .i64 (i : Int), .int .i64 ((i : Int) + 1)] w fun e w' => e = .returned (.slice (some ⟨g, 0, none⟩) (l.length - 1 : Nat) cap) ∧
      (∃ cur', Blk w' g cur' 38 ∧ cur'.size = cap * 2 ∧ cur'.toList.take ((l.length - 1) * 2) = rcells (l.eraseIdx i)) ∧ Chg [g] w w' := by
  obtain ⟨i0, hi0, hz0, hz1, hz2⟩ := info_parts inf_rec
  unfold maxLen at h2
  obtain ⟨news, hnews⟩ : ∃ news, news = rcells (l.drop (i + 1)) := ⟨_, rfl⟩
  have hlen : news.length = (l.length - (i + 1)) * 2 := by rw [hnews, rcells_length, List.length_drop]
  have hcell : ∀ k, k < l.length * 2 → w.cell? ⟨g, k, none⟩ = (rcells l)[k]? := by
    intro k hk
    rw [hb.cell, ← h4, List.getElem?_take_of_lt hk, Array.getElem?_toList]
  obtain ⟨A, hA, hsrc⟩ : ∃ A : Addr, (if cap = i + 1 then some (⟨g, 0, none⟩ : Addr) else some ⟨g, (i + 1) * 2, none⟩) = some A ∧ Hid (∀ t u, news[t]? = some u → w.drew.cell? (A.add t) = some u) := by
    by_cases h : cap = i + 1
    · refine ⟨⟨g, 0, none⟩, by simp [h], fun t u hu => ?_⟩
      have h0 : news.length = 0 := by rw [hlen]; omega
      rw [List.length_eq_zero_iff.1 h0] at hu
      simp at hu
    · refine ⟨⟨g, (i + 1) * 2, none⟩, by simp [h], fun t u hu => ?_⟩
      have ht : t < (l.length - (i + 1)) * 2 := by
        have := (List.getElem?_eq_some_iff.1 hu).1
        rwa [hlen] at this
      rw [hnews, rcells_drop, List.getElem?_drop] at hu
      rw [Addr.add_lit, ← hu]
      exact hcell _ (by omega)
  have s1 : Hid (news.length = (l.length - (i + 1)) * 2) := hlen
  have s2 : Hid (∀ u ∈ news, u.oneCell' = true) := by rw [hnews]; exact rcells_one _
  have s3 : Hid (∀ t, t < news.length → (w.drew.cell? ⟨g, 0 + i * 2 + t, none⟩).isSome = true ∧ w.drew.frozen? ⟨g, 0 + i * 2 + t, none⟩ = false) := by
    intro t ht
    rw [hlen] at ht
    refine ⟨?_, hb.free _⟩
    show (w.cell? _).isSome = true
    rw [hb.cell]
    simp
    omega
  obtain ⟨W1, hW1⟩ : ∃ W1, W1 = w.drew.setCells g (0 + i * 2) news := ⟨_, rfl⟩
  have hb1 : Blk W1 g (layC cur (i * 2) news) 38 := by
    rw [hW1, Nat.zero_add]
    exact Blk.lay _ _ _ _ (hb.ext (Ext.drew w))
  have hc1 : Chg [g] w W1 := by rw [hW1]; exact Chg.lay (by simp) _ _ _ _ (Chg.drew _ _)
  have em : i + (l.length - (i + 1)) = l.length - 1 := by omega
  have hcl : ∀ ty, (Builtin.clear_ #[53] ty #[.slice (some ⟨g, (i + (l.length - (i + 1))) * 2, none⟩) (l.length - (i + (l.length - (i + 1)))) (cap - (i + (l.length - (i + 1))))]).run Try.prog W1 = .ok (.tuple #[]) (W1.setCells g ((i + (l.length - (i + 1))) * 2) [.int .i64 0, .int .u64 0]) := by
    intro ty
    rw [em, show l.length - (l.length - 1) = 1 by omega]
    exact run_clear2 W1 ty g _ _ (fun j hj => by rw [hb1.cell]; simp [layC_size]; omega) (fun j hj => hb1.free _)
  have X : Hid (∃ cur', Blk (W1.setCells g ((i + (l.length - (i + 1))) * 2) [.int .i64 0, .int .u64 0]) g cur' 38 ∧ cur'.size = cap * 2 ∧ cur'.toList.take ((l.length - 1) * 2) = rcells (l.eraseIdx i)) := by
    rw [em]
    exact ⟨_, Blk.lay _ _ _ _ hb1, by rw [layC_size, layC_size, h3], by rw [hnews]; exact del_cells l i hi cap cur h1 h3 h4⟩
  have Y : Hid (Chg [g] w (W1.setCells g ((i + (l.length - (i + 1))) * 2) [.int .i64 0, .int .u64 0])) := Chg.lay (by simp) _ _ _ _ hc1
  have EM := hide em
  clear em
  have hW : Hid (W1 = w.drew.setCells g (0 + i * 2) news) := hW1
  have hne : ((i : Int) == (i : Int) + 1) = false := by simp; omega
  clear hW1 hb1 hc1 hb hnews hlen hcell h3 h4
  go_enter Try.func24, Try.ntmps24
  go_wp2_with fail
  have hic : i ≤ cap := by omega
  have g0 : 0 ≤ (i : Int) + 1 := by omega
  have g1 : (i : Int) + 1 ≤ (l.length : Int) := by omega
  have hjc : i + 1 ≤ cap := by omega
  go_region_law (refine step_append_room rfl (.tmp 22) (.tmp 25) 53 rfl 38 i0 2 Try.underlying53 hi0 hz1 g 0 i cap (by simp [Act.eval, Act.put]) A (l.length - (i + 1)) (cap - (i + 1)) news (by simp [Act.eval, Act.put]) s1.out hsrc.out s2.out (by omega) s3.out ?_; rw [← hW.out])
  go_wp2_with fail
  go_ret
  exact ⟨by rw [← EM.out]; simp, X.out, Y.out⟩
/-- Those that are left by a Pop. -/
def popL (N : Int) (l : List Rec) (a : Int) : List Rec := if 0 < N ∧ 0 ≤ topI l a then l.eraseIdx (topI l a).toNat else l
theorem topI_lt (l : List Rec) (a : Int) : topI l a < l.length := by
  rcases topI_is l a with ⟨h, _⟩ | ⟨k, hk, h, _⟩ <;> omega
theorem topI_ge (l : List Rec) (a : Int) : -1 ≤ topI l a := by
  rcases topI_is l a with ⟨h, _⟩ | ⟨k, hk, h, _⟩ <;> omega
theorem erA_ne {N : Int} {l : List Rec} {z : Int} (h : ¬ (0 < N ∧ 0 ≤ z ∧ z < l.length)) : erA N l z ≠ 0 := by
  unfold erA
  by_cases h0 : 0 < N
  · rw [if_pos h0, if_neg fun q => h ⟨h0, q⟩]; decide
  · rw [if_neg h0]; decide
theorem pop_out {w : World} {p : Value} {N a : Int} {l : List Rec} (h : Lst w p N l) (hl : l.length ≤ 1000) (ho : ¬ (0 < N ∧ 0 ≤ topI l a)) :
    Calls Try.prog 11 #[p, .int .i64 a] w fun e w' => e = .returned (.tuple #[.agg #[.int .i64 0, .int .u64 0], .int .i64 (erA N l (topI l a))]) ∧ Ext w w' := by
  have hX := Ext.alloc w (.cells #[.int .i64 0, .int .u64 0] 38)
  have ho2 : ¬ (0 < N ∧ 0 ≤ topI l a ∧ topI l a < l.length) := fun q => ho ⟨q.1, q.2.1⟩
  have E2 := erA_ne ho2
  have E := getR_out ho2
  go_enter Try.func11, Try.ntmps11
  go_wp2_with fail
  refine (top_any a (h.ext hX) hl).mono ?_
  rintro e w1 ⟨rfl, hx⟩
  go_wp2_with fail
  have hX1 := hX.trans hx
  refine (get_out (h.ext hX1) ho2).mono ?_
  rw [E]
  rintro e w2 ⟨rfl, hx2⟩
  have hp := fun wx (h : Ext w2 wx) => ((hx.trans hx2).trans h).boxCell
  have hpf := fun wx (h : Ext w2 wx) => ((hx.trans hx2).trans h).boxFree
  have hp1 := fun o => hp _ (Ext.alloc w2 o)
  have hp2 := fun o => hpf _ (Ext.alloc w2 o)
  have HX := hide (hX1.trans hx2)
  clear hp hpf hx hx2 hX hX1
  go_wp2_with fail
  refine bodyPost_ret (v := .tuple #[.agg #[.int .i64 0, .int .u64 0], .int .i64 (erA N l (topI l a))]) (by simp [results, Try.results11, go_sem, *]) rfl ⟨rfl, ?_⟩
  ((repeat (with_reducible refine Ext.set ?_ (by simp) _)); exact HX.out.trans (Ext.alloc _ _))
set_option maxRecDepth 100000 in
theorem pop_in {w : World} {M g k : Nat} {N a : Int} {l : List Rec} (h : St 58 38 w M g N l) (h0 : 0 < N) (hk : k < l.length) (hl : l.length ≤ 1000) (ht : topI l a = k) :
    Calls Try.prog 11 #[(.pointer (some ⟨M, 0, none⟩)), .int .i64 a] w fun e w' => e = .returned (.tuple #[.agg #[.int .i64 (l[k]).1, .int .u64 (l[k]).2], .int .i64 0]) ∧ St 58 38 w' M g N (l.eraseIdx k) ∧ Chg [M, g] w w' := by
  have hX := Ext.alloc w (.cells #[.int .i64 0, .int .u64 0] 38)
  have lM := h.ltM
  have lg := h.ltg
  have h9 := h
  obtain ⟨v, hb, hr⟩ := h9
  rcases hr with ⟨rfl, rfl, rfl⟩ | ⟨cap, cur, rfl, hn, hb2, h1, h2, h3, h4⟩
  · simp at hk
  · have HT := hide ht
    have HB := hide hb
    have HB2 := hide hb2
    clear hb hb2
    go_enter Try.func11, Try.ntmps11
    go_wp2_with fail
    have hc := top_any a (h.lst.ext hX) hl
    rw [ht] at hc
    clear ht
    refine hc.mono ?_
    rintro e w1 ⟨rfl, hx⟩
    clear hc
    go_wp2_with fail
    have hX1 := hX.trans hx
    refine (get_in (h.ext hX1) h0 hk).mono ?_
    rintro e w2 ⟨rfl, hx2⟩
    have hq := hx.trans hx2
    have hX2 := hX1.trans hx2
    have sz := hX2.size
    have sz2 := hq.size
    simp only [World.size_alloc] at sz2
    have bR := Blk.new w2 #[.int .i64 (l[k]).1, .int .u64 (l[k]).2] 38
    have hY := Ext.alloc w2 (.cells #[.int .i64 (l[k]).1, .int .u64 (l[k]).2] 38)
    have bM := HB.out.ext (hX2.trans hY)
    have bg := HB2.out.ext (hX2.trans hY)
    have bP := (Blk.new w #[.int .i64 0, .int .u64 0] 38).ext (hq.trans hY)
    have HX := hide (hX2.trans hY)
    clear hx hx2 hX1 hq hX2 hY hX
    have r1 := bM.cell
    have g0 : ((k : Nat) : Int) + 1 ≤ 9223372036854775807 := by omega
    go_wp2_with fail
    generalize w2.alloc (.cells #[.int .i64 (l[k]).1, .int .u64 (l[k]).2] 38) = W3 at *
    refine (del_any bg hk h1 h2 h3 h4 hl).mono ?_
    rintro e w4 ⟨rfl, ⟨cur', hg4, hs4, ht4⟩, hC4⟩
    have bM4 := bM.chg hC4 (by simpa using fun q => hn q.symm)
    have bR4 := bR.chg hC4 (by simp; omega)
    have bP4 := bP.chg hC4 (by simp; omega)
    have rM := bM4.cell
    have fM := bM4.free
    have rR := bR4.cell
    have rP := bP4.cell
    have fP := bP4.free
    have HC4 := hide ((HX.out.chg [M, g]).trans (hC4.mono (by simp)))
    have HG4 := hide hg4
    have HM4 := hide bM4
    clear hC4 hg4 bM4 bR4 bP4 bM bR bP bg r1
    go_wp2_with fail
    refine bodyPost_ret (v := .tuple #[.agg #[.int .i64 (l[k]).1, .int .u64 (l[k]).2], .int .i64 0]) (by simp [results, Try.results11, go_sem, *]) rfl ⟨rfl, ?_⟩
    have el : (l.eraseIdx k).length = l.length - 1 := List.length_eraseIdx_of_lt hk
    have hb := HM4.out.set 1 (.slice (some ⟨g, 0, none⟩) (l.length - 1 : Nat) cap)
    rw [show (#[Value.int .i64 N, .slice (some ⟨g, 0, none⟩) l.length cap].setIfInBounds 1 (.slice (some ⟨g, 0, none⟩) (l.length - 1 : Nat) cap)) = #[.int .i64 N, .slice (some ⟨g, 0, none⟩) (l.length - 1 : Nat) cap] by simp] at hb
    have hg5 := HG4.out.far (p := ⟨M, 1, none⟩) hn (.slice (some ⟨g, 0, none⟩) (l.length - 1 : Nat) cap)
    have lM1 : M ≠ w.heap.size := by omega
    have lg1 : g ≠ w.heap.size := by omega
    refine ⟨⟨.slice (some ⟨g, 0, none⟩) (l.length - 1 : Nat) cap, (hb.far (p := ⟨w.heap.size, 0, none⟩) lM1 _).far (p := ⟨w.heap.size, 1, none⟩) lM1 _, .inr ⟨cap, cur', by rw [el], hn, (hg5.far (p := ⟨w.heap.size, 0, none⟩) lg1 _).far (p := ⟨w.heap.size, 1, none⟩) lg1 _, by omega, h2, hs4, by rw [el]; exact ht4⟩⟩, ?_⟩
    exact ((HC4.out.set (p := ⟨M, 1, none⟩) (.inl (by simp)) _).set (p := ⟨w.heap.size, 0, none⟩) (.inr (by simp)) _).set (p := ⟨w.heap.size, 1, none⟩) (.inr (by simp)) _
theorem pop_any {w : World} {M g : Nat} {N a : Int} {l : List Rec} (h : St 58 38 w M g N l) (hl : l.length ≤ 1000) :
    Calls Try.prog 11 #[(.pointer (some ⟨M, 0, none⟩)), .int .i64 a] w fun e w' => e = .returned (.tuple #[.agg #[.int .i64 (getR N l (topI l a)).1, .int .u64 (getR N l (topI l a)).2], .int .i64 (erA N l (topI l a))]) ∧ St 58 38 w' M g N (popL N l a) ∧ Chg [M, g] w w' := by
  by_cases ho : 0 < N ∧ 0 ≤ topI l a
  · obtain ⟨k, hk⟩ := Int.eq_ofNat_of_zero_le ho.2
    have hlt := topI_lt l a
    have hk2 : k < l.length := by omega
    unfold popL
    rw [if_pos ho, hk, getR_in ho.1 hk2, erA_in ho.1 hk2, Int.toNat_natCast]
    exact pop_in h ho.1 hk2 hl hk
  · have e : getR N l (topI l a) = (0, 0) := getR_out fun q => ho ⟨q.1, q.2.1⟩
    unfold popL
    rw [if_neg ho, e]
    refine (pop_out h.lst hl ho).mono ?_
    rintro e w1 ⟨rfl, hx⟩
    exact ⟨rfl, h.ext hx, hx.chg _⟩
end Go.Proofs.Ytppjpicfiflkcaa
