/-
  A law of layer 18 holds of every input: VmqOnce. No condition.
-/
import Derived.Test.YtonaibpenijomaaN1
namespace Go.Proofs.Ytonaibpenijomaa
open Go.ChangeShapes Go.WideShapes Go.ChangeAt Go.RowKit Go.Deep Go.Joins Go.Maps
set_option linter.unusedVariables false
set_option linter.unusedSimpArgs false
set_option maxRecDepth 100000


/-- The law's own, where the queue holds S already, and the law T still. -/
structure LK (w0 w : World) (O : List Nat) (C b3 b4 b5 m : Nat) (S T : List En) : Prop where
  q : QT w O C S
  e : Ext w0 w
  lo : ∀ k, k ∈ O → w0.heap.size ≤ k
  c3 : Blk w b3 #[.pointer (some ⟨C, 0, none⟩)] 23
  c5 : Blk w b5 #[.map (some m)] 53
  map : MpI w m (wOf T) (wN T)
  row : ∃ A c, Blk w b4 #[.slice A T.length c] 47 ∧ RowQ w A T.length c (ks T) ∧ ∀ a, A = some a → a.block ∉ O ∧ w0.heap.size ≤ a.block
  n3 : b3 ∉ O
  n4 : b4 ∉ O
  n5 : b5 ∉ O
  nm : m ∉ O
  l4 : w0.heap.size ≤ b4
  lm : w0.heap.size ≤ m
section
variable {w0 w w' : World} {O O' : List Nat} {C b3 b4 b5 m : Nat} {S S' T : List En}
theorem LK.ext (h : LK w0 w O C b3 b4 b5 m S T) (x : Ext w w') : LK w0 w' O C b3 b4 b5 m S T := by
  obtain ⟨A, c, r1, r2, r3⟩ := h.row
  exact ⟨h.q.ext x, h.e.trans x, h.lo, h.c3.ext x, h.c5.ext x, h.map.ext x, ⟨A, c, r1.ext x, r2.ext x, r3⟩, h.n3, h.n4, h.n5, h.nm, h.l4, h.lm⟩
theorem LK.li (h : LK w0 w O C b3 b4 b5 m S S) : LI w0 w O C b3 b4 b5 m S := ⟨h.q, h.e, h.lo, h.c3, h.c5, h.map, h.row, h.n3, h.n4, h.n5, h.nm, h.l4, h.lm⟩
theorem Fr.out (f : Fr O O' w) {b : Nat} (hb : b ∉ O) (hl : b < w.heap.size) : b ∉ O' := fun z => by
  rcases f b z with q | q
  · exact hb q
  · omega
theorem LI.prog (h : LI w0 w O C b3 b4 b5 m S) (q : QT w' O' C S') (c : Chg O w w') (f : Fr O O' w) : LK w0 w' O' C b3 b4 b5 m S' S := by
  obtain ⟨A, cc, r1, r2, r3⟩ := h.row
  exact ⟨q, h.e.turn c h.lo, f.low h.lo h.e, h.c3.chg c h.n3, h.c5.chg c h.n5, h.map.chg c h.nm, ⟨A, cc, r1.chg c h.n4, r2.chg c (fun a ha => (r3 a ha).1), fun a ha => ⟨f.out (r3 a ha).1 (r2.lt a ha), (r3 a ha).2⟩⟩,
    f.out h.n3 h.c3.lt, f.out h.n4 r1.lt, f.out h.n5 h.c5.lt, f.out h.nm h.map.lt, h.l4, h.lm⟩
/-- The list is stored. -/
theorem LK.store {A : Option Addr} {c g' : Nat} {r : Rq} {w9 : World} (h : LK w0 w O C b3 b4 b5 m S T) (hx : Ext w w9) (hrow : RowQ w' A (T.length + 1) c (ks T ++ [r])) (hc : Chg [g'] w9 w') (hg : w9.heap.size ≤ g' ∨ ∃ A0 c0, Blk w b4 #[.slice A0 T.length c0] 47 ∧ RowQ w A0 T.length c0 (ks T) ∧ (∀ a, A0 = some a → a.block ∉ O ∧ w0.heap.size ≤ a.block) ∧ ∃ a, A0 = some a ∧ a.block = g') (hA : ∀ a, A = some a → a.block = g') :
    QT (w'.setCell ⟨b4, 0, none⟩ (.slice A (T.length + 1) c)) O C S ∧ Ext w0 (w'.setCell ⟨b4, 0, none⟩ (.slice A (T.length + 1) c)) ∧ Blk (w'.setCell ⟨b4, 0, none⟩ (.slice A (T.length + 1) c)) b3 #[.pointer (some ⟨C, 0, none⟩)] 23 ∧ Blk (w'.setCell ⟨b4, 0, none⟩ (.slice A (T.length + 1) c)) b5 #[.map (some m)] 53 ∧
      MpI (w'.setCell ⟨b4, 0, none⟩ (.slice A (T.length + 1) c)) m (wOf T) (wN T) ∧ Blk (w'.setCell ⟨b4, 0, none⟩ (.slice A (T.length + 1) c)) b4 #[.slice A (T.length + 1) c] 47 ∧ RowQ (w'.setCell ⟨b4, 0, none⟩ (.slice A (T.length + 1) c)) A (T.length + 1) c (ks T ++ [r]) ∧
      (∀ a, A = some a → a.block ∉ O ∧ w0.heap.size ≤ a.block) ∧ (∀ {x : Nat} {cs : Array Value} {ty : TypeId}, Blk w x cs ty → x ≠ g' → ty ≠ 47 → Blk (w'.setCell ⟨b4, 0, none⟩ (.slice A (T.length + 1) c)) x cs ty) := by
  have h9 := h.ext hx
  have hsx := hx.size
  have hse := h.e.size
  have hg2 : g' ∉ O ∧ w0.heap.size ≤ g' := by
    rcases hg with q | ⟨A0, c0, _, _, q3, a, q4, q5⟩
    · exact ⟨fun z => by have := h9.q.lt _ z; omega, by omega⟩
    · rw [← q5]; exact q3 a q4
  have hgt : ∀ cs ty, Blk w g' cs ty → ty = 33 := fun cs ty hb => by
    rcases hg with q | ⟨A0, c0, _, q2, _, a, q4, q5⟩
    · have := hb.lt; omega
    · obtain ⟨cs2, hb2⟩ := q2.blk a q4
      rw [q5] at hb2
      exact hb.type hb2
  have hgm : ∀ {n : Nat} {F : Int → Option Rq} {x : Nat}, MpI w x F n → x ≠ g' := fun hm e => by
    subst e
    rcases hg with q | ⟨A0, c0, _, q2, _, a, q4, q5⟩
    · have := hm.lt; omega
    · obtain ⟨cs2, hb2⟩ := q2.blk a q4
      rw [q5] at hb2
      exact hm.noC _ _ hb2
  obtain ⟨A1, c1, r1, r2, r3⟩ := h.row
  have hc2 : Chg [b4] w' (w'.setCell ⟨b4, 0, none⟩ (.slice A (T.length + 1) c)) := (Chg.refl _ _).set (p := ⟨b4, 0, none⟩) (.inl (by simp)) _
  have hcc : Chg [g', b4] w9 (w'.setCell ⟨b4, 0, none⟩ (.slice A (T.length + 1) c)) := (hc.mono (by simp)).trans (hc2.mono (by simp))
  have keep : ∀ {x : Nat} {cs : Array Value} {ty : TypeId}, Blk w x cs ty → x ≠ g' → ty ≠ 47 → Blk (w'.setCell ⟨b4, 0, none⟩ (.slice A (T.length + 1) c)) x cs ty := fun hb h1 h2 =>
    (hb.ext hx).chg hcc (fun z => by
      simp at z
      rcases z with rfl | rfl
      · exact h1 rfl
      · exact h2 (hb.type r1))
  refine ⟨h9.q.chg hcc (fun k hk z => by simp at z; rcases z with rfl | rfl; exact hg2.1 hk; exact h.n4 hk), h9.e.turn hcc (fun k hk => by simp at hk; rcases hk with rfl | rfl; exact hg2.2; exact h.l4), keep h.c3 (fun z => absurd (hgt _ _ (z ▸ h.c3)) (by decide)) (by decide), keep h.c5 (fun z => absurd (hgt _ _ (z ▸ h.c5)) (by decide)) (by decide),
    h9.map.chg hcc (fun z => by simp at z; rcases z with z | z; exact hgm h.map z; exact h.map.noC _ _ (z ▸ r1)), ?_, hrow.chg hc2 (fun a ha z => ?_), fun a ha => by rw [hA a ha]; exact hg2, keep⟩
  · exact ((r1.ext hx).chg hc (fun z => by simp at z; subst z; exact absurd (hgt _ _ r1) (by decide))).set 0 _
  · simp at z
    obtain ⟨cs2, hb2⟩ := hrow.blk a ha
    rw [z] at hb2
    have := (r1.ext hx).chg hc (fun z => by simp at z; subst z; exact absurd (hgt _ _ r1) (by decide))
    exact absurd (hb2.type this) (by decide)
end
theorem wpList_rq {ops : Array Oper} {rest : List Oper} {op : Oper} {a : Act} {w : World} {Q : Exit → Act → World → Prop} (hg : op.guard = none) (s x : Operand) (ho : op.op = .call { callee := .builtin .append, args := #[s, x], argTypes := #[47, 47] })
    {A : Option Addr} {n c : Nat} {l : List Rq} (hs : a.eval s = .slice A n c) (h : RowQ w A n c l)
    {g0 cx : Nat} {r : Rq} (hx : a.eval x = .slice (some ⟨g0, 0, none⟩) 1 cx) (hb : Blk w g0 #[.int .i64 r.1, .int .i64 r.2] 33) (hn : n + 1 ≤ 1000)
    (hK : ∀ A' c' w' g', RowQ w' A' (n + 1) c' (l ++ [r]) → Chg [g'] w w' → (w.heap.size ≤ g' ∨ ∃ a, A = some a ∧ a.block = g') → (∀ a, A' = some a → a.block = g') → wpList Try.prog ops Q rest (a.put op.dst (.slice A' (n + 1) c')) w') : wpList Try.prog ops Q (op :: rest) a w :=
  wpList_plain hg fun K hK' => by
    obtain ⟨A', c', w', g', r1, r2, r3, r5, r6⟩ := rowq_app (ty := op.type) h (cx := cx) hb hn
    unfold Oper.wp execOp
    simp only [ho, resolve, invoke, builtin, Sem.run_bind, Sem.run_pure, Result.andThen_ok, List.map_toArray, List.map_cons, List.map_nil, hs, hx, r1]
    exact hK' _ _ (hK A' c' w' g' r2 r3 r5 r6)
theorem li_new {w w1 : World} {O : List Nat} {C : Nat} (hq : QT w1 O C []) (hO : ∀ k, k ∈ O → w.heap.size ≤ k) (hX : Ext w w1) :
    LI w ((((w1.alloc (.cells #[.pointer (some ⟨C, 0, none⟩)] 23)).alloc (.cells #[.slice none 0 0] 47)).alloc (.map #[] 0)).alloc (.cells #[.map (some (w1.heap.size + 1 + 1))] 53)) O C w1.heap.size (w1.heap.size + 1) (w1.heap.size + 1 + 1 + 1) (w1.heap.size + 1 + 1) [] := by
  have hsz := hX.size
  have hlt := fun k (hk : k ∈ O) => hq.lt k hk
  have x1 := Ext.alloc w1 (.cells #[.pointer (some ⟨C, 0, none⟩)] 23)
  have x2 := Ext.alloc (w1.alloc (.cells #[.pointer (some ⟨C, 0, none⟩)] 23)) (.cells #[.slice none 0 0] 47)
  have x3 := Ext.alloc ((w1.alloc (.cells #[.pointer (some ⟨C, 0, none⟩)] 23)).alloc (.cells #[.slice none 0 0] 47)) (.map #[] 0)
  have x4 := Ext.alloc (((w1.alloc (.cells #[.pointer (some ⟨C, 0, none⟩)] 23)).alloc (.cells #[.slice none 0 0] 47)).alloc (.map #[] 0)) (.cells #[.map (some (w1.heap.size + 1 + 1))] 53)
  have c3 := ((Blk.new w1 #[.pointer (some ⟨C, 0, none⟩)] 23).ext x2).ext (x3.trans x4)
  have c4 := (Blk.new (w1.alloc (.cells #[.pointer (some ⟨C, 0, none⟩)] 23)) #[.slice none 0 0] 47).ext (x3.trans x4)
  have c5 := Blk.new (((w1.alloc (.cells #[.pointer (some ⟨C, 0, none⟩)] 23)).alloc (.cells #[.slice none 0 0] 47)).alloc (.map #[] 0)) #[.map (some (w1.heap.size + 1 + 1))] 53
  have hm : MpI ((((w1.alloc (.cells #[.pointer (some ⟨C, 0, none⟩)] 23)).alloc (.cells #[.slice none 0 0] 47)).alloc (.map #[] 0)).alloc (.cells #[.map (some (w1.heap.size + 1 + 1))] 53)) ((w1.alloc (.cells #[.pointer (some ⟨C, 0, none⟩)] 23)).alloc (.cells #[.slice none 0 0] 47)).heap.size (fun _ => none) 0 :=
    MpI.of ((World.ownsMap_made ((w1.alloc (.cells #[.pointer (some ⟨C, 0, none⟩)] 23)).alloc (.cells #[.slice none 0 0] 47)) Try.prog 3 rdR).alloc _) rep2_no
  simp only [World.size_alloc] at c4 c5 hm
  exact ⟨hq.ext ((x1.trans x2).trans (x3.trans x4)), hX.trans ((x1.trans x2).trans (x3.trans x4)), hO, c3, c5, hm.eqF (by funext t; rfl) rfl, ⟨none, 0, c4, RowQ.nil _, fun a ha => by cases ha⟩,
    fun z => by have := hlt _ z; omega, fun z => by have := hlt _ z; omega, fun z => by have := hlt _ z; omega, fun z => by have := hlt _ z; omega, by omega, by omega⟩
theorem fin_li {w0 w w8 : World} {O : List Nat} {C b3 b4 b5 m n : Nat} {S : List En} {F : Int → Option Rq} (q : QT w O C S) (e : Ext w0 w) (lo : ∀ k, k ∈ O → w0.heap.size ≤ k) (c3 : Blk w b3 #[.pointer (some ⟨C, 0, none⟩)] 23) (c5 : Blk w b5 #[.map (some m)] 53) (hm : MpI w m F n)
    (row : ∃ A c, Blk w b4 #[.slice A S.length c] 47 ∧ RowQ w A S.length c (ks S) ∧ ∀ a, A = some a → a.block ∉ O ∧ w0.heap.size ≤ a.block) (n3 : b3 ∉ O) (n4 : b4 ∉ O) (n5 : b5 ∉ O) (nm : m ∉ O) (l4 : w0.heap.size ≤ b4) (lm : w0.heap.size ≤ m)
    (hc : Chg [m] w w8) (hm8 : MpI w8 m (wOf S) (wN S)) : LI w0 w8 O C b3 b4 b5 m S := by
  have nB : ∀ {x : Nat} {cs : Array Value} {ty : TypeId}, Blk w x cs ty → x ∉ [m] := fun hb z => by simp at z; exact hm.noC _ _ (z ▸ hb)
  obtain ⟨A, c, r1, r2, r3⟩ := row
  exact ⟨q.chg hc (fun k hk z => by simp at z; exact nm (z ▸ hk)), e.turn hc (fun k hk => by simp at hk; rw [hk]; exact lm), lo, c3.chg hc (nB c3), c5.chg hc (nB c5), hm8, ⟨A, c, r1.chg hc (nB r1), r2.chg hc (fun a ha => by obtain ⟨cs, hb⟩ := r2.blk a ha; exact nB hb), r3⟩, n3, n4, n5, nm, l4, lm⟩
theorem b4_ne {w6 w9 : World} {A : Option Addr} {n c b4 g : Nat} {l : List Rq} {cs : Array Value} (hrow : RowQ w6 A n c l) (hb : Blk w6 b4 cs 47) (hx : Ext w6 w9) (hg : w9.heap.size ≤ g ∨ ∃ a, A = some a ∧ a.block = g) : b4 ∉ [g] := fun z => by
  simp at z
  subst z
  rcases hg with q | ⟨a, h1, h2⟩
  · have := hb.lt
    have := hx.size
    omega
  · obtain ⟨cs2, hb2⟩ := hrow.blk a h1
    rw [h2] at hb2
    exact absurd (hb2.type hb) (by decide)
theorem z_ne {w6 w9 : World} {A : Option Addr} {Z Z0 g : Nat} {cs : Array Value} {ty : TypeId} (hb : Blk w6 Z cs ty) (hx : Ext w6 w9) (hg : w9.heap.size ≤ g ∨ ∃ a, A = some a ∧ a.block = g) (hl : ∀ a, A = some a → a.block < Z0) (hz : Z0 ≤ Z) : Z ≠ g := fun z => by
  subst z
  rcases hg with q | ⟨a, h1, h2⟩
  · have := hb.lt
    have := hx.size
    omega
  · have := hl a h1; omega
/-- Behind the list's store: the map's update, or none. -/
theorem new_fin {w0 wr wa w9 : World} {O : List Nat} {C b3 b4 b5 m g9 c9 c4 : Nat} {A9 A4 : Option Addr} {S6 S : List En} {r : Rq} {t : Int} (hk : LK w0 wr O C b3 b4 b5 m S6 S) (hxa : Ext wr wa) (hr9 : RowQ w9 A9 (S.length + 1) c9 (ks S ++ [r])) (hc9 : Chg [g9] wa w9)
    (hg9 : wa.heap.size ≤ g9 ∨ ∃ a, A4 = some a ∧ a.block = g9) (hA9 : ∀ a, A9 = some a → a.block = g9) (hb4 : Blk wr b4 #[.slice A4 S.length c4] 47) (hrow : RowQ wr A4 S.length c4 (ks S)) (hA6 : ∀ x, A4 = some x → x.block ∉ O ∧ w0.heap.size ≤ x.block)
    (hw1 : wOf S6 = if 0 ≤ t then updI (wOf S) t (some r) else wOf S) (hw2 : wN S6 = wN S + (who t).length) (hkl : ks S6 = ks S ++ [r]) (hll : S6.length = S.length + 1) (ew : waitsB S t = false) (ok : Ok S) (hwt : wfI t) (hls : S.length ≤ 256) :
    (0 ≤ t → ∃ w8, (Instr.mapUpdate 53 (.map (some m)) (.int .i64 t) ((Value.agg #[.int .i64 r.1, .int .i64 r.2]))).run Try.prog (w9.setCell ⟨b4, 0, none⟩ (.slice A9 (S.length + 1) c9)) = .ok () w8 ∧ LI w0 w8 O C b3 b4 b5 m S6) ∧
    (¬ 0 ≤ t → LI w0 (w9.setCell ⟨b4, 0, none⟩ (.slice A9 (S.length + 1) c9)) O C b3 b4 b5 m S6) ∧
    (∀ {x : Nat} {cs : Array Value} {ty : TypeId}, Blk wr x cs ty → x ≠ g9 → ty ≠ 47 → Blk (w9.setCell ⟨b4, 0, none⟩ (.slice A9 (S.length + 1) c9)) x cs ty) ∧ Blk (w9.setCell ⟨b4, 0, none⟩ (.slice A9 (S.length + 1) c9)) b5 #[.map (some m)] 53 ∧ Blk w9 b4 #[.slice A4 S.length c4] 47 := by
  obtain ⟨q, e, c3, c5, hm, z1, z2, z3, keep⟩ := hk.store hxa hr9 hc9 (hg9.imp id (fun ⟨a, h1, h2⟩ => ⟨A4, c4, hb4, hrow, hA6, a, h1, h2⟩)) hA9
  have row : ∃ A c, Blk (w9.setCell ⟨b4, 0, none⟩ (.slice A9 (S.length + 1) c9)) b4 #[.slice A S6.length c] 47 ∧ RowQ (w9.setCell ⟨b4, 0, none⟩ (.slice A9 (S.length + 1) c9)) A S6.length c (ks S6) ∧ ∀ a, A = some a → a.block ∉ O ∧ w0.heap.size ≤ a.block :=
    ⟨A9, c9, by rw [hll]; exact z1, by rw [hll, hkl]; exact z2, z3⟩
  refine ⟨fun h0 => ?_, fun h0 => ?_, keep, c5, (hb4.ext hxa).chg hc9 (b4_ne hrow hb4 hxa hg9)⟩
  · have hwn : wN S ≤ 65536 := by have := wN_le ok; omega
    obtain ⟨w8, hrun, hm8, hg8⟩ := hm.update hwt (wOf_none ew) r (by unfold maxLen; omega)
    exact ⟨w8, hrun, fin_li q e hk.lo c3 c5 hm row hk.n3 hk.n4 hk.n5 hk.nm hk.l4 hk.lm (Chg.of_grown hg8 (by simp)) (hm8.eqF (by rw [hw1, if_pos h0]) (by rw [hw2]; unfold who; rw [if_neg (by omega)]; rfl))⟩
  · exact fin_li q e hk.lo c3 c5 hm row hk.n3 hk.n4 hk.n5 hk.nm hk.l4 hk.lm (Chg.refl _ _) (hm.eqF (by rw [hw1, if_neg h0]) (by rw [hw2]; unfold who; rw [if_pos (by omega)]; rfl))
set_option maxHeartbeats 8000000 in
theorem lonce_any (A : Option Addr) (n c : Nat) (f : Nat → Stp) (w : World) (hnc : n ≤ c) (hc : c ≤ maxLen) (hs : Stps w A n f) (hf : ∀ k, k < n → Okst (f k)) :
    Calls Try.prog 4 #[.slice A n c] w fun e w' => e = .returned (.bool true) ∧ Ext w w' := by
  have hmm := @run_makeMap Try.prog
  go_enter Try.func4, Try.ntmps4
  go_wp2_with fail
  refine (new_any _).mono ?_
  rintro e w1 ⟨O1, C, rfl, hq, hO, hX⟩
  go_wp2_with fail
  have hl := li_new hq hO hX
  clear hq hO hX
  generalize (((w1.alloc (.cells #[.pointer (some ⟨C, 0, none⟩)] 23)).alloc (.cells #[.slice none 0 0] 47)).alloc (.map #[] 0)).alloc (.cells #[.map (some (w1.heap.size + 1 + 1))] 53) = W5 at *
  generalize w1.heap.size + 1 + 1 + 1 = b5 at *
  generalize w1.heap.size + 1 + 1 = m at *
  generalize w1.heap.size + 1 = b4 at *
  generalize w1.heap.size = b3 at *
  refine (short_any _ _ _ _ hnc hc).mono ?_
  rintro e w5 ⟨rfl, rfl⟩
  go_wp2_with fail
  have hNn : min n 400 ≤ n := Nat.min_le_left _ _
  have hN4 : min n 400 ≤ 400 := Nat.min_le_right _ _
  generalize min n 400 = N at *
  go_loopw [22] (fun i wr => ∃ (j : Nat) (O : List Nat) (S : List En), j ≤ N ∧ i = .int .i64 (j : Int) ∧ LI w wr O C b3 b4 b5 m S) (fun i _ => N - (intOf i).toNat)
  case atStart => exact ⟨0, _, _, by omega, rfl, hl⟩
  case round =>
    clear hl
    obtain ⟨j, O, S, hj, rfl, hl⟩ := hrel
    by_cases hlt : j < N
    · obtain ⟨b, off, rfl, r0, r1, r2, r3⟩ := hs.rules (k := j) (by omega)
      have okj := hf j (by omega)
      have p0 := r0 _ hl.e
      have p1 := r1 _ hl.e
      have p2 := r2 _ hl.e
      have p3 := r3 _ hl.e
      clear r0 r1 r2 r3
      generalize f j = s at *
      obtain ⟨kk, a, o, t⟩ := s
      simp only at p0 p1 p2 p3
      have hr : wfR (a, o) := okj.r
      have hwt : wfI t := okj.t
      have k0 : 0 ≤ kk := okj.k0
      have k1 : kk ≤ 255 := okj.k1
      have hxa := Ext.alloc wr (.cells #[.int .u8 kk, .int .i64 a, .int .i64 o, .int .i64 t] 32)
      have hB := Blk.new wr #[.int .u8 kk, .int .i64 a, .int .i64 o, .int .i64 t] 32
      by_cases q1 : kk % 3 = 1
      · have q1b : (kk % 3 == 1) = true := by simpa using q1
        have QH := hide q1
        have hcall := next_any (hl.ext hxa)
        clear q1 okj hl hxa hB
        go_wp2_with fail
        refine hcall.mono ?_
        rintro e w6 ⟨rfl, hl⟩
        go_wp2_with fail
        go_roundw
        case rel => exact ⟨j + 1, O, S.tail, by omega, by go_num, hl⟩
        case measure => simp [intOf]; omega
      · have q1b : (kk % 3 == 1) = false := by simpa using q1
        have QH := hide q1
        have hxb := Ext.alloc (wr.alloc (.cells #[.int .u8 kk, .int .i64 a, .int .i64 o, .int .i64 t] 32)) (.cells #[.int .i64 a, .int .i64 o] 33)
        have hR := Blk.new (wr.alloc (.cells #[.int .u8 kk, .int .i64 a, .int .i64 o, .int .i64 t] 32)) #[.int .i64 a, .int .i64 o] 33
        rw [World.size_alloc] at hR
        have hl2 := hl.ext (hxa.trans hxb)
        have r3 := hl2.c3.cell
        have hls := hl.q.ok.len
        have nS : wr.heap.size ∉ O := fun z => by have := hl.q.lt _ z; omega
        have nR : wr.heap.size + 1 ∉ O := fun z => by have := hl.q.lt _ z; omega
        obtain ⟨A4, c4, hb4, hrow4, hA4⟩ := hl.row
        have hrlt := hrow4.lt
        have OK := hide hl.q.ok
        have HL := hide hl2
        have HS := hide (hB.ext hxb)
        have HR := hide hR
        have HROW := hide (hrow4.ext (hxa.trans hxb))
        have HB4 := hide (hb4.ext (hxa.trans hxb))
        have HA4 := hide hA4
        have HRL := hide hrlt
        have hask := ask_any t hl2.q hr
        clear q1 okj hl hxa hxb hR hl2 hB hb4 hrow4 hA4 hrlt
        rcases ask_cases S (a, o) t with ⟨e0, e1, e2⟩ | ⟨e0, ok, ew, eh, e1, e2⟩ | ⟨e0, ok, ew, eh, el, e1, e2⟩
        · rw [e1, e2] at hask
          generalize askE S (a, o) t = z at *
          have z0 : (z != 0) = true := by simpa using e0
          clear e0 e1 e2
          go_wp2_with fail
          refine hask.mono ?_
          rintro e w6 ⟨rfl, O6, hq6, hc6, hf6⟩
          have hk := (HL.out.prog hq6 hc6 hf6).li
          go_wp2_with fail
          go_roundw
          case rel => exact ⟨j + 1, O6, S, by omega, by go_num, hk⟩
          case measure => simp [intOf]; omega
        · have hw1 := wOf_ask OK.out e0
          have hw2 := wN_ask OK.out e0
          have hkl : ks (askS S (a, o) t) = ks S := by rw [e2]; exact ks_add S _ _
          have hll : (askS S (a, o) t).length = S.length := by rw [e2]; exact add_len S _ _
          have EW := hide ew
          rw [e0, e1] at hask
          have HW1 := hide hw1
          have HW2 := hide hw2
          have HKL := hide hkl
          have HLL := hide hll
          clear hw1 hw2 hkl hll e2
          generalize askS S (a, o) t = S6 at *
          clear e0 e1 ok ew eh
          go_wp2_with fail
          refine hask.mono ?_
          rintro e w6 ⟨rfl, O6, hq6, hc6, hf6⟩
          have HK := hide (HL.out.prog hq6 hc6 hf6)
          have HS6 := hide (HS.out.chg hc6 nS)
          have HR6 := hide (HR.out.chg hc6 nR)
          have HROW6 := hide (HROW.out.chg hc6 (fun x hx => (HA4.out x hx).1))
          have HB46 := hide (HB4.out.chg hc6 HL.out.n4)
          have HA6 := hide (fun x hx => (⟨hf6.out (HA4.out x hx).1 (HROW.out.lt x hx), (HA4.out x hx).2⟩ : x.block ∉ O6 ∧ w.heap.size ≤ x.block))
          have r4 := HB46.out.cell
          generalize wr.heap.size = Z at *
          clear r3 hq6 hc6 hf6 hask
          go_wp2_with fail
          have x6 := Ext.refl w6
          go_loopw [52] (fun i wx => ∃ q : Nat, q ≤ S.length ∧ i = .int .i64 (q : Int) ∧ Ext w6 wx) (fun i _ => S.length - (intOf i).toNat)
          case atStart => exact ⟨0, by omega, rfl, x6⟩
          case round =>
            clear x6
            obtain ⟨q, hq, rfl, hX⟩ := hrel
            by_cases hlt2 : q < S.length
            · have hlk : q < (ks S).length := by rw [ks_len]; exact hlt2
              obtain ⟨g, off2, rfl, hat⟩ := HROW6.out.at_ hlk
              have heq := fun w => eq_spot ((ks S)[q]).1 ((ks S)[q]).2 a o w
              obtain ⟨qb, hqb⟩ : ∃ qb, qb = eqQ (((ks S)[q]).1, ((ks S)[q]).2) (a, o) := ⟨_, rfl⟩
              rw [← hqb] at heq
              skip
              have y0 := (hat wr hX).1
              have y1 := (hat wr hX).2
              generalize ((ks S)[q]).1 = x1 at *
              generalize ((ks S)[q]).2 = x2 at *
              have hxa := Ext.alloc wr (.cells #[.int .i64 x1, .int .i64 x2] 33)
              have rR := (HR6.out.ext (hX.trans hxa)).cell
              have HX := hide (hX.trans hxa)
              clear hat hX hxa
              try clear hqb
              cases qb
              all_goals
                go_wp2_with fail
                go_roundw
                case rel => exact ⟨q + 1, by omega, by go_num, HX.out⟩
                case measure => simp [intOf]; omega
            · obtain rfl : q = S.length := by omega
              have hkx := HK.out.ext hX
              obtain ⟨A5, c5, z1, z2, z3⟩ := hkx.row
              have HRW : Hid (∃ A c, Blk wr b4 #[.slice A S6.length c] 47 ∧ RowQ wr A S6.length c (ks S6) ∧ ∀ a, A = some a → a.block ∉ O6 ∧ w.heap.size ≤ a.block) := hide ⟨A5, c5, by rw [HLL.out]; exact z1, by rw [HLL.out, HKL.out]; exact z2, z3⟩
              have HQ6 := hide hkx.q
              have HE6 := hide hkx.e
              have HLO := hide hkx.lo
              have HB3 := hide hkx.c3
              have HB5 := hide hkx.c5
              have HMAP := hide hkx.map
              have HN3 := hide hkx.n3
              have HN4 := hide hkx.n4
              have HN5 := hide hkx.n5
              have HNM := hide hkx.nm
              have HL4 := hide hkx.l4
              have HLM := hide hkx.lm
              have s6 := (HS6.out.ext hX).cell
              have rr6 := (HR6.out.ext hX).cell
              have r56 := hkx.c5.cell
              clear hkx z1 z2 z3 r4
              by_cases t0 : 0 ≤ t
              · have hwn : wN S ≤ 65536 := by have := wN_le OK.out; omega
                obtain ⟨w8, hrun, hm8, hg8⟩ := HMAP.out.update hwt (wOf_none EW.out) (a, o) (by unfold maxLen; omega)
                have HLI := hide (fin_li HQ6.out HE6.out HLO.out HB3.out HB5.out HMAP.out HRW.out HN3.out HN4.out HN5.out HNM.out HL4.out HLM.out (Chg.of_grown hg8 (by simp)) (hm8.eqF (by rw [HW1.out, if_pos t0]) (by rw [HW2.out]; unfold who; rw [if_neg (by omega)]; rfl)))
                clear hm8 hg8
                go_wp2_with fail
                go_roundw
                case rel => exact ⟨j + 1, O6, S6, by omega, by go_num, HLI.out⟩
                case measure => simp [intOf]; omega
              · have HLI := hide (fin_li HQ6.out HE6.out HLO.out HB3.out HB5.out HMAP.out HRW.out HN3.out HN4.out HN5.out HNM.out HL4.out HLM.out (Chg.refl _ _) (HMAP.out.eqF (by rw [HW1.out, if_neg t0]) (by rw [HW2.out]; unfold who; rw [if_pos (by omega)]; rfl)))
                go_wp2_with fail
                go_roundw
                case rel => exact ⟨j + 1, O6, S6, by omega, by go_num, HLI.out⟩
                case measure => simp [intOf]; omega
        · have hw1 := wOf_ask OK.out e0
          have hw2 := wN_ask OK.out e0
          have hkl : ks (askS S (a, o) t) = ks S ++ [(a, o)] := by rw [e2]; simp [ks]
          have hll : (askS S (a, o) t).length = S.length + 1 := by rw [e2]; simp
          have EW := hide ew
          have EH := hide eh
          rw [e0, e1] at hask
          have HW1 := hide hw1
          have HW2 := hide hw2
          have HKL := hide hkl
          have HLL := hide hll
          clear hw1 hw2 hkl hll e2
          generalize askS S (a, o) t = S6 at *
          clear e0 e1 ok ew eh
          go_wp2_with fail
          refine hask.mono ?_
          rintro e w6 ⟨rfl, O6, hq6, hc6, hf6⟩
          have HK := hide (HL.out.prog hq6 hc6 hf6)
          have HS6 := hide (HS.out.chg hc6 nS)
          have HR6 := hide (HR.out.chg hc6 nR)
          have HROW6 := hide (HROW.out.chg hc6 (fun x hx => (HA4.out x hx).1))
          have HB46 := hide (HB4.out.chg hc6 HL.out.n4)
          have HA6 := hide (fun x hx => (⟨hf6.out (HA4.out x hx).1 (HROW.out.lt x hx), (HA4.out x hx).2⟩ : x.block ∉ O6 ∧ w.heap.size ≤ x.block))
          have r4 := HB46.out.cell
          generalize wr.heap.size = Z at *
          clear r3 hq6 hc6 hf6 hask
          go_wp2_with fail
          have x6 := Ext.refl w6
          go_loopw [52] (fun i wx => ∃ q : Nat, q ≤ S.length ∧ i = .int .i64 (q : Int) ∧ Ext w6 wx) (fun i _ => S.length - (intOf i).toNat)
          case atStart => exact ⟨0, by omega, rfl, x6⟩
          case round =>
            clear x6
            obtain ⟨q, hq, rfl, hX⟩ := hrel
            by_cases hlt2 : q < S.length
            · have hlk : q < (ks S).length := by rw [ks_len]; exact hlt2
              obtain ⟨g, off2, rfl, hat⟩ := HROW6.out.at_ hlk
              have heq := fun w => eq_spot ((ks S)[q]).1 ((ks S)[q]).2 a o w
              obtain ⟨qb, hqb⟩ : ∃ qb, qb = eqQ (((ks S)[q]).1, ((ks S)[q]).2) (a, o) := ⟨_, rfl⟩
              rw [← hqb] at heq
              have hqf : qb = false := by rw [hqb]; exact eqQ_no (fun z => has_no EH.out S[q] (List.getElem_mem hlt2) (by rw [← ks_at S hlk]; exact z))
              clear hqb
              subst hqf
              have y0 := (hat wr hX).1
              have y1 := (hat wr hX).2
              generalize ((ks S)[q]).1 = x1 at *
              generalize ((ks S)[q]).2 = x2 at *
              have hxa := Ext.alloc wr (.cells #[.int .i64 x1, .int .i64 x2] 33)
              have rR := (HR6.out.ext (hX.trans hxa)).cell
              have HX := hide (hX.trans hxa)
              clear hat hX hxa
              try clear hqb
              skip
              all_goals
                go_wp2_with fail
                go_roundw
                case rel => exact ⟨q + 1, by omega, by go_num, HX.out⟩
                case measure => simp [intOf]; omega
            · obtain rfl : q = S.length := by omega
              have hkx := HK.out.ext hX
              have s6 := (HS6.out.ext hX).cell
              have rr6 := (HR6.out.ext hX).cell
              have r46 := (HB46.out.ext hX).cell
              have hxa := Ext.alloc wr (.cells #[.int .i64 a, .int .i64 o] 33)
              have HRX := hide ((HROW6.out.ext hX).ext hxa)
              have HBX := hide (Blk.new wr #[.int .i64 a, .int .i64 o] 33)
              have HXA := hide hxa
              have HKX := hide hkx
              have HB4X := hide (HB46.out.ext hX)
              have HRWX := hide (HROW6.out.ext hX)
              have HSX := hide (HS6.out.ext hX)
              have HRRX := hide (HR6.out.ext hX)
              clear hkx hxa r4
              by_cases t0 : 0 ≤ t
              · have T0 := hide t0
                go_wp2_with (first
                  | (at_builtin; refine wpList_rq (r := (a, o)) rfl _ _ rfl rfl HRX.out rfl HBX.out (by omega) ?_; intro A9 c9 w9 g9 hr9 hc9 hg9 hA9; obtain ⟨h1, _, h3, h5, hb4⟩ := new_fin HKX.out HXA.out hr9 hc9 hg9 hA9 HB4X.out HRWX.out HA6.out HW1.out HW2.out HKL.out HLL.out EW.out OK.out hwt hls; obtain ⟨w8, hrun, hli⟩ := h1 T0.out; have HLI := hide hli; have s9 := (h3 HSX.out (z_ne HSX.out HXA.out hg9 HRL.out (Nat.le_refl _)) (by decide)).cell; have rr9 := (h3 HRRX.out (z_ne HRRX.out HXA.out hg9 HRL.out (by omega)) (by decide)).cell; have r59 := h5.cell; have q4c := hb4.cell; have q4f := hb4.free; clear hr9 hc9 hg9 hA9 h1 h3 h5 hli hb4; go_frame)
                  | go_in)
                go_roundw
                case rel => exact ⟨j + 1, O6, S6, by omega, by go_num, HLI.out⟩
                case measure => simp [intOf]; omega
              · have T0 := hide t0
                go_wp2_with (first
                  | (at_builtin; refine wpList_rq (r := (a, o)) rfl _ _ rfl rfl HRX.out rfl HBX.out (by omega) ?_; intro A9 c9 w9 g9 hr9 hc9 hg9 hA9; obtain ⟨_, h2, h3, h5, hb4⟩ := new_fin HKX.out HXA.out hr9 hc9 hg9 hA9 HB4X.out HRWX.out HA6.out HW1.out HW2.out HKL.out HLL.out EW.out OK.out hwt hls; have HLI := hide (h2 T0.out); have s9 := (h3 HSX.out (z_ne HSX.out HXA.out hg9 HRL.out (Nat.le_refl _)) (by decide)).cell; have rr9 := (h3 HRRX.out (z_ne HRRX.out HXA.out hg9 HRL.out (by omega)) (by decide)).cell; have r59 := h5.cell; have q4c := hb4.cell; have q4f := hb4.free; clear hr9 hc9 hg9 hA9 h2 h3 h5 hb4; go_frame)
                  | go_in)
                go_roundw
                case rel => exact ⟨j + 1, O6, S6, by omega, by go_num, HLI.out⟩
                case measure => simp [intOf]; omega
    · obtain rfl : j = N := by omega
      obtain ⟨A4, c4, hb4, hrow4, _⟩ := hl.row
      have r4 := hb4.cell
      have hls := hl.q.ok.len
      have HL := hide hl
      clear hl hb4 hrow4
      go_wp2_with fail
      obtain ⟨W6, hW6⟩ : ∃ W, W = wr := ⟨_, rfl⟩
      subst hW6
      clear r4
      go_loopw [79] (fun i wr => ∃ (q : Nat) (S' : List En), q ≤ S.length + 1 ∧ i = .int .i64 (q : Int) ∧ Hid (S'.length = S.length - q) ∧ LI w wr O C b3 b4 b5 m S') (fun i _ => S.length + 1 - (intOf i).toNat)
      case atStart => exact ⟨0, S, by omega, rfl, hide (by omega), HL.out⟩
      case round =>
        obtain ⟨q, S', hq, rfl, hS', hl⟩ := hrel
        by_cases hlt2 : q < S.length + 1
        · have hi : (q : Int) < (S.length : Int) + 1 := by omega
          have hcall := next_any hl
          clear hl
          go_wp2_with fail
          refine hcall.mono ?_
          rintro e w7 ⟨rfl, hl⟩
          go_wp2_with fail
          go_roundw
          case rel => exact ⟨q + 1, S'.tail, by omega, by go_num, hide (by rw [List.length_tail, hS'.out]; omega), hl⟩
          case measure => simp [intOf]; omega
        · obtain rfl : q = S.length + 1 := by omega
          obtain rfl : S' = [] := List.eq_nil_of_length_eq_zero (by rw [hS'.out]; omega)
          obtain ⟨A4, c4, hb4, hrow4, _⟩ := hl.row
          have r4 := hb4.cell
          have r5 := hl.c5.cell
          have hlen := hl.map.len
          simp only [List.length_nil, wN] at r4 hlen
          have HE := hide hl.e
          clear hl hb4 hrow4
          go_wp2_with fail
          refine (alive_any _).mono ?_
          rintro e w7 ⟨rfl, hx⟩
          go_wp2_with fail
          go_ret
          exact ⟨by simp, HE.out.trans hx⟩
set_option maxRecDepth 100000 in
theorem vmqOnce_walk {H : Type} {enc : TypeId × Value → H} (W : World) (base : Nat) (args : Array Value) (ds : List (DataW H)) (p : List MemPlace)
    (hval0 : ∀ (j : Nat) t v, Try.f4.params[j]? = some t → args[j]? = some v → Value.okWide Try.prog W .any base t v)
    (hA0 : DataW.TrodAll enc Try.prog W 0 (fun _ => true) true Try.f4.params.toList args.toList ds p) (_hlt : ∀ x ∈ p, x.block < W.heap.size) :
    Calls Try.prog 4 args W fun e W' => e = .returned (.bool true) ∧ Ext W W' := by
  have hval := hval0
  have hA := hA0
  rw [Try.params4] at hA hval
  clear hval0 hA0
  obtain ⟨v0, d0, rfl, rfl, h0⟩ := trodAll_one hA
  obtain ⟨A, n, c, f, rfl, hn, hc, hs, hf⟩ := open_steps (hval 0 22 v0 rfl rfl) h0
  exact lonce_any A n c f W hn hc hs hf
set_option maxRecDepth 100000 in
theorem vmqOnce_lifted (os : Os) (started : os.Started) (H : Type) (enc : TypeId × Value → H) :
    ReturnsInHanded {} Try.checked os 4 .any (Rows.vmqOnceSpec.pre6 enc Try.prog Try.f4 Rows.vmqOnceRow.domain false) (Rows.vmqOnceSpec.post enc Try.prog Try.f4 false true false false) :=
  law_lifted (fn := Try.f4) 4 os started (by kernel_rfl) Try.func4 rfl rfl Try.underlying4 (hread_of (by kernel_rfl))
    (fun l hl => by
      have hl2 : l.length = 1 := hl
      clear hl
      match l, hl2 with
      | [_], _ => rfl)
    (ChangeSpec.witness6 (enc := enc) (C := Try.checked) false ⟨#[], #[.slice none 0 0], []⟩ 8 (by kernel_rfl) (by kernel_rfl) (by kernel_rfl) (by kernel_rfl))
    (fun W base args ds p hval hA hlt => vmqOnce_walk W base args ds p hval hA hlt)
theorem vmqOnce_holds : Rows.VmqOnceSaid :=
  OpenClaim.holds_of_wide 4 Try.f4 rfl rfl rfl rfl rfl rfl rfl ⟨rfl, rfl, rfl, rfl, rfl⟩ rfl rfl rfl rfl rfl (by kernel_rfl) Try.func4 (by kernel_rfl)
    (of_decide_eq_true (by kernel_rfl)) (by unfold Func.isWrapper; rw [if_neg (of_decide_eq_false (by kernel_rfl))]; exact ⟨rfl, rfl⟩)
    (fun os started H enc _ => vmqOnce_lifted os started H enc)
end Go.Proofs.Ytonaibpenijomaa
