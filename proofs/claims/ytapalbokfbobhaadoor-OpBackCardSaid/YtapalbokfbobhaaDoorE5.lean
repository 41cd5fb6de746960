/- Parse. -/
import Derived.Test.YtapalbokfbobhaaDoorE4
import Derived.Test.YtapalbokfbobhaaDoorB2
import Derived.Test.YtapalbokfbobhaaDoorGrow
namespace Go.Proofs.YtapalbokfbobhaaDoor
open Go.RowKit Go.Shelf
set_option linter.unusedSimpArgs false
set_option linter.unusedVariables false
set_option maxRecDepth 100000

attribute [local go_sem] Oper.semAt_some
/-- What the parts of a text are read as, behind those that are there. -/
def parseF : List (List UInt8) → List Op3 → List Op3 × Int
  | [], acc => (acc, 0)
  | t :: r, acc => if acc.length = 64 then ([], 5) else if (readO t).2 = false then ([], 3) else if mayO (readO t).1 = false then ([], 1) else parseF r (acc ++ [(readO t).1])
/-- A text's program, and the error. -/
def parseO (s : List UInt8) : List Op3 × Int := if s = [] then ([], 0) else parseF (pieces s) []
theorem inf_op : (Tryd.prog.info? 24).map (fun i => (i.zero, i.size, i.bytes)) = some (some (.agg #[.int .i64 0, .int .i64 0, .int .i64 0]), 3, 24) := by kernel_rfl
theorem grown_chg {A B : World} {row : Option Nat} (hg : A.grownBy B row) : Chg row.toList A B :=
  ⟨hg.os, hg.tape, hg.output, hg.size, fun k hk hT => hg.block k hk (by rintro rfl; simp at hT)⟩
/-- What the loop's rounds keep: w the world at the entry, B the first box. -/
structure InvP (w : World) (B : Nat) (pre : List (List UInt8)) (W : World) : Prop where
  ext : Ext w W
  acc : ∃ acc v, (∀ rest, parseF (pre ++ rest) [] = parseF rest acc) ∧ acc.length ≤ 64 ∧ Blk W (B + 2) #[v] 22 ∧ W.ownsRow (B + 6) 24 3 v acc.length (rcells acc)
  r2 : Blk W B #[.slice none 0 0] 22
  r3 : Blk W (B + 1) #[.int .i64 0] 28
  sz : B + 6 ≤ W.heap.size
  bs : ∃ cs, Blk W (B + 3) cs 9
/-- A round has returned. -/
structure OutP (w : World) (B : Nat) (pre : List (List UInt8)) (W : World) : Prop where
  ext : Ext w W
  err : ∃ e, (∀ rest, parseF (pre ++ rest) [] = ([], e)) ∧ Blk W (B + 1) #[.int .i64 e] 28
  r2 : Blk W B #[.slice none 0 0] 22
theorem InvP.chg {w W W' : World} {B : Nat} {pre : List (List UInt8)} {T : List Nat} (h : InvP w B pre W) (hB : B = w.heap.size) (x : Chg T W W') (hT : ∀ t, t ∈ T → B + 3 ≤ t ∧ ∀ cs, ¬ Blk W t cs 24) (hb : ∃ cs, Blk W' (B + 3) cs 9) : InvP w B pre W' := by
  obtain ⟨acc, v, h1, h2, h3, h4⟩ := h.acc
  refine ⟨h.ext.turn x (fun t ht => by have := (hT t ht).1; omega), ⟨acc, v, h1, h2, h3.chg x (fun q => by have := (hT _ q).1; omega), own_chgB h4 x (fun k hk q => ?_)⟩, h.r2.chg x (fun q => by have := (hT _ q).1; omega), h.r3.chg x (fun q => by have := (hT _ q).1; omega), Nat.le_trans h.sz x.size, hb⟩
  obtain ⟨cs, hc⟩ := own_blk h4 k hk
  exact (hT k q).2 cs hc
theorem row_cond {W W' : World} {D : Nat} {row : Option Nat} (hr : ∀ r, row = some r → D ≤ r ∧ ∃ o : Obj, W.heap[r]? = some o ∧ o.isCells = false) (t : Nat) (ht : t ∈ row.toList) : D ≤ t ∧ ∀ cs ty, ¬ Blk W t cs ty := by
  cases row with
  | none => simp at ht
  | some r =>
    obtain rfl : t = r := by simpa using ht
    obtain ⟨h1, o, h2, h3⟩ := hr t rfl
    refine ⟨h1, fun cs ty hb => ?_⟩
    unfold Blk at hb
    rw [hb] at h2; cases h2; cases h3
theorem InvP.own {w : World} {B : Nat} (hB : B = w.heap.size) : OwnFrom (B + 6) (InvP w B) := fun s W W' row hs hg hr => by
  obtain ⟨cs, hb⟩ := hs.bs
  exact hs.chg hB (grown_chg hg) (fun t ht => by obtain ⟨h1, h2⟩ := row_cond (W' := W') hr t ht; exact ⟨by omega, fun cs => h2 cs _⟩) ⟨cs, hb.chg (grown_chg hg) (fun q => by have := (row_cond (W' := W') hr _ q).1; omega)⟩
theorem OutP.own {w : World} {B : Nat} (hB : B = w.heap.size) : OwnFrom (B + 6) (OutP w B) := fun s W W' row hs hg hr => by
  have x := grown_chg hg
  obtain ⟨e, h1, h2⟩ := hs.err
  have hT := fun t ht => (row_cond (W' := W') hr t ht).1
  exact ⟨hs.ext.turn x (fun t ht => by have := hT t ht; omega), ⟨e, h1, h2.chg x (fun q => by have := hT _ q; omega)⟩, hs.r2.chg x (fun q => by have := hT _ q; omega)⟩
theorem InvP.set {w : World} {B : Nat} (hB : B = w.heap.size) (pre : List (List UInt8)) (W : World) (v : Value) (h : InvP w B pre W) : InvP w B pre (W.setCell ⟨B + 3, 0, none⟩ v) := by
  obtain ⟨cs, hb⟩ := h.bs
  exact h.chg hB ((Chg.refl [B + 3] W).set (p := ⟨B + 3, 0, none⟩) (.inl (by simp)) v) (fun t ht => by
    obtain rfl : t = B + 3 := by simpa using ht
    exact ⟨Nat.le_refl _, fun cs2 hb2 => by have := hb.type hb2; cases this⟩) ⟨_, hb.set 0 v⟩
theorem kf_of {B : Nat} {T : List Nat} {W W' : World} (x : Chg T W W') (hT : ∀ b, b ∈ T → b < B ∨ ∀ ob, W.heap[b]? = some ob → ob.isCells = true) : KeepsFrom B W W' :=
  ⟨x.size, fun k o hk ho hc => (x.block k (Array.getElem?_eq_some_iff.1 ho).1 (fun hm => by
    rcases hT k hm with h | h
    · omega
    · rw [h o ho] at hc; cases hc)).trans ho⟩
theorem kq_of {Z : Nat} {T Tq : List Nat} {W W' : World} (x : Chg T W W') (hT : ∀ b, b ∈ T → Z ≤ b ∨ b ∈ Tq) : Kq Z Tq W W' :=
  ⟨x.size, fun b hb hz hq => x.block b hb (fun hm => by rcases hT b hm with h | h; omega; exact hq h)⟩
/-- What a part that is wrong makes of the whole. -/
theorem parse_bad {pre : List (List UInt8)} {x : List UInt8} {acc : List Op3} {e : Int} (h : ∀ rest, parseF (pre ++ rest) [] = parseF rest acc) (hx : ∀ r, parseF (x :: r) acc = ([], e)) (rest : List (List UInt8)) : parseF ((pre ++ [x]) ++ rest) [] = ([], e) := by
  rw [List.append_assoc, h]; exact hx rest
theorem OutP.of {w W W9 : World} {B : Nat} {pre : List (List UInt8)} {x : List UInt8} (e : Int) (hI : InvP w B pre W) (hB : B = w.heap.size) (h9 : Ext W W9) (hbad : ∀ rest, parseF ((pre ++ [x]) ++ rest) [] = ([], e)) :
    KeepsFrom (B + 6) W ((W9.setCell ⟨B, 0, none⟩ (.slice none 0 0)).setCell ⟨B + 1, 0, none⟩ (.int .i64 e)) ∧ OutP w B (pre ++ [x]) ((W9.setCell ⟨B, 0, none⟩ (.slice none 0 0)).setCell ⟨B + 1, 0, none⟩ (.int .i64 e)) := by
  have hx : Chg [B, B + 1] W ((W9.setCell ⟨B, 0, none⟩ (.slice none 0 0)).setCell ⟨B + 1, 0, none⟩ (.int .i64 e)) := ((h9.chg _).set (p := ⟨B, 0, none⟩) (.inl (by simp)) _).set (p := ⟨B + 1, 0, none⟩) (.inl (by simp)) _
  refine ⟨kf_of hx (fun b hb => .inl (by simp at hb; omega)), hI.ext.turn hx (fun t ht => by simp at ht; omega), ⟨e, hbad, ?_⟩, ?_⟩
  · exact ((hI.r3.ext h9).far (p := ⟨B, 0, none⟩) (by simp) _).set 0 _
  · exact ((hI.r2.ext h9).set 0 (.slice none 0 0)).far (p := ⟨B + 1, 0, none⟩) (by simp) _
theorem InvP.app {w W w10 w11 : World} {B : Nat} {pre : List (List UInt8)} {x : List UInt8} {acc : List Op3} {A1 A2 : Option Addr} {c1 c2 : Nat} {k o a : Int} (hI : InvP w B pre W) (hB : B = w.heap.size) (hY : Ext W w10)
    (hb4 : Blk W (B + 2) #[.slice A1 acc.length c1] 22) (hown : W.ownsRow (B + 6) 24 3 (.slice A1 acc.length c1) acc.length (rcells acc)) (hs : ∀ rest, parseF ((pre ++ [x]) ++ rest) [] = parseF rest (acc ++ [(k, o, a)])) (hl : acc.length + 1 ≤ 64)
    (hg : (w10.alloc (.cells #[.int .i64 k, .int .i64 o, .int .i64 a] 24)).grownBy w11 (Value.slice A1 acc.length c1).ownBlock) (ho : w11.ownsRow (B + 6) 24 3 (.slice A2 (acc.length + 1) c2) (acc.length + 1) (rcells acc ++ [.int .i64 k, .int .i64 o, .int .i64 a])) :
    KeepsFrom (B + 6) W (w11.setCell ⟨B + 1 + 1, 0, none⟩ (.slice A2 (acc.length + 1) c2)) ∧ Kq (B + 6) [B, B + 1, B + 2] W (w11.setCell ⟨B + 1 + 1, 0, none⟩ (.slice A2 (acc.length + 1) c2)) ∧ InvP w B (pre ++ [x]) (w11.setCell ⟨B + 1 + 1, 0, none⟩ (.slice A2 (acc.length + 1) c2)) := by
  have hr := own_row hown
  have hx11 : Chg ((Value.slice A1 acc.length c1).ownBlock.toList ++ [B + 2]) W w11 := ((hY.trans (Ext.alloc _ _)).chg _).of_grow hg (fun k e => by rw [e]; simp)
  have hx : Chg ((Value.slice A1 acc.length c1).ownBlock.toList ++ [B + 2]) W (w11.setCell ⟨B + 1 + 1, 0, none⟩ (.slice A2 (acc.length + 1) c2)) := hx11.set (p := ⟨B + 1 + 1, 0, none⟩) (.inl (by simp)) _
  have hmem : ∀ t, t ∈ (Value.slice A1 acc.length c1).ownBlock.toList ++ [B + 2] → (B + 6 ≤ t ∧ ∃ cs, Blk W t cs 24) ∨ t = B + 2 := by
    intro t ht
    rcases List.mem_append.1 ht with q | q
    · have e : (Value.slice A1 acc.length c1).ownBlock = some t := by simpa using q
      exact .inl ⟨hr t e, own_blk hown t e⟩
    · exact .inr (by simpa using q)
  have hb11 : Blk w11 (B + 2) #[.slice A1 acc.length c1] 22 := (hb4.ext (hY.trans (Ext.alloc _ _))).grown hg (fun k e => by have := hr k e; omega)
  obtain ⟨cs, hbs⟩ := hI.bs
  refine ⟨kf_of hx (fun b hb => ?_), kq_of hx (fun b hb => ?_), hI.ext.turn hx (fun t ht => ?_), ⟨acc ++ [(k, o, a)], .slice A2 (acc.length + 1) c2, hs, by simpa using hl, hb11.set 0 _, ?_⟩, hI.r2.chg hx (fun q => ?_), hI.r3.chg hx (fun q => ?_), Nat.le_trans hI.sz hx.size, ⟨cs, hbs.chg hx (fun q => ?_)⟩⟩
  · rcases hmem b hb with ⟨_, cs2, hb2⟩ | q
    · exact .inr fun ob ho => by unfold Blk at hb2; rw [hb2] at ho; cases ho; rfl
    · exact .inl (by omega)
  · rcases hmem b hb with ⟨q, _⟩ | q
    · exact .inl q
    · exact .inr (by simp [q])
  · rcases hmem t ht with ⟨q, _⟩ | q <;> omega
  · rw [List.length_append, rcells_app]
    exact own_chg ho ((Chg.refl [B + 2] w11).set (p := ⟨B + 1 + 1, 0, none⟩) (.inl (by simp)) _) (fun t ht => by simp at ht; omega)
  · rcases hmem _ q with ⟨q, _⟩ | q <;> omega
  · rcases hmem _ q with ⟨q, _⟩ | q <;> omega
  · rcases hmem _ q with ⟨q, _⟩ | q <;> omega
theorem put_chg {l : Nat} {o : Obj} (W : World) : Chg [l] W (W.putObj l o) := grown_chg (grownBy_putObj' W l o)
theorem splitSeqI_any (s sep : List UInt8) (w : World) : Calls Tryd.prog 36 #[(Value.string ⟨List.toArray (s)⟩), (Value.string ⟨List.toArray (sep)⟩), .int .i64 0] w fun e w' => e = .returned (.func (.func 43) #[] #[.pointer (some ⟨w.heap.size + 1, 0, none⟩), .pointer (some ⟨w.heap.size, 0, none⟩), .pointer (some ⟨w.heap.size + 2, 0, none⟩)]) ∧ w' = ((w.alloc (.cells #[(Value.string ⟨List.toArray (s)⟩)] 9)).alloc (.cells #[(Value.string ⟨List.toArray (sep)⟩)] 9)).alloc (.cells #[.int .i64 0] 3) := by
  go_enter Tryd.func36, Tryd.ntmps36
  go_wp2
  go_ret
  exact ⟨rfl, rfl⟩
theorem splitSeq_any (s sep : List UInt8) (w : World) : Calls Tryd.prog 25 #[(Value.string ⟨List.toArray (s)⟩), (Value.string ⟨List.toArray (sep)⟩)] w fun e w' => e = .returned (.func (.func 43) #[] #[.pointer (some ⟨w.heap.size + 1, 0, none⟩), .pointer (some ⟨w.heap.size, 0, none⟩), .pointer (some ⟨w.heap.size + 2, 0, none⟩)]) ∧ w' = ((w.alloc (.cells #[(Value.string ⟨List.toArray (s)⟩)] 9)).alloc (.cells #[(Value.string ⟨List.toArray (sep)⟩)] 9)).alloc (.cells #[.int .i64 0] 3) := by
  go_enter Tryd.func25, Tryd.ntmps25
  go_wp2_with (go_at_call 36; refine (splitSeqI_any _ _ _).mono ?_; rintro e w' ⟨rfl, rfl⟩)
  go_ret
  exact ⟨rfl, rfl⟩
theorem parse_nil (w : World) : Calls Tryd.prog 14 #[(Value.string ⟨List.toArray ([])⟩)] w fun e w' => e = .returned (.tuple #[.slice none 0 0, .int .i64 0]) ∧ Ext w w' := by
  go_enter Tryd.func14, Tryd.ntmps14
  go_wp2_with fail
  refine bodyPost_ret (v := .tuple #[.slice none 0 0, .int .i64 0]) (by simp [results, Tryd.results14, go_sem]) rfl ⟨rfl, (Ext.alloc _ _).trans (Ext.alloc _ _)⟩
/-- What Parse answers. -/
def ParseR (s : List UInt8) (e : Ending) (w' : World) : Prop := ∃ A c, e = .returned (.tuple #[.slice A (parseO s).1.length c, .int .i64 (parseO s).2]) ∧ (parseO s).1.length ≤ c ∧ Ch w' A (parseO s).1
theorem parse_some (s : List UInt8) (h0 : (s == []) = false) (hs : s.length ≤ 5000) (w : World) (hG : Glob w) (gZ : 4 < w.heap.size ∧ 1 < w.heap.size ∧ 0 < w.heap.size) : Calls Tryd.prog 14 #[(Value.string ⟨List.toArray (s)⟩)] w fun e w' => ParseR s e w' ∧ Ext w w' := by
  refine callsIn_wide.1 (callsIn_of_wp_marks (n := 3) Tryd.func14 rfl trivial ?_)
  simp only [Tryd.ntmps14, List.size_toArray, List.length_cons, List.length_nil, Nat.reduceAdd, Nat.reduceSub, Array.replicate_succ, Array.replicate_zero, List.push_toArray, List.append_toArray, List.nil_append, List.cons_append]
  refine wpIn_wide.2 ?_
  go_wp2_with fail
  have hX3 : Ext w (((w.alloc (.cells #[.slice none 0 0] 22)).alloc (.cells #[.int .i64 0] 28)).alloc (.cells #[.slice none 0 0] 22)) := ((Ext.alloc _ _).trans (Ext.alloc _ _)).trans (Ext.alloc _ _)
  have q2 : Blk (((w.alloc (.cells #[.slice none 0 0] 22)).alloc (.cells #[.int .i64 0] 28)).alloc (.cells #[.slice none 0 0] 22)) w.heap.size #[.slice none 0 0] 22 := (Blk.new w _ _).ext ((Ext.alloc _ _).trans (Ext.alloc _ _))
  have q3 : Blk (((w.alloc (.cells #[.slice none 0 0] 22)).alloc (.cells #[.int .i64 0] 28)).alloc (.cells #[.slice none 0 0] 22)) (w.heap.size + 1) #[.int .i64 0] 28 := by
    have := (Blk.new (w.alloc (.cells #[.slice none 0 0] 22)) #[.int .i64 0] 28).ext (Ext.alloc _ (.cells #[.slice none 0 0] 22))
    rwa [World.size_alloc] at this
  have q4 : Blk (((w.alloc (.cells #[.slice none 0 0] 22)).alloc (.cells #[.int .i64 0] 28)).alloc (.cells #[.slice none 0 0] 22)) (w.heap.size + 2) #[.slice none 0 0] 22 := by
    have := Blk.new ((w.alloc (.cells #[.slice none 0 0] 22)).alloc (.cells #[.int .i64 0] 28)) #[.slice none 0 0] 22
    rwa [World.size_alloc, World.size_alloc] at this
  have qs : (((w.alloc (.cells #[.slice none 0 0] 22)).alloc (.cells #[.int .i64 0] 28)).alloc (.cells #[.slice none 0 0] 22)).heap.size = w.heap.size + 3 := by simp
  generalize ((w.alloc (.cells #[.slice none 0 0] 22)).alloc (.cells #[.int .i64 0] 28)).alloc (.cells #[.slice none 0 0] 22) = w3 at *
  obtain ⟨B, hB⟩ : ∃ B, B = w.heap.size := ⟨_, rfl⟩
  rw [← hB] at q2 q3 q4 qs gZ ⊢
  have p1 : Blk (((w3.alloc (.cells #[(Value.string ⟨List.toArray (s)⟩)] 9)).alloc (.cells #[(Value.string ⟨List.toArray ([59, 32])⟩)] 9)).alloc (.cells #[.int .i64 0] 3)) (B + 3) #[(Value.string ⟨List.toArray (s)⟩)] 9 := by
    have := (Blk.new w3 #[(Value.string ⟨List.toArray (s)⟩)] 9).ext ((Ext.alloc _ (.cells #[(Value.string ⟨List.toArray ([59, 32])⟩)] 9)).trans (Ext.alloc _ (.cells #[.int .i64 0] 3)))
    rwa [qs] at this
  have p2 : Blk (((w3.alloc (.cells #[(Value.string ⟨List.toArray (s)⟩)] 9)).alloc (.cells #[(Value.string ⟨List.toArray ([59, 32])⟩)] 9)).alloc (.cells #[.int .i64 0] 3)) (B + 4) #[(Value.string ⟨List.toArray ([59, 32])⟩)] 9 := by
    have := (Blk.new (w3.alloc (.cells #[(Value.string ⟨List.toArray (s)⟩)] 9)) #[(Value.string ⟨List.toArray ([59, 32])⟩)] 9).ext (Ext.alloc _ (.cells #[.int .i64 0] 3))
    rwa [World.size_alloc, qs] at this
  have p3 : Blk (((w3.alloc (.cells #[(Value.string ⟨List.toArray (s)⟩)] 9)).alloc (.cells #[(Value.string ⟨List.toArray ([59, 32])⟩)] 9)).alloc (.cells #[.int .i64 0] 3)) (B + 5) #[.int .i64 0] 3 := by
    have := Blk.new ((w3.alloc (.cells #[(Value.string ⟨List.toArray (s)⟩)] 9)).alloc (.cells #[(Value.string ⟨List.toArray ([59, 32])⟩)] 9)) #[.int .i64 0] 3
    rwa [World.size_alloc, World.size_alloc, qs] at this
  have hX6 : Ext w3 (((w3.alloc (.cells #[(Value.string ⟨List.toArray (s)⟩)] 9)).alloc (.cells #[(Value.string ⟨List.toArray ([59, 32])⟩)] 9)).alloc (.cells #[.int .i64 0] 3)) := ((Ext.alloc _ _).trans (Ext.alloc _ _)).trans (Ext.alloc _ _)
  have ps6 : (((w3.alloc (.cells #[(Value.string ⟨List.toArray (s)⟩)] 9)).alloc (.cells #[(Value.string ⟨List.toArray ([59, 32])⟩)] 9)).alloc (.cells #[.int .i64 0] 3)).heap.size = B + 6 := by simp [qs]
  have hsp := splitSeq_any s [59, 32] w3
  rw [qs] at hsp
  generalize ((w3.alloc (.cells #[(Value.string ⟨List.toArray (s)⟩)] 9)).alloc (.cells #[(Value.string ⟨List.toArray ([59, 32])⟩)] 9)).alloc (.cells #[.int .i64 0] 3) = w6 at *
  have HB := hide hB
  have HG := hide hG
  have HG6 := hide (hG.ext (hX3.trans hX6))
  have HI := hide (show InvP w B [] w6 from ⟨hX3.trans hX6, ⟨[], .slice none 0 0, fun _ => rfl, by simp, q4.ext hX6, own_nil _ _ _ _⟩, q2.ext hX6, q3.ext hX6, by rw [ps6]; exact Nat.le_refl _, ⟨_, p1⟩⟩)
  have HX := hide (hX3.trans hX6)
  have P6 := hide ps6
  have P1 := hide p1
  have P2 := hide p2
  have P3 := hide p3
  clear p1 p2 p3 q2 q3 q4 qs hX3 hX6 hG ps6 hB
  go_wp2_with (go_at_call 25; refine hsp.mono ?_; rintro e w' ⟨rfl, rfl⟩)
  refine wpIn_wide.1 (range_box (Bs := B + 3) (Be := B + 3 + 1) (Bv := B + 3 + 2) (T := [B, B + 1, B + 2]) (s := s) rfl rfl hs P1.out P2.out P3.out HG6.out
    (by simp <;> omega) (by omega) (by omega) (by simp; omega) (by omega) (by rw [P6.out]; omega) (InvP w B) (OutP w B) (by rw [P6.out]; exact InvP.own HB.out) (by rw [P6.out]; exact OutP.own HB.out) (InvP.set HB.out) HI.out
    (fun x => { tmps := #[(Value.string ⟨List.toArray (s)⟩), undef, .pointer (some ⟨B, 0, none⟩), .pointer (some ⟨B + 1, 0, none⟩), .pointer (some ⟨B + 1 + 1, 0, none⟩), (Value.string ⟨List.toArray (x)⟩), undef, undef, (Value.string ⟨List.toArray (s)⟩), .bool false, (Value.string ⟨List.toArray (s)⟩), .func (.func 43) #[] #[.pointer (some ⟨B + 3 + 1, 0, none⟩), .pointer (some ⟨B + 3, 0, none⟩), .pointer (some ⟨B + 3 + 2, 0, none⟩)], (Value.string ⟨List.toArray (x)⟩), undef, undef, undef, undef, undef, undef, undef, undef, undef, undef, undef, undef, undef, undef, undef, undef, undef, undef], defers := [] })
    ?assign ?body ?done ?stop)
  case assign =>
    intro l x W K hK
    gi_wp2
    exact hK
  case body =>
    intro l pre x W hI hxl
    rw [P6.out]
    obtain ⟨acc, v, hacc, hlen, hb4, hown⟩ := hI.acc
    obtain ⟨A1, c1, rfl⟩ := own_sl hown
    have r4 : W.cell? ⟨B + 1 + 1, 0, none⟩ = some (.slice A1 acc.length c1) := hb4.cell 0
    have HI := hide hI
    have HO := hide hown
    have HC := hide hacc
    by_cases h64 : acc.length = 64
    · have h64i : (acc.length : Int) = 64 := by omega
      have r2 := hI.r2.cell 0
      have r2f := hI.r2.free 0
      have r3 := hI.r3.cell 0
      have r3f := hI.r3.free 0
      have HB5 := hide (parse_bad (e := 5) hacc (x := x) (fun r => by unfold parseF; rw [if_pos h64]))
      clear hI hown hacc
      gi_wp2
      exact OutP.of 5 HI.out HB.out (Ext.refl W) HB5.out
    · have h64i : ¬ (acc.length : Int) = 64 := by omega
      have hG9 := hide (HG.out.ext hI.ext)
      have hrd := read_any x hxl W hG9.out
      have HST := hide (fun r => show parseF (x :: r) acc = if (readO x).2 = false then ([], 3) else if mayO (readO x).1 = false then ([], 1) else parseF r (acc ++ [(readO x).1]) by rw [parseF, if_neg h64])
      generalize readO x = R at *
      obtain ⟨⟨k, o, a⟩, ok⟩ := R
      have hrd : Calls Tryd.prog 26 #[(Value.string ⟨List.toArray (x)⟩)] W fun e w' => e = .returned (.tuple #[.agg #[.int .i64 k, .int .i64 o, .int .i64 a], .bool ok]) ∧ Ext W w' := hrd
      cases ok with
      | false =>
        have HB3 := hide (parse_bad (e := 3) hacc (x := x) (fun r => by rw [HST.out]; rfl))
        clear hown hacc hI
        gi_wp2_with (refine ⟨trivial, ?_⟩; gi_at_call 26; refine (CallsIn.inRound l (callsIn_wide.2 hrd)).mono ?_; rintro e w9 ⟨rfl, hx9⟩; have hy9 := hx9.trans (Ext.alloc w9 (.cells #[.int .i64 k, .int .i64 o, .int .i64 a] 24)); have r2 := (HI.out.r2.ext hy9).cell 0; have r2f := (HI.out.r2.ext hy9).free 0; have r3 := (HI.out.r3.ext hy9).cell 0; have r3f := (HI.out.r3.ext hy9).free 0; have HY := hide hy9; clear hx9 hy9)
        exact OutP.of 3 HI.out HB.out HY.out HB3.out
      | true =>
        cases hm : mayO (k, o, a) with
        | false =>
          have HB1 := hide (parse_bad (e := 1) hacc (x := x) (fun r => by rw [HST.out, hm]; rfl))
          clear hown hacc hI
          gi_wp2_with (first | (refine ⟨trivial, ?_⟩; gi_at_call 26; refine (CallsIn.inRound l (callsIn_wide.2 hrd)).mono ?_; rintro e w9 ⟨rfl, hx9⟩; have hx := (Blk.new w9 #[.int .i64 k, .int .i64 o, .int .i64 a] 24).cell; have HX9 := hide (hx9.trans (Ext.alloc w9 (.cells #[.int .i64 k, .int .i64 o, .int .i64 a] 24)))) | (refine ⟨trivial, ?_⟩; gi_at_call 27; refine (CallsIn.inRound l (callsIn_wide.2 (mayBe_any (k, o, a) _))).mono ?_; rw [hm]; rintro e w10 ⟨rfl, hx10⟩; have hy9 := HX9.out.trans hx10; have r2 := (HI.out.r2.ext hy9).cell 0; have r2f := (HI.out.r2.ext hy9).free 0; have r3 := (HI.out.r3.ext hy9).cell 0; have r3f := (HI.out.r3.ext hy9).free 0; have HY := hide hy9; clear hx10 hy9))
          exact OutP.of 1 HI.out HB.out HY.out HB1.out
        | true =>
          have HS := hide (fun rest => show parseF ((pre ++ [x]) ++ rest) [] = parseF rest (acc ++ [(k, o, a)]) by rw [List.append_assoc, hacc]; show parseF (x :: rest) acc = _; rw [HST.out, hm]; rfl)
          obtain ⟨ti, hi, hz, hsz, hby⟩ := info_parts inf_op
          have hsB := hI.sz
          clear hown hacc hI
          gi_wp2_with (first | (refine ⟨trivial, ?_⟩; gi_at_call 26; refine (CallsIn.inRound l (callsIn_wide.2 hrd)).mono ?_; rintro e w9 ⟨rfl, hx9⟩; have hx := (Blk.new w9 #[.int .i64 k, .int .i64 o, .int .i64 a] 24).cell; have HX9 := hide (hx9.trans (Ext.alloc w9 (.cells #[.int .i64 k, .int .i64 o, .int .i64 a] 24)))) | (refine ⟨trivial, ?_⟩; gi_at_call 27; refine (CallsIn.inRound l (callsIn_wide.2 (mayBe_any (k, o, a) _))).mono ?_; rw [hm]; rintro e w10 ⟨rfl, hx10⟩; have hxx := (Blk.new w9 #[.int .i64 k, .int .i64 o, .int .i64 a] 24).ext hx10; have z0 := hxx.cell 0; have z1 := hxx.cell 1; have z2 := hxx.cell 2; have HY := hide (HX9.out.trans hx10); have r4 : w10.cell? ⟨B + 1 + 1, 0, none⟩ = some (.slice A1 acc.length c1) := (hb4.ext HY.out).cell 0; clear hx hx10 hxx) | (gi_at_builtin; refine wpListIn_append_own _ rfl _ _ 22 rfl (B + 6) 24 ti _ 3 24 Tryd.underlying22 hi hz hsz hby rfl (by omega) (.slice A1 acc.length c1) acc.length (rcells acc) rfl (own_ext HO.out (HY.out.trans (Ext.alloc _ _))) ⟨w10.heap.size, 0, none⟩ 1 1 [.int .i64 k, .int .i64 o, .int .i64 a] rfl rfl (by intro j u hu; rw [Addr.add_lit, Nat.zero_add, (Blk.new w10 _ _).cell, ← hu, ← Array.getElem?_toList]) (by simp [Value.oneCell']) (by unfold maxLen; omega) (by omega) (by have := HY.out.size; simp; omega) ?_; intro v' w11 hown' hg11 _; obtain ⟨A2, c2, rfl⟩ := own_sl hown'; have HO11 := hide hown'; have HG11 := hide hg11; have hb11 : Blk w11 (B + 2) #[.slice A1 acc.length c1] 22 := (hb4.ext (HY.out.trans (Ext.alloc _ _))).grown hg11 (fun k e => by have := own_row HO.out k e; omega); have r4 : w11.cell? ⟨B + 1 + 1, 0, none⟩ = some (.slice A1 acc.length c1) := hb11.cell 0; have r4f : w11.frozen? ⟨B + 1 + 1, 0, none⟩ = false := hb11.free 0; clear hown' hg11 hb11))
          exact InvP.app HI.out HB.out HY.out hb4 HO.out HS.out (by omega) HG11.out HO11.out
  case done =>
    intro D W hD hI hdef
    rw [P6.out] at hD
    obtain ⟨acc, v, hacc, hlen, hb4, hown⟩ := hI.acc
    obtain ⟨A1, c1, rfl⟩ := own_sl hown
    have r4 : W.cell? ⟨B + 1 + 1, 0, none⟩ = some (.slice A1 acc.length c1) := hb4.cell 0
    have r2 := hI.r2.cell 0
    have r2f := hI.r2.free 0
    have r3 := hI.r3.cell 0
    have r3f := hI.r3.free 0
    have HI := hide hI
    have HO := hide hown
    have HC := hide (hacc [])
    have HD := hide hdef
    clear hI hown hacc hdef
    go_wp2_with fail
    have hkf : ((W.setCell ⟨B, 0, none⟩ (.slice A1 acc.length c1)).setCell ⟨B + 1, 0, none⟩ (.int .i64 0)).heap[D]? = some (.deferred (some [])) := box_far _ (box_far _ HD.out (by omega)) (by omega)
    have f2 : Blk ((W.setCell ⟨B, 0, none⟩ (.slice A1 acc.length c1)).setCell ⟨B + 1, 0, none⟩ (.int .i64 0)) B #[.slice A1 acc.length c1] 22 := (HI.out.r2.set 0 _).far (p := ⟨B + 1, 0, none⟩) (by simp) _
    have f3 : Blk ((W.setCell ⟨B, 0, none⟩ (.slice A1 acc.length c1)).setCell ⟨B + 1, 0, none⟩ (.int .i64 0)) (B + 1) #[.int .i64 0] 28 := (HI.out.r3.far (p := ⟨B, 0, none⟩) (by simp) _).set 0 _
    have hx : Chg [B, B + 1] W ((W.setCell ⟨B, 0, none⟩ (.slice A1 acc.length c1)).setCell ⟨B + 1, 0, none⟩ (.int .i64 0)) := ((Chg.refl _ W).set (p := ⟨B, 0, none⟩) (.inl (by simp)) _).set (p := ⟨B + 1, 0, none⟩) (.inl (by simp)) _
    have ho : ((W.setCell ⟨B, 0, none⟩ (.slice A1 acc.length c1)).setCell ⟨B + 1, 0, none⟩ (.int .i64 0)).ownsRow (B + 6) 24 3 (.slice A1 acc.length c1) acc.length (rcells acc) := own_chg HO.out hx (fun t ht => by simp at ht; omega)
    have hE := HI.out.ext.turn hx (fun t ht => by have := HB.out; simp at ht; omega)
    generalize (W.setCell ⟨B, 0, none⟩ (.slice A1 acc.length c1)).setCell ⟨B + 1, 0, none⟩ (.int .i64 0) = Wf at *
    refine ⟨by simp, .inl ⟨_, _, rfl, run_takeDeferred hkf, ?_⟩⟩
    have hp := put_chg (l := D) (o := .deferred none) Wf
    have c2 := (f2.chg hp (by simp; omega)).cell 0
    have c3 := (f3.chg hp (by simp; omega)).cell 0
    have ho2 := own_chgB ho hp (fun k hk q => by
      obtain ⟨cs, hb⟩ := own_blk ho k hk
      obtain rfl : k = D := by simpa using q
      unfold Blk at hb; rw [hb] at hkf; cases hkf)
    obtain ⟨A2, c4, e2, hle, hch⟩ := Ch.of_own ho2
    cases e2
    have hR : parseO s = (acc, 0) := by
      unfold parseO
      rw [if_neg (by simpa using h0)]
      have := HC.out
      rwa [List.append_nil] at this
    refine ⟨.tuple #[.slice A1 acc.length c1, .int .i64 0], by simp [results, Tryd.results14, go_sem, c2, c3], ?_, hE.turn hp (fun t ht => by have := HB.out; simp at ht; omega)⟩
    unfold ParseR
    rw [hR]
    exact ⟨A1, c1, rfl, hle, hch⟩
  case stop =>
    intro D pre W hD hpre hO hdef
    rw [P6.out] at hD
    gi_wp2
    obtain ⟨e, hbad, r3⟩ := hO.err
    obtain ⟨rest, hrest⟩ := hpre
    have hR : parseO s = ([], e) := by
      unfold parseO
      rw [if_neg (by simpa using h0), ← hrest]
      exact hbad rest
    have hp := put_chg (l := D) (o := .deferred none) W
    refine ⟨by simp, .inl ⟨_, _, rfl, run_takeDeferred hdef, ?_⟩⟩
    have c2 := (hO.r2.chg hp (by simp; omega)).cell 0
    have c3 := (r3.chg hp (by simp; omega)).cell 0
    refine ⟨.tuple #[.slice none 0 0, .int .i64 e], by simp [results, Tryd.results14, go_sem, c2, c3], ?_, hO.ext.turn hp (fun t ht => by have := HB.out; simp at ht; omega)⟩
    unfold ParseR
    rw [hR]
    exact ⟨none, 0, rfl, Nat.le_refl _, Ch.nil _ _⟩
end Go.Proofs.YtapalbokfbobhaaDoor
