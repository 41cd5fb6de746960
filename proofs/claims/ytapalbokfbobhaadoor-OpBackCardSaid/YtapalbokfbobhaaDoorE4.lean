/- A range over strings.SplitSeq: what its body owes, where the iterator turns its own box between two rounds. -/
import Derived.Test.YtapalbokfbobhaaDoorE3
namespace Go.Proofs.YtapalbokfbobhaaDoor
open Go.RowKit Go.Shelf
set_option linter.unusedSimpArgs false
set_option linter.unusedVariables false
set_option maxRecDepth 100000

theorem Kq.put {Z : Nat} {T : List Nat} (W : World) (l : Nat) (o : Obj) (h : Z ≤ l) : Kq Z T W (W.putObj l o) :=
  ⟨by simp, fun b _ hz _ => World.putObj_heap_other (by omega)⟩
theorem box_far {W : World} {B k : Nat} {o : Obj} (v : Value) (h : W.heap[k]? = some o) (hne : k ≠ B) : (W.setCell ⟨B, 0, none⟩ v).heap[k]? = some o := (Below.heap_setCell W ⟨B, 0, none⟩ v k hne).trans h
/-- How a round may end: it goes on, or returns. -/
def endBox (D : Nat) (T : List Nat) (I X : List (List UInt8) → World → Prop) (xs : List (List UInt8)) (W : World) : Exit → Act → World → Prop
  | .normal, _, W' => KeepsFrom D W W' ∧ Kq D T W W' ∧ I xs W'
  | .ret, _, W' => KeepsFrom D W W' ∧ X xs W'
  | _, _, _ => False
/-- The loop's record, ready or done. -/
def recBox (fn : FuncId) (tmps : Array Value) (ps : Array Tmp) (assign body : Code) (D : Nat) (st : LoopState) (pe : Option Code) : Loop :=
  { state := st, pending := pe, fn := fn, tmps := tmps, params := ps, assign := assign, body := body, defers := D }
section
variable {fn : FuncId} {tmps : Array Value} {ps : Array Tmp} {assign body : Code} {D : Nat} {T : List Nat} {I X : List (List UInt8) → World → Prop}
/-- One round. -/
theorem round_box (hI : OwnFrom D I) (hX : OwnFrom D X) (hps : ps.size = 1) {pre : List (List UInt8)} {x : List UInt8} {W : World} (a₁ : Act)
    (hassign : ∀ (K : Act → World → Prop), K a₁ W → assign.wpIn (Fence.wide.inRound (D + 1)) 1 Tryd.prog (Exit.then K (fun _ _ _ => False)) { tmps := (ps.zip #[(Value.string ⟨List.toArray (x)⟩)]).foldl (fun t (p, v) => t.setIfInBounds p v) tmps, defers := [] } W)
    (hbody : ∀ W, I pre W → body.wpIn (Fence.wide.inRound (D + 1)) 1 Tryd.prog (endBox D T I X (pre ++ [x]) W) a₁ W)
    (hi : I pre W) (hl : W.heap[D + 1]? = some (.loop (recBox fn tmps ps assign body D .ready none))) (hk : W.heap[D]? = some (.deferred (some []))) :
    YieldAt Fence.wide 1 Tryd.prog (D + 1) #[(Value.string ⟨List.toArray (x)⟩)] W fun e W' =>
      (e = .returned (.bool true) ∧ (I (pre ++ [x]) W' ∧ W'.heap[D + 1]? = some (.loop (recBox fn tmps ps assign body D .ready none)) ∧ W'.heap[D]? = some (.deferred (some []))) ∧ Kq D T W W') ∨
      (e = .returned (.bool false) ∧ X (pre ++ [x]) W' ∧ W'.heap[D + 1]? = some (.loop (recBox fn tmps ps assign body D .done (some .ret))) ∧ W'.heap[D]? = some (.deferred (some []))) := by
  have hlt : D + 1 < W.heap.size := (Array.getElem?_eq_some_iff.1 hl).1
  refine ⟨fn, _, assign, body, run_yield (P := Tryd.prog) (args := #[(Value.string ⟨List.toArray (x)⟩)]) hl (by simpa [recBox] using hps.symm), roundIn_of_wpIn trivial (hassign _ ⟨_, run_beginRound hl rfl, ?_⟩)⟩
  obtain ⟨W2, hW2⟩ : ∃ W2, W.putObj (D + 1) (.loop (recBox fn tmps ps assign body D .busy none)) = W2 := ⟨_, rfl⟩
  have hl2 : W2.heap[D + 1]? = some (.loop (recBox fn tmps ps assign body D .busy none)) := by rw [← hW2]; exact World.putObj_heap_same hlt
  have hk2 : W2.heap[D]? = some (.deferred (some [])) := by rw [← hW2]; exact (World.putObj_heap_other (by omega)).trans hk
  have hi2 : I pre W2 := by rw [← hW2]; exact hI.putObj _ hi (by omega) hl rfl
  have hq2 : Kq D T W W2 := by rw [← hW2]; exact Kq.put W _ _ (by omega)
  refine wpIn_mono (show body.wpIn (Fence.wide.inRound (D + 1)) 1 Tryd.prog (endBox D T I X (pre ++ [x]) W2) a₁ _ from by rw [← hW2]; rw [← hW2] at hi2; exact hbody _ hi2) ?_
  intro e a3 W3 hp
  cases e with
  | normal =>
    obtain ⟨hk3, hq3, hi3⟩ := hp
    have hl3 := hk3.same _ _ (by omega) hl2 rfl
    have hd3 := hk3.same _ _ (Nat.le_refl _) hk2 rfl
    exact ⟨_, _, run_endRound (P := Tryd.prog) none hl3, .inl ⟨rfl, ⟨hI.putObj _ hi3 (by omega) hl3 rfl, World.putObj_heap_same (Array.getElem?_eq_some_iff.1 hl3).1, (World.putObj_heap_other (by omega)).trans hd3⟩, (hq2.trans hq3).trans (Kq.put W3 _ _ (by omega))⟩⟩
  | ret =>
    obtain ⟨hk3, hi3⟩ := hp
    have hl3 := hk3.same _ _ (by omega) hl2 rfl
    have hd3 := hk3.same _ _ (Nat.le_refl _) hk2 rfl
    exact ⟨_, _, run_endRound (P := Tryd.prog) (some .ret) hl3, .inr ⟨rfl, hX.putObj _ hi3 (by omega) hl3 rfl, World.putObj_heap_same (Array.getElem?_eq_some_iff.1 hl3).1, (World.putObj_heap_other (by omega)).trans hd3⟩⟩
  | exit id => exact hp.elim
  | goto t => exact hp.elim
  | panic ch => exact hp.elim
  | outgrown => exact hp.elim
end
/-- The loop over the parts of a text. -/
theorem range_box {g : Operand} {ps : Array Tmp} {assign body : Code} {Q : Exit → Act → World → Prop} {a : Act} {w : World} {Bs Be Bv : Nat} {T : List Nat} {s : List UInt8}
    (hg : a.eval g = .func (.func 43) #[] #[.pointer (some ⟨Be, 0, none⟩), .pointer (some ⟨Bs, 0, none⟩), .pointer (some ⟨Bv, 0, none⟩)]) (hps : ps.size = 1)
    (hs : s.length ≤ 5000) (hb1 : Blk w Bs #[(Value.string ⟨List.toArray (s)⟩)] 9) (hb2 : Blk w Be #[(Value.string ⟨List.toArray ([59, 32])⟩)] 9) (hb3 : Blk w Bv #[.int .i64 0] 3) (hG : Glob w)
    (hT : Bs ∉ T ∧ Be ∉ T ∧ Bv ∉ T) (hn1 : Bs ≠ Be) (hn2 : Bs ≠ Bv) (gT : 4 ∉ T ∧ 1 ∉ T ∧ 0 ∉ T) (gB : Bs ≠ 4 ∧ Bs ≠ 1 ∧ Bs ≠ 0) (gZ : 4 < w.heap.size ∧ 1 < w.heap.size ∧ 0 < w.heap.size)
    (I X : List (List UInt8) → World → Prop) (hI : OwnFrom w.heap.size I) (hX : OwnFrom w.heap.size X) (hIs : ∀ pre W v, I pre W → I pre (W.setCell ⟨Bs, 0, none⟩ v)) (h0 : I [] w) (a₁ : List UInt8 → Act)
    (hassign : ∀ (l : Nat) (x : List UInt8) (W : World) (K : Act → World → Prop), K (a₁ x) W →
      assign.wpIn (Fence.wide.inRound l) 1 Tryd.prog (Exit.then K (fun _ _ _ => False)) { tmps := (ps.zip #[(Value.string ⟨List.toArray (x)⟩)]).foldl (fun t (p, v) => t.setIfInBounds p v) a.tmps, defers := [] } W)
    (hbody : ∀ (l : Nat) (pre : List (List UInt8)) (x : List UInt8) (W : World), I pre W → x.length ≤ 5000 → body.wpIn (Fence.wide.inRound l) 1 Tryd.prog (endBox w.heap.size T I X (pre ++ [x]) W) (a₁ x) W)
    (hdone : ∀ (D : Nat) (W : World), w.heap.size ≤ D → I (pieces s) W → W.heap[D]? = some (.deferred (some [])) → Q .normal { a with defers := { target := .collected D, args := #[] } :: a.defers } W)
    (hstop : ∀ (D : Nat) (pre : List (List UInt8)) (W : World), w.heap.size ≤ D → pre <+: pieces s → X pre W → W.heap[D]? = some (.deferred (some [])) → Code.ret.wpIn Fence.wide 3 Tryd.prog Q { a with defers := { target := .collected D, args := #[] } :: a.defers } W) :
    (Code.rangeFunc g ps assign body).wpIn Fence.wide 3 Tryd.prog Q a w := by
  refine wpIn_rangeFunc fun fn hfn => ?_
  have hrun := run_enterLoop_outer (P := Tryd.prog) (w := w) fn a.tmps ps assign body
  obtain ⟨W1, hW1⟩ : ∃ W1, (w.alloc (.deferred (some []))).alloc (.loop (recBox fn a.tmps ps assign body w.heap.size .ready none)) = W1 := ⟨_, rfl⟩
  have hx : Ext w W1 := by rw [← hW1]; exact (Ext.alloc _ _).trans (Ext.alloc _ _)
  have hl1 : W1.heap[w.heap.size + 1]? = some (.loop (recBox fn a.tmps ps assign body w.heap.size .ready none)) := by
    rw [← hW1]
    have := World.alloc_heap_new (w.alloc (.deferred (some []))) (.loop (recBox fn a.tmps ps assign body w.heap.size .ready none))
    rwa [World.size_alloc] at this
  have hk1 : W1.heap[w.heap.size]? = some (.deferred (some [])) := by
    rw [← hW1]
    exact (Below.heap_alloc _ _ _ (by simp)).trans (World.alloc_heap_new w _)
  have hi1 : I [] W1 := by rw [← hW1]; exact hI.alloc _ (hI.alloc _ h0)
  refine ⟨w.heap.size + 1, [{ target := .collected w.heap.size, args := #[] }], W1, { target := .fn (.func 43) #[.pointer (some ⟨Be, 0, none⟩), .pointer (some ⟨Bs, 0, none⟩), .pointer (some ⟨Bv, 0, none⟩)], args := #[.func (.yield (w.heap.size + 1)) #[] #[]] }, W1, 43,
    #[.func (.yield (w.heap.size + 1)) #[] #[], .pointer (some ⟨Be, 0, none⟩), .pointer (some ⟨Bs, 0, none⟩), .pointer (some ⟨Bv, 0, none⟩)], W1, ?_, ?_, ?_, ?_, fun _ => by omega, ?_⟩
  · rw [← hW1]; exact hrun
  · simp only [resolve, hg]
    simp [go_sem]
  · intro f' hf'; trivial
  · simp [invoke, go_sem, enters_of Tryd.func43 (by kernel_rfl) rfl]
  · refine (splitF_in (w.heap.size + 1) Bs Be Bv w.heap.size T ⟨hb1.lt, hb2.lt, hb3.lt⟩ hT hn1 hn2 gZ gT gB s hs
      (fun pre W => I pre W ∧ W.heap[w.heap.size + 1]? = some (.loop (recBox fn a.tmps ps assign body w.heap.size .ready none)) ∧ W.heap[w.heap.size]? = some (.deferred (some [])))
      (fun pre W => X pre W ∧ W.heap[w.heap.size + 1]? = some (.loop (recBox fn a.tmps ps assign body w.heap.size .done (some .ret))) ∧ W.heap[w.heap.size]? = some (.deferred (some [])))
      (fun pre W v h => ⟨hIs pre W v h.1, box_far v h.2.1 (by have := hb1.lt; omega), box_far v h.2.2 (by have := hb1.lt; omega)⟩)
      (fun pre x W h hlx => round_box hI hX hps (a₁ x) (hassign _ x W) (fun W hi => hbody _ pre x W hi hlx) h.1 h.2.1 h.2.2)
      W1 (hb1.ext hx) (hb2.ext hx) (hb3.ext hx) (hG.ext hx) ⟨hi1, hl1, hk1⟩).mono ?_
    rintro e W2 ⟨⟨v, rfl⟩, (⟨hi, hl, hk⟩ | ⟨pre, hpre, hi, hl, hk⟩)⟩
    · exact ⟨none, _, run_endLoop (P := Tryd.prog) hl (by simp [recBox]), hdone _ _ (Nat.le_refl _) (hI.putObj _ hi (by omega) hl rfl) ((World.putObj_heap_other (by omega)).trans hk)⟩
    · exact ⟨some .ret, _, run_endLoop (P := Tryd.prog) hl (by simp [recBox]), hstop _ pre _ (Nat.le_refl _) hpre (hX.putObj _ hi (by omega) hl rfl) ((World.putObj_heap_other (by omega)).trans hk)⟩
end Go.Proofs.YtapalbokfbobhaaDoor
