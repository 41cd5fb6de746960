/- The objects as they are behind some changes; what PlanKeeps keeps in memory. -/
import Derived.Test.YtecopjehmpjniaaDoorA3
import Derived.Test.YtecopjehmpjniaaDoorC9
namespace Go.Proofs.YtecopjehmpjniaaDoor
open Go.RowKit
set_option linter.unusedSimpArgs false
set_option linter.unusedVariables false
set_option maxRecDepth 100000

def nwI (I : List Nat) (F : Nat → Cg) (l : List Ob) (i : Nat) : Int := if i ∈ I then (F i).w else (ob l i).w
def nob (I : List Nat) (F : Nat → Cg) (l : List Ob) (i : Nat) : Ob := ⟨nwI I F l i, (ob l i).k, (ob l i).a, (ob l i).cp, (ob l i).l⟩
def nows (I : List Nat) (F : Nat → Cg) (l : List Ob) : List Ob := (List.range l.length).map (nob I F l)
theorem nows_len (I : List Nat) (F : Nat → Cg) (l : List Ob) : (nows I F l).length = l.length := by simp [nows]
theorem nows_at (I : List Nat) (F : Nat → Cg) (l : List Ob) {i : Nat} (h : i < (nows I F l).length) : (nows I F l)[i] = nob I F l i := by simp [nows]
theorem nows_nil (F : Nat → Cg) (l : List Ob) : nows [] F l = l := by
  apply List.ext_getElem (nows_len _ _ _)
  intro i h1 h2
  rw [nows_at, ← ob_at h2]
  simp [nob, nwI]
theorem mem_take {I : List Nat} {k i : Nat} (hk : k < I.length) : i ∈ I.take (k + 1) ↔ i ∈ I.take k ∨ i = I[k] := by
  rw [List.take_succ_eq_append_getElem hk, List.mem_append, List.mem_singleton]
theorem not_mem_take {I : List Nat} {k : Nat} (hk : k < I.length) (nd : I.Nodup) : I[k] ∉ I.take k := by
  have e : I.take (k + 1) = I.take k ++ [I[k]] := List.take_succ_eq_append_getElem hk
  have h : (I.take (k + 1)).Nodup := nd.sublist (List.take_sublist _ _)
  rw [e, List.nodup_append] at h
  intro hm
  exact h.2.2 _ hm _ (by simp) rfl
theorem nows_step {I : List Nat} {F : Nat → Cg} {l : List Ob} {k : Nat} (hk : k < I.length) (nd : I.Nodup) :
    (nows (I.take k) F l).set I[k] ⟨(F I[k]).w, (ob l I[k]).k, (ob l I[k]).a, (ob l I[k]).cp, (ob l I[k]).l⟩ = nows (I.take (k + 1)) F l := by
  apply List.ext_getElem (by simp [nows_len])
  intro i h1 h2
  rw [List.getElem_set]
  split
  · rename_i e
    subst e
    rw [nows_at]
    simp [nob, nwI, mem_take hk]
  · rename_i e
    rw [nows_at, nows_at]
    have : i ∈ I.take (k + 1) ↔ i ∈ I.take k := by rw [mem_take hk]; simp [Ne.symm e]
    simp [nob, nwI, this]
theorem fl_setW (v : Int) (N : List Ob) : ∀ j (h : j < N.length), (fl sc N).set (j * 3) (.int .u64 v) = fl sc (N.set j ⟨v, (N[j]).k, (N[j]).a, (N[j]).cp, (N[j]).l⟩) := by
  induction N with
  | nil => intro j h; simp at h
  | cons x l ih =>
    intro j h
    have e : ∀ (x : Ob) l, fl sc (x :: l) = .int .u64 x.w :: .int .i64 x.k :: .slice x.a x.l.length x.cp :: fl sc l := fun _ _ => rfl
    cases j with
    | zero => rfl
    | succ j =>
      rw [e, show (j + 1) * 3 = j * 3 + 1 + 1 + 1 by omega]
      simp only [List.set_cons_succ]
      rw [ih j (by simpa using h)]
      rfl
/-- What PlanKeeps keeps: the limits' block, the objects as they are now, the changes, the classes. -/
structure KS (w wr : World) (X : Nat) (o rb rv : Int) (g cap n : Nat) (N : List Ob) (A2 : Option Addr) (c2 : Nat) (C : List Cg) (A1 : Option Addr) (c1 m : Nat) (K : List Kl) : Prop where
  b : Blk wr X #[.int .i64 o, .int .i64 rb, .int .i64 rv] 40
  nw : wr.ownsRow w.heap.size 31 3 (.slice (some ⟨g, 0, none⟩) n cap) n (fl sc N)
  ch : wr.ownsRow w.heap.size 28 4 (.slice A2 C.length c2) C.length (fl gc C)
  kl : wr.ownsRow w.heap.size 51 3 (.slice A1 m c1) m (fl kc K)
  x : Ext w wr
section
variable {w wr w2 : World} {X : Nat} {o rb rv : Int} {g cap n c2 c1 m : Nat} {N : List Ob} {A2 A1 : Option Addr} {C : List Cg} {K : List Kl}
theorem KS.ext (h : KS w wr X o rb rv g cap n N A2 c2 C A1 c1 m K) (e : Ext wr w2) : KS w w2 X o rb rv g cap n N A2 c2 C A1 c1 m K :=
  ⟨h.b.ext e, own_ext h.nw e, own_ext h.ch e, own_ext h.kl e, h.x.trans e⟩
theorem KS.set (h : KS w wr X o rb rv g cap n N A2 c2 C A1 c1 m K) (hn : n = N.length) {j : Nat} (hj : j < N.length) (v : Int) :
    KS w (wr.setCell ⟨g, j * 3, none⟩ (.int .u64 v)) X o rb rv g cap n (N.set j ⟨v, (N[j]).k, (N[j]).a, (N[j]).cp, (N[j]).l⟩) A2 c2 C A1 c1 m K := by
  subst hn
  have hc : Chg [g] wr (wr.setCell ⟨g, j * 3, none⟩ (.int .u64 v)) := (Chg.refl [g] wr).set (p := ⟨g, j * 3, none⟩) (.inl (by simp)) _
  obtain ⟨cs, hb⟩ := own_blk h.nw g rfl
  have hg := own_row h.nw g rfl
  have ownW : ∀ {e : TypeId} {sz p : Nat} {vv : Value} {xs : List Value}, wr.ownsRow w.heap.size e sz vv p xs → e ≠ 31 → (wr.setCell ⟨g, j * 3, none⟩ (.int .u64 v)).ownsRow w.heap.size e sz vv p xs := by
    intro e sz p vv xs ho he
    refine own_chgB ho hc fun k e2 q => ?_
    obtain ⟨cs2, hb2⟩ := own_blk ho k e2
    rw [List.mem_singleton.1 q] at hb2
    exact he (Blk.type hb2 hb)
  have hs := own_set h.nw (j := j * 3) (by omega) (.int .u64 v)
  rw [fl_setW v N j hj] at hs
  refine ⟨h.b.chg hc ?_, hs, ownW h.ch (by decide), ownW h.kl (by decide), h.x.turn hc (fun t ht => by rw [List.mem_singleton.1 ht]; exact hg)⟩
  intro q
  have hb2 := h.b
  rw [List.mem_singleton.1 q] at hb2
  exact absurd (Blk.type hb2 hb) (by decide)
end
theorem KS.step {w wr : World} {X : Nat} {o rb rv : Int} {g cap c2 c1 m k : Nat} {A2 A1 : Option Addr} {C : List Cg} {K : List Kl} {I : List Nat} {F : Nat → Cg} {l : List Ob} (h : KS w wr X o rb rv g cap l.length (nows (I.take k) F l) A2 c2 C A1 c1 m K) (hk : k < I.length) (nd : I.Nodup) (hlt : I[k] < l.length) :
    KS w (wr.setCell ⟨g, I[k] * 3, none⟩ (.int .u64 (F I[k]).w)) X o rb rv g cap l.length (nows (I.take (k + 1)) F l) A2 c2 C A1 c1 m K := by
  have := h.set (nows_len _ _ _).symm (j := I[k]) (by rw [nows_len]; exact hlt) (F I[k]).w
  rw [nows_at] at this
  simp only [nob] at this
  rw [nows_step hk nd] at this
  exact this
end Go.Proofs.YtecopjehmpjniaaDoor
