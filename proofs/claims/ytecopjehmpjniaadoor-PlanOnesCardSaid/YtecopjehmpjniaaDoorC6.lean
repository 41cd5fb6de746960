/- What a revocation comes to; its state in memory. -/
import Derived.Test.YtecopjehmpjniaaDoorC5
namespace Go.Proofs.YtecopjehmpjniaaDoor
open Go.RowKit
set_option linter.unusedSimpArgs false
set_option linter.unusedVariables false
set_option maxRecDepth 100000


def ob (l : List Ob) (i : Nat) : Ob := l[i]?.getD default
theorem ob_at {l : List Ob} {i : Nat} (h : i < l.length) : ob l i = l[i] := by simp [ob, h]
/-- The changes of those of a row that p tells, in order; one that is told, or none. -/
def gath (p : Nat → Bool) (f : Nat → Cg) (n : Nat) : List Cg := ((List.range n).filter p).map f
def one1 (p : Bool) (c : Cg) : List Cg := if p = true then [c] else []
theorem gath_succ (p : Nat → Bool) (f : Nat → Cg) (k : Nat) : gath p f (k + 1) = gath p f k ++ one1 (p k) (f k) := by
  unfold gath one1
  rw [List.range_succ, List.filter_append, List.map_append]
  cases h : p k <;> simp [h]
theorem gath_no {p : Nat → Bool} {f : Nat → Cg} {k : Nat} (h : p k = false) : gath p f (k + 1) = gath p f k := by
  rw [gath_succ, h]; simp [one1]
theorem gath_len (p : Nat → Bool) (f : Nat → Cg) (n : Nat) : (gath p f n).length ≤ n := by
  have h := List.length_filter_le p (List.range n)
  simpa [gath] using h
theorem one1_len (p : Bool) (c : Cg) : (one1 p c).length ≤ 1 := by unfold one1; split <;> simp
def pO (l : List Ob) (i : Nat) : Bool := oneB i (ob l i) && (oneV i (ob l i)).w != (ob l i).w
def cO (l : List Ob) (i : Nat) : Cg := oneV i (ob l i)
def pR (e : Int) (l : List Ob) (i : Nat) : Bool := rebB (ob l i) && (rebV e i (ob l i)).w != (ob l i).w
def cR (e : Int) (l : List Ob) (i : Nat) : Cg := rebV e i (ob l i)
/-- The changes of a Rebias, of a Revoke. -/
def qR (e a : Int) (j : Nat) (l : List Ob) (i : Nat) : Bool := (ob l i).k == a && (i != j && pR e l i)
def qV (a : Int) (l : List Ob) (i : Nat) : Bool := (ob l i).k == a && pO l i
/-- The class behind it, by what is told. -/
def newK (q : Int) (y : Kl) : Kl := if q = 0 then ⟨y.b, y.e, upC y.c⟩ else if q = 1 then ⟨y.b, (y.e + 1) % 256, upC y.c⟩ else ⟨false, y.e, upC y.c⟩
def chs (q : Int) (y : Kl) (j : Nat) (l : List Ob) : List Cg :=
  if q = 0 then one1 (pO l j) (cO l j)
  else if q = 1 then gath (qR (newK 1 y).e (ob l j).k j l) (cR (newK 1 y).e l) l.length ++ one1 (pO l j) (cO l j)
  else gath (qV (ob l j).k l) (cO l) l.length

/-- A revocation's state: the objects' variable, the changes', the class's. -/
structure RS (w wr : World) (P C K : Nat) (A : Option Addr) (n cp : Nat) (y : Kl) (L : List Cg) : Prop where
  p : Blk wr P #[.slice A n cp] 47
  c : ∃ v, Blk wr C #[v] 43 ∧ wr.ownsRow w.heap.size 28 4 v L.length (fl gc L)
  k : Blk wr K (kc y) 51
  x : Ext w wr
  lc : w.heap.size ≤ C
  lk : w.heap.size ≤ K
theorem RS.ext {w wr w2 : World} {P C K n cp : Nat} {A : Option Addr} {y : Kl} {L : List Cg} (h : RS w wr P C K A n cp y L) (e : Ext wr w2) : RS w w2 P C K A n cp y L := by
  obtain ⟨v, h1, h2⟩ := h.c
  exact ⟨h.p.ext e, ⟨v, h1.ext e, own_ext h2 e⟩, h.k.ext e, h.x.trans e, h.lc, h.lk⟩
theorem RS.turn {w wr w2 : World} {P C K n cp : Nat} {A : Option Addr} {y : Kl} {L L' : List Cg} {v : Value} (h : RS w wr P C K A n cp y L) (e : Kp [43, 28] w.heap.size wr w2) (hb : Blk w2 C #[v] 43) (ho : w2.ownsRow w.heap.size 28 4 v L'.length (fl gc L')) : RS w w2 P C K A n cp y L' :=
  ⟨e.blk h.p (by decide), ⟨v, hb, ho⟩, e.blk h.k (by decide), e.ext h.x (Nat.le_refl _), h.lc, h.lk⟩
theorem RS.setK {w wr : World} {P C K n cp : Nat} {A : Option Addr} {y : Kl} {L : List Cg} (h : RS w wr P C K A n cp y L) (y' : Kl) : RS w (((wr.setCell ⟨K, 0, none⟩ (.bool y'.b)).setCell ⟨K, 1, none⟩ (.int .u8 y'.e)).setCell ⟨K, 2, none⟩ (.int .i64 y'.c)) P C K A n cp y' L := by
  have hc : Chg [K] wr (((wr.setCell ⟨K, 0, none⟩ (.bool y'.b)).setCell ⟨K, 1, none⟩ (.int .u8 y'.e)).setCell ⟨K, 2, none⟩ (.int .i64 y'.c)) :=
    (((Chg.refl [K] wr).set (p := ⟨K, 0, none⟩) (.inl (by simp)) _).set (p := ⟨K, 1, none⟩) (.inl (by simp)) _).set (p := ⟨K, 2, none⟩) (.inl (by simp)) _
  have hk := ((h.k.set 0 (.bool y'.b)).set 1 (.int .u8 y'.e)).set 2 (.int .i64 y'.c)
  obtain ⟨v, h1, h2⟩ := h.c
  have n1 : P ≠ K := by rintro rfl; exact absurd (Blk.type h.p h.k) (by decide)
  have n2 : C ≠ K := by rintro rfl; exact absurd (Blk.type h1 h.k) (by decide)
  refine ⟨h.p.chg hc (by simpa using n1), ⟨v, h1.chg hc (by simpa using n2), own_chgB h2 hc fun k e q => ?_⟩, by simpa [kc] using hk, h.x.turn hc (fun t ht => by rw [List.mem_singleton.1 ht]; exact h.lk), h.lc, h.lk⟩
  obtain ⟨cs, hb⟩ := own_blk h2 k e
  rw [List.mem_singleton.1 q] at hb
  exact absurd (Blk.type hb h.k) (by decide)
/-- The gathering, over the state. -/
theorem rs_gather {w wr : World} {P C K n cp : Nat} {b off : Nat} {y : Kl} {L : List Cg} (h : RS w wr P C K (some ⟨b, off, none⟩) n cp y L) (hL : L.length ≤ 1000) (x : Cg) (ok : Bool) (v : Int)
    (hj : ok = true → ∃ j : Nat, x.o = (j : Int) ∧ j < n ∧ ∀ w', Ext w w' → w'.cell? ⟨b, off + j * 3, none⟩ = some (.int .u64 v)) :
    Calls Tryd.prog 26 #[.agg (gc x), .bool ok, (.pointer (some ⟨P, 0, none⟩)), (.pointer (some ⟨C, 0, none⟩))] wr fun e w' => e = .returned (.tuple #[]) ∧ RS w w' P C K (some ⟨b, off, none⟩) n cp y (L ++ one1 (ok && x.w != v) x) := by
  cases ok with
  | false =>
    refine (gather_no x P C wr).mono ?_
    rintro e w2 ⟨rfl, hb⟩
    have := h.ext hb
    exact ⟨rfl, by simpa [one1] using this⟩
  | true =>
    obtain ⟨j, h1, h2, h3⟩ := hj rfl
    obtain ⟨vr, hc, ho⟩ := h.c
    have r0 : ∀ w', Ext wr w' → w'.cell? ⟨P, 0, none⟩ = some (.slice (some ⟨b, off, none⟩) n cp) := fun w' e => (h.p.ext e).cell 0
    by_cases hv : x.w = v
    · subst hv
      refine (gather_same x wr h1 h2 r0 (fun w' e => h3 w' (h.x.trans e))).mono ?_
      rintro e w2 ⟨rfl, hb⟩
      have := h.ext hb
      exact ⟨rfl, by simpa [one1] using this⟩
    · refine (gather_put x wr h1 h2 r0 (fun w' e => h3 w' (h.x.trans e)) hv hc ho hL h.lc).mono ?_
      rintro e w2 ⟨rfl, v', hb2, ho2, hk⟩
      have e1 : one1 (true && x.w != v) x = [x] := by simp [one1, hv]
      rw [e1]
      exact ⟨rfl, h.turn hk hb2 (by simpa using ho2)⟩
theorem sl_obj2 {w : World} {B : Nat} {A : Option Addr} {l : List Ob} (h : Sl w B 3 A l.length (fl sc l)) (hB : B ≤ w.heap.size) (h0 : 0 < l.length) :
    ∃ b off, A = some ⟨b, off, none⟩ ∧ b < B ∧ ∀ k (hk : k < l.length), (∀ w', Ext w w' → w'.cell? ⟨b, off + k * 3, none⟩ = some (.int .u64 l[k].w)) ∧ (∀ w', Ext w w' → w'.cell? ⟨b, off + k * 3 + 1, none⟩ = some (.int .i64 l[k].k)) ∧ (∀ w', Ext w w' → w'.cell? ⟨b, off + k * 3 + 2, none⟩ = some (.slice l[k].a l[k].l.length l[k].cp)) := by
  obtain ⟨b, off, rfl, hb, _⟩ := sl_obj h rfl hB h0
  refine ⟨b, off, rfl, hb, fun k hk => ?_⟩
  obtain ⟨b2, off2, e, _, h2⟩ := sl_obj h rfl hB hk
  simp only [Option.some.injEq, Addr.mk.injEq, and_true] at e
  obtain ⟨rfl, rfl⟩ := e
  exact h2
theorem fl_setK (y : Kl) (ks : List Kl) : ∀ k, k < ks.length → (((fl kc ks).set (k * 3) (.bool y.b)).set (k * 3 + 1) (.int .u8 y.e)).set (k * 3 + 2) (.int .i64 y.c) = fl kc (ks.set k y) := by
  induction ks with
  | nil => intro k h; simp at h
  | cons x l ih =>
    intro k h
    have e : fl kc (x :: l) = .bool x.b :: .int .u8 x.e :: .int .i64 x.c :: fl kc l := rfl
    cases k with
    | zero => rfl
    | succ k =>
      rw [e, show (k + 1) * 3 = k * 3 + 1 + 1 + 1 by omega, show k * 3 + 1 + 1 + 1 + 1 = k * 3 + 1 + 1 + 1 + 1 from rfl, show k * 3 + 1 + 1 + 1 + 2 = k * 3 + 2 + 1 + 1 + 1 by omega]
      simp only [List.set_cons_succ]
      rw [ih k (by simpa using h)]
      rfl
/-- A class of a row of classes put anew. -/
theorem own_setK {w : World} {base g cap k : Nat} {ks : List Kl} (h : w.ownsRow base 51 3 (.slice (some ⟨g, 0, none⟩) ks.length cap) ks.length (fl kc ks)) (hk : k < ks.length) (y : Kl) :
    (((w.setCell ⟨g, k * 3, none⟩ (.bool y.b)).setCell ⟨g, k * 3 + 1, none⟩ (.int .u8 y.e)).setCell ⟨g, k * 3 + 2, none⟩ (.int .i64 y.c)).ownsRow base 51 3 (.slice (some ⟨g, 0, none⟩) ks.length cap) ks.length (fl kc (ks.set k y)) := by
  have := own_set (own_set (own_set h (j := k * 3) (by omega) (.bool y.b)) (j := k * 3 + 1) (by omega) (.int .u8 y.e)) (j := k * 3 + 2) (by omega) (.int .i64 y.c)
  rwa [fl_setK y ks k hk] at this
end Go.Proofs.YtecopjehmpjniaaDoor
