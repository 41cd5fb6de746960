/- Objects, and what the program makes of one. -/
import Derived.Test.YtecopjehmpjniaaDoorK1
import Derived.Test.YtecopjehmpjniaaDoorGrow
namespace Go.Proofs.YtecopjehmpjniaaDoor
open Go.RowKit
set_option linter.unusedSimpArgs false
set_option linter.unusedVariables false


/-- The thread that a word tells; its kind. -/
def ownW (v : Int) : Int := (if gW v then uO v else 0) - 1
def kdv (v : Int) : Int := if gW v then uK v else 0
theorem isB_kdv (v : Int) : isB v = (kdv v == 4) := by
  unfold isB kdv
  by_cases h : gW v <;> simp [h]
theorem own_ge (v : Int) (h : InW v) : -1 ≤ ownW v ∧ ownW v ≤ 65534 := by
  obtain ⟨_, _, _, _, _, _, o0, o1, _⟩ := u_ok h
  unfold ownW
  split <;> omega
theorem own_b {v : Int} (h : isB v = true) : ownW v = uO v - 1 := by
  unfold ownW
  rw [if_pos (isB_4 h).1]
/-- A list of ints that is read. -/
def Ch (w : World) (A : Option Addr) (l : List Int) : Prop :=
  l.length = 0 ∨ ∃ b off, A = some ⟨b, off, none⟩ ∧ b < w.heap.size ∧ ∀ j (h : j < l.length), w.cell? ⟨b, off + j, none⟩ = some (.int .i64 l[j])
theorem Ch.ext {w w' : World} {A : Option Addr} {l : List Int} (h : Ch w A l) (x : Ext w w') : Ch w' A l := by
  rcases h with h | ⟨b, off, h1, h2, h3⟩
  · exact .inl h
  · exact .inr ⟨b, off, h1, Nat.lt_of_lt_of_le h2 x.size, fun j hj => (x.oldCell _ _ h2).trans (h3 j hj)⟩
theorem Ch.at_ {w : World} {A : Option Addr} {l : List Int} (h : Ch w A l) {j : Nat} (hj : j < l.length) : ∃ b off, A = some ⟨b, off, none⟩ ∧ ∀ w', Ext w w' → w'.cell? ⟨b, off + j, none⟩ = some (.int .i64 l[j]) := by
  rcases h with h | ⟨b, off, h1, h2, h3⟩
  · omega
  · exact ⟨b, off, h1, fun w' x => (x.oldCell _ _ h2).trans (h3 j hj)⟩
/-- An object: its word, its class, its counts. -/
structure Ob where
  w : Int
  k : Int
  a : Option Addr
  cp : Nat
  l : List Int
instance : Inhabited Ob := ⟨⟨0, 0, none, 0, []⟩⟩
def sc (s : Ob) : Array Value := #[.int .u64 s.w, .int .i64 s.k, .slice s.a s.l.length s.cp]
structure OkO (W : World) (s : Ob) : Prop where
  w : InW s.w
  c : Ch W s.a s.l
  len : s.l.length ≤ s.cp
  cap : s.cp ≤ maxLen
theorem OkO.ext {w w' : World} {s : Ob} (h : OkO w s) (x : Ext w w') : OkO w' s := ⟨h.w, h.c.ext x, h.len, h.cap⟩
/-- Has a thread a record? -/
def hasB (t : Int) (l : List Int) : Bool := decide (0 ≤ t) && (decide (t < l.length) && decide (0 < l.getD t.toNat 0))
theorem hasB_lo {t : Int} {l : List Int} (h : ¬ 0 ≤ t) : hasB t l = false := by simp [hasB, h]
theorem hasB_hi {t : Int} {l : List Int} (h : ¬ t < l.length) : hasB t l = false := by simp [hasB, h]
theorem hasB_at {m : Nat} {l : List Int} (h : m < l.length) : hasB (m : Int) l = decide (0 < l[m]) := by
  simp [hasB, h, List.getD_eq_getElem?_getD]
/-- A change: of what, its new word, whose it is, what is saved. -/
structure Cg where
  o : Int
  w : Int
  u : Int
  s : Int
instance : Inhabited Cg := ⟨⟨0, 0, 0, 0⟩⟩
def gc (x : Cg) : Array Value := #[.int .i64 x.o, .int .u64 x.w, .int .i64 x.u, .int .u64 x.s]
/-- Neutral of an age; Thin of an owner's number and a record. -/
def neuI (a : Int) : Int := codeW 2 a 0 0 0 0 0 0
def thiI (n o : Int) : Int := codeW 1 0 0 0 n o 0 0
/-- What One answers. -/
def oneB (o : Int) (x : Ob) : Bool := isB x.w && (decide (0 ≤ o) && decide (o ≤ 65535))
def oneV (o : Int) (x : Ob) : Cg :=
  if oneB o x = true then (if hasB (ownW x.w) x.l = true then ⟨o, thiI (uO x.w) o, ownW x.w, neuI (uA x.w)⟩ else ⟨o, neuI (uA x.w), -1, 0⟩) else ⟨0, 0, 0, 0⟩
theorem one_no {o : Int} {x : Ob} (h : oneB o x = false) : oneV o x = ⟨0, 0, 0, 0⟩ := by simp [oneV, h]
theorem one_free {o : Int} {x : Ob} (h : oneB o x = true) (k : hasB (ownW x.w) x.l = false) : oneV o x = ⟨o, neuI (uA x.w), -1, 0⟩ := by simp [oneV, h, k]
theorem one_held {o : Int} {x : Ob} (h : oneB o x = true) (k : hasB (ownW x.w) x.l = true) : oneV o x = ⟨o, thiI (uO x.w) o, ownW x.w, neuI (uA x.w)⟩ := by simp [oneV, h, k]
theorem one_kind {o : Int} {x : Ob} (h : isB x.w = false) : oneB o x = false := by simp [oneB, h]
theorem one_lo {o : Int} {x : Ob} (h : ¬ 0 ≤ o) : oneB o x = false := by simp [oneB, h]
theorem one_hi {o : Int} {x : Ob} (h : ¬ o ≤ 65535) : oneB o x = false := by simp [oneB, h]
theorem one_yes {o : Int} {x : Ob} (h : isB x.w = true) (a : 0 ≤ o) (b : o ≤ 65535) : oneB o x = true := by simp [oneB, h, a, b]
theorem u16_of {o : Int} (a : 0 ≤ o) (b : o ≤ 65535) : IntKind.u16.wrap o = o := u16_in a (by omega)
theorem ok_neu {v : Int} (h : InW v) : OkH 2 (uA v) 0 0 0 0 0 0 := by
  obtain ⟨a0, a1, _⟩ := u_ok h
  constructor <;> first | decide | assumption
theorem ok_thi {v o : Int} (h : InW v) (a : 0 ≤ o) (b : o ≤ 65535) : OkH 1 0 0 0 (uO v) o 0 0 := by
  obtain ⟨_, _, _, _, _, _, o0, o1, _⟩ := u_ok h
  constructor <;> first | decide | assumption
end Go.Proofs.YtecopjehmpjniaaDoor
