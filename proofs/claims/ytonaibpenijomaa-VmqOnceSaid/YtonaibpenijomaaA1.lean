/- What is asked for, and who waits: lists of requests with threads, and what the calls make of them. -/
import Derived.Test.YtonaibpenijomaaGrow
namespace Go.Proofs.Ytonaibpenijomaa
open Go.RowKit
set_option linter.unusedSimpArgs false
set_option linter.unusedVariables false
abbrev Rq := Int × Int
abbrev En := Rq × List Int
def rcells (l : List Rq) : List Value := l.flatMap fun p => [.int .i64 p.1, .int .i64 p.2]
theorem rcells_length (l : List Rq) : (rcells l).length = l.length * 2 := by
  induction l with
  | nil => rfl
  | cons p l ih => simp only [rcells, List.flatMap_cons, List.length_append, List.length_cons, List.length_nil] at ih ⊢; omega
theorem rcells_at (l : List Rq) (k : Nat) (hk : k < l.length) : (rcells l)[k * 2]? = some (.int .i64 (l[k]).1) ∧ (rcells l)[k * 2 + 1]? = some (.int .i64 (l[k]).2) := by
  induction l generalizing k with
  | nil => simp at hk
  | cons p l ih =>
    cases k with
    | zero => simp [rcells]
    | succ k =>
      have := ih k (by simpa using hk)
      have e1 : (k + 1) * 2 = k * 2 + 1 + 1 := by omega
      simp only [rcells, List.flatMap_cons, List.cons_append, List.nil_append, e1, List.getElem?_cons_succ, List.getElem_cons_succ] at this ⊢
      exact this
theorem rcells_one (l : List Rq) : ∀ u ∈ rcells l, u.oneCell' = true := by
  intro u hu
  simp only [rcells, List.mem_flatMap, List.mem_cons, List.not_mem_nil, or_false] at hu
  obtain ⟨p, _, rfl | rfl⟩ := hu <;> rfl
theorem rcells_append (l m : List Rq) : rcells (l ++ m) = rcells l ++ rcells m := by simp [rcells]
theorem rcells_take (l : List Rq) (k : Nat) : rcells (l.take k) = (rcells l).take (k * 2) := by
  induction l generalizing k with
  | nil => simp [rcells]
  | cons p l ih =>
    cases k with
    | zero => simp [rcells]
    | succ k =>
      have e1 : (k + 1) * 2 = k * 2 + 1 + 1 := by omega
      have := ih k
      simp only [rcells, List.take_succ_cons, List.flatMap_cons, List.cons_append, List.nil_append, e1] at this ⊢
      rw [this]
theorem rcells_drop (l : List Rq) (k : Nat) : rcells (l.drop k) = (rcells l).drop (k * 2) := by
  induction l generalizing k with
  | nil => simp [rcells]
  | cons p l ih =>
    cases k with
    | zero => simp
    | succ k =>
      have e1 : (k + 1) * 2 = k * 2 + 1 + 1 := by omega
      have := ih k
      simp only [rcells, List.drop_succ_cons, List.flatMap_cons, List.cons_append, List.nil_append, e1] at this ⊢
      exact this
def ks (S : List En) : List Rq := S.map (·.1)
theorem ks_len (S : List En) : (ks S).length = S.length := by simp [ks]
theorem ks_at (S : List En) {j : Nat} (h : j < (ks S).length) : (ks S)[j] = (S[j]'(by rwa [ks_len] at h)).1 := by simp [ks]
def mayR (r : Rq) : Bool := decide ((r.1 = 1 ∧ 0 ≤ r.2 ∧ r.2 ≤ 65535) ∨ (r.1 = 2 ∧ r.2 = 0))
def okT (t : Int) : Bool := decide (-1 ≤ t ∧ t ≤ 255)
def okA (r : Rq) (t : Int) : Bool := mayR r && okT t
def waitsB (S : List En) (t : Int) : Bool := decide (∃ e, e ∈ S ∧ t ∈ e.2)
def hasR (S : List En) (r : Rq) : Bool := decide (r ∈ ks S)
def who (t : Int) : List Int := if t < 0 then [] else [t]
def addE (r : Rq) (t : Int) (e : En) : En := if e.1 = r then (e.1, e.2 ++ who t) else e
def addT (S : List En) (r : Rq) (t : Int) : List En := S.map (addE r t)
def askE (S : List En) (r : Rq) (t : Int) : Int := if okA r t = false then 1 else if waitsB S t = true then 7 else if hasR S r = true then 0 else if S.length = 256 then 8 else 0
def askB (S : List En) (r : Rq) (t : Int) : Bool := if askE S r t = 0 then !hasR S r else false
def askS (S : List En) (r : Rq) (t : Int) : List En := if askE S r t = 0 then (if hasR S r = true then addT S r t else S ++ [(r, who t)]) else S
theorem mayR_of {r : Rq} (h : mayR r = true) : (r.1 = 1 ∧ 0 ≤ r.2 ∧ r.2 ≤ 65535) ∨ (r.1 = 2 ∧ r.2 = 0) := of_decide_eq_true h
theorem okT_of {t : Int} (h : okT t = true) : -1 ≤ t ∧ t ≤ 255 := of_decide_eq_true h
theorem okA_of {r : Rq} {t : Int} (h : okA r t = true) : mayR r = true ∧ okT t = true := by unfold okA at h; simpa using h
theorem waits_of {S : List En} {t : Int} (h : waitsB S t = true) : ∃ e, e ∈ S ∧ t ∈ e.2 := of_decide_eq_true h
theorem waits_no {S : List En} {t : Int} (h : waitsB S t = false) : ∀ e, e ∈ S → t ∉ e.2 := fun e he ht => of_decide_eq_false h ⟨e, he, ht⟩
theorem waits_mem {S : List En} {t : Int} {e : En} (he : e ∈ S) (ht : t ∈ e.2) : waitsB S t = true := decide_eq_true ⟨e, he, ht⟩
theorem waits_none {S : List En} {t : Int} (h : ∀ e, e ∈ S → t ∉ e.2) : waitsB S t = false := decide_eq_false fun ⟨e, he, ht⟩ => h e he ht
theorem has_of {S : List En} {r : Rq} (h : hasR S r = true) : ∃ e, e ∈ S ∧ e.1 = r := by
  have := of_decide_eq_true h
  obtain ⟨e, he, h2⟩ := List.mem_map.1 this
  exact ⟨e, he, h2⟩
theorem has_mem {S : List En} {e : En} (he : e ∈ S) : hasR S e.1 = true := decide_eq_true (List.mem_map_of_mem he)
theorem has_no {S : List En} {r : Rq} (h : hasR S r = false) : ∀ e, e ∈ S → e.1 ≠ r := fun e he q => by rw [← q, has_mem he] at h; cases h
theorem has_none {S : List En} {r : Rq} (h : ∀ e, e ∈ S → e.1 ≠ r) : hasR S r = false := by
  cases q : hasR S r with
  | false => rfl
  | true => obtain ⟨e, he, h2⟩ := has_of q; exact absurd h2 (h e he)
theorem who_mem {t u : Int} : u ∈ who t ↔ u = t ∧ 0 ≤ t := by
  unfold who
  split <;> simp <;> omega
theorem who_nodup (t : Int) : (who t).Nodup := by unfold who; split <;> simp
theorem who_len (t : Int) : (who t).length ≤ 1 := by unfold who; split <;> simp
theorem addE_fst (r : Rq) (t : Int) (e : En) : (addE r t e).1 = e.1 := by unfold addE; split <;> rfl
theorem ks_add (S : List En) (r : Rq) (t : Int) : ks (addT S r t) = ks S := by
  unfold ks addT
  rw [List.map_map]
  exact List.map_congr_left fun e _ => addE_fst r t e
theorem add_len (S : List En) (r : Rq) (t : Int) : (addT S r t).length = S.length := by simp [addT]
theorem has_add (S : List En) (r : Rq) (t : Int) (q : Rq) : hasR (addT S r t) q = hasR S q := by unfold hasR; rw [ks_add]
structure Ok (S : List En) : Prop where
  nd : (ks S).Nodup
  may : ∀ e, e ∈ S → mayR e.1 = true
  wnd : ∀ e, e ∈ S → e.2.Nodup
  rng : ∀ e, e ∈ S → ∀ t, t ∈ e.2 → 0 ≤ t ∧ t ≤ 255
  one : ∀ e, e ∈ S → ∀ e', e' ∈ S → ∀ t, t ∈ e.2 → t ∈ e'.2 → e.1 = e'.1
  len : S.length ≤ 256
theorem ok_nil : Ok [] := ⟨by simp [ks], by simp, by simp, by simp, by simp, by simp⟩
theorem Ok.uniq {S : List En} (h : Ok S) {e e' : En} (he : e ∈ S) (he' : e' ∈ S) (q : e.1 = e'.1) : e = e' := by
  obtain ⟨i, hi, rfl⟩ := List.getElem_of_mem he
  obtain ⟨j, hj, rfl⟩ := List.getElem_of_mem he'
  have h1 := h.nd
  rw [List.nodup_iff_pairwise_ne] at h1
  have h2 := List.pairwise_iff_getElem.1 h1
  rcases Nat.lt_trichotomy i j with k | k | k
  · exact absurd (by rw [ks_at, ks_at]; exact q) (h2 i j (by rwa [ks_len]) (by rwa [ks_len]) k)
  · subst k; rfl
  · exact absurd (by rw [ks_at, ks_at]; exact q.symm) (h2 j i (by rwa [ks_len]) (by rwa [ks_len]) k)
theorem nodup_leN (l : List Nat) : ∀ (r : List Nat), l.Nodup → (∀ x, x ∈ l → x ∈ r) → l.length ≤ r.length := by
  induction l with
  | nil => intro r _ _; simp
  | cons a l ih =>
    intro r h hs
    have ha := hs a (List.mem_cons_self ..)
    have h2 := List.nodup_cons.1 h
    have h3 := ih (r.erase a) h2.2 (fun x hx => (List.mem_erase_of_ne (by rintro rfl; exact h2.1 hx)).2 (hs x (List.mem_cons_of_mem _ hx)))
    have h4 := List.length_erase_of_mem ha
    have h5 := List.length_pos_of_mem ha
    rw [List.length_cons]
    omega
theorem nodup_range_le {l : List Nat} {n : Nat} (h : l.Nodup) (hs : ∀ x, x ∈ l → x < n) : l.length ≤ n := by
  have := nodup_leN l (List.range n) h (fun x hx => List.mem_range.2 (hs x hx))
  rwa [List.length_range] at this
theorem nodup_le {l : List Int} (h : l.Nodup) (hr : ∀ t, t ∈ l → 0 ≤ t ∧ t ≤ 255) : l.length ≤ 256 := by
  have h1 : (l.map Int.toNat).Nodup := by
    unfold List.Nodup at h ⊢
    rw [List.pairwise_map]
    refine h.imp_of_mem fun ha hb hne e => ?_
    have := hr _ ha
    have := hr _ hb
    omega
  have h2 := nodup_range_le (n := 256) h1 (fun x hx => by
    obtain ⟨y, hy, rfl⟩ := List.mem_map.1 hx
    have := hr y hy
    omega)
  simpa using h2
theorem Ok.wlen {S : List En} (h : Ok S) {e : En} (he : e ∈ S) : e.2.length ≤ 256 := nodup_le (h.wnd e he) (h.rng e he)
theorem Ok.tail {e : En} {S : List En} (h : Ok (e :: S)) : Ok S :=
  ⟨(List.nodup_cons.1 h.nd).2, fun x hx => h.may x (.tail _ hx), fun x hx => h.wnd x (.tail _ hx), fun x hx => h.rng x (.tail _ hx), fun x hx y hy => h.one x (.tail _ hx) y (.tail _ hy), by have := h.len; simp at this; omega⟩
theorem Ok.head {e : En} {S : List En} (h : Ok (e :: S)) : ∀ x, x ∈ S → x.1 ≠ e.1 := fun x hx q => (List.nodup_cons.1 h.nd).1 (List.mem_map.2 ⟨x, hx, q⟩)
theorem Ok.neg {S : List En} (h : Ok S) {t : Int} (ht : t < 0) : waitsB S t = false := waits_none fun e he hm => by have := h.rng e he t hm; omega
theorem add_mem {S : List En} {r : Rq} {t : Int} {x : En} : x ∈ addT S r t ↔ ∃ e, e ∈ S ∧ x = addE r t e := by
  unfold addT
  rw [List.mem_map]
  exact ⟨fun ⟨e, h1, h2⟩ => ⟨e, h1, h2.symm⟩, fun ⟨e, h1, h2⟩ => ⟨e, h1, h2.symm⟩⟩
theorem addE_mem {r : Rq} {t u : Int} {e : En} (h : u ∈ (addE r t e).2) : u ∈ e.2 ∨ (e.1 = r ∧ u = t ∧ 0 ≤ t) := by
  unfold addE at h
  split at h
  · rename_i q
    rcases List.mem_append.1 h with h | h
    · exact .inl h
    · obtain ⟨h1, h2⟩ := who_mem.1 h; exact .inr ⟨q, h1, h2⟩
  · exact .inl h
theorem Ok.add {S : List En} (h : Ok S) {r : Rq} {t : Int} (ht : okT t = true) (hw : waitsB S t = false) : Ok (addT S r t) := by
  have hn := waits_no hw
  have hb := okT_of ht
  refine ⟨by rw [ks_add]; exact h.nd, fun x hx => ?_, fun x hx => ?_, fun x hx u hu => ?_, fun x hx y hy u hu hv => ?_, by rw [add_len]; exact h.len⟩
  · obtain ⟨e, he, rfl⟩ := add_mem.1 hx
    rw [addE_fst]; exact h.may e he
  · obtain ⟨e, he, rfl⟩ := add_mem.1 hx
    unfold addE
    split
    · refine List.nodup_append.2 ⟨h.wnd e he, who_nodup t, fun a ha b hb q => ?_⟩
      obtain ⟨h1, _⟩ := who_mem.1 hb
      exact hn e he (by rw [← h1, ← q]; exact ha)
    · exact h.wnd e he
  · obtain ⟨e, he, rfl⟩ := add_mem.1 hx
    rcases addE_mem hu with hu | ⟨_, rfl, h0⟩
    · exact h.rng e he u hu
    · omega
  · obtain ⟨e, he, rfl⟩ := add_mem.1 hx
    obtain ⟨e', he', rfl⟩ := add_mem.1 hy
    rw [addE_fst, addE_fst]
    rcases addE_mem hu with hu | ⟨q, hu⟩ <;> rcases addE_mem hv with hv | ⟨q', hv⟩
    · exact h.one e he e' he' u hu hv
    · exact absurd (hv.1 ▸ hu) (hn e he)
    · exact absurd (hu.1 ▸ hv) (hn e' he')
    · rw [q, q']
theorem Ok.new {S : List En} (h : Ok S) {r : Rq} {t : Int} (hm : mayR r = true) (ht : okT t = true) (hw : waitsB S t = false) (hr : hasR S r = false) (hl : S.length ≠ 256) : Ok (S ++ [(r, who t)]) := by
  have hn := waits_no hw
  have hb := okT_of ht
  have hk := has_no hr
  have e1 : ∀ u, u ∈ who t → u = t ∧ 0 ≤ t := fun u hu => who_mem.1 hu
  refine ⟨?_, fun x hx => ?_, fun x hx => ?_, fun x hx u hu => ?_, fun x hx y hy u hu hv => ?_, ?_⟩
  · unfold ks
    rw [List.map_append]
    refine List.nodup_append.2 ⟨h.nd, by simp, fun a ha b hb q => ?_⟩
    obtain ⟨e, he, rfl⟩ := List.mem_map.1 ha
    simp at hb
    exact hk e he (by rw [q, hb])
  · rcases List.mem_append.1 hx with hx | hx
    · exact h.may x hx
    · simp at hx; subst hx; exact hm
  · rcases List.mem_append.1 hx with hx | hx
    · exact h.wnd x hx
    · simp at hx; subst hx; exact who_nodup t
  · rcases List.mem_append.1 hx with hx | hx
    · exact h.rng x hx u hu
    · simp at hx; subst hx; have := e1 u hu; omega
  · rcases List.mem_append.1 hx with hx | hx <;> rcases List.mem_append.1 hy with hy | hy
    · exact h.one x hx y hy u hu hv
    · simp at hy; subst hy; have := e1 u hv; rw [this.1] at hu; exact absurd hu (hn x hx)
    · simp at hx; subst hx; have := e1 u hu; rw [this.1] at hv; exact absurd hv (hn y hy)
    · simp at hx hy; rw [hx, hy]
  · have := h.len; simp; omega
theorem askE_bad {S : List En} {r : Rq} {t : Int} (h : okA r t = false) : askE S r t = 1 := by unfold askE; rw [if_pos h]
theorem askE_there {S : List En} {r : Rq} {t : Int} (h : okA r t = true) (hw : waitsB S t = true) : askE S r t = 7 := by unfold askE; rw [if_neg (by rw [h]; decide), if_pos hw]
theorem askE_has {S : List En} {r : Rq} {t : Int} (h : okA r t = true) (hw : waitsB S t = false) (hr : hasR S r = true) : askE S r t = 0 := by unfold askE; rw [if_neg (by rw [h]; decide), if_neg (by rw [hw]; decide), if_pos hr]
theorem askE_full {S : List En} {r : Rq} {t : Int} (h : okA r t = true) (hw : waitsB S t = false) (hr : hasR S r = false) (hl : S.length = 256) : askE S r t = 8 := by unfold askE; rw [if_neg (by rw [h]; decide), if_neg (by rw [hw]; decide), if_neg (by rw [hr]; decide), if_pos hl]
theorem askE_new {S : List En} {r : Rq} {t : Int} (h : okA r t = true) (hw : waitsB S t = false) (hr : hasR S r = false) (hl : ¬ S.length = 256) : askE S r t = 0 := by unfold askE; rw [if_neg (by rw [h]; decide), if_neg (by rw [hw]; decide), if_neg (by rw [hr]; decide), if_neg hl]
theorem ask_err {S : List En} {r : Rq} {t z : Int} (h : askE S r t = z) (hz : z ≠ 0) : askB S r t = false ∧ askS S r t = S := by
  unfold askB askS
  rw [h, if_neg hz, if_neg hz]; exact ⟨rfl, rfl⟩
theorem ask_add {S : List En} {r : Rq} {t : Int} (h : askE S r t = 0) (hr : hasR S r = true) : askB S r t = false ∧ askS S r t = addT S r t := by
  unfold askB askS
  rw [if_pos h, if_pos h, hr]; exact ⟨rfl, rfl⟩
theorem ask_new {S : List En} {r : Rq} {t : Int} (h : askE S r t = 0) (hr : hasR S r = false) : askB S r t = true ∧ askS S r t = S ++ [(r, who t)] := by
  unfold askB askS
  rw [if_pos h, if_pos h, hr]; exact ⟨rfl, rfl⟩
/-- The ways of an Ask. -/
theorem ask_cases (S : List En) (r : Rq) (t : Int) :
    (askE S r t ≠ 0 ∧ askB S r t = false ∧ askS S r t = S) ∨
    (askE S r t = 0 ∧ okA r t = true ∧ waitsB S t = false ∧ hasR S r = true ∧ askB S r t = false ∧ askS S r t = addT S r t) ∨
    (askE S r t = 0 ∧ okA r t = true ∧ waitsB S t = false ∧ hasR S r = false ∧ S.length ≠ 256 ∧ askB S r t = true ∧ askS S r t = S ++ [(r, who t)]) := by
  by_cases h0 : okA r t = false
  · exact .inl ⟨by rw [askE_bad h0]; decide, ask_err (askE_bad h0) (by decide)⟩
  · have h0 : okA r t = true := by simpa using h0
    cases h1 : waitsB S t with
    | true => exact .inl ⟨by rw [askE_there h0 h1]; decide, ask_err (askE_there h0 h1) (by decide)⟩
    | false =>
      cases h2 : hasR S r with
      | true =>
        have := ask_add (askE_has h0 h1 h2) h2
        exact .inr (.inl ⟨askE_has h0 h1 h2, h0, rfl, rfl, this.1, this.2⟩)
      | false =>
        by_cases h3 : S.length = 256
        · exact .inl ⟨by rw [askE_full h0 h1 h2 h3]; decide, ask_err (askE_full h0 h1 h2 h3) (by decide)⟩
        · have := ask_new (askE_new h0 h1 h2 h3) h2
          exact .inr (.inr ⟨askE_new h0 h1 h2 h3, h0, rfl, rfl, h3, this.1, this.2⟩)
theorem Ok.ask {S : List En} (h : Ok S) (r : Rq) (t : Int) : Ok (askS S r t) := by
  rcases ask_cases S r t with ⟨_, _, e⟩ | ⟨_, h0, h1, h2, _, e⟩ | ⟨_, h0, h1, h2, h3, _, e⟩ <;> rw [e]
  · exact h
  · exact h.add (okA_of h0).2 h1
  · exact h.new (okA_of h0).1 (okA_of h0).2 h1 h2 h3
end Go.Proofs.Ytonaibpenijomaa
