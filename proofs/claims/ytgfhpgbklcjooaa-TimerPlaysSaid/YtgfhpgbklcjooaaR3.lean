/- The reference's clock: Tick. -/
import Derived.Test.YtgfhpgbklcjooaaR2
namespace Go.Proofs.Ytgfhpgbklcjooaa
open Go.RowKit Go.Maps
set_option linter.unusedSimpArgs false
set_option linter.unusedVariables false

theorem Blk.row {w w' : World} {g : Nat} {cs : Array Value} {t : TypeId} {row : Option Nat} (h : Blk w g cs t) (hg : w.grownBy w' row) (hne : some g ≠ row) : Blk w' g cs t := (hg.block g h.lt hne).trans h
/-- Those ahead of t whose alarm is at a. -/
def sel (g : Al) (a : Int) (t : Nat) : List Nat := (List.range t).filter fun s => g s == a
theorem sel_yes {g : Al} {a : Int} {t : Nat} (h : g t = a) : sel g a (t + 1) = sel g a t ++ [t] := by
  unfold sel; rw [List.range_succ, List.filter_append]; simp [h]
theorem sel_no {g : Al} {a : Int} {t : Nat} (h : g t ≠ a) : sel g a (t + 1) = sel g a t := by
  unfold sel; rw [List.range_succ, List.filter_append]; simp [h]
theorem sel_mem {g : Al} {a : Int} {t s : Nat} : s ∈ sel g a t ↔ s < t ∧ g s = a := by
  unfold sel; rw [List.mem_filter, List.mem_range]; simp
theorem sel_len (g : Al) (a : Int) (t : Nat) : (sel g a t).length ≤ t := by
  unfold sel
  have := List.length_filter_le (fun s => g s == a) (List.range t)
  rwa [List.length_range] at this
theorem gone_in {f : Al} {l : List Nat} {t : Nat} (h : t ∈ l) : gone f l t = 0 := if_pos h
theorem gone_out {f : Al} {l : List Nat} {t : Nat} (h : t ∉ l) : gone f l t = f t := if_neg h
theorem gone_sel (f : Al) (o : List Nat) (a : Int) (t : Nat) : gone f (o ++ sel (gone f o) a t) t = gone f o t := by
  have hs : t ∉ sel (gone f o) a t := fun h => by have := (sel_mem.1 h).1; omega
  by_cases h : t ∈ o
  · rw [gone_in h, gone_in (List.mem_append_left _ h)]
  · rw [gone_out h, gone_out (by rw [List.mem_append]; rintro (q | q); exact h q; exact hs q)]
/-- What was told so far. -/
structure OutR (f : Al) (T : Int) (o : List Nat) : Prop where
  asc : o.Pairwise (ahd f)
  mem : ∀ x ∈ o, f x ≠ 0 ∧ f x ≤ T
  aft : ∀ x ∈ o, ∀ s, f s ≠ 0 → s ∉ o → ahd f x s
theorem OutR.nodup {f : Al} {T : Int} {l : List Nat} (h : OutR f T l) : l.Nodup := h.asc.imp (fun {a b} hr e => by subst e; exact ahd_asymm f a a hr hr)
theorem OutR.lt {f : Al} {T : Int} {l : List Nat} (h : OutR f T l) (ok : OkA f) : ∀ x ∈ l, x < 256 := fun x hx => by
  rcases Nat.lt_or_ge x 256 with h1 | h1
  · exact h1
  · exact absurd (ok.th x h1) (h.mem x hx).1
theorem OutR.len {f : Al} {T : Int} {l : List Nat} (h : OutR f T l) (ok : OkA f) : l.length ≤ 256 := nodup_len 256 l h.nodup (h.lt ok)
theorem OutR.nil (f : Al) (T : Int) : OutR f T [] := ⟨List.Pairwise.nil, fun x h => by simp at h, fun x h => by simp at h⟩
theorem range_asc : ∀ n : Nat, (List.range n).Pairwise (· < ·) := fun n => List.pairwise_lt_range
theorem OutR.step {f : Al} {T a : Int} {o : List Nat} (h : OutR f T o) (ok : OkA f) (hN : NxA (gone f o) a) (h0 : a ≠ 0) (hT : a ≤ T) : OutR f T (o ++ sel (gone f o) a 256) ∧ o.length + 1 ≤ (o ++ sel (gone f o) a 256).length := by
  rcases hN with ⟨q, _⟩ | ⟨_, ⟨t, ht⟩, h2⟩
  · exact absurd q h0
  · have hs : ∀ s, s ∈ sel (gone f o) a 256 → s ∉ o ∧ f s = a := fun s hs => by
      have h3 := (sel_mem.1 hs).2
      by_cases hm : s ∈ o
      · rw [gone_in hm] at h3; exact absurd h3.symm h0
      · rw [gone_out hm] at h3; exact ⟨hm, h3⟩
    refine ⟨⟨?_, fun x hx => ?_, fun x hx s hs0 hso => ?_⟩, ?_⟩
    · rw [List.pairwise_append]
      refine ⟨h.asc, ?_, fun x hx y hy => h.aft x hx y (by rw [(hs y hy).2]; exact h0) (hs y hy).1⟩
      have hp : (sel (gone f o) a 256).Pairwise (· < ·) := (range_asc 256).filter _
      refine List.Pairwise.imp_of_mem (fun {x y} hx hy hl => ?_) hp
      exact .inr ⟨by rw [(hs x hx).2, (hs y hy).2], hl⟩
    · rcases List.mem_append.1 hx with hx | hx
      · exact h.mem x hx
      · rw [(hs x hx).2]; exact ⟨h0, hT⟩
    · rw [List.mem_append, not_or] at hso
      rcases List.mem_append.1 hx with hx | hx
      · exact h.aft x hx s hs0 hso.1
      · have e := gone_out (f := f) hso.1
        have h3 := h2 s (by rw [e]; exact hs0)
        have hlt : s < 256 := by
          rcases Nat.lt_or_ge s 256 with q | q
          · exact q
          · exact absurd (ok.th s q) hs0
        have hne : f s ≠ a := fun q => hso.2 (sel_mem.2 ⟨hlt, by rw [e]; exact q⟩)
        rw [e] at h3
        unfold ahd
        rw [(hs x hx).2]
        omega
    · rw [List.length_append]
      have htlt : t < 256 := by
        rcases Nat.lt_or_ge t 256 with q | q
        · exact q
        · have := (ok.gone o).th t q; rw [ht] at this; exact absurd this h0
      have := List.length_pos_of_mem (sel_mem.2 ⟨htlt, ht⟩ : t ∈ sel (gone f o) a 256)
      omega
theorem OutR.fin {f : Al} {T a : Int} {o : List Nat} (h : OutR f T o) (hN : NxA (gone f o) a) (h0 : a = 0 ∨ T < a) : DueL f T o := by
  refine ⟨fun x => ⟨h.mem x, fun ⟨h1, h2⟩ => ?_⟩, h.asc⟩
  refine Classical.byContradiction fun hx => ?_
  have e := gone_out (f := f) hx
  rcases hN with ⟨_, q⟩ | ⟨q0, _, q⟩
  · rw [q x] at e; exact h1 e.symm
  · have := q x (by rw [e]; exact h1)
    rw [e] at this
    omega
theorem OutR.full {f : Al} {T : Int} {o : List Nat} (h : OutR f T o) (ok : OkA f) (hl : 256 ≤ o.length) : DueL f T o := by
  refine ⟨fun x => ⟨h.mem x, fun ⟨h1, h2⟩ => ?_⟩, h.asc⟩
  refine Classical.byContradiction fun hx => ?_
  have hlt : x < 256 := by
    rcases Nat.lt_or_ge x 256 with q | q
    · exact q
    · exact absurd (ok.th x q) h1
  have := nodup_len 256 (x :: o) (List.nodup_cons.2 ⟨hx, h.nodup⟩) fun y hy => by
    rcases List.mem_cons.1 hy with e | e
    · rw [e]; exact hlt
    · exact h.lt ok y e
  simp at this
  omega
end Go.Proofs.Ytgfhpgbklcjooaa
