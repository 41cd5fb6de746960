/- Parse by one spec; a package that is alive. -/
import Derived.Test.YtapalbokfbobhaaDoorH3
import Derived.Test.YtapalbokfbobhaaDoorH4
import Derived.Test.YtapalbokfbobhaaDoorG3
import Derived.Test.YtapalbokfbobhaaDoorC5
namespace Go.Proofs.YtapalbokfbobhaaDoor
open Go.RowKit
set_option linter.unusedSimpArgs false
set_option linter.unusedVariables false
set_option maxRecDepth 100000

theorem Glob.lt {w : World} (h : Glob w) : 4 < w.heap.size ∧ 1 < w.heap.size ∧ 0 < w.heap.size := by
  obtain ⟨h1, ⟨m, h2⟩, h3⟩ := h
  refine ⟨?_, World.block_lt_of_cell? w _ h2, World.block_lt_of_cell? w _ (h1 0 (by omega))⟩
  unfold Lib.TabIs World.var? at h3
  have hg : Tryd.prog.globalNamed "internal/strconv.uint64pow10" = some 4 := by kernel_rfl
  rw [hg] at h3
  simp only [Option.bind_some] at h3
  rcases Nat.lt_or_ge 4 w.heap.size with h' | h'
  · exact h'
  · rw [Array.getElem?_eq_none h'] at h3; simp at h3
theorem parse_any (s : List UInt8) (hs : s.length ≤ 5000) (w : World) (hG : Glob w) : Calls Tryd.prog 14 #[(Value.string ⟨List.toArray (s)⟩)] w fun e w' => ParseR s e w' ∧ Ext w w' := by
  by_cases h : s = []
  · subst h
    exact (parse_nil w).mono fun e w' ⟨h1, h2⟩ => ⟨⟨none, 0, h1, Nat.le_refl _, Ch.nil _ _⟩, h2⟩
  · exact parse_some s (by simpa using h) hs w hG hG.lt
def aliveS : List UInt8 := [101, 110, 116, 101, 114, 32, 48, 59, 32, 119, 97, 105, 116, 32, 48, 32, 53, 59, 32, 101, 120, 105, 116, 32, 48]
def aliveP : List Op3 := [(1, 0, 0), (4, 0, 5), (3, 0, 0)]
theorem alive_ok : wrongO aliveP = 0 := by decide
theorem alive_text : textO aliveP = aliveS := by
  have e0 : Lib.itoa 0 = [48] := Lib.decDigits_one (by omega : 0 < 10)
  have e5 : Lib.itoa 5 = [53] := Lib.decDigits_one (by omega : 5 < 10)
  have p0 : partO (1, 0, 0) = [101, 110, 116, 101, 114, 32, 48] := by unfold partO; rw [if_neg (by decide), if_neg (by decide)]; simp only [e0]; rfl
  have p1 : partO (4, 0, 5) = [119, 97, 105, 116, 32, 48, 32, 53] := by unfold partO; rw [if_neg (by decide), if_pos (by decide)]; simp only [e0, e5]; rfl
  have p2 : partO (3, 0, 0) = [101, 120, 105, 116, 32, 48] := by unfold partO; rw [if_neg (by decide), if_neg (by decide)]; simp only [e0]; rfl
  unfold textO aliveP
  rw [List.map_cons, List.map_cons, List.map_cons, List.map_nil, p0, p1, p2]
  rfl
theorem alive_parse : parseO aliveS = (aliveP, 0) := by rw [← alive_text]; exact parse_text alive_ok
theorem alive_any (w : World) (hG : Glob w) : Calls Tryd.prog 7 #[] w fun e w' => e = .returned (.bool true) ∧ Ext w w' := by
  have hp : Calls Tryd.prog 14 #[.string ⟨#[101, 110, 116, 101, 114, 32, 48, 59, 32, 119, 97, 105, 116, 32, 48, 32, 53, 59, 32, 101, 120, 105, 116, 32, 48]⟩] w fun e w' => ParseR aliveS e w' ∧ Ext w w' := parse_any aliveS (by decide) w hG
  have HG := hide hG
  clear hG
  go_enter Tryd.func7, Tryd.ntmps7
  go_wp2_with fail
  refine hp.mono ?_
  rintro e w1 ⟨⟨A, c, h1, hle, hch⟩, hx1⟩
  rw [alive_parse] at h1 hle hch
  have h1 : e = .returned (.tuple #[.slice A 3 c, .int .i64 0]) := h1
  have hle : 3 ≤ c := hle
  subst h1
  have hX := hide hx1
  have HC := hide hch
  have hG1 := HG.out.ext hx1
  have ht : Calls Tryd.prog 8 #[.slice A 3 c] w1 fun e w' => e = .returned (.tuple #[.string ⟨#[101, 110, 116, 101, 114, 32, 48, 59, 32, 119, 97, 105, 116, 32, 48, 32, 53, 59, 32, 101, 120, 105, 116, 32, 48]⟩, .int .i64 0]) ∧ Ext w1 w' := by
    have := text_yes c hch alive_ok hG1
    rw [alive_text] at this
    exact this
  have hev : ∀ w, Ext w1 w → Calls Tryd.prog 19 #[.slice A 3 c] w fun e w' => e = .returned (.bool true) ∧ Ext w w' := fun w x => even_true (l := aliveP) c (HC.out.ext x) (by decide) hle (by decide)
  have hne : ∀ w, Ext w1 w → Calls Tryd.prog 17 #[.slice A 3 c] w fun e w' => e = .returned (.bool true) ∧ Ext w w' := fun w x => by
    have := nests_any (l := aliveP) c (HC.out.ext x) (by decide) hle
    rwa [show nestO aliveP [] = true by decide] at this
  have hde : ∀ w, Ext w1 w → Calls Tryd.prog 18 #[.slice A 1 c, .int .i64 0] w fun e w' => e = .returned (.int .i64 1) ∧ Ext w w' := fun w x => by
    have := depth_any (l := aliveP.take 1) c 0 ((HC.out.ext x).take 1) (by decide) (by show 1 ≤ c; omega)
    rwa [show depO (aliveP.take 1) 0 = 1 by decide] at this
  clear hp hx1 hch hG1
  have hW := Ext.refl w1
  have hc1 : 1 ≤ c := by omega
  go_wp2_with (first | (go_at_call 8; (with_reducible refine (ht).mono ?_); rintro e w' ⟨rfl, hb⟩; have hW := Ext.trans2 hW (by repeat (first | exact Ext.refl _ | exact Ext.alloc _ _ | exact Ext.drewN _ _ | assumption | refine Ext.trans ?_ (Ext.alloc _ _) | refine Ext.trans ?_ (Ext.drew _) | refine Ext.trans ?_ (by assumption))) hb; (try have hV := Ext.trans2 hV (by repeat (first | exact Ext.refl _ | exact Ext.alloc _ _ | exact Ext.drewN _ _ | assumption | refine Ext.trans ?_ (Ext.alloc _ _) | refine Ext.trans ?_ (Ext.drew _) | refine Ext.trans ?_ (by assumption))) hb); clear hb) | (go_at_call 19; (with_reducible refine (hev _ hW).mono ?_); rintro e w' ⟨rfl, hb⟩; have hW := Ext.trans2 hW (by repeat (first | exact Ext.refl _ | exact Ext.alloc _ _ | exact Ext.drewN _ _ | assumption | refine Ext.trans ?_ (Ext.alloc _ _) | refine Ext.trans ?_ (Ext.drew _) | refine Ext.trans ?_ (by assumption))) hb; (try have hV := Ext.trans2 hV (by repeat (first | exact Ext.refl _ | exact Ext.alloc _ _ | exact Ext.drewN _ _ | assumption | refine Ext.trans ?_ (Ext.alloc _ _) | refine Ext.trans ?_ (Ext.drew _) | refine Ext.trans ?_ (by assumption))) hb); clear hb) | (go_at_call 17; (with_reducible refine (hne _ hW).mono ?_); rintro e w' ⟨rfl, hb⟩; have hW := Ext.trans2 hW (by repeat (first | exact Ext.refl _ | exact Ext.alloc _ _ | exact Ext.drewN _ _ | assumption | refine Ext.trans ?_ (Ext.alloc _ _) | refine Ext.trans ?_ (Ext.drew _) | refine Ext.trans ?_ (by assumption))) hb; (try have hV := Ext.trans2 hV (by repeat (first | exact Ext.refl _ | exact Ext.alloc _ _ | exact Ext.drewN _ _ | assumption | refine Ext.trans ?_ (Ext.alloc _ _) | refine Ext.trans ?_ (Ext.drew _) | refine Ext.trans ?_ (by assumption))) hb); clear hb) | (go_at_call 18; (with_reducible refine (hde _ hW).mono ?_); rintro e w' ⟨rfl, hb⟩; have hW := Ext.trans2 hW (by repeat (first | exact Ext.refl _ | exact Ext.alloc _ _ | exact Ext.drewN _ _ | assumption | refine Ext.trans ?_ (Ext.alloc _ _) | refine Ext.trans ?_ (Ext.drew _) | refine Ext.trans ?_ (by assumption))) hb; (try have hV := Ext.trans2 hV (by repeat (first | exact Ext.refl _ | exact Ext.alloc _ _ | exact Ext.drewN _ _ | assumption | refine Ext.trans ?_ (Ext.alloc _ _) | refine Ext.trans ?_ (Ext.drew _) | refine Ext.trans ?_ (by assumption))) hb); clear hb))
  go_ret
  exact ⟨rfl, hX.out.trans hW⟩
end Go.Proofs.YtapalbokfbobhaaDoor
