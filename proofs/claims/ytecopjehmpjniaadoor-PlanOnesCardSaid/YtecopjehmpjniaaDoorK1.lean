/- What package klass and its reference answer, but Policy. -/
import Derived.Test.YtecopjehmpjniaaDoorP6
import Derived.BigRegion
namespace Go.Proofs.YtecopjehmpjniaaDoor
open Go.RowKit
set_option linter.unusedSimpArgs false
set_option linter.unusedVariables false



/-- A new object's word; a Biased word; a Valid one; one made Fresh. -/
def hdI (b : Bool) (e : Int) : Int := if b = true then 5 + e * 256 else 1
def isB (v : Int) : Bool := decide (gW v) && uK v == 4
def valB (b : Bool) (e v : Int) : Bool := b && (isB v && uE v == e)
def frI (e v : Int) : Int := if isB v = true then pI 4 (uA v) 0 (uO v) 0 0 0 e else 0

theorem ok_b {e : Int} (h0 : 0 ≤ e) (h1 : e ≤ 255) : OkH 4 0 e 0 0 0 0 0 := by constructor <;> first | decide | assumption
theorem code_b {e : Int} (h0 : 0 ≤ e) (h1 : e ≤ 255) : codeW 4 0 e 0 0 0 0 0 = 5 + e * 256 ∧ codeE 4 0 e 0 0 0 0 0 = 0 := by
  have h : hMayB 4 0 e 0 0 0 0 0 = true := by simp [hMayB, hMay]
  unfold codeW codeE
  rw [h]
  simp [pI]
theorem code_n : codeW 2 0 0 0 0 0 0 0 = 1 ∧ codeE 2 0 0 0 0 0 0 0 = 0 := by decide

theorem kbiased_yes (v : Int) (w : World) (hG : Glob w) (hv : InW v) (hg : gW v) :
    Calls Tryd.prog 33 #[.int .u64 v] w fun x w' => x = .returned (.tuple #[Value.agg #[.int .i64 (uK (v)), .int .u8 (uA (v)), .int .u8 (uE (v)), .int .u32 (uH (v)), .int .u16 (uO (v)), .int .u16 (uR (v)), .int .u16 (uS (v)), .int .u32 (uG (v))], .bool (isB v)]) ∧ Ext w w' := by
  have hi : isB v = (uK v == 4) := by simp [isB, hg]
  rw [hi]
  clear hi
  go_enter Tryd.func33, Tryd.ntmps33
  go_wp2_with fail
  have hs : w.heap.size < (w.alloc (Obj.cells #[.int .i64 (0), .int .u8 (0), .int .u8 (0), .int .u32 (0), .int .u16 (0), .int .u16 (0), .int .u16 (0), .int .u32 (0)] 62)).heap.size := by simp
  have hX := fun w' (h : Ext (w.alloc (Obj.cells #[.int .i64 (0), .int .u8 (0), .int .u8 (0), .int .u32 (0), .int .u16 (0), .int .u16 (0), .int .u16 (0), .int .u32 (0)] 62)) w') => h.boxCell
  have hXf := fun w' (h : Ext (w.alloc (Obj.cells #[.int .i64 (0), .int .u8 (0), .int .u8 (0), .int .u32 (0), .int .u16 (0), .int .u16 (0), .int .u16 (0), .int .u32 (0)] 62)) w') => h.boxFree
  have hX0 : Ext w (w.alloc (Obj.cells #[.int .i64 (0), .int .u8 (0), .int .u8 (0), .int .u32 (0), .int .u16 (0), .int .u16 (0), .int .u16 (0), .int .u32 (0)] 62)) := Ext.alloc _ _
  generalize w.alloc (Obj.cells #[.int .i64 (0), .int .u8 (0), .int .u8 (0), .int .u32 (0), .int .u16 (0), .int .u16 (0), .int .u16 (0), .int .u32 (0)] 62) = W0 at *
  have hW := Ext.refl W0
  go_wp2_with (go_at_call 32; (with_reducible refine (read_yes _ _ (hG.ext (hX0.trans hW)) hv hg).mono ?_); rintro e w' ⟨rfl, hb⟩; have hW := Ext.trans2 hW (by repeat (first | exact Ext.refl _ | exact Ext.alloc _ _ | exact Ext.drewN _ _ | assumption | refine Ext.trans ?_ (Ext.alloc _ _) | refine Ext.trans ?_ (Ext.drew _) | refine Ext.trans ?_ (by assumption))) hb; (try have hV := Ext.trans2 hV (by repeat (first | exact Ext.refl _ | exact Ext.alloc _ _ | exact Ext.drewN _ _ | assumption | refine Ext.trans ?_ (Ext.alloc _ _) | refine Ext.trans ?_ (Ext.drew _) | refine Ext.trans ?_ (by assumption))) hb); clear hb)
  have hn : ¬ w.heap.size = w'.heap.size := by have := hW.facts.2.2; omega
  have hn' : ¬ w'.heap.size = w.heap.size := fun q => hn q.symm
  have hX := fun wx (h : Ext (w'.alloc (Obj.cells #[.int .i64 (uK (v)), .int .u8 (uA (v)), .int .u8 (uE (v)), .int .u32 (uH (v)), .int .u16 (uO (v)), .int .u16 (uR (v)), .int .u16 (uS (v)), .int .u32 (uG (v))] 62)) wx) => h.boxCell
  have hXf := fun wx (h : Ext (w'.alloc (Obj.cells #[.int .i64 (uK (v)), .int .u8 (uA (v)), .int .u8 (uE (v)), .int .u32 (uH (v)), .int .u16 (uO (v)), .int .u16 (uR (v)), .int .u16 (uS (v)), .int .u32 (uG (v))] 62)) wx) => h.boxFree
  have hW := hW.trans (Ext.alloc w' (Obj.cells #[.int .i64 (uK (v)), .int .u8 (uA (v)), .int .u8 (uE (v)), .int .u32 (uH (v)), .int .u16 (uO (v)), .int .u16 (uR (v)), .int .u16 (uS (v)), .int .u32 (uG (v))] 62))
  generalize w'.alloc (Obj.cells #[.int .i64 (uK (v)), .int .u8 (uA (v)), .int .u8 (uE (v)), .int .u32 (uH (v)), .int .u16 (uO (v)), .int .u16 (uR (v)), .int .u16 (uS (v)), .int .u32 (uG (v))] 62) = W1 at *
  have hV := Ext.refl W1
  go_region
  go_wp2
  refine bodyPost_ret (v := .tuple #[Value.agg #[.int .i64 (uK (v)), .int .u8 (uA (v)), .int .u8 (uE (v)), .int .u32 (uH (v)), .int .u16 (uO (v)), .int .u16 (uR (v)), .int .u16 (uS (v)), .int .u32 (uG (v))], .bool (uK v == 4)]) (by simp [results, Tryd.results33, go_sem, *]) rfl ⟨rfl, ?_⟩
  refine Ext.trans ?_ (Ext.drew _)
  ((repeat (with_reducible refine Ext.set ?_ (by simp) _)); exact (hX0.trans (hW.trans (by repeat (first | exact Ext.refl _ | exact Ext.alloc _ _ | exact Ext.drewN _ _ | assumption | refine Ext.trans ?_ (Ext.alloc _ _) | refine Ext.trans ?_ (Ext.drew _) | refine Ext.trans ?_ (by assumption))))))
theorem kbiased_no (v : Int) (w : World) (hG : Glob w) (hv : InW v) (hg : ¬ gW v) :
    Calls Tryd.prog 33 #[.int .u64 v] w fun x w' => x = .returned (.tuple #[Value.agg #[.int .i64 (0), .int .u8 (0), .int .u8 (0), .int .u32 (0), .int .u16 (0), .int .u16 (0), .int .u16 (0), .int .u32 (0)], .bool false]) ∧ Ext w w' := by
  go_enter Tryd.func33, Tryd.ntmps33
  go_wp2_with fail
  have hs : w.heap.size < (w.alloc (Obj.cells #[.int .i64 (0), .int .u8 (0), .int .u8 (0), .int .u32 (0), .int .u16 (0), .int .u16 (0), .int .u16 (0), .int .u32 (0)] 62)).heap.size := by simp
  have hX := fun w' (h : Ext (w.alloc (Obj.cells #[.int .i64 (0), .int .u8 (0), .int .u8 (0), .int .u32 (0), .int .u16 (0), .int .u16 (0), .int .u16 (0), .int .u32 (0)] 62)) w') => h.boxCell
  have hXf := fun w' (h : Ext (w.alloc (Obj.cells #[.int .i64 (0), .int .u8 (0), .int .u8 (0), .int .u32 (0), .int .u16 (0), .int .u16 (0), .int .u16 (0), .int .u32 (0)] 62)) w') => h.boxFree
  have hX0 : Ext w (w.alloc (Obj.cells #[.int .i64 (0), .int .u8 (0), .int .u8 (0), .int .u32 (0), .int .u16 (0), .int .u16 (0), .int .u16 (0), .int .u32 (0)] 62)) := Ext.alloc _ _
  generalize w.alloc (Obj.cells #[.int .i64 (0), .int .u8 (0), .int .u8 (0), .int .u32 (0), .int .u16 (0), .int .u16 (0), .int .u16 (0), .int .u32 (0)] 62) = W0 at *
  have hW := Ext.refl W0
  go_wp2_with (go_at_call 32; (with_reducible refine (read_no _ _ (hG.ext (hX0.trans hW)) hv hg).mono ?_); rintro e w' ⟨rfl, hb⟩; have hW := Ext.trans2 hW (by repeat (first | exact Ext.refl _ | exact Ext.alloc _ _ | exact Ext.drewN _ _ | assumption | refine Ext.trans ?_ (Ext.alloc _ _) | refine Ext.trans ?_ (Ext.drew _) | refine Ext.trans ?_ (by assumption))) hb; (try have hV := Ext.trans2 hV (by repeat (first | exact Ext.refl _ | exact Ext.alloc _ _ | exact Ext.drewN _ _ | assumption | refine Ext.trans ?_ (Ext.alloc _ _) | refine Ext.trans ?_ (Ext.drew _) | refine Ext.trans ?_ (by assumption))) hb); clear hb)
  have hn : ¬ w.heap.size = w'.heap.size := by have := hW.facts.2.2; omega
  have hn' : ¬ w'.heap.size = w.heap.size := fun q => hn q.symm
  have hX := fun wx (h : Ext (w'.alloc (Obj.cells #[.int .i64 (0), .int .u8 (0), .int .u8 (0), .int .u32 (0), .int .u16 (0), .int .u16 (0), .int .u16 (0), .int .u32 (0)] 62)) wx) => h.boxCell
  have hXf := fun wx (h : Ext (w'.alloc (Obj.cells #[.int .i64 (0), .int .u8 (0), .int .u8 (0), .int .u32 (0), .int .u16 (0), .int .u16 (0), .int .u16 (0), .int .u32 (0)] 62)) wx) => h.boxFree
  have hW := hW.trans (Ext.alloc w' (Obj.cells #[.int .i64 (0), .int .u8 (0), .int .u8 (0), .int .u32 (0), .int .u16 (0), .int .u16 (0), .int .u16 (0), .int .u32 (0)] 62))
  generalize w'.alloc (Obj.cells #[.int .i64 (0), .int .u8 (0), .int .u8 (0), .int .u32 (0), .int .u16 (0), .int .u16 (0), .int .u16 (0), .int .u32 (0)] 62) = W1 at *
  have hV := Ext.refl W1
  go_region
  go_wp2
  refine bodyPost_ret (v := .tuple #[Value.agg #[.int .i64 (0), .int .u8 (0), .int .u8 (0), .int .u32 (0), .int .u16 (0), .int .u16 (0), .int .u16 (0), .int .u32 (0)], .bool false]) (by simp [results, Tryd.results33, go_sem, *]) rfl ⟨rfl, ?_⟩
  refine Ext.trans ?_ (Ext.drew _)
  ((repeat (with_reducible refine Ext.set ?_ (by simp) _)); exact (hX0.trans (hW.trans (by repeat (first | exact Ext.refl _ | exact Ext.alloc _ _ | exact Ext.drewN _ _ | assumption | refine Ext.trans ?_ (Ext.alloc _ _) | refine Ext.trans ?_ (Ext.drew _) | refine Ext.trans ?_ (by assumption))))))

theorem isB_no {v : Int} (hg : ¬ gW v) : isB v = false := by simp [isB, hg]
theorem isB_4 {v : Int} (h : isB v = true) : gW v ∧ uK v = 4 := by simpa [isB] using h
theorem kvalid_any (b : Bool) (e c v : Int) (w : World) (hG : Glob w) (hv : InW v) :
    Calls Tryd.prog 17 #[Value.agg #[.bool (b), .int .u8 (e), .int .i64 (c)], .int .u64 v] w fun x w' => x = .returned (.bool (valB b e v)) ∧ Ext w w' := by
  by_cases hg : gW v
  · unfold valB
    cases hb : isB v
    · go_enter Tryd.func17, Tryd.ntmps17
      go_wp2_with fail
      have hX := fun w' (h : Ext (w.alloc (Obj.cells #[.bool (b), .int .u8 (e), .int .i64 (c)] 51)) w') => h.boxCell
      have hXf := fun w' (h : Ext (w.alloc (Obj.cells #[.bool (b), .int .u8 (e), .int .i64 (c)] 51)) w') => h.boxFree
      have hX0 : Ext w (w.alloc (Obj.cells #[.bool (b), .int .u8 (e), .int .i64 (c)] 51)) := Ext.alloc _ _
      generalize w.alloc (Obj.cells #[.bool (b), .int .u8 (e), .int .i64 (c)] 51) = W0 at *
      have hW := Ext.refl W0
      go_wp2_with ((go_at_call 33; (with_reducible refine (kbiased_yes _ _ (hG.ext (hX0.trans hW)) hv hg).mono ?_); rintro e w' ⟨rfl, hb⟩; have hW := Ext.trans2 hW (by repeat (first | exact Ext.refl _ | exact Ext.alloc _ _ | exact Ext.drewN _ _ | assumption | refine Ext.trans ?_ (Ext.alloc _ _) | refine Ext.trans ?_ (Ext.drew _) | refine Ext.trans ?_ (by assumption))) hb; (try have hV := Ext.trans2 hV (by repeat (first | exact Ext.refl _ | exact Ext.alloc _ _ | exact Ext.drewN _ _ | assumption | refine Ext.trans ?_ (Ext.alloc _ _) | refine Ext.trans ?_ (Ext.drew _) | refine Ext.trans ?_ (by assumption))) hb); clear hb); have hWA := fun o => hW.trans (Ext.alloc w' o))
      go_ret
      exact ⟨by cases b <;> rfl, (hX0.trans (hW.trans (by repeat (first | exact Ext.refl _ | exact Ext.alloc _ _ | exact Ext.drewN _ _ | assumption | refine Ext.trans ?_ (Ext.alloc _ _) | refine Ext.trans ?_ (Ext.drew _) | refine Ext.trans ?_ (by assumption)))))⟩
    · cases b
      · go_enter Tryd.func17, Tryd.ntmps17
        go_wp2_with fail
        have hX := fun w' (h : Ext (w.alloc (Obj.cells #[.bool (false), .int .u8 (e), .int .i64 (c)] 51)) w') => h.boxCell
        have hXf := fun w' (h : Ext (w.alloc (Obj.cells #[.bool (false), .int .u8 (e), .int .i64 (c)] 51)) w') => h.boxFree
        have hX0 : Ext w (w.alloc (Obj.cells #[.bool (false), .int .u8 (e), .int .i64 (c)] 51)) := Ext.alloc _ _
        generalize w.alloc (Obj.cells #[.bool (false), .int .u8 (e), .int .i64 (c)] 51) = W0 at *
        have hW := Ext.refl W0
        go_wp2_with ((go_at_call 33; (with_reducible refine (kbiased_yes _ _ (hG.ext (hX0.trans hW)) hv hg).mono ?_); rintro e w' ⟨rfl, hb⟩; have hW := Ext.trans2 hW (by repeat (first | exact Ext.refl _ | exact Ext.alloc _ _ | exact Ext.drewN _ _ | assumption | refine Ext.trans ?_ (Ext.alloc _ _) | refine Ext.trans ?_ (Ext.drew _) | refine Ext.trans ?_ (by assumption))) hb; (try have hV := Ext.trans2 hV (by repeat (first | exact Ext.refl _ | exact Ext.alloc _ _ | exact Ext.drewN _ _ | assumption | refine Ext.trans ?_ (Ext.alloc _ _) | refine Ext.trans ?_ (Ext.drew _) | refine Ext.trans ?_ (by assumption))) hb); clear hb); have hWA := fun o => hW.trans (Ext.alloc w' o))
        go_ret
        exact ⟨rfl, (hX0.trans (hW.trans (by repeat (first | exact Ext.refl _ | exact Ext.alloc _ _ | exact Ext.drewN _ _ | assumption | refine Ext.trans ?_ (Ext.alloc _ _) | refine Ext.trans ?_ (Ext.drew _) | refine Ext.trans ?_ (by assumption)))))⟩
      · go_enter Tryd.func17, Tryd.ntmps17
        go_wp2_with fail
        have hX := fun w' (h : Ext (w.alloc (Obj.cells #[.bool (true), .int .u8 (e), .int .i64 (c)] 51)) w') => h.boxCell
        have hXf := fun w' (h : Ext (w.alloc (Obj.cells #[.bool (true), .int .u8 (e), .int .i64 (c)] 51)) w') => h.boxFree
        have hX0 : Ext w (w.alloc (Obj.cells #[.bool (true), .int .u8 (e), .int .i64 (c)] 51)) := Ext.alloc _ _
        generalize w.alloc (Obj.cells #[.bool (true), .int .u8 (e), .int .i64 (c)] 51) = W0 at *
        have hW := Ext.refl W0
        go_wp2_with ((go_at_call 33; (with_reducible refine (kbiased_yes _ _ (hG.ext (hX0.trans hW)) hv hg).mono ?_); rintro e w' ⟨rfl, hb⟩; have hW := Ext.trans2 hW (by repeat (first | exact Ext.refl _ | exact Ext.alloc _ _ | exact Ext.drewN _ _ | assumption | refine Ext.trans ?_ (Ext.alloc _ _) | refine Ext.trans ?_ (Ext.drew _) | refine Ext.trans ?_ (by assumption))) hb; (try have hV := Ext.trans2 hV (by repeat (first | exact Ext.refl _ | exact Ext.alloc _ _ | exact Ext.drewN _ _ | assumption | refine Ext.trans ?_ (Ext.alloc _ _) | refine Ext.trans ?_ (Ext.drew _) | refine Ext.trans ?_ (by assumption))) hb); clear hb); have hWA := fun o => hW.trans (Ext.alloc w' o))
        go_ret
        exact ⟨rfl, (hX0.trans (hW.trans (by repeat (first | exact Ext.refl _ | exact Ext.alloc _ _ | exact Ext.drewN _ _ | assumption | refine Ext.trans ?_ (Ext.alloc _ _) | refine Ext.trans ?_ (Ext.drew _) | refine Ext.trans ?_ (by assumption)))))⟩
  · have hb := isB_no hg
    unfold valB
    rw [hb]
    go_enter Tryd.func17, Tryd.ntmps17
    go_wp2_with fail
    have hX := fun w' (h : Ext (w.alloc (Obj.cells #[.bool (b), .int .u8 (e), .int .i64 (c)] 51)) w') => h.boxCell
    have hXf := fun w' (h : Ext (w.alloc (Obj.cells #[.bool (b), .int .u8 (e), .int .i64 (c)] 51)) w') => h.boxFree
    have hX0 : Ext w (w.alloc (Obj.cells #[.bool (b), .int .u8 (e), .int .i64 (c)] 51)) := Ext.alloc _ _
    generalize w.alloc (Obj.cells #[.bool (b), .int .u8 (e), .int .i64 (c)] 51) = W0 at *
    have hW := Ext.refl W0
    go_wp2_with ((go_at_call 33; (with_reducible refine (kbiased_no _ _ (hG.ext (hX0.trans hW)) hv hg).mono ?_); rintro e w' ⟨rfl, hb⟩; have hW := Ext.trans2 hW (by repeat (first | exact Ext.refl _ | exact Ext.alloc _ _ | exact Ext.drewN _ _ | assumption | refine Ext.trans ?_ (Ext.alloc _ _) | refine Ext.trans ?_ (Ext.drew _) | refine Ext.trans ?_ (by assumption))) hb; (try have hV := Ext.trans2 hV (by repeat (first | exact Ext.refl _ | exact Ext.alloc _ _ | exact Ext.drewN _ _ | assumption | refine Ext.trans ?_ (Ext.alloc _ _) | refine Ext.trans ?_ (Ext.drew _) | refine Ext.trans ?_ (by assumption))) hb); clear hb); have hWA := fun o => hW.trans (Ext.alloc w' o))
    go_ret
    exact ⟨by cases b <;> rfl, (hX0.trans (hW.trans (by repeat (first | exact Ext.refl _ | exact Ext.alloc _ _ | exact Ext.drewN _ _ | assumption | refine Ext.trans ?_ (Ext.alloc _ _) | refine Ext.trans ?_ (Ext.drew _) | refine Ext.trans ?_ (by assumption)))))⟩

theorem fr_ok {v e : Int} (hv : InW v) (h0 : 0 ≤ e) (h1 : e ≤ 255) : OkH 4 (uA v) e 0 (uO v) 0 0 0 := by
  obtain ⟨a0, a1, _, _, _, _, o0, o1, _, _, _, _, _, _⟩ := u_ok hv
  constructor <;> first | decide | assumption
theorem u4_z {v : Int} (k : uK v = 4) : uH v = 0 ∧ uR v = 0 ∧ uS v = 0 ∧ uG v = 0 ∧ uA v < 16 := by
  have h := uK_4 k
  simp [uH, uR, uS, uG, uA, h]
  omega
theorem fr_code {v e : Int} (k : uK v = 4) : codeW 4 (uA v) e 0 (uO v) 0 0 0 = pI 4 (uA v) 0 (uO v) 0 0 0 e ∧ codeE 4 (uA v) e 0 (uO v) 0 0 0 = 0 := by
  have h : hMayB 4 (uA v) e 0 (uO v) 0 0 0 = true := by
    have := (u4_z k).2.2.2.2
    simp [hMayB, hMay, this]
  unfold codeW codeE
  rw [h]
  exact ⟨rfl, rfl⟩
theorem kfresh_any (q : Bool) (e c v : Int) (w : World) (hG : Glob w) (hv : InW v) (h0 : 0 ≤ e) (h1 : e ≤ 255) :
    Calls Tryd.prog 37 #[.int .u64 v, Value.agg #[.bool (q), .int .u8 (e), .int .i64 (c)]] w fun x w' => x = .returned (.tuple #[.int .u64 (frI e v), .bool (isB v)]) ∧ Ext w w' := by
  by_cases hg : gW v
  · cases hb : isB v
    · have hf : frI e v = 0 := by simp [frI, hb]
      rw [hf]
      go_enter Tryd.func37, Tryd.ntmps37
      go_wp2_with fail
      have hX := fun w' (h : Ext (w.alloc (Obj.cells #[.bool (q), .int .u8 (e), .int .i64 (c)] 51)) w') => h.boxCell
      have hXf := fun w' (h : Ext (w.alloc (Obj.cells #[.bool (q), .int .u8 (e), .int .i64 (c)] 51)) w') => h.boxFree
      have hX0 : Ext w (w.alloc (Obj.cells #[.bool (q), .int .u8 (e), .int .i64 (c)] 51)) := Ext.alloc _ _
      generalize w.alloc (Obj.cells #[.bool (q), .int .u8 (e), .int .i64 (c)] 51) = W0 at *
      have hW := Ext.refl W0
      go_wp2_with (go_at_call 33; (with_reducible refine (kbiased_yes _ _ (hG.ext (hX0.trans hW)) hv hg).mono ?_); rintro e w' ⟨rfl, hb⟩; have hW := Ext.trans2 hW (by repeat (first | exact Ext.refl _ | exact Ext.alloc _ _ | exact Ext.drewN _ _ | assumption | refine Ext.trans ?_ (Ext.alloc _ _) | refine Ext.trans ?_ (Ext.drew _) | refine Ext.trans ?_ (by assumption))) hb; (try have hV := Ext.trans2 hV (by repeat (first | exact Ext.refl _ | exact Ext.alloc _ _ | exact Ext.drewN _ _ | assumption | refine Ext.trans ?_ (Ext.alloc _ _) | refine Ext.trans ?_ (Ext.drew _) | refine Ext.trans ?_ (by assumption))) hb); clear hb)
      go_ret2
      exact ⟨rfl, (hX0.trans (hW.trans (by repeat (first | exact Ext.refl _ | exact Ext.alloc _ _ | exact Ext.drewN _ _ | assumption | refine Ext.trans ?_ (Ext.alloc _ _) | refine Ext.trans ?_ (Ext.drew _) | refine Ext.trans ?_ (by assumption)))))⟩
    · have k := (isB_4 hb).2
      have hf : frI e v = pI 4 (uA v) 0 (uO v) 0 0 0 e := by simp [frI, hb]
      obtain ⟨z1, z2, z3, z4, _⟩ := u4_z k
      obtain ⟨c1, c2⟩ := fr_code (e := e) k
      rw [← c1] at hf
      have b := fr_ok hv h0 h1
      rw [hf]
      have B := kbiased_yes v
      rw [k, z1, z2, z3, z4, hb] at B
      clear hf c1
      go_enter Tryd.func37, Tryd.ntmps37
      go_wp2_with fail
      have hX := fun w' (h : Ext (w.alloc (Obj.cells #[.bool (q), .int .u8 (e), .int .i64 (c)] 51)) w') => h.boxCell
      have hXf := fun w' (h : Ext (w.alloc (Obj.cells #[.bool (q), .int .u8 (e), .int .i64 (c)] 51)) w') => h.boxFree
      have hX0 : Ext w (w.alloc (Obj.cells #[.bool (q), .int .u8 (e), .int .i64 (c)] 51)) := Ext.alloc _ _
      generalize w.alloc (Obj.cells #[.bool (q), .int .u8 (e), .int .i64 (c)] 51) = W0 at *
      have hW := Ext.refl W0
      go_wp2_with (first | ((go_at_call 33; (with_reducible refine (B _ (hG.ext (hX0.trans hW)) hv hg).mono ?_); rintro e w' ⟨rfl, hb⟩; have hW := Ext.trans2 hW (by repeat (first | exact Ext.refl _ | exact Ext.alloc _ _ | exact Ext.drewN _ _ | assumption | refine Ext.trans ?_ (Ext.alloc _ _) | refine Ext.trans ?_ (Ext.drew _) | refine Ext.trans ?_ (by assumption))) hb; (try have hV := Ext.trans2 hV (by repeat (first | exact Ext.refl _ | exact Ext.alloc _ _ | exact Ext.drewN _ _ | assumption | refine Ext.trans ?_ (Ext.alloc _ _) | refine Ext.trans ?_ (Ext.drew _) | refine Ext.trans ?_ (by assumption))) hb); clear hb); have hWA := fun o => hW.trans (Ext.alloc w' o)) | (go_at_call 19; (with_reducible refine (code_any _ _ _ _ _ _ _ _ _ (hG.ext (hX0.trans (hW.trans (Ext.alloc _ _)))) b).mono ?_); rintro e w' ⟨rfl, hb⟩; have hW := Ext.trans2 hW (by repeat (first | exact Ext.refl _ | exact Ext.alloc _ _ | exact Ext.drewN _ _ | assumption | refine Ext.trans ?_ (Ext.alloc _ _) | refine Ext.trans ?_ (Ext.drew _) | refine Ext.trans ?_ (by assumption))) hb; (try have hV := Ext.trans2 hV (by repeat (first | exact Ext.refl _ | exact Ext.alloc _ _ | exact Ext.drewN _ _ | assumption | refine Ext.trans ?_ (Ext.alloc _ _) | refine Ext.trans ?_ (Ext.drew _) | refine Ext.trans ?_ (by assumption))) hb); clear hb))
      go_ret2
      exact ⟨rfl, (hX0.trans (hW.trans (by repeat (first | exact Ext.refl _ | exact Ext.alloc _ _ | exact Ext.drewN _ _ | assumption | refine Ext.trans ?_ (Ext.alloc _ _) | refine Ext.trans ?_ (Ext.drew _) | refine Ext.trans ?_ (by assumption)))))⟩
  · have hb := isB_no hg
    have hf : frI e v = 0 := by simp [frI, hb]
    rw [hf, hb]
    go_enter Tryd.func37, Tryd.ntmps37
    go_wp2_with fail
    have hX := fun w' (h : Ext (w.alloc (Obj.cells #[.bool (q), .int .u8 (e), .int .i64 (c)] 51)) w') => h.boxCell
    have hXf := fun w' (h : Ext (w.alloc (Obj.cells #[.bool (q), .int .u8 (e), .int .i64 (c)] 51)) w') => h.boxFree
    have hX0 : Ext w (w.alloc (Obj.cells #[.bool (q), .int .u8 (e), .int .i64 (c)] 51)) := Ext.alloc _ _
    generalize w.alloc (Obj.cells #[.bool (q), .int .u8 (e), .int .i64 (c)] 51) = W0 at *
    have hW := Ext.refl W0
    go_wp2_with (go_at_call 33; (with_reducible refine (kbiased_no _ _ (hG.ext (hX0.trans hW)) hv hg).mono ?_); rintro e w' ⟨rfl, hb⟩; have hW := Ext.trans2 hW (by repeat (first | exact Ext.refl _ | exact Ext.alloc _ _ | exact Ext.drewN _ _ | assumption | refine Ext.trans ?_ (Ext.alloc _ _) | refine Ext.trans ?_ (Ext.drew _) | refine Ext.trans ?_ (by assumption))) hb; (try have hV := Ext.trans2 hV (by repeat (first | exact Ext.refl _ | exact Ext.alloc _ _ | exact Ext.drewN _ _ | assumption | refine Ext.trans ?_ (Ext.alloc _ _) | refine Ext.trans ?_ (Ext.drew _) | refine Ext.trans ?_ (by assumption))) hb); clear hb)
    go_ret2
    exact ⟨rfl, (hX0.trans (hW.trans (by repeat (first | exact Ext.refl _ | exact Ext.alloc _ _ | exact Ext.drewN _ _ | assumption | refine Ext.trans ?_ (Ext.alloc _ _) | refine Ext.trans ?_ (Ext.drew _) | refine Ext.trans ?_ (by assumption)))))⟩
theorem kanew_any (b : Bool) (e c : Int) (w : World) :
    Calls Tryd.prog 28 #[Value.agg #[.bool (b), .int .u8 (e), .int .i64 (c)]] w fun x w' => x = .returned (Value.agg #[.bool (b), .int .u8 (((e + 1) % 256)), .int .i64 (c)]) ∧ Ext w w' := by
  go_enter Tryd.func28, Tryd.ntmps28
  go_wp2
  refine bodyPost_ret (v := Value.agg #[.bool (b), .int .u8 (((e + 1) % 256)), .int .i64 (c)]) (by simp [results, Tryd.results28, go_sem, *]) rfl ⟨rfl, ?_⟩
  ((repeat (with_reducible refine Ext.set ?_ (by simp) _)); exact (Ext.alloc _ _).trans (Ext.alloc _ _))
theorem knever_any (b : Bool) (e c : Int) (w : World) :
    Calls Tryd.prog 30 #[Value.agg #[.bool (b), .int .u8 (e), .int .i64 (c)]] w fun x w' => x = .returned (Value.agg #[.bool (false), .int .u8 (e), .int .i64 (c)]) ∧ Ext w w' := by
  go_enter Tryd.func30, Tryd.ntmps30
  go_wp2
  refine bodyPost_ret (v := Value.agg #[.bool (false), .int .u8 (e), .int .i64 (c)]) (by simp [results, Tryd.results30, go_sem, *]) rfl ⟨rfl, ?_⟩
  ((repeat (with_reducible refine Ext.set ?_ (by simp) _)); exact (Ext.alloc _ _).trans (Ext.alloc _ _))
end Go.Proofs.YtecopjehmpjniaaDoor
