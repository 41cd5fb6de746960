/- A clock of package timer in the world, and what its small methods do. -/
import Derived.Test.YtgfhpgbklcjooaaT1
namespace Go.Proofs.Ytgfhpgbklcjooaa
open Go.RowKit Go.Maps
set_option linter.unusedSimpArgs false
set_option linter.unusedVariables false

theorem kI : Keyed Try.prog 3 := int_keyed Try.underlying3
theorem zI (w : World) : (zeroValue 2).run Try.prog w = .ok (.int .i64 0) w := by kernel_rfl
theorem kof {z : Int} (h : (ky z).wf = true) : keyOf Try.prog 3 (.int .i64 z) = some (ky z) := keyOf_int_mk Try.underlying3 h
theorem pe_int {v : Int} (h : (ky v).wf = true) : (plainElem (H := Unit) Try.prog 2) (.int .i64 v) = some (.lit (.int .i64 v), []) := plainElem_int Try.underlying2 h
/-- Block m is a map that holds these alarms. -/
def MpT (w : World) (m : Nat) (f : Al) : Prop := ∃ D, w.ownsMap Try.prog 3 (plainElem (H := Unit) Try.prog 2) m 256 D ∧ Rep D f
section
variable {w w' : World} {C m : Nat} {now : Int} {f : Al}
theorem own_tight {H : Type} {P : Program} {k : TypeId} {R : Value → Option (DataW H × List MemPlace)} {b n : Nat} {D : DataW H} (h : w.ownsMap P k R b n D) : w.ownsMap P k R b (Maps.size D) D := by
  obtain ⟨es, clock, hb, F, hs, rfl⟩ := h
  exact ⟨es, clock, hb, F, by simp [Maps.size, length_sorted], rfl⟩
theorem own_chgM {H : Type} {P : Program} {k : TypeId} {R : Value → Option (DataW H × List MemPlace)} {b n : Nat} {D : DataW H} {T : List Nat} (h : w.ownsMap P k R b n D) (x : Chg T w w') (hne : b ∉ T) : w'.ownsMap P k R b n D := by
  have hlt := h.lt
  obtain ⟨es, clock, hb, r⟩ := h
  exact ⟨es, clock, (x.block b hlt hne).trans hb, r⟩
theorem MpT.chg {T : List Nat} (h : MpT w m f) (x : Chg T w w') (hne : m ∉ T) : MpT w' m f := by
  obtain ⟨D, h, r⟩ := h
  exact ⟨D, own_chgM h x hne, r⟩
theorem MpT.lt (h : MpT w m f) : m < w.heap.size := by
  obtain ⟨D, h, r⟩ := h; exact h.lt
theorem MpT.of {n : Nat} {D : DataW Unit} (h : w.ownsMap Try.prog 3 (plainElem (H := Unit) Try.prog 2) m n D) (r : Rep D f) : MpT w m f :=
  ⟨D, (own_tight h).mono (by rw [r.size]; exact cnt_le f), r⟩
theorem Chg.of_grown {T : List Nat} {b : Nat} (h : w.grownBy w' (some b)) (hb : b ∈ T) : Chg T w w' := ⟨h.os, h.tape, h.output, h.size, fun k hk hT => h.block k hk (fun e => by cases e; exact hT hb)⟩
/-- A clock: its block, its map's block, its time, its alarms. -/
structure ClkT (w : World) (C m : Nat) (now : Int) (f : Al) : Prop where
  c : Blk w C #[.map (some m), .int .i64 now] 47
  mp : MpT w m f
  ok : OkA f
  n0 : 0 ≤ now
  n1 : now ≤ TM
theorem ClkT.chg {T : List Nat} (h : ClkT w C m now f) (x : Chg T w w') (hC : C ∉ T) (hm : m ∉ T) : ClkT w' C m now f := ⟨h.c.chg x hC, h.mp.chg x hm, h.ok, h.n0, h.n1⟩
theorem ClkT.ext (h : ClkT w C m now f) (x : Ext w w') : ClkT w' C m now f := h.chg (x.chg []) (by simp) (by simp)
theorem ClkT.ne (h : ClkT w C m now f) : m ≠ C := by
  obtain ⟨D, ⟨es, clock, hb, _⟩, _⟩ := h.mp
  have hc := h.c
  intro e
  unfold Blk at hc
  rw [e, hc] at hb
  cases hb
end
/-- One that New did not give. -/
def Nob (w : World) (p : Value) : Prop := p = .pointer none ∨ ∃ C, p = .pointer (some ⟨C, 0, none⟩) ∧ Blk w C #[.map none, .int .i64 0] 47
theorem Nob.ext {w w' : World} {p : Value} (h : Nob w p) (x : Ext w w') : Nob w' p := by
  rcases h with h | ⟨C, h, b⟩
  · exact .inl h
  · exact .inr ⟨C, h, b.ext x⟩
theorem all_in {w : World} {C m : Nat} {now : Int} {f : Al} (h : ClkT w C m now f) : Calls Try.prog 23 #[.pointer (some ⟨C, 0, none⟩)] w fun e w' => e = .returned (.map (some m)) ∧ w = w' := by
  have r := h.c.cell
  go_enter Try.func23, Try.ntmps23
  go_wp2
  go_ret
  exact ⟨by simp, rfl⟩
theorem all_nob {p : Value} {w : World} (h : Nob w p) : Calls Try.prog 23 #[p] w fun e w' => e = .returned (.map none) ∧ w = w' := by
  rcases h with rfl | ⟨C, rfl, h⟩
  · go_enter Try.func23, Try.ntmps23
    go_wp2
    go_ret
    exact ⟨rfl, rfl⟩
  · have r := h.cell
    go_enter Try.func23, Try.ntmps23
    go_wp2
    go_ret
    exact ⟨by simp, rfl⟩
theorem now_any {w : World} {C m : Nat} {now : Int} {f : Al} (h : ClkT w C m now f) : Calls Try.prog 21 #[.pointer (some ⟨C, 0, none⟩)] w fun e w' => e = .returned (.int .i64 now) ∧ w = w' := by
  have r := h.c.cell
  go_enter Try.func21, Try.ntmps21
  go_wp2
  go_ret
  exact ⟨by simp, rfl⟩
theorem now_nob {p : Value} {w : World} (h : Nob w p) : Calls Try.prog 21 #[p] w fun e w' => e = .returned (.int .i64 0) ∧ w = w' := by
  rcases h with rfl | ⟨C, rfl, h⟩
  · go_enter Try.func21, Try.ntmps21
    go_wp2
    go_ret
    exact ⟨rfl, rfl⟩
  · have r := h.cell
    go_enter Try.func21, Try.ntmps21
    go_wp2
    go_ret
    exact ⟨by simp, rfl⟩
theorem len_any {w : World} {C m : Nat} {now : Int} {f : Al} (h : ClkT w C m now f) : Calls Try.prog 19 #[.pointer (some ⟨C, 0, none⟩)] w fun e w' => e = .returned (.int .i64 (cntA f)) ∧ w = w' := by
  obtain ⟨D, hown, rep⟩ := h.mp
  have S := hide rep.size
  have L := fun ty => hown.len (t := 45) (e := 2) Try.underlying45 ty
  go_enter Try.func19, Try.ntmps19
  go_wp2_with fail
  refine (all_in h).mono ?_
  rintro e w1 ⟨rfl, rfl⟩
  go_wp2_with fail
  go_ret
  exact ⟨by rw [← S.out]; simp, rfl⟩
theorem len_nob {p : Value} {w : World} (h : Nob w p) : Calls Try.prog 19 #[p] w fun e w' => e = .returned (.int .i64 0) ∧ w = w' := by
  have L := fun ty => @Maps.len_nil Try.prog 3 w 45 2 Try.underlying45 ty
  go_enter Try.func19, Try.ntmps19
  go_wp2_with fail
  refine (all_nob h).mono ?_
  rintro e w1 ⟨rfl, rfl⟩
  go_wp2_with fail
  go_ret
  exact ⟨by simp, rfl⟩
def hasA (f : Al) (z : Int) : Bool := ix f z != 0
theorem at_any {w : World} {C m : Nat} {now : Int} {f : Al} {z : Int} (h : ClkT w C m now f) (hz : (ky z).wf = true) :
    Calls Try.prog 16 #[.pointer (some ⟨C, 0, none⟩), .int .i64 z] w fun e w' => e = .returned (.tuple #[.int .i64 (ix f z), .bool (hasA f z)]) ∧ w = w' := by
  obtain ⟨D, hown, rep⟩ := h.mp
  have L : (Instr.lookup 45 (.map (some m)) (.int .i64 z) true).run Try.prog w = .ok (.tuple #[.int .i64 (ix f z), .bool (hasA f z)]) w := by
    obtain ⟨v, ps, hrun, hv⟩ := hown.look_ok kI Try.underlying45 (zI w) (pe_int (v := 0) (by decide)) (kof hz)
    obtain ⟨c, rfl, hc, _⟩ := plainElem_int_inv Try.underlying2 hv
    rw [rep.get hz] at hc
    simp only [Prod.mk.injEq, DataW.lit.injEq, Lit.int.injEq, true_and, and_true] at hc
    rw [hrun, ← hc.1, rep.has z hz]
    rfl
  go_enter Try.func16, Try.ntmps16
  go_wp2_with fail
  refine (all_in h).mono ?_
  rintro e w1 ⟨rfl, rfl⟩
  go_wp2_with fail
  go_ret2
  exact ⟨by simp, rfl⟩
theorem at_nob {p : Value} {w : World} {z : Int} (h : Nob w p) (hz : (ky z).wf = true) :
    Calls Try.prog 16 #[p, .int .i64 z] w fun e w' => e = .returned (.tuple #[.int .i64 0, .bool false]) ∧ w = w' := by
  have L : (Instr.lookup 45 (.map none) (.int .i64 z) true).run Try.prog w = .ok (.tuple #[.int .i64 0, .bool false]) w := Maps.look_nil true kI Try.underlying45 (zI w) (kof hz)
  go_enter Try.func16, Try.ntmps16
  go_wp2_with fail
  refine (all_nob h).mono ?_
  rintro e w1 ⟨rfl, rfl⟩
  go_wp2_with fail
  go_ret2
  exact ⟨by simp, rfl⟩
theorem new_any (w : World) : Calls Try.prog 7 #[] w fun e w' => ∃ C m, e = .returned (.pointer (some ⟨C, 0, none⟩)) ∧ ClkT w' C m 0 noA ∧ w.heap.size ≤ C ∧ w.heap.size ≤ m ∧ Ext w w' := by
  have hmm := @run_makeMap Try.prog
  go_enter Try.func7, Try.ntmps7
  go_wp2_with fail
  go_ret
  have hb := Blk.new (w.alloc (.map #[] 0)) #[.map (some w.heap.size), .int .i64 0] 47
  have hm : MpT ((w.alloc (.map #[] 0)).alloc (.cells #[.map (some w.heap.size), .int .i64 0] 47)) w.heap.size noA :=
    MpT.of ((World.ownsMap_made w Try.prog 3 (plainElem (H := Unit) Try.prog 2)).alloc _) rep_no
  exact ⟨(w.alloc (.map #[] 0)).heap.size, w.heap.size, by simp, ⟨hb, hm, okA_no, by omega, by unfold TM; omega⟩, by simp, by omega, (Ext.alloc _ _).trans (Ext.alloc _ _)⟩
theorem wrapI {x : Int} (h0 : -9223372036854775808 ≤ x) (h1 : x ≤ 9223372036854775807) : IntKind.i64.wrap x = x := by
  simp [IntKind.wrap, IntKind.bits, IntKind.signed]; omega
def latI (now k : Int) : Int := if k ≤ TM - now then now + k else TM
theorem later_any {w : World} {C m : Nat} {now : Int} {f : Al} {k : Int} (h : ClkT w C m now f) (hk0 : 0 ≤ k) (hk1 : k ≤ 9223372036854775807) :
    Calls Try.prog 25 #[.pointer (some ⟨C, 0, none⟩), .int .i64 k] w fun e w' => e = .returned (.int .i64 (latI now k)) ∧ Ext w w' := by
  have h0 := h.n0
  have h1 := h.n1
  unfold TM at h1
  have hW := Ext.refl w
  have hX0 := Ext.refl w
  have r := h.c.rule
  have W1 : IntKind.i64.wrap (1099511627776 - now) = 1099511627776 - now := wrapI (by omega) (by omega)
  by_cases hk : k ≤ 1099511627776 - now
  · have W2 : IntKind.i64.wrap (now + k) = now + k := wrapI (by omega) (by omega)
    have E := hide (show latI now k = now + k from if_pos hk)
    have hlt : ¬ 1099511627776 - now < k := by omega
    go_enter Try.func25, Try.ntmps25
    go_wp2_with fail
    refine wp_region_ext (by kernel_rfl) (by kernel_rfl) ?_
    repeat
      with_reducible refine wpQuiet_step (fun K hK => ?_)
      go_simp
      first
      | (refine hK _ ?_; clear hK K)
      | (apply Exists.intro
         refine ⟨fun w1 h1 => ?_, hK _ ?_⟩
         (have hW := Ext.trans2 hW (by repeat (first | exact Ext.refl _ | exact Ext.alloc _ _ | exact Ext.drewN _ _ | assumption | refine Ext.trans ?_ (Ext.alloc _ _) | refine Ext.trans ?_ (Ext.drew _) | refine Ext.trans ?_ (by assumption))) h1; (try have hV := Ext.trans2 hV (by repeat (first | exact Ext.refl _ | exact Ext.alloc _ _ | exact Ext.drewN _ _ | assumption | refine Ext.trans ?_ (Ext.alloc _ _) | refine Ext.trans ?_ (Ext.drew _) | refine Ext.trans ?_ (by assumption))) h1); (first | rfl | (go_simp; done) | (go_simp; rfl) | fail))
         clear hK K)
    refine wpQuiet_nil (fun w' hw' => ?_)
    have hW := Ext.trans2 hW (by repeat (first | exact Ext.refl _ | exact Ext.alloc _ _ | exact Ext.drewN _ _ | assumption | refine Ext.trans ?_ (Ext.alloc _ _) | refine Ext.trans ?_ (Ext.drew _) | refine Ext.trans ?_ (by assumption))) hw'
    try have hV := Ext.trans2 hV (by repeat (first | exact Ext.refl _ | exact Ext.alloc _ _ | exact Ext.drewN _ _ | assumption | refine Ext.trans ?_ (Ext.alloc _ _) | refine Ext.trans ?_ (Ext.drew _) | refine Ext.trans ?_ (by assumption))) hw'
    clear hw'
    go_wp2
    go_ret
    exact ⟨by rw [E.out]; simp, (hX0.trans (hW.trans (by repeat (first | exact Ext.refl _ | exact Ext.alloc _ _ | exact Ext.drewN _ _ | assumption | refine Ext.trans ?_ (Ext.alloc _ _) | refine Ext.trans ?_ (Ext.drew _) | refine Ext.trans ?_ (by assumption)))))⟩
  · have E := hide (show latI now k = 1099511627776 from if_neg hk)
    have hlt : 1099511627776 - now < k := by omega
    have W2 : IntKind.i64.wrap (now + (1099511627776 - now)) = 1099511627776 := by rw [show now + (1099511627776 - now) = 1099511627776 by omega]; rfl
    go_enter Try.func25, Try.ntmps25
    go_wp2_with fail
    refine wp_region_ext (by kernel_rfl) (by kernel_rfl) ?_
    repeat
      with_reducible refine wpQuiet_step (fun K hK => ?_)
      go_simp
      first
      | (refine hK _ ?_; clear hK K)
      | (apply Exists.intro
         refine ⟨fun w1 h1 => ?_, hK _ ?_⟩
         (have hW := Ext.trans2 hW (by repeat (first | exact Ext.refl _ | exact Ext.alloc _ _ | exact Ext.drewN _ _ | assumption | refine Ext.trans ?_ (Ext.alloc _ _) | refine Ext.trans ?_ (Ext.drew _) | refine Ext.trans ?_ (by assumption))) h1; (try have hV := Ext.trans2 hV (by repeat (first | exact Ext.refl _ | exact Ext.alloc _ _ | exact Ext.drewN _ _ | assumption | refine Ext.trans ?_ (Ext.alloc _ _) | refine Ext.trans ?_ (Ext.drew _) | refine Ext.trans ?_ (by assumption))) h1); (first | rfl | (go_simp; done) | (go_simp; rfl) | fail))
         clear hK K)
    refine wpQuiet_nil (fun w' hw' => ?_)
    have hW := Ext.trans2 hW (by repeat (first | exact Ext.refl _ | exact Ext.alloc _ _ | exact Ext.drewN _ _ | assumption | refine Ext.trans ?_ (Ext.alloc _ _) | refine Ext.trans ?_ (Ext.drew _) | refine Ext.trans ?_ (by assumption))) hw'
    try have hV := Ext.trans2 hV (by repeat (first | exact Ext.refl _ | exact Ext.alloc _ _ | exact Ext.drewN _ _ | assumption | refine Ext.trans ?_ (Ext.alloc _ _) | refine Ext.trans ?_ (Ext.drew _) | refine Ext.trans ?_ (by assumption))) hw'
    clear hw'
    go_wp2
    go_ret
    exact ⟨by rw [E.out]; simp, (hX0.trans (hW.trans (by repeat (first | exact Ext.refl _ | exact Ext.alloc _ _ | exact Ext.drewN _ _ | assumption | refine Ext.trans ?_ (Ext.alloc _ _) | refine Ext.trans ?_ (Ext.drew _) | refine Ext.trans ?_ (by assumption)))))⟩
end Go.Proofs.Ytgfhpgbklcjooaa
