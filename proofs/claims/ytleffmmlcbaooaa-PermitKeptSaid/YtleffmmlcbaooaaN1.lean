/- A table of package permit in the world, and what its methods do. -/
import Derived.Test.YtleffmmlcbaooaaRows3
import Derived.Laws.MakeOwn
import Derived.Deep.QuietTactic
namespace Go.Proofs.Ytleffmmlcbaooaa
open Go.RowKit
set_option linter.unusedSimpArgs false
set_option linter.unusedVariables false

/-- A table: its block, its threads' block, so many of them, what each has: asleep, permit, flag. -/
structure TabT (w : World) (M V N : Nat) (g : Tb) : Prop where
  m : Blk w M #[.slice (some ⟨V, 0, none⟩) N N] 50
  v : Blk w V (rows3 N g) 57
  ne : M ≠ V
  n1 : 1 ≤ N
  n2 : N ≤ 256
/-- One that New did not give. -/
def Nob (w : World) (p : Value) : Prop := p = .pointer none ∨ ∃ M, p = .pointer (some ⟨M, 0, none⟩) ∧ Blk w M #[.slice none 0 0] 50
section
variable {w w' : World} {M V N : Nat} {g : Tb}
theorem TabT.chg {T : List Nat} (h : TabT w M V N g) (x : Chg T w w') (hM : M ∉ T) (hV : V ∉ T) : TabT w' M V N g := ⟨h.m.chg x hM, h.v.chg x hV, h.ne, h.n1, h.n2⟩
theorem TabT.ext (h : TabT w M V N g) (x : Ext w w') : TabT w' M V N g := h.chg (x.chg []) (by simp) (by simp)
theorem TabT.lx (h : TabT w M V N g) {t : Nat} (ht : t < N) : w.cell? ⟨V, t * 3, none⟩ = some (.bool (g t).x) := (h.v.cell _).trans (rows3_at g ht).1
theorem TabT.ly (h : TabT w M V N g) {t : Nat} (ht : t < N) : w.cell? ⟨V, t * 3 + 1, none⟩ = some (.bool (g t).y) := (h.v.cell _).trans (rows3_at g ht).2.1
theorem TabT.lz (h : TabT w M V N g) {t : Nat} (ht : t < N) : w.cell? ⟨V, t * 3 + 2, none⟩ = some (.bool (g t).z) := (h.v.cell _).trans (rows3_at g ht).2.2
theorem TabT.far (h : TabT w M V N g) (o : Nat) (u : Value) : Blk (w.setCell ⟨V, o, none⟩ u) M #[.slice (some ⟨V, 0, none⟩) N N] 50 := h.m.far (p := ⟨V, o, none⟩) h.ne _
theorem TabT.sx (h : TabT w M V N g) {t : Nat} (ht : t < N) (v : Bool) : TabT (w.setCell ⟨V, t * 3, none⟩ (.bool v)) M V N (upd3 g t ⟨v, (g t).y, (g t).z⟩) :=
  ⟨h.far _ _, by rw [← rows3_setx g ht]; exact h.v.set _ _, h.ne, h.n1, h.n2⟩
theorem TabT.sy (h : TabT w M V N g) {t : Nat} (ht : t < N) (v : Bool) : TabT (w.setCell ⟨V, t * 3 + 1, none⟩ (.bool v)) M V N (upd3 g t ⟨(g t).x, v, (g t).z⟩) :=
  ⟨h.far _ _, by rw [← rows3_sety g ht]; exact h.v.set _ _, h.ne, h.n1, h.n2⟩
theorem TabT.sz (h : TabT w M V N g) {t : Nat} (ht : t < N) (v : Bool) : TabT (w.setCell ⟨V, t * 3 + 2, none⟩ (.bool v)) M V N (upd3 g t ⟨(g t).x, (g t).y, v⟩) :=
  ⟨h.far _ _, by rw [← rows3_setz g ht]; exact h.v.set _ _, h.ne, h.n1, h.n2⟩
theorem Chg.setV {o : Nat} (h : Chg [V] w w') (u : Value) : Chg [V] w (w'.setCell ⟨V, o, none⟩ u) := h.set (p := ⟨V, o, none⟩) (.inl (by simp)) u
theorem Nob.ext {p : Value} (h : Nob w p) (x : Ext w w') : Nob w' p := by
  rcases h with rfl | ⟨M, rfl, h⟩
  · exact .inl rfl
  · exact .inr ⟨M, rfl, h.ext x⟩
end
theorem inf_state : (Try.prog.info? 57).map (fun i => (i.zero, i.size, i.bytes)) = some (some (.agg #[.bool false, .bool false, .bool false]), 3, 3) := by kernel_rfl
theorem run_mk (w : World) (n : Nat) (hn : n ≤ 4096) :
    (Instr.makeSlice 48 (.int .i64 n) (.int .i64 n)).run Try.prog w = .ok (.slice (some ⟨w.heap.size, 0, none⟩) n n) (w.alloc (.cells (rows3 n (fun _ => no3)) 57)) := by
  obtain ⟨i, hi, hz, hsize, hb⟩ := info_parts inf_state
  have h := run_make (P := Try.prog) w 48 57 i _ Try.underlying48 hi hz .i64 .i64 n n (by omega) (by omega) (by rw [hb]; omega) (by omega)
  rw [hsize, Int.toNat_natCast, made_rows3 _ _ rfl] at h
  exact h
theorem new_in (n : Nat) (w : World) (h1 : 1 ≤ n) (h2 : n ≤ 256) :
    Calls Try.prog 7 #[.int .i64 n] w fun e w' => ∃ M V, e = .returned (.tuple #[.pointer (some ⟨M, 0, none⟩), .int .i64 0]) ∧ TabT w' M V n (fun _ => no3) ∧ w.heap.size ≤ M ∧ w.heap.size ≤ V ∧ Ext w w' := by
  have r := run_mk w n (by omega)
  have hx : (1 : Int) ≤ n := by omega
  have hy : (n : Int) ≤ 256 := by omega
  have hm := Blk.new (w.alloc (.cells (rows3 n (fun _ => no3)) 57)) #[.slice (some ⟨w.heap.size, 0, none⟩) n n] 50
  have hv := (Blk.new w (rows3 n (fun _ => no3)) 57).ext (Ext.alloc _ (.cells #[.slice (some ⟨w.heap.size, 0, none⟩) n n] 50))
  have hM : TabT ((w.alloc (.cells (rows3 n (fun _ => no3)) 57)).alloc (.cells #[.slice (some ⟨w.heap.size, 0, none⟩) n n] 50)) (w.heap.size + 1) w.heap.size n (fun _ => no3) := by
    refine ⟨?_, hv, by omega, h1, h2⟩
    simpa using hm
  have HM := hide hM
  clear hM hm hv
  go_enter Try.func7, Try.ntmps7
  go_wp2
  go_ret2
  exact ⟨w.heap.size + 1, rfl, w.heap.size, HM.out, by omega, by omega, (Ext.alloc _ _).trans (Ext.alloc _ _)⟩
theorem new_out (n : Int) (w : World) (h : ¬ (1 ≤ n ∧ n ≤ 256)) :
    Calls Try.prog 7 #[.int .i64 n] w fun e w' => e = .returned (.tuple #[.pointer none, .int .i64 1]) ∧ Ext w w' := by
  by_cases h1 : n < 1
  · go_enter Try.func7, Try.ntmps7
    go_wp2
    go_ret2
    exact ⟨by simp, Ext.refl _⟩
  · have h2 : 256 < n := by omega
    go_enter Try.func7, Try.ntmps7
    go_wp2
    go_ret2
    exact ⟨by simp, Ext.refl _⟩
theorem all_in {w : World} {M V N : Nat} {g : Tb} (h : TabT w M V N g) : Calls Try.prog 29 #[.pointer (some ⟨M, 0, none⟩)] w fun e w' => e = .returned (.slice (some ⟨V, 0, none⟩) N N) ∧ w = w' := by
  have r := h.m.cell
  go_enter Try.func29, Try.ntmps29
  go_wp2
  go_ret
  exact ⟨by simp, rfl⟩
theorem all_nob {p : Value} {w : World} (h : Nob w p) : Calls Try.prog 29 #[p] w fun e w' => e = .returned (.slice none 0 0) ∧ w = w' := by
  rcases h with rfl | ⟨M, rfl, h⟩
  · go_enter Try.func29, Try.ntmps29
    go_wp2
    go_ret
    exact ⟨rfl, rfl⟩
  · have r := h.cell
    go_enter Try.func29, Try.ntmps29
    go_wp2
    go_ret
    exact ⟨by simp, rfl⟩
theorem find_in {w : World} {M V N : Nat} {g : Tb} {z : Int} (h : TabT w M V N g) (h0 : 0 ≤ z) (h1 : z < N) :
    Calls Try.prog 24 #[.pointer (some ⟨M, 0, none⟩), .int .i64 z] w fun e w' => e = .returned (.tuple #[.pointer (some ⟨V, z.toNat * 3, none⟩), .int .i64 0]) ∧ w = w' := by
  have n1 := h.n1
  have n2 := h.n2
  have hz : z.toNat < N := by omega
  have hn : ¬ (N : Int) = 0 := by omega
  have hlt : ¬ z < 0 := by omega
  have hle : ¬ (N : Int) ≤ z := by omega
  go_enter Try.func24, Try.ntmps24
  go_wp2_with fail
  refine (all_in h).mono ?_
  rintro e w1 ⟨rfl, rfl⟩
  go_wp2_with fail
  go_ret2
  exact ⟨by simp, rfl⟩
theorem find_out {w : World} {M V N : Nat} {g : Tb} {z : Int} (h : TabT w M V N g) (h1 : ¬ (0 ≤ z ∧ z < N)) :
    Calls Try.prog 24 #[.pointer (some ⟨M, 0, none⟩), .int .i64 z] w fun e w' => e = .returned (.tuple #[.pointer none, .int .i64 1]) ∧ w = w' := by
  have n1 := h.n1
  have n2 := h.n2
  have hn : ¬ (N : Int) = 0 := by omega
  by_cases h0 : z < 0
  · go_enter Try.func24, Try.ntmps24
    go_wp2_with fail
    refine (all_in h).mono ?_
    rintro e w1 ⟨rfl, rfl⟩
    go_wp2_with fail
    go_ret2
    exact ⟨by simp, rfl⟩
  · have h2 : (N : Int) ≤ z := by omega
    go_enter Try.func24, Try.ntmps24
    go_wp2_with fail
    refine (all_in h).mono ?_
    rintro e w1 ⟨rfl, rfl⟩
    go_wp2_with fail
    go_ret2
    exact ⟨by simp, rfl⟩
theorem find_nob {p : Value} {w : World} {z : Int} (h : Nob w p) :
    Calls Try.prog 24 #[p, .int .i64 z] w fun e w' => e = .returned (.tuple #[.pointer none, .int .i64 2]) ∧ w = w' := by
  go_enter Try.func24, Try.ntmps24
  go_wp2_with fail
  refine (all_nob h).mono ?_
  rintro e w1 ⟨rfl, rfl⟩
  go_wp2_with fail
  go_ret2
  exact ⟨by simp, rfl⟩
end Go.Proofs.Ytleffmmlcbaooaa
