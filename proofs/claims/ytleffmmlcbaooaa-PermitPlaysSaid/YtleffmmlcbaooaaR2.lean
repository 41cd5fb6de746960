/- The reference's New: three rows that are made in a drawn region. -/
import Derived.Test.YtleffmmlcbaooaaR1
import Derived.RegionTactic
namespace Go.Proofs.Ytleffmmlcbaooaa
open Go.RowKit
set_option linter.unusedSimpArgs false
set_option linter.unusedVariables false

theorem inf_bool : (Try.prog.info? 4).map (fun i => (i.zero, i.size, i.bytes)) = some (some (.bool false), 1, 1) := by kernel_rfl
def zer (n : Nat) : Obj := .cells (rows1 n (fun _ => false)) 4
theorem run_mkb (n : Nat) (hn : n ≤ 4096) (w : World) :
    (Instr.makeSlice 27 (.int .i64 n) (.int .i64 n)).run Try.prog w = .ok (.slice (some ⟨w.heap.size, 0, none⟩) n n) (w.alloc (zer n)) := by
  obtain ⟨i, hi, hz, hsize, hb⟩ := info_parts inf_bool
  have h := run_make (P := Try.prog) w 27 4 i _ Try.underlying27 hi hz .i64 .i64 n n (by omega) (by omega) (by rw [hb]; omega) (by omega)
  rw [hsize, Int.toNat_natCast, made_rows1 _ _ rfl] at h
  exact h
theorem three (w : World) (o : Obj) (n : Nat) : Blk ((((w.alloc o).alloc (zer n)).alloc (zer n)).alloc (zer n)).drew (w.heap.size + 1) (rows1 n (fun _ => false)) 4 ∧ Blk ((((w.alloc o).alloc (zer n)).alloc (zer n)).alloc (zer n)).drew (w.heap.size + 1 + 1) (rows1 n (fun _ => false)) 4 ∧
    Blk ((((w.alloc o).alloc (zer n)).alloc (zer n)).alloc (zer n)).drew (w.heap.size + 1 + 1 + 1) (rows1 n (fun _ => false)) 4 ∧ Ext w ((((w.alloc o).alloc (zer n)).alloc (zer n)).alloc (zer n)).drew := by
  have h1 := Blk.new (w.alloc o) (rows1 n (fun _ => false)) 4
  have h2 := Blk.new ((w.alloc o).alloc (zer n)) (rows1 n (fun _ => false)) 4
  have h3 := Blk.new (((w.alloc o).alloc (zer n)).alloc (zer n)) (rows1 n (fun _ => false)) 4
  simp only [World.size_alloc] at h1 h2 h3
  refine ⟨Blk.ext h1 (((Ext.alloc _ _).trans (Ext.alloc _ _)).trans (Ext.drew _)), Blk.ext h2 ((Ext.alloc _ _).trans (Ext.drew _)), Blk.ext h3 (Ext.drew _), ((((Ext.alloc _ _).trans (Ext.alloc _ _)).trans (Ext.alloc _ _)).trans (Ext.alloc _ _)).trans (Ext.drew _)⟩
theorem rnew_in (n : Nat) (w : World) (h1 : 1 ≤ n) (h2 : n ≤ 256) :
    Calls Try.prog 8 #[.int .i64 n] w fun e w' => ∃ P F S, e = .returned (.tuple #[.agg #[.slice (some ⟨P, 0, none⟩) n n, .slice (some ⟨F, 0, none⟩) n n, .slice (some ⟨S, 0, none⟩) n n], .int .i64 0]) ∧ Blk w' P (rows1 n (fun _ => false)) 4 ∧ Blk w' F (rows1 n (fun _ => false)) 4 ∧ Blk w' S (rows1 n (fun _ => false)) 4 ∧
      P ≠ F ∧ P ≠ S ∧ F ≠ S ∧ w.heap.size ≤ P ∧ w.heap.size ≤ F ∧ w.heap.size ≤ S ∧ Ext w w' := by
  have r := run_mkb n (by omega)
  have hx : (1 : Int) ≤ n := by omega
  have hy : (n : Int) ≤ 256 := by omega
  go_enter Try.func8, Try.ntmps8
  go_wp2
  go_region
  all_goals go_wp2
  · refine bodyPost_ret (v := .tuple #[.agg #[.slice (some ⟨(w.heap.size + 1), 0, none⟩) n n, .slice (some ⟨(w.heap.size + 1 + 1), 0, none⟩) n n, .slice (some ⟨(w.heap.size + 1 + 1 + 1), 0, none⟩) n n], .int .i64 0]) (by simp [results, Try.results8, go_sem, *]) rfl ?_
    obtain ⟨q1, q2, q3, qx⟩ := three w (.cells #[.slice (some ⟨(w.heap.size + 1), 0, none⟩) n n, .slice (some ⟨(w.heap.size + 1 + 1), 0, none⟩) n n, .slice (some ⟨(w.heap.size + 1 + 1 + 1), 0, none⟩) n n] 29) n
    exact ⟨_, _, _, rfl, q1, q2, q3, by omega, by omega, by omega, by omega, by omega, by omega, qx⟩
  · refine bodyPost_ret (v := .tuple #[.agg #[.slice (some ⟨(w.heap.size + 1), 0, none⟩) n n, .slice (some ⟨(w.heap.size + 1 + 1 + 1), 0, none⟩) n n, .slice (some ⟨(w.heap.size + 1 + 1), 0, none⟩) n n], .int .i64 0]) (by simp [results, Try.results8, go_sem, *]) rfl ?_
    obtain ⟨q1, q2, q3, qx⟩ := three w (.cells #[.slice (some ⟨(w.heap.size + 1), 0, none⟩) n n, .slice (some ⟨(w.heap.size + 1 + 1 + 1), 0, none⟩) n n, .slice (some ⟨(w.heap.size + 1 + 1), 0, none⟩) n n] 29) n
    exact ⟨_, _, _, rfl, q1, q3, q2, by omega, by omega, by omega, by omega, by omega, by omega, qx⟩
  · refine bodyPost_ret (v := .tuple #[.agg #[.slice (some ⟨(w.heap.size + 1 + 1), 0, none⟩) n n, .slice (some ⟨(w.heap.size + 1), 0, none⟩) n n, .slice (some ⟨(w.heap.size + 1 + 1 + 1), 0, none⟩) n n], .int .i64 0]) (by simp [results, Try.results8, go_sem, *]) rfl ?_
    obtain ⟨q1, q2, q3, qx⟩ := three w (.cells #[.slice (some ⟨(w.heap.size + 1 + 1), 0, none⟩) n n, .slice (some ⟨(w.heap.size + 1), 0, none⟩) n n, .slice (some ⟨(w.heap.size + 1 + 1 + 1), 0, none⟩) n n] 29) n
    exact ⟨_, _, _, rfl, q2, q1, q3, by omega, by omega, by omega, by omega, by omega, by omega, qx⟩
  · refine bodyPost_ret (v := .tuple #[.agg #[.slice (some ⟨(w.heap.size + 1 + 1 + 1), 0, none⟩) n n, .slice (some ⟨(w.heap.size + 1), 0, none⟩) n n, .slice (some ⟨(w.heap.size + 1 + 1), 0, none⟩) n n], .int .i64 0]) (by simp [results, Try.results8, go_sem, *]) rfl ?_
    obtain ⟨q1, q2, q3, qx⟩ := three w (.cells #[.slice (some ⟨(w.heap.size + 1 + 1 + 1), 0, none⟩) n n, .slice (some ⟨(w.heap.size + 1), 0, none⟩) n n, .slice (some ⟨(w.heap.size + 1 + 1), 0, none⟩) n n] 29) n
    exact ⟨_, _, _, rfl, q3, q1, q2, by omega, by omega, by omega, by omega, by omega, by omega, qx⟩
  · refine bodyPost_ret (v := .tuple #[.agg #[.slice (some ⟨(w.heap.size + 1 + 1), 0, none⟩) n n, .slice (some ⟨(w.heap.size + 1 + 1 + 1), 0, none⟩) n n, .slice (some ⟨(w.heap.size + 1), 0, none⟩) n n], .int .i64 0]) (by simp [results, Try.results8, go_sem, *]) rfl ?_
    obtain ⟨q1, q2, q3, qx⟩ := three w (.cells #[.slice (some ⟨(w.heap.size + 1 + 1), 0, none⟩) n n, .slice (some ⟨(w.heap.size + 1 + 1 + 1), 0, none⟩) n n, .slice (some ⟨(w.heap.size + 1), 0, none⟩) n n] 29) n
    exact ⟨_, _, _, rfl, q2, q3, q1, by omega, by omega, by omega, by omega, by omega, by omega, qx⟩
  · refine bodyPost_ret (v := .tuple #[.agg #[.slice (some ⟨(w.heap.size + 1 + 1 + 1), 0, none⟩) n n, .slice (some ⟨(w.heap.size + 1 + 1), 0, none⟩) n n, .slice (some ⟨(w.heap.size + 1), 0, none⟩) n n], .int .i64 0]) (by simp [results, Try.results8, go_sem, *]) rfl ?_
    obtain ⟨q1, q2, q3, qx⟩ := three w (.cells #[.slice (some ⟨(w.heap.size + 1 + 1 + 1), 0, none⟩) n n, .slice (some ⟨(w.heap.size + 1 + 1), 0, none⟩) n n, .slice (some ⟨(w.heap.size + 1), 0, none⟩) n n] 29) n
    exact ⟨_, _, _, rfl, q3, q2, q1, by omega, by omega, by omega, by omega, by omega, by omega, qx⟩
theorem rnew_out (n : Int) (w : World) (h : ¬ (1 ≤ n ∧ n ≤ 256)) :
    Calls Try.prog 8 #[.int .i64 n] w fun e w' => e = .returned (.tuple #[.agg #[.slice none 0 0, .slice none 0 0, .slice none 0 0], .int .i64 1]) ∧ Ext w w' := by
  by_cases h1 : n < 1
  · go_enter Try.func8, Try.ntmps8
    go_wp2
    refine bodyPost_ret (v := .tuple #[.agg #[.slice none 0 0, .slice none 0 0, .slice none 0 0], .int .i64 1]) (by simp [results, Try.results8, go_sem, *]) rfl ⟨rfl, ?_⟩
    exact Ext.alloc _ _
  · have h2 : 256 < n := by omega
    go_enter Try.func8, Try.ntmps8
    go_wp2
    refine bodyPost_ret (v := .tuple #[.agg #[.slice none 0 0, .slice none 0 0, .slice none 0 0], .int .i64 1]) (by simp [results, Try.results8, go_sem, *]) rfl ⟨rfl, ?_⟩
    exact Ext.alloc _ _
end Go.Proofs.Ytleffmmlcbaooaa
