/- A rendezvous in the world, the program's or the document's; what the program's small methods tell. -/
import Derived.Test.YtndjlhnmpddpbaaA1
import Derived.Laws.MakeOwn
import Derived.Deep.QuietTactic
namespace Go.Proofs.Ytndjlhnmpddpbaa
open Go.RowKit
set_option linter.unusedSimpArgs false
set_option linter.unusedVariables false
set_option maxRecDepth 100000

/-- A rendezvous of type T: its block, its threads' block, so many of them, their states, how many requests wait, how many rounds there were. -/
structure MT (T : TypeId) (w : World) (M V N : Nat) (g : Ti) (a r : Nat) : Prop where
  m : Blk w M #[.slice (some ⟨V, 0, none⟩) N N, .int .i64 (a : Int), .int .i64 (r : Int)] T
  v : Blk w V (irow N g) 3
  ne : M ≠ V
  n1 : 1 ≤ N
  n2 : N ≤ 256
  ok : OkI N g
/-- One that New did not give. -/
def Nob (w : World) (p : Value) : Prop := p = .pointer none ∨ ∃ M, p = (.pointer (some ⟨M, 0, none⟩)) ∧ Blk w M #[.slice none 0 0, .int .i64 0, .int .i64 0] 48
section
variable {T : TypeId} {w w' : World} {M V N : Nat} {g : Ti} {a r : Nat} {z s : Int}
theorem MT.chg {L : List Nat} (h : MT T w M V N g a r) (x : Chg L w w') (hM : M ∉ L) (hV : V ∉ L) : MT T w' M V N g a r := ⟨h.m.chg x hM, h.v.chg x hV, h.ne, h.n1, h.n2, h.ok⟩
theorem MT.ext (h : MT T w M V N g a r) (x : Ext w w') : MT T w' M V N g a r := h.chg (x.chg []) (by simp) (by simp)
theorem MT.l0 (h : MT T w M V N g a r) : w.cell? ⟨M, 0, none⟩ = some (.slice (some ⟨V, 0, none⟩) N N) := h.m.cell 0
theorem MT.l1 (h : MT T w M V N g a r) : w.cell? ⟨M, 1, none⟩ = some (.int .i64 (a : Int)) := h.m.cell 1
theorem MT.l2 (h : MT T w M V N g a r) : w.cell? ⟨M, 2, none⟩ = some (.int .i64 (r : Int)) := h.m.cell 2
theorem MT.lv (h : MT T w M V N g a r) {t : Nat} (ht : t < N) : w.cell? ⟨V, t, none⟩ = some (.int .i64 (g t)) := (h.v.cell t).trans (irow_at g ht)
theorem MT.sv (h : MT T w M V N g a r) {t : Nat} (ht : t < N) {s : Int} (h0 : 0 ≤ s) (h1 : s ≤ 3) : MT T (w.setCell ⟨V, t, none⟩ (.int .i64 s)) M V N (upI g t s) a r :=
  ⟨h.m.far (p := ⟨V, t, none⟩) h.ne _, by rw [← irow_set g ht]; exact h.v.set _ _, h.ne, h.n1, h.n2, okI_up h.ok t h0 h1⟩
theorem MT.s1 (h : MT T w M V N g a r) (a' : Nat) : MT T (w.setCell ⟨M, 1, none⟩ (.int .i64 (a' : Int))) M V N g a' r :=
  ⟨h.m.set 1 (.int .i64 (a' : Int)), h.v.far (p := ⟨M, 1, none⟩) h.ne.symm _, h.ne, h.n1, h.n2, h.ok⟩
theorem MT.s2 (h : MT T w M V N g a r) (r' : Nat) : MT T (w.setCell ⟨M, 2, none⟩ (.int .i64 (r' : Int))) M V N g a r' :=
  ⟨h.m.set 2 (.int .i64 (r' : Int)), h.v.far (p := ⟨M, 2, none⟩) h.ne.symm _, h.ne, h.n1, h.n2, h.ok⟩
theorem Nob.ext {p : Value} (h : Nob w p) (x : Ext w w') : Nob w' p := by
  rcases h with rfl | ⟨M, rfl, h⟩
  · exact .inl rfl
  · exact .inr ⟨M, rfl, h.ext x⟩
theorem chg_at {L : List Nat} (w : World) (V o : Nat) (u : Value) (h : V ∈ L) : Chg L w (w.setCell ⟨V, o, none⟩ u) := (Chg.refl L w).set (p := ⟨V, o, none⟩) (.inl h) u
theorem Chg.setAt {L : List Nat} {V o : Nat} (h : Chg L w w') (hV : V ∈ L) (u : Value) : Chg L w (w'.setCell ⟨V, o, none⟩ u) := h.set (p := ⟨V, o, none⟩) (.inl hV) u
end
theorem run_mk (w : World) (n : Nat) (hn : n ≤ 4096) :
    (Instr.makeSlice 27 (.int .i64 n) (.int .i64 n)).run Try.prog w = .ok (.slice (some ⟨w.heap.size, 0, none⟩) n n) (w.alloc (.cells (irow n (fun _ => 0)) 3)) := by
  obtain ⟨i, hi, hz, hsize, hb⟩ := info_parts inf_int
  have h := run_make (P := Try.prog) w 27 3 i _ Try.underlying27 hi hz .i64 .i64 n n (by omega) (by omega) (by rw [hb]; omega) (by omega)
  rw [hsize, Int.toNat_natCast, made_irow _ _ rfl] at h
  exact h
theorem new_in (n : Nat) (w : World) (h1 : 1 ≤ n) (h2 : n ≤ 256) :
    Calls Try.prog 7 #[.int .i64 n] w fun e w' => ∃ M V, e = .returned (.tuple #[(.pointer (some ⟨M, 0, none⟩)), .int .i64 0]) ∧ MT 48 w' M V n (fun _ => 0) 0 0 ∧ w.heap.size ≤ M ∧ w.heap.size ≤ V ∧ Ext w w' := by
  have r := run_mk w n (by omega)
  have hx : (1 : Int) ≤ n := by omega
  have hy : (n : Int) ≤ 256 := by omega
  have hm := Blk.new (w.alloc (.cells (irow n (fun _ => 0)) 3)) #[.slice (some ⟨w.heap.size, 0, none⟩) n n, .int .i64 ((0 : Nat) : Int), .int .i64 ((0 : Nat) : Int)] 48
  have hv := (Blk.new w (irow n (fun _ => 0)) 3).ext (Ext.alloc _ (.cells #[.slice (some ⟨w.heap.size, 0, none⟩) n n, .int .i64 0, .int .i64 0] 48))
  have hM : MT 48 ((w.alloc (.cells (irow n (fun _ => 0)) 3)).alloc (.cells #[.slice (some ⟨w.heap.size, 0, none⟩) n n, .int .i64 0, .int .i64 0] 48)) (w.heap.size + 1) w.heap.size n (fun _ => 0) 0 0 := by
    refine ⟨?_, hv, by omega, h1, h2, fun k _ => by omega⟩
    simpa using hm
  have HM := hide hM
  clear hM hm hv
  go_enter Try.func7, Try.ntmps7
  go_wp2
  go_ret2
  exact ⟨w.heap.size + 1, rfl, w.heap.size, HM.out, by omega, by omega, (Ext.alloc _ _).trans (Ext.alloc _ _)⟩
theorem new_out (n : Int) (w : World) (h : ¬ (1 ≤ n ∧ n ≤ 256)) :
    Calls Try.prog 7 #[.int .i64 n] w fun e w' => e = .returned (.tuple #[.pointer none, .int .i64 1]) ∧ w = w' := by
  by_cases h1 : n < 1
  · go_enter Try.func7, Try.ntmps7
    go_wp2
    go_ret2
    exact ⟨by simp, rfl⟩
  · have h2 : 256 < n := by omega
    go_enter Try.func7, Try.ntmps7
    go_wp2
    go_ret2
    exact ⟨by simp, rfl⟩
section
variable {w w' : World} {M V N : Nat} {g : Ti} {a r : Nat} {z s : Int}
theorem made_in (h : MT 48 w M V N g a r) : Calls Try.prog 24 #[(.pointer (some ⟨M, 0, none⟩))] w fun e w' => e = .returned (.bool true) ∧ w = w' := by
  have r0 := h.l0
  have n1 := h.n1
  have hx : (0 : Int) < N := by omega
  go_enter Try.func24, Try.ntmps24
  go_wp2
  go_ret
  exact ⟨by simp; omega, rfl⟩
theorem made_nob {p : Value} (h : Nob w p) : Calls Try.prog 24 #[p] w fun e w' => e = .returned (.bool false) ∧ w = w' := by
  rcases h with rfl | ⟨M, rfl, h⟩
  · go_enter Try.func24, Try.ntmps24
    go_wp2
    go_ret
    exact ⟨rfl, rfl⟩
  · have r := h.cell 0
    go_enter Try.func24, Try.ntmps24
    go_wp2
    go_ret
    exact ⟨by simp, rfl⟩
theorem has_any (h : MT 48 w M V N g a r) : Calls Try.prog 26 #[(.pointer (some ⟨M, 0, none⟩)), .int .i64 z] w fun e w' => e = .returned (.bool (inB N z)) ∧ w = w' := by
  have r0 := h.l0
  by_cases h0 : 0 ≤ z
  · by_cases h1 : z < N
    · have E := hide (inB_yes h0 h1)
      go_enter Try.func26, Try.ntmps26
      go_wp2_with fail
      refine (made_in h).mono ?_
      rintro e w1 ⟨rfl, rfl⟩
      go_wp2_with fail
      go_ret
      exact ⟨by rw [E.out]; simp, rfl⟩
    · have E := hide (inB_no (N := N) (z := z) (by omega))
      go_enter Try.func26, Try.ntmps26
      go_wp2_with fail
      refine (made_in h).mono ?_
      rintro e w1 ⟨rfl, rfl⟩
      go_wp2_with fail
      go_ret
      exact ⟨by rw [E.out]; simp; omega, rfl⟩
  · have E := hide (inB_no (N := N) (z := z) (by omega))
    go_enter Try.func26, Try.ntmps26
    go_wp2_with fail
    refine (made_in h).mono ?_
    rintro e w1 ⟨rfl, rfl⟩
    go_wp2_with fail
    go_ret
    exact ⟨by rw [E.out]; simp, rfl⟩
theorem has_nob {p : Value} (h : Nob w p) : Calls Try.prog 26 #[p, .int .i64 z] w fun e w' => e = .returned (.bool false) ∧ w = w' := by
  go_enter Try.func26, Try.ntmps26
  go_wp2_with fail
  refine (made_nob h).mono ?_
  rintro e w1 ⟨rfl, rfl⟩
  go_wp2_with fail
  go_ret
  exact ⟨by simp, rfl⟩
theorem state_any (h : MT 48 w M V N g a r) : Calls Try.prog 16 #[(.pointer (some ⟨M, 0, none⟩)), .int .i64 z] w fun e w' => e = .returned (.int .i64 (stI N g z)) ∧ w = w' := by
  by_cases hh : 0 ≤ z ∧ z < N
  · obtain ⟨h0, h1⟩ := hh
    rw [stI_yes g h0 h1]
    have ht : z.toNat < N := by omega
    have hB := inB_yes h0 h1
    have n2 := h.n2
    have r0 := h.l0
    have rv := h.lv ht
    go_enter Try.func16, Try.ntmps16
    go_wp2_with fail
    refine (has_any h).mono ?_
    rintro e w1 ⟨rfl, rfl⟩
    rw [hB]
    go_wp2_with fail
    go_ret
    exact ⟨by simp, rfl⟩
  · rw [stI_no g hh]
    have hB := inB_no hh
    go_enter Try.func16, Try.ntmps16
    go_wp2_with fail
    refine (has_any h).mono ?_
    rintro e w1 ⟨rfl, rfl⟩
    rw [hB]
    go_wp2_with fail
    go_ret
    exact ⟨by simp, rfl⟩
theorem state_nob {p : Value} (h : Nob w p) : Calls Try.prog 16 #[p, .int .i64 z] w fun e w' => e = .returned (.int .i64 (-1)) ∧ w = w' := by
  go_enter Try.func16, Try.ntmps16
  go_wp2_with fail
  refine (has_nob h).mono ?_
  rintro e w1 ⟨rfl, rfl⟩
  go_wp2_with fail
  go_ret
  exact ⟨by simp, rfl⟩
theorem wanted_any (h : MT 48 w M V N g a r) : Calls Try.prog 18 #[(.pointer (some ⟨M, 0, none⟩))] w fun e w' => e = .returned (.bool (wnt a)) ∧ w = w' := by
  have r1 := h.l1
  by_cases ha : 0 < a
  · have E := hide (wnt_yes ha)
    have hx : (0 : Int) < a := by omega
    go_enter Try.func18, Try.ntmps18
    go_wp2_with fail
    refine (made_in h).mono ?_
    rintro e w1 ⟨rfl, rfl⟩
    go_wp2_with fail
    go_ret
    exact ⟨by rw [E.out]; simp, rfl⟩
  · obtain rfl : a = 0 := by omega
    have E := hide wnt_no
    go_enter Try.func18, Try.ntmps18
    go_wp2_with fail
    refine (made_in h).mono ?_
    rintro e w1 ⟨rfl, rfl⟩
    go_wp2_with fail
    go_ret
    exact ⟨by rw [E.out]; simp, rfl⟩
theorem wanted_nob {p : Value} (h : Nob w p) : Calls Try.prog 18 #[p] w fun e w' => e = .returned (.bool false) ∧ w = w' := by
  go_enter Try.func18, Try.ntmps18
  go_wp2_with fail
  refine (made_nob h).mono ?_
  rintro e w1 ⟨rfl, rfl⟩
  go_wp2_with fail
  go_ret
  exact ⟨by simp, rfl⟩
theorem rounds_any (h : MT 48 w M V N g a r) : Calls Try.prog 23 #[(.pointer (some ⟨M, 0, none⟩))] w fun e w' => e = .returned (.int .i64 (r : Int)) ∧ w = w' := by
  have r2 := h.l2
  go_enter Try.func23, Try.ntmps23
  go_wp2_with fail
  refine (made_in h).mono ?_
  rintro e w1 ⟨rfl, rfl⟩
  go_wp2_with fail
  go_ret
  exact ⟨by simp, rfl⟩
theorem rounds_nob {p : Value} (h : Nob w p) : Calls Try.prog 23 #[p] w fun e w' => e = .returned (.int .i64 0) ∧ w = w' := by
  go_enter Try.func23, Try.ntmps23
  go_wp2_with fail
  refine (made_nob h).mono ?_
  rintro e w1 ⟨rfl, rfl⟩
  go_wp2_with fail
  go_ret
  exact ⟨by simp, rfl⟩
end
theorem isState_any (s : Int) (w : World) : Calls Try.prog 27 #[.int .i64 s] w fun e w' => e = .returned (.bool (isS s)) ∧ w = w' := by
  by_cases h0 : 0 ≤ s
  · by_cases h1 : s ≤ 3
    · have E := hide (isS_yes h0 h1)
      go_enter Try.func27, Try.ntmps27
      go_wp2
      go_ret
      exact ⟨by rw [E.out]; simp, rfl⟩
    · have E := hide (isS_no (s := s) (by omega))
      go_enter Try.func27, Try.ntmps27
      go_wp2
      go_ret
      exact ⟨by rw [E.out]; simp, rfl⟩
  · have E := hide (isS_no (s := s) (by omega))
    go_enter Try.func27, Try.ntmps27
    go_wp2
    go_ret
    exact ⟨by rw [E.out]; simp, rfl⟩
theorem oneMore_any (a : Nat) (w : World) (ha : a ≤ 1000) : Calls Try.prog 25 #[.int .i64 (a : Int)] w fun e w' => e = .returned (.int .i64 ((a + 1 : Nat) : Int)) ∧ w = w' := by
  have h1 : ¬ (2147483646 : Int) < a := by omega
  have h2 : (a : Int) ≤ 1000 := by omega
  go_enter Try.func25, Try.ntmps25
  go_wp2
  go_ret
  exact ⟨by simp, rfl⟩
theorem stillF_any (x : Int) (w : World) : Calls Try.prog 29 #[.int .i64 x] w fun e w' => e = .returned (.bool (x == 0)) ∧ w = w' := by
  go_enter Try.func29, Try.ntmps29
  go_wp2
  go_ret
  exact ⟨by simp, rfl⟩
end Go.Proofs.Ytndjlhnmpddpbaa
