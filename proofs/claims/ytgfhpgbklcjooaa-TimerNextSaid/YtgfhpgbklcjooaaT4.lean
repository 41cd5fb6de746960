/- The closure of due: which of two threads is told first. -/
import Derived.Test.YtgfhpgbklcjooaaT3
import Derived.Test.YtgfhpgbklcjooaaShelf
namespace Go.Proofs.Ytgfhpgbklcjooaa
open Go.RowKit Go.Maps
set_option linter.unusedSimpArgs false
set_option linter.unusedVariables false


/-- The very same world. -/
inductive Sme (w : World) : World → Prop
  | rfl : Sme w w
/-- How two threads stand to each other: by their times, then by their numbers. -/
def cfA (f : Al) (x y : Nat) : Int := orI (cmpI (f (x % 256)) (f (y % 256))) (cmpI ((x % 256 : Nat) : Int) ((y % 256 : Nat) : Int))
def enT (x : Nat) : Value := .int .i64 ((x % 256 : Nat) : Int)
theorem look_in {w : World} {m : Nat} {f : Al} {z : Int} (h : MpT w m f) (hz : (ky z).wf = true) : (Instr.lookup 45 (.map (some m)) (.int .i64 z) false).run Try.prog w = .ok (.int .i64 (ix f z)) w := by
  obtain ⟨D, hown, rep⟩ := h
  obtain ⟨c, hrun, hat, _⟩ := hown.lookup_int kI Try.underlying45 Try.underlying2 (zI w) (kof hz)
  rw [rep.get hz] at hat
  simp only [DataW.lit.injEq, Lit.int.injEq, true_and] at hat
  rw [hrun, hat]
theorem duef_any {w : World} {C m B : Nat} {now : Int} {f : Al} (x y : Nat) (h : ClkT w C m now f) (hB : w.cell? ⟨B, 0, none⟩ = some (.pointer (some ⟨C, 0, none⟩))) :
    Calls Try.prog 28 #[enT x, enT y, .pointer (some ⟨B, 0, none⟩)] w fun e w' => e = .returned (.int .i64 (cfA f x y)) ∧ ∃ o, w' = (w.alloc o).drew := by
  have E := hide (show orI (cmpI (f (x % 256)) (f (y % 256))) (cmpI ((x % 256 : Nat) : Int) ((y % 256 : Nat) : Int)) = cfA f x y from rfl)
  have hx : x % 256 < 256 := Nat.mod_lt _ (by omega)
  have hy : y % 256 < 256 := Nat.mod_lt _ (by omega)
  unfold enT
  generalize x % 256 = a at *
  generalize y % 256 = b at *
  have LA := look_in (z := (a : Int)) (h.mp.chg (Chg.drew [] w) (by simp)) (ky_wf (by omega) (by omega))
  have LB := look_in (z := (b : Int)) (h.mp.chg (Chg.drew [] w) (by simp)) (ky_wf (by omega) (by omega))
  rw [ix_nat] at LA LB
  have r := h.c.cell
  go_enter Try.func28, Try.ntmps28
  go_wp2_with fail
  refine wp_region_any' (by kernel_rfl) ?_
  refine any_quietC (C := Sme _) 0 16 3 rfl (by kernel_rfl) rfl (Sme.rfl) ?_
  simp only [List.drop, List.take]
  repeat
    with_reducible refine wpQuiet_step (fun K hK => ?_)
    go_simp
    first
    | (refine hK _ ?_; clear hK K)
    | (apply Exists.intro
       refine ⟨fun w1 h1 => ?_, hK _ ?_⟩
       (cases h1; (first | rfl | (go_simp; done) | (go_simp; rfl) | first | (go_at_call 30; (with_reducible refine (cmp64_any _ _ _).mono ?_); rintro e w2 ⟨rfl, rfl⟩; exact ⟨rfl, Sme.rfl⟩) | (go_at_call 31; (with_reducible refine (cmpInt_any _ _ _).mono ?_); rintro e w2 ⟨rfl, rfl⟩; exact ⟨rfl, Sme.rfl⟩)))
       clear hK K)
  refine wpQuiet_nil (fun w' hw' => ?_)
  cases hw'
  refine any_one 16 2 rfl (by kernel_rfl) rfl (fun K hK => ?_)
  go_simp
  refine hK _ _ ?_
  clear hK K
  have hb := (Blk.new w #[.int .i64 (cmpI (f a) (f b)), .int .i64 (cmpI (a : Int) (b : Int))] 3).ext (Ext.drew _)
  refine any_quietC (C := Sme _) 17 2 0 rfl (by kernel_rfl) rfl (Sme.rfl) ?_
  simp only [List.drop, List.take]
  repeat
    with_reducible refine wpQuiet_step (fun K hK => ?_)
    go_simp
    first
    | (refine hK _ ?_; clear hK K)
    | (apply Exists.intro
       refine ⟨fun w1 h1 => ?_, hK _ ?_⟩
       (cases h1; (first | rfl | (go_simp; done) | (go_simp; rfl) | (go_at_call 29; (with_reducible refine (or_any _ _ _ _ hb).mono ?_); rintro e w2 ⟨rfl, rfl⟩; exact ⟨rfl, Sme.rfl⟩)))
       clear hK K)
  refine wpQuiet_nil (fun w' hw' => ?_)
  cases hw'
  refine wpAny_done (by kernel_rfl) ?_ _
  go_wp2_with fail
  go_ret
  exact ⟨by rw [← E.out]; simp, _, rfl⟩
/-- Where two blocks of a sort's world are as they were. -/
theorem sort_chg {α : Type} [Inhabited α] (enc : α → Value) (w : World) (blk off m : Nat) (dk : Array α) (os : Array Obj) : Chg [blk] w (Proofs.sortWorld enc w blk off m dk os) := by
  refine ⟨rfl, rfl, rfl, ?_, fun k hk hT => ?_⟩
  · show w.heap.size ≤ ((w.heap.modify blk (Sort.onCells (Sort.putCells enc off dk))) ++ os).size
    simp
  · show ((w.heap.modify blk (Sort.onCells (Sort.putCells enc off dk))) ++ os)[k]? = w.heap[k]?
    rw [Array.getElem?_append_left (by simpa using hk), Array.getElem?_modify, if_neg (by rintro rfl; simp at hT)]
end Go.Proofs.Ytgfhpgbklcjooaa
