/- The library's iterators over a slice, and the closures that they are handed: the first and the last record of an object, how many there are. -/
import Derived.Test.YtppjpicfiflkcaaN2
namespace Go.Proofs.Ytppjpicfiflkcaa
open Go.RowKit
set_option linter.unusedSimpArgs false
set_option linter.unusedVariables false

def stepF (o a i f : Int) : Int := if o = a then i else f
theorem findF_any (A F : Nat) (a f i o s : Int) (w : World) (hA : Blk w A #[.int .i64 a] 3) (hF : Blk w F #[.int .i64 f] 3) (hne : A ≠ F) :
    Calls Try.prog 38 #[.int .i64 i, .agg #[.int .i64 o, .int .u64 s], (.pointer (some ⟨A, 0, none⟩)), (.pointer (some ⟨F, 0, none⟩))] w fun e w' => e = .returned (.bool (decide (stepF o a i f < 0))) ∧ Blk w' F #[.int .i64 (stepF o a i f)] 3 ∧ Chg [F] w w' := by
  have r1 := fun x => (hA.ext (Ext.alloc w x)).cell
  have r2 := fun x => (hF.ext (Ext.alloc w x)).cell
  have r3 := fun x => (hF.ext (Ext.alloc w x)).free
  have HF := hide hF
  have HA := hide hA
  clear hA hF
  by_cases he : o = a
  · have E := hide (show stepF o a i f = i from if_pos he)
    subst he
    go_enter Try.func38, Try.ntmps38
    go_wp2_with fail
    go_ret
    rw [E.out]
    have hb := (HF.out.ext (Ext.alloc w (Obj.cells #[.int .i64 o, .int .u64 s] 38))).set 0 (.int .i64 i)
    exact ⟨by simp, by simpa using hb, (Chg.alloc _ _ _).set (.inl (by simp)) _⟩
  · have E := hide (show stepF o a i f = f from if_neg he)
    go_enter Try.func38, Try.ntmps38
    go_wp2_with fail
    go_ret
    rw [E.out]
    exact ⟨by simp, HF.out.ext (Ext.alloc _ _), Chg.alloc _ _ _⟩
theorem back_any (A : Option Addr) (n c : Nat) (w : World) : Calls Try.prog 31 #[.slice A n c] w fun e w' => ∃ S, e = .returned (.func (.func 39) #[] #[(.pointer (some ⟨S, 0, none⟩))]) ∧ Blk w' S #[.slice A n c] 53 ∧ w.heap.size ≤ S ∧ Ext w w' := by
  go_enter Try.func31, Try.ntmps31
  go_wp2
  go_ret
  exact ⟨_, rfl, Blk.new w _ _, Nat.le_refl _, Ext.alloc _ _⟩
theorem sall_any (A : Option Addr) (n c : Nat) (w : World) : Calls Try.prog 32 #[.slice A n c] w fun e w' => ∃ S, e = .returned (.func (.func 40) #[] #[(.pointer (some ⟨S, 0, none⟩))]) ∧ Blk w' S #[.slice A n c] 53 ∧ w.heap.size ≤ S ∧ Ext w w' := by
  go_enter Try.func32, Try.ntmps32
  go_wp2
  go_ret
  exact ⟨_, rfl, Blk.new w _ _, Nat.le_refl _, Ext.alloc _ _⟩
theorem sval_any (A : Option Addr) (n c : Nat) (w : World) : Calls Try.prog 33 #[.slice A n c] w fun e w' => ∃ S, e = .returned (.func (.func 41) #[] #[(.pointer (some ⟨S, 0, none⟩))]) ∧ Blk w' S #[.slice A n c] 53 ∧ w.heap.size ≤ S ∧ Ext w w' := by
  go_enter Try.func33, Try.ntmps33
  go_wp2
  go_ret
  exact ⟨_, rfl, Blk.new w _ _, Nat.le_refl _, Ext.alloc _ _⟩

def isA (l : List Rec) (a : Int) (k : Nat) : Prop := ∃ h : k < l.length, (l[k]).1 = a
/-- The iterator over all, from the first one on, handed the search. -/
theorem allF_find (l : List Rec) (S A F c B : Nat) (X : Option Addr) (a : Int) (w : World) (hl : l.length ≤ 1000) (hS : Blk w S #[.slice X l.length c] 53) (hA : Blk w A #[.int .i64 a] 3) (hF : Blk w F #[.int .i64 (-1)] 3)
    (hne : A ≠ F) (hSF : S ≠ F) (hs : Sl w B 2 X l.length (rcells l)) (hB : B ≤ w.heap.size) (hBF : B ≤ F) :
    Calls Try.prog 40 #[.func (.func 38) #[] #[(.pointer (some ⟨A, 0, none⟩)), (.pointer (some ⟨F, 0, none⟩))], (.pointer (some ⟨S, 0, none⟩))] w fun e w' => e = .returned (.tuple #[]) ∧ ∃ i, IsFir l a i ∧ Blk w' F #[.int .i64 i] 3 ∧ Chg [F] w w' := by
  have r1 := hS.cell
  have hF0 := hF.lt
  go_enter Try.func40, Try.ntmps40
  go_wp2_with fail
  go_loopw [7] (fun i wr => ∃ k : Nat, k ≤ l.length ∧ i = .int .i64 k ∧ (∀ j (h : j < l.length), j < k → (l[j]).1 ≠ a) ∧ Blk wr F #[.int .i64 (-1)] 3 ∧ Chg [F] w wr) (fun i _ => l.length - (intOf i).toNat)
  case atStart => exact ⟨0, by omega, rfl, fun j _ h => absurd h (by omega), hF, Chg.refl _ _⟩
  case round =>
    clear hF
    obtain ⟨k, hk, rfl, hno, hF, hC⟩ := hrel
    have HN := hide hno
    clear hno
    by_cases hlt : k < l.length
    · have hs2 := hs.chg hC hB (by simp; omega)
      obtain ⟨b, off, rfl, hb, c0, c1⟩ := hs2.rec hlt
      have hA2 := hA.chg hC (by simpa using hne)
      have lA := hA2.lt
      have lF := hF.lt
      clear r1
      go_wp2_with fail
      have hX := Ext.alloc wr (Obj.cells #[.int .i64 (l[k]).1, .int .u64 (l[k]).2] 38)
      refine (findF_any A F a (-1) k _ _ _ (hA2.ext hX) (hF.ext hX) hne).mono ?_
      rintro e w2 ⟨rfl, hF2, hC2⟩
      have hC3 := (hC.trans (hX.chg _)).trans hC2
      clear hX hC2
      by_cases he : (l[k]).1 = a
      · have E : stepF (l[k]).1 a k (-1) = k := if_pos he
        rw [E] at hF2 ⊢
        have E2 : decide ((k : Int) < 0) = false := decide_eq_false (by omega)
        rw [E2]
        clear E E2
        go_wp2_with fail
        refine bodyPost_ret (results_none rfl _ _ _) rfl ?_
        exact ⟨rfl, k, .inr ⟨k, hlt, rfl, he, fun j hj => HN.out j (by omega) hj⟩, hF2, hC3⟩
      · have E : stepF (l[k]).1 a k (-1) = -1 := if_neg he
        rw [E] at hF2 ⊢
        clear E
        have HE := hide he
        clear he
        go_wp2_with fail
        go_roundw
        case rel => exact ⟨k + 1, by omega, by go_num, fun j h hj => by rcases (by omega : j < k ∨ j = k) with q | rfl; exact HN.out j h q; exact HE.out, hF2, hC3⟩
        case measure => simp [intOf]; omega
    · clear r1
      go_wp2_with fail
      go_end0
      exact ⟨rfl, -1, .inl ⟨rfl, fun j h => HN.out j h (by omega)⟩, hF, hC⟩
/-- The iterator over all, from the last one on, handed the search. -/
theorem backF_find (l : List Rec) (S A F c B : Nat) (X : Option Addr) (a : Int) (w : World) (hl : l.length ≤ 1000) (hS : Blk w S #[.slice X l.length c] 53) (hA : Blk w A #[.int .i64 a] 3) (hF : Blk w F #[.int .i64 (-1)] 3)
    (hne : A ≠ F) (hSF : S ≠ F) (hs : Sl w B 2 X l.length (rcells l)) (hB : B ≤ w.heap.size) (hBF : B ≤ F) :
    Calls Try.prog 39 #[.func (.func 38) #[] #[(.pointer (some ⟨A, 0, none⟩)), (.pointer (some ⟨F, 0, none⟩))], (.pointer (some ⟨S, 0, none⟩))] w fun e w' => e = .returned (.tuple #[]) ∧ ∃ i, IsTop l a i ∧ Blk w' F #[.int .i64 i] 3 ∧ Chg [F] w w' := by
  have r1 := hS.cell
  have hF0 := hF.lt
  go_enter Try.func39, Try.ntmps39
  go_wp2_with fail
  go_loopw [3] (fun i wr => ∃ k : Nat, k ≤ l.length ∧ i = .int .i64 ((k : Int) - 1) ∧ (∀ j (h : j < l.length), k ≤ j → (l[j]).1 ≠ a) ∧ Blk wr F #[.int .i64 (-1)] 3 ∧ Chg [F] w wr) (fun i _ => (intOf i + 1).toNat)
  case atStart => exact ⟨l.length, by omega, by go_num, fun j h q => absurd h (by omega), hF, Chg.refl _ _⟩
  case round =>
    clear hF r1
    obtain ⟨k, hk, rfl, hno, hF, hC⟩ := hrel
    have HN := hide hno
    clear hno
    have r1 := (hS.chg hC (by simpa using hSF)).cell
    by_cases hlt : 0 < k
    · obtain ⟨m, rfl⟩ : ∃ m, k = m + 1 := ⟨k - 1, by omega⟩
      have em : (((m + 1 : Nat) : Int) - 1) = (m : Int) := by omega
      have hm : m < l.length := by omega
      have hs2 := hs.chg hC hB (by simp; omega)
      obtain ⟨b, off, rfl, hb, c0, c1⟩ := hs2.rec hm
      have hA2 := hA.chg hC (by simpa using hne)
      rw [em]
      go_wp2_with fail
      refine (findF_any A F a (-1) m _ _ _ hA2 hF hne).mono ?_
      rintro e w2 ⟨rfl, hF2, hC2⟩
      have hC3 := hC.trans hC2
      clear hC2 r1
      by_cases he : (l[m]).1 = a
      · have E : stepF (l[m]).1 a m (-1) = m := if_pos he
        rw [E] at hF2 ⊢
        have E2 : decide ((m : Int) < 0) = false := decide_eq_false (by omega)
        rw [E2]
        clear E E2
        go_wp2_with fail
        refine bodyPost_ret (results_none rfl _ _ _) rfl ?_
        exact ⟨rfl, m, .inr ⟨m, hm, rfl, he, fun j hj q => HN.out j hj (by omega)⟩, hF2, hC3⟩
      · have E : stepF (l[m]).1 a m (-1) = -1 := if_neg he
        rw [E] at hF2 ⊢
        clear E
        have HE := hide he
        clear he
        go_wp2_with fail
        go_roundw
        case rel => exact ⟨m, by omega, by go_num, fun j h hj => by rcases (by omega : m + 1 ≤ j ∨ j = m) with q | rfl; exact HN.out j h q; exact HE.out, hF2, hC3⟩
        case measure => simp [intOf]
    · obtain rfl : k = 0 := by omega
      go_wp2_with fail
      go_end0
      exact ⟨rfl, -1, .inl ⟨rfl, fun j h => HN.out j h (by omega)⟩, hF, hC⟩
theorem find_fir (l : List Rec) (S c B : Nat) (X : Option Addr) (a : Int) (w : World) (hl : l.length ≤ 1000) (hS : Blk w S #[.slice X l.length c] 53) (hs : Sl w B 2 X l.length (rcells l)) (hB : B ≤ w.heap.size) :
    Calls Try.prog 30 #[.func (.func 40) #[] #[(.pointer (some ⟨S, 0, none⟩))], .int .i64 a] w fun e w' => ∃ i, IsFir l a i ∧ e = .returned (.tuple #[.int .i64 i, .bool (decide (0 ≤ i))]) ∧ Ext w w' := by
  have lS := hS.lt
  have bA := Blk.new w #[.int .i64 a] 3
  have bF := Blk.new (w.alloc (.cells #[.int .i64 a] 3)) #[.int .i64 (-1)] 3
  have hX := (Ext.alloc w (.cells #[.int .i64 a] 3)).trans (Ext.alloc _ (.cells #[.int .i64 (-1)] 3))
  simp only [World.size_alloc] at bF
  have hc := allF_find l S w.heap.size (w.heap.size + 1) c B X a _ hl (hS.ext hX) (bA.ext (Ext.alloc _ _)) bF (by omega) (by omega) (hs.ext hX hB) (by have := hX.size; omega) (by omega)
  have HX := hide hX
  clear hX hs hS bA bF
  go_enter Try.func30, Try.ntmps30
  go_wp2_with fail
  refine hc.mono ?_
  rintro e w2 ⟨rfl, i, hi, hF, hC⟩
  have hX2 := HX.out.turn hC (by simp)
  have r1 := hF.rule
  have hW := Ext.refl w2
  have HI := hide hi
  clear hC hc hi
  go_wp2_with fail
  refine wp_region_ext (by kernel_rfl) (by kernel_rfl) ?_
  repeat
    with_reducible refine wpQuiet_step (fun K hK => ?_)
    go_simp
    first
    | (refine hK _ ?_; clear hK K)
    | (apply Exists.intro
       refine ⟨fun w1 h1 => ?_, hK _ ?_⟩
       (first | rfl | (go_simp; done) | (go_simp; rfl))
       clear hK K)
  refine wpQuiet_nil (fun w' hw' => ?_)
  go_wp2_with fail
  go_ret2
  exact ⟨i, HI.out, by simp, hX2.trans hw'⟩
theorem find_top (l : List Rec) (S c B : Nat) (X : Option Addr) (a : Int) (w : World) (hl : l.length ≤ 1000) (hS : Blk w S #[.slice X l.length c] 53) (hs : Sl w B 2 X l.length (rcells l)) (hB : B ≤ w.heap.size) :
    Calls Try.prog 30 #[.func (.func 39) #[] #[(.pointer (some ⟨S, 0, none⟩))], .int .i64 a] w fun e w' => ∃ i, IsTop l a i ∧ e = .returned (.tuple #[.int .i64 i, .bool (decide (0 ≤ i))]) ∧ Ext w w' := by
  have lS := hS.lt
  have bA := Blk.new w #[.int .i64 a] 3
  have bF := Blk.new (w.alloc (.cells #[.int .i64 a] 3)) #[.int .i64 (-1)] 3
  have hX := (Ext.alloc w (.cells #[.int .i64 a] 3)).trans (Ext.alloc _ (.cells #[.int .i64 (-1)] 3))
  simp only [World.size_alloc] at bF
  have hc := backF_find l S w.heap.size (w.heap.size + 1) c B X a _ hl (hS.ext hX) (bA.ext (Ext.alloc _ _)) bF (by omega) (by omega) (hs.ext hX hB) (by have := hX.size; omega) (by omega)
  have HX := hide hX
  clear hX hs hS bA bF
  go_enter Try.func30, Try.ntmps30
  go_wp2_with fail
  refine hc.mono ?_
  rintro e w2 ⟨rfl, i, hi, hF, hC⟩
  have hX2 := HX.out.turn hC (by simp)
  have r1 := hF.rule
  have hW := Ext.refl w2
  have HI := hide hi
  clear hC hc hi
  go_wp2_with fail
  refine wp_region_ext (by kernel_rfl) (by kernel_rfl) ?_
  repeat
    with_reducible refine wpQuiet_step (fun K hK => ?_)
    go_simp
    first
    | (refine hK _ ?_; clear hK K)
    | (apply Exists.intro
       refine ⟨fun w1 h1 => ?_, hK _ ?_⟩
       (first | rfl | (go_simp; done) | (go_simp; rfl))
       clear hK K)
  refine wpQuiet_nil (fun w' hw' => ?_)
  go_wp2_with fail
  go_ret2
  exact ⟨i, HI.out, by simp, hX2.trans hw'⟩
end Go.Proofs.Ytppjpicfiflkcaa
