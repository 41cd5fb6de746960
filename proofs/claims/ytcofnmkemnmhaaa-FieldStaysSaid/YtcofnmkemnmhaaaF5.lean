/- Apart, Join and Split of package field. -/
import Derived.Test.YtcofnmkemnmhaaaF4
import Derived.Test.YtcofnmkemnmhaaaTail
namespace Go.Proofs.Ytcofnmkemnmhaaa
open Go.RowKit
set_option linter.unusedVariables false



/-! Each is a field -/
def AllMay (l : Fl) : Prop := ∀ i (hi : i < l.length), mayB (l[i]).1 (l[i]).2 = true
noncomputable def allMayB (l : Fl) : Bool := @decide (AllMay l) (Classical.propDecidable _)
theorem allMayB_yes {l : Fl} (h : AllMay l) : allMayB l = true := @decide_eq_true _ (Classical.propDecidable _) h
theorem allMayB_no {l : Fl} (h : ¬ AllMay l) : allMayB l = false := @decide_eq_false _ (Classical.propDecidable _) h
theorem allMayB_iff {l : Fl} : allMayB l = true ↔ AllMay l := @decide_eq_true_iff _ (Classical.propDecidable _)

set_option maxHeartbeats 400000 in
theorem every_may (A : Option Addr) (c : Nat) (l : Fl) (w : World) (B : Nat) (hB : B ≤ w.heap.size) (hs : Sl w B 2 A l.length (fcells l)) (hl : Okf l) (h40 : l.length ≤ 40) :
    Calls Try.prog 32 #[.func (.func 8) #[] #[], .slice A l.length c] w fun e w' => e = .returned (.bool (allMayB l)) ∧ Ext w w' := by
  have hX0 := Ext.refl w
  have hW := Ext.refl w
  go_enter Try.func32, Try.ntmps32
  go_wp2_with fail
  go_loopw [9] (fun i wr => ∃ j : Nat, j ≤ l.length ∧ i = .int .i64 j ∧ (∀ i (hi : i < l.length), i < j → mayB (l[i]).1 (l[i]).2 = true) ∧ Ext w wr) (fun i _ => l.length - (intOf i).toNat)
  case atStart => exact ⟨0, by omega, rfl, fun i hi h => absurd h (by omega), hW⟩
  case round =>
    clear hW
    obtain ⟨j, hj, rfl, hok, hW⟩ := hrel
    have OK := hide hok
    clear hok
    by_cases hlt : j < l.length
    · obtain ⟨b, off, rfl, hb, _, _⟩ := hs.field hlt
      have r0 := hs.rule0 hB
      have r1 := hs.rule1 hB
      cases hm : mayB (l[j]).1 (l[j]).2
      · have R := hide (allMayB_no (l := l) fun h => by have := h j hlt; rw [hm] at this; cases this)
        go_wp2_with (go_at_call 8; refine (may_any _ _ _ (hl _ (List.getElem_mem _)).1 (hl _ (List.getElem_mem _)).2.1 (hl _ (List.getElem_mem _)).2.2.1 (hl _ (List.getElem_mem _)).2.2.2).mono ?_; rintro e w' ⟨rfl, hb⟩; have hW := Ext.trans2 hW (by repeat (first | exact Ext.refl _ | exact Ext.alloc _ _ | exact Ext.drewN _ _ | assumption | refine Ext.trans ?_ (Ext.alloc _ _) | refine Ext.trans ?_ (Ext.drew _) | refine Ext.trans ?_ (by assumption))) hb; (try have hV := Ext.trans2 hV (by repeat (first | exact Ext.refl _ | exact Ext.alloc _ _ | exact Ext.drewN _ _ | assumption | refine Ext.trans ?_ (Ext.alloc _ _) | refine Ext.trans ?_ (Ext.drew _) | refine Ext.trans ?_ (by assumption))) hb); clear hb)
        go_ret
        exact ⟨by rw [R.out]; rfl, (hX0.trans (hW.trans (by repeat (first | exact Ext.refl _ | exact Ext.alloc _ _ | exact Ext.drewN _ _ | assumption | refine Ext.trans ?_ (Ext.alloc _ _) | refine Ext.trans ?_ (Ext.drew _) | refine Ext.trans ?_ (by assumption)))))⟩
      · have M := hide hm
        go_wp2_with (go_at_call 8; refine (may_any _ _ _ (hl _ (List.getElem_mem _)).1 (hl _ (List.getElem_mem _)).2.1 (hl _ (List.getElem_mem _)).2.2.1 (hl _ (List.getElem_mem _)).2.2.2).mono ?_; rintro e w' ⟨rfl, hb⟩; have hW := Ext.trans2 hW (by repeat (first | exact Ext.refl _ | exact Ext.alloc _ _ | exact Ext.drewN _ _ | assumption | refine Ext.trans ?_ (Ext.alloc _ _) | refine Ext.trans ?_ (Ext.drew _) | refine Ext.trans ?_ (by assumption))) hb; (try have hV := Ext.trans2 hV (by repeat (first | exact Ext.refl _ | exact Ext.alloc _ _ | exact Ext.drewN _ _ | assumption | refine Ext.trans ?_ (Ext.alloc _ _) | refine Ext.trans ?_ (Ext.drew _) | refine Ext.trans ?_ (by assumption))) hb); clear hb)
        go_roundw
        case rel =>
          refine ⟨j + 1, by omega, by go_num, fun i hi hij => ?_, hW⟩
          by_cases e : i = j
          · subst e; exact M.out
          · exact OK.out i hi (by omega)
        case measure => simp [intOf]; omega
    · have R := hide (allMayB_yes (l := l) fun i hi => OK.out i hi (by omega))
      go_wp2
      go_ret
      exact ⟨by rw [R.out]; rfl, (hX0.trans (hW.trans (by repeat (first | exact Ext.refl _ | exact Ext.alloc _ _ | exact Ext.drewN _ _ | assumption | refine Ext.trans ?_ (Ext.alloc _ _) | refine Ext.trans ?_ (Ext.drew _) | refine Ext.trans ?_ (by assumption)))))⟩

/-! The bits that are taken -/
def freeB (t : Int) (p : Int × Int) : Bool := bits .and .u64 t (maskI p.1 p.2) == 0
def orM (t : Int) (p : Int × Int) : Int := bits .or .u64 t (maskI p.1 p.2)
def takenTo (l : Fl) (j : Nat) : Int := (l.take j).foldl orM 0
theorem takenTo_succ (l : Fl) (j : Nat) (hj : j < l.length) : orM (takenTo l j) (l[j]) = takenTo l (j + 1) := by
  unfold takenTo
  rw [List.take_succ_eq_append_getElem hj, List.foldl_append]; rfl

set_option maxHeartbeats 400000 in
theorem closure_any (T : Nat) (t : Int) (a d : Int) (w : World) (ha : 0 ≤ a) (ha' : a ≤ 255) (hd : 0 ≤ d) (hd' : d ≤ 255) (hT : Blk w T #[.int .u64 t] 24) :
    Calls Try.prog 33 #[.agg #[.int .u8 a, .int .u8 d], .pointer (some ⟨T, 0, none⟩)] w fun e w' => e = .returned (.bool (freeB t (a, d))) ∧ Blk w' T #[.int .u64 (orM t (a, d))] 24 ∧ But T w w' := by
  have hT0 := hT.lt
  go_enter Try.func33, Try.ntmps33
  go_wp2_with fail
  have bT := hT.ext (Ext.alloc w (Obj.cells #[.int .u8 a, .int .u8 d] 25))
  have hX := fun w' (h : Ext (w.alloc (Obj.cells #[.int .u8 a, .int .u8 d] 25)) w') => h.boxCell
  have hXf := fun w' (h : Ext (w.alloc (Obj.cells #[.int .u8 a, .int .u8 d] 25)) w') => h.boxFree
  have hX0 : Ext w (w.alloc (Obj.cells #[.int .u8 a, .int .u8 d] 25)) := Ext.alloc _ _
  generalize w.alloc (Obj.cells #[.int .u8 a, .int .u8 d] 25) = W0 at *
  have hW := Ext.refl W0
  have r0 := bT.rule
  have r1 := bT.ruleF
  refine wp_region_ext (by kernel_rfl) (by kernel_rfl) ?_
  repeat
    refine wpQuiet_step (fun K hK => ?_)
    go_simp
    first
    | (refine hK _ ?_; clear hK K)
    | (apply Exists.intro
       refine ⟨fun w1 h1 => ?_, hK _ ?_⟩
       (have hW := Ext.trans2 hW (by repeat (first | exact Ext.refl _ | exact Ext.alloc _ _ | exact Ext.drewN _ _ | assumption | refine Ext.trans ?_ (Ext.alloc _ _) | refine Ext.trans ?_ (Ext.drew _) | refine Ext.trans ?_ (by assumption))) h1; (try have hV := Ext.trans2 hV (by repeat (first | exact Ext.refl _ | exact Ext.alloc _ _ | exact Ext.drewN _ _ | assumption | refine Ext.trans ?_ (Ext.alloc _ _) | refine Ext.trans ?_ (Ext.drew _) | refine Ext.trans ?_ (by assumption))) h1); (first | rfl | (go_simp; done) | (go_simp; rfl) | (go_at_call 12; refine (mask_any _ _ _ ha ha' hd hd').mono ?_; rintro e w2 ⟨rfl, hb⟩; exact ⟨rfl, h1.trans hb⟩)))
       clear hK K)
  refine wpQuiet_nil (fun w' hw' => ?_)
  have hW := Ext.trans2 hW (by repeat (first | exact Ext.refl _ | exact Ext.alloc _ _ | exact Ext.drewN _ _ | assumption | refine Ext.trans ?_ (Ext.alloc _ _) | refine Ext.trans ?_ (Ext.drew _) | refine Ext.trans ?_ (by assumption))) hw'
  try have hV := Ext.trans2 hV (by repeat (first | exact Ext.refl _ | exact Ext.alloc _ _ | exact Ext.drewN _ _ | assumption | refine Ext.trans ?_ (Ext.alloc _ _) | refine Ext.trans ?_ (Ext.drew _) | refine Ext.trans ?_ (by assumption))) hw'
  clear hw'
  go_wp2_with fail
  refine wp_region_tail 4 (by kernel_rfl) (by kernel_rfl) ?_
  simp only [List.take_succ_cons, List.take_zero, List.drop_succ_cons, List.drop_zero]
  repeat
    refine wpQuiet_step (fun K hK => ?_)
    go_simp
    first
    | (refine hK _ ?_; clear hK K)
    | (apply Exists.intro
       refine ⟨fun w1 h1 => ?_, hK _ ?_⟩
       (have hW := Ext.trans2 hW (by repeat (first | exact Ext.refl _ | exact Ext.alloc _ _ | exact Ext.drewN _ _ | assumption | refine Ext.trans ?_ (Ext.alloc _ _) | refine Ext.trans ?_ (Ext.drew _) | refine Ext.trans ?_ (by assumption))) h1; (try have hV := Ext.trans2 hV (by repeat (first | exact Ext.refl _ | exact Ext.alloc _ _ | exact Ext.drewN _ _ | assumption | refine Ext.trans ?_ (Ext.alloc _ _) | refine Ext.trans ?_ (Ext.drew _) | refine Ext.trans ?_ (by assumption))) h1); (first | rfl | (go_simp; done) | (go_simp; rfl) | (go_at_call 12; refine (mask_any _ _ _ ha ha' hd hd').mono ?_; rintro e w2 ⟨rfl, hb⟩; exact ⟨rfl, h1.trans hb⟩)))
       clear hK K)
  refine wpQuiet_nil (fun w' hw' => ?_)
  have hW := Ext.trans2 hW (by repeat (first | exact Ext.refl _ | exact Ext.alloc _ _ | exact Ext.drewN _ _ | assumption | refine Ext.trans ?_ (Ext.alloc _ _) | refine Ext.trans ?_ (Ext.drew _) | refine Ext.trans ?_ (by assumption))) hw'
  try have hV := Ext.trans2 hV (by repeat (first | exact Ext.refl _ | exact Ext.alloc _ _ | exact Ext.drewN _ _ | assumption | refine Ext.trans ?_ (Ext.alloc _ _) | refine Ext.trans ?_ (Ext.drew _) | refine Ext.trans ?_ (by assumption))) hw'
  clear hw'
  have bT2 := bT.ext hW
  go_wp2
  go_ret
  exact ⟨rfl, bT2.set 0 _, ((hX0.trans hW).but T).set 0 _⟩

def AllFree (l : Fl) : Prop := ∀ i (hi : i < l.length), freeB (takenTo l i) (l[i]) = true
noncomputable def allFreeB (l : Fl) : Bool := @decide (AllFree l) (Classical.propDecidable _)
theorem allFreeB_yes {l : Fl} (h : AllFree l) : allFreeB l = true := @decide_eq_true _ (Classical.propDecidable _) h
theorem allFreeB_no {l : Fl} (h : ¬ AllFree l) : allFreeB l = false := @decide_eq_false _ (Classical.propDecidable _) h
theorem allFreeB_iff {l : Fl} : allFreeB l = true ↔ AllFree l := @decide_eq_true_iff _ (Classical.propDecidable _)

set_option maxHeartbeats 400000 in
theorem every_free (T : Nat) (A : Option Addr) (c : Nat) (l : Fl) (w : World) (B : Nat) (hB : B ≤ w.heap.size) (hs : Sl w B 2 A l.length (fcells l)) (hl : Okf l) (h40 : l.length ≤ 40)
    (hBT : B ≤ T) (hT : Blk w T #[.int .u64 0] 24) :
    Calls Try.prog 32 #[.func (.func 33) #[] #[.pointer (some ⟨T, 0, none⟩)], .slice A l.length c] w fun e w' => e = .returned (.bool (allFreeB l)) ∧ But T w w' := by
  go_enter Try.func32, Try.ntmps32
  go_wp2_with fail
  go_loopw [9] (fun i wr => ∃ j : Nat, j ≤ l.length ∧ i = .int .i64 j ∧ (∀ i (hi : i < l.length), i < j → freeB (takenTo l i) (l[i]) = true) ∧ Blk wr T #[.int .u64 (takenTo l j)] 24 ∧ But T w wr) (fun i _ => l.length - (intOf i).toNat)
  case atStart => exact ⟨0, by omega, rfl, fun i hi h => absurd h (by omega), hT, But.refl T w⟩
  case round =>
    obtain ⟨j, hj, rfl, hok, hb, hW⟩ := hrel
    have OK := hide hok
    clear hok
    by_cases hlt : j < l.length
    · obtain ⟨b, off, rfl, hbB, c0, c1⟩ := hs.field hlt
      have r0 := (hW.oldCell b (off + j * 2) (by omega) (by omega)).trans c0
      have r1 := (hW.oldCell b (off + j * 2 + 1) (by omega) (by omega)).trans c1
      clear c0 c1
      cases hm : freeB (takenTo l j) (l[j])
      · have R := hide (allFreeB_no (l := l) fun h => by have := h j hlt; rw [hm] at this; cases this)
        go_wp2_with (go_at_call 33; refine (closure_any T (takenTo l j) _ _ _ (hl _ (List.getElem_mem _)).1 (hl _ (List.getElem_mem _)).2.1 (hl _ (List.getElem_mem _)).2.2.1 (hl _ (List.getElem_mem _)).2.2.2 (hb.ext (Ext.alloc _ _))).mono ?_; rintro e w' ⟨rfl, hb2, hW2⟩)
        go_ret
        exact ⟨by rw [R.out]; rfl, (hW.trans ((Ext.alloc _ _).but T)).trans hW2⟩
      · have M := hide hm
        have S := takenTo_succ l j hlt
        go_wp2_with (go_at_call 33; refine (closure_any T (takenTo l j) _ _ _ (hl _ (List.getElem_mem _)).1 (hl _ (List.getElem_mem _)).2.1 (hl _ (List.getElem_mem _)).2.2.1 (hl _ (List.getElem_mem _)).2.2.2 (hb.ext (Ext.alloc _ _))).mono ?_; rintro e w' ⟨rfl, hb2, hW2⟩)
        go_roundw
        case rel =>
          refine ⟨j + 1, by omega, by go_num, fun i hi hij => ?_, by rw [← S]; exact hb2, (hW.trans ((Ext.alloc _ _).but T)).trans hW2⟩
          by_cases e : i = j
          · subst e; exact M.out
          · exact OK.out i hi (by omega)
        case measure => simp [intOf]; omega
    · have R := hide (allFreeB_yes (l := l) fun i hi => OK.out i hi (by omega))
      go_wp2
      go_ret
      exact ⟨by rw [R.out]; rfl, hW⟩

/-! What is taken, and what is apart, as numbers -/
theorem mask_isNat {p : Int × Int} (h : 0 ≤ p.1 ∧ p.1 ≤ 255 ∧ 0 ≤ p.2 ∧ p.2 ≤ 255) : ∃ m : Nat, maskI p.1 p.2 = m ∧ m < two64 := by
  by_cases hm : mayB p.1 p.2 = true
  · have hI := put_inW (a := p.1) (d := p.2) (u := 0) (v := 18446744073709551615) h.1 h.2.2.1 inW_zero inW_ones
    rw [mask_put h.1 h.2.2.1] at hI
    exact hI.nat
  · refine ⟨0, ?_, by decide⟩
    unfold maskI; rw [most_no hm, Int.zero_mul]; decide
theorem taken_isNat (l : Fl) (hl : Okf l) (t : Nat) (ht : t < two64) (m : Nat) (hm : m < two64) :
    ∃ u : Nat, l.foldl orM t = u ∧ u < two64 ∧ (u &&& m = 0 ↔ t &&& m = 0 ∧ ∀ i (hi : i < l.length), ∀ x : Nat, maskI (l[i]).1 (l[i]).2 = x → x &&& m = 0) := by
  induction l generalizing t with
  | nil => exact ⟨t, rfl, ht, by simp⟩
  | cons p l ih =>
    obtain ⟨x, hx, hx2⟩ := mask_isNat (hl p (List.mem_cons_self ..))
    have e : orM (t : Int) p = ((t ||| x : Nat) : Int) := by unfold orM; rw [hx, u64_or_nat _ _ ht hx2]
    have hlt : t ||| x < two64 := by rw [two64_pow] at *; exact Nat.or_lt_two_pow ht hx2
    obtain ⟨u, h1, h2, h3⟩ := ih (fun q hq => hl q (List.mem_cons_of_mem _ hq)) (t ||| x) hlt
    refine ⟨u, by rw [List.foldl_cons, e]; exact h1, h2, h3.trans ?_⟩
    rw [Nat.and_or_distrib_right, Nat.or_eq_zero_iff]
    constructor
    · rintro ⟨⟨a1, a2⟩, a3⟩
      refine ⟨a1, fun i hi y hy => ?_⟩
      cases i with
      | zero =>
        have : (x : Int) = y := hx.symm.trans hy
        have : x = y := by omega
        subst this; exact a2
      | succ i => exact a3 i (by simpa using hi) y hy
    · rintro ⟨a1, a2⟩
      exact ⟨⟨a1, a2 0 (by simp) x hx⟩, fun i hi y hy => a2 (i + 1) (by simpa using hi) y hy⟩
theorem free_iff (l : Fl) (hl : Okf l) (i : Nat) (hi : i < l.length) : freeB (takenTo l i) (l[i]) = true ↔ ∀ k (hk : k < i), andI (l[i]) (l[k]) = 0 := by
  obtain ⟨m, hm, hm2⟩ := mask_isNat (hl _ (List.getElem_mem hi))
  obtain ⟨u, h1, h2, h3⟩ := taken_isNat (l.take i) (fun p hp => hl p (List.mem_of_mem_take hp)) 0 (by decide) m hm2
  unfold freeB takenTo
  have h1' : List.foldl orM 0 (l.take i) = (u : Int) := h1
  rw [h1', hm, u64_and_nat _ _ h2 hm2, beq_iff_eq]
  have e0 : (((u &&& m : Nat) : Int) = 0) ↔ (u &&& m = 0) := by omega
  rw [e0, h3]
  constructor
  · rintro ⟨_, h⟩ k hk
    obtain ⟨x, hx, hx2⟩ := mask_isNat (hl _ (List.getElem_mem (show k < l.length by omega)))
    have := h k (by simp; omega) x (by rw [List.getElem_take]; exact hx)
    unfold andI
    rw [hm, hx, u64_and_nat _ _ hm2 hx2, Nat.and_comm, this]; rfl
  · intro h
    refine ⟨by simp, fun k hk x hx => ?_⟩
    have hki : k < i := by simp at hk; omega
    rw [List.getElem_take] at hx
    have := h k hki
    unfold andI at this
    have hx2 : x < two64 := by
      obtain ⟨y, hy, hy2⟩ := mask_isNat (hl _ (List.getElem_mem (show k < l.length by omega)))
      have : (x : Int) = y := hx.symm.trans hy
      omega
    rw [hm, hx, u64_and_nat _ _ hm2 hx2, Nat.and_comm] at this
    omega
theorem apart_split (l : Fl) (hl : Okf l) : ApartP l ↔ AllMay l ∧ AllFree l := by
  constructor
  · exact fun h => ⟨fun i hi => (h i hi).1, fun i hi => (free_iff l hl i hi).2 (h i hi).2⟩
  · exact fun h i hi => ⟨h.1 i hi, (free_iff l hl i hi).1 (h.2 i hi)⟩

set_option maxHeartbeats 400000 in
theorem apart_any (A : Option Addr) (c : Nat) (l : Fl) (w : World) (B : Nat) (hB : B ≤ w.heap.size) (hs : Sl w B 2 A l.length (fcells l)) (hl : Okf l) (h40 : l.length ≤ 40) :
    Calls Try.prog 29 #[.slice A l.length c] w fun e w' => e = .returned (.bool (apartB l)) ∧ Ext w w' := by
  have hX0 := Ext.refl w
  have hW := Ext.refl w
  cases hm : allMayB l
  · have R := hide (apartB_no (l := l) fun h => by rw [allMayB_yes ((apart_split l hl).1 h).1] at hm; cases hm)
    go_enter Try.func29, Try.ntmps29
    go_wp2_with (go_at_call 32; refine (every_may A c l _ B (Nat.le_trans hB hW.size) (hs.ext hW hB) hl h40).mono ?_; rintro e w' ⟨rfl, hb⟩; have hW := Ext.trans2 hW (by repeat (first | exact Ext.refl _ | exact Ext.alloc _ _ | exact Ext.drewN _ _ | assumption | refine Ext.trans ?_ (Ext.alloc _ _) | refine Ext.trans ?_ (Ext.drew _) | refine Ext.trans ?_ (by assumption))) hb; (try have hV := Ext.trans2 hV (by repeat (first | exact Ext.refl _ | exact Ext.alloc _ _ | exact Ext.drewN _ _ | assumption | refine Ext.trans ?_ (Ext.alloc _ _) | refine Ext.trans ?_ (Ext.drew _) | refine Ext.trans ?_ (by assumption))) hb); clear hb)
    go_ret
    exact ⟨by rw [R.out]; rfl, (hX0.trans (hW.trans (by repeat (first | exact Ext.refl _ | exact Ext.alloc _ _ | exact Ext.drewN _ _ | assumption | refine Ext.trans ?_ (Ext.alloc _ _) | refine Ext.trans ?_ (Ext.drew _) | refine Ext.trans ?_ (by assumption)))))⟩
  · have R : apartB l = allFreeB l := by
      cases hf : allFreeB l
      · exact apartB_no fun h => by rw [allFreeB_yes ((apart_split l hl).1 h).2] at hf; cases hf
      · exact apartB_yes ((apart_split l hl).2 ⟨allMayB_iff.1 hm, allFreeB_iff.1 hf⟩)
    have HR := hide R
    clear R
    have AM := hide hm
    go_enter Try.func29, Try.ntmps29
    go_wp2_with fail
    refine (every_may A c l _ B hB hs hl h40).mono ?_
    rintro e w1 ⟨rfl, hb⟩
    have hW := hW.trans hb
    clear hb
    go_wp2_with fail
    refine (every_free _ A c l _ B (Nat.le_trans (Nat.le_trans hB hW.size) (Ext.alloc _ _).size) ((hs.ext hW hB).ext (Ext.alloc _ _) (Nat.le_trans hB hW.size)) hl h40 (Nat.le_trans hB hW.size) (Blk.new _ _ _)).mono ?_
    rintro e w2 ⟨rfl, hb2⟩
    go_wp2
    go_ret
    exact ⟨by rw [HR.out]; rfl, (hW.trans (Ext.alloc _ _)).but_ext hb2 hW.size⟩

set_option maxHeartbeats 1000000 in
theorem join_any (A : Option Addr) (c : Nat) (l : Fl) (A2 : Option Addr) (c2 : Nat) (vs : List Int) (w : World) (B : Nat) (hB : B ≤ w.heap.size) (hs : Sl w B 2 A l.length (fcells l)) (hl : Okf l) (h40 : l.length ≤ 40)
    (hs2 : Sl w B 1 A2 vs.length (ucells vs)) (hv : Okv vs) :
    Calls Try.prog 24 #[.slice A l.length c, .slice A2 vs.length c2] w fun e w' => e = .returned (.tuple #[.int .u64 (joinI l vs), .bool (joinB l vs)]) ∧ Ext w w' := by
  have hX0 := Ext.refl w
  have hW := Ext.refl w
  by_cases hn : l.length = vs.length
  · have hne : ((l.length : Int) != (vs.length : Int)) = false := by rw [bne_eq_false_iff_eq]; omega
    have HN := hide hn
    have hlt2 : ∀ j, j < l.length → j < vs.length := fun j hj => by omega
    clear hn
    cases hap : apartB l
    · have R := hide (join_no (l := l) (vs := vs) fun h => by have := apartB_yes h.2.1; rw [hap] at this; cases this)
      go_enter Try.func24, Try.ntmps24
      go_wp2_with (go_at_call 29; refine (apart_any A c l _ B (Nat.le_trans hB hW.size) (hs.ext hW hB) hl h40).mono ?_; rintro e w' ⟨rfl, hb⟩; have hW := Ext.trans2 hW (by repeat (first | exact Ext.refl _ | exact Ext.alloc _ _ | exact Ext.drewN _ _ | assumption | refine Ext.trans ?_ (Ext.alloc _ _) | refine Ext.trans ?_ (Ext.drew _) | refine Ext.trans ?_ (by assumption))) hb; (try have hV := Ext.trans2 hV (by repeat (first | exact Ext.refl _ | exact Ext.alloc _ _ | exact Ext.drewN _ _ | assumption | refine Ext.trans ?_ (Ext.alloc _ _) | refine Ext.trans ?_ (Ext.drew _) | refine Ext.trans ?_ (by assumption))) hb); clear hb)
      go_ret2
      exact ⟨by rw [← R.out]; rfl, (hX0.trans (hW.trans (by repeat (first | exact Ext.refl _ | exact Ext.alloc _ _ | exact Ext.drewN _ _ | assumption | refine Ext.trans ?_ (Ext.alloc _ _) | refine Ext.trans ?_ (Ext.drew _) | refine Ext.trans ?_ (by assumption)))))⟩
    · have AP := hide (apartB_iff.1 hap)
      go_enter Try.func24, Try.ntmps24
      go_wp2_with (go_at_call 29; refine (apart_any A c l _ B (Nat.le_trans hB hW.size) (hs.ext hW hB) hl h40).mono ?_; rintro e w' ⟨rfl, hb⟩; have hW := Ext.trans2 hW (by repeat (first | exact Ext.refl _ | exact Ext.alloc _ _ | exact Ext.drewN _ _ | assumption | refine Ext.trans ?_ (Ext.alloc _ _) | refine Ext.trans ?_ (Ext.drew _) | refine Ext.trans ?_ (by assumption))) hb; (try have hV := Ext.trans2 hV (by repeat (first | exact Ext.refl _ | exact Ext.alloc _ _ | exact Ext.drewN _ _ | assumption | refine Ext.trans ?_ (Ext.alloc _ _) | refine Ext.trans ?_ (Ext.drew _) | refine Ext.trans ?_ (by assumption))) hb); clear hb)
      go_loopw [6, 21] (fun n i wr => ∃ j : Nat, j ≤ l.length ∧ i = .int .i64 j ∧ n = .int .u64 (putsI (l.take j) (vs.take j) 0) ∧ fitsTo l vs j ∧ Ext w wr) (fun _ i _ => l.length - (intOf i).toNat)
      case atStart => exact ⟨0, by omega, rfl, by simp [putsI], fun k _ _ h => absurd h (by omega), hW⟩
      case round =>
        clear hW
        obtain ⟨j, hj, rfl, rfl, hft, hW⟩ := hrel
        have FT := hide hft
        clear hft
        by_cases hlt : j < l.length
        · have hltv := hlt2 j hlt
          obtain ⟨b, off, rfl, hb, _, _⟩ := hs.field hlt
          have r0 := hs.rule0 hB
          have r1 := hs.rule1 hB
          obtain ⟨b2, off2, rfl, hb2, _⟩ := hs2.word hltv
          have r2 := hs2.ruleW hB
          cases hf : fitsB (l[j]).1 (l[j]).2 (vs[j])
          · have R := hide (join_no (l := l) (vs := vs) fun h => by have := h.2.2 j hlt hltv hlt; rw [hf] at this; cases this)
            go_wp2_with fail
            have hX := fun w' (h : Ext (wr.alloc (Obj.cells #[.int .u8 (l[j]).1, .int .u8 (l[j]).2] 25)) w') => h.boxCell
            have hXf := fun w' (h : Ext (wr.alloc (Obj.cells #[.int .u8 (l[j]).1, .int .u8 (l[j]).2] 25)) w') => h.boxFree
            have hW := hW.trans (Ext.alloc wr (Obj.cells #[.int .u8 (l[j]).1, .int .u8 (l[j]).2] 25))
            generalize wr.alloc (Obj.cells #[.int .u8 (l[j]).1, .int .u8 (l[j]).2] 25) = W1 at *
            have hV := Ext.refl W1
            refine wp_region_ext (by kernel_rfl) (by kernel_rfl) ?_
            repeat
              refine wpQuiet_step (fun K hK => ?_)
              go_simp
              first
              | (refine hK _ ?_; clear hK K)
              | (apply Exists.intro
                 refine ⟨fun w1 h1 => ?_, hK _ ?_⟩
                 (have hW := Ext.trans2 hW (by repeat (first | exact Ext.refl _ | exact Ext.alloc _ _ | exact Ext.drewN _ _ | assumption | refine Ext.trans ?_ (Ext.alloc _ _) | refine Ext.trans ?_ (Ext.drew _) | refine Ext.trans ?_ (by assumption))) h1; (try have hV := Ext.trans2 hV (by repeat (first | exact Ext.refl _ | exact Ext.alloc _ _ | exact Ext.drewN _ _ | assumption | refine Ext.trans ?_ (Ext.alloc _ _) | refine Ext.trans ?_ (Ext.drew _) | refine Ext.trans ?_ (by assumption))) h1); (first | rfl | (go_simp; done) | (go_simp; rfl) | (go_at_call 18; refine (fits_any _ _ _ _ (hl _ (List.getElem_mem _)).1 (hl _ (List.getElem_mem _)).2.1 (hl _ (List.getElem_mem _)).2.2.1 (hl _ (List.getElem_mem _)).2.2.2).mono ?_; rintro e w2 ⟨rfl, hb⟩; exact ⟨rfl, h1.trans hb⟩)))
                 clear hK K)
            refine wpQuiet_nil (fun w' hw' => ?_)
            have hW := Ext.trans2 hW (by repeat (first | exact Ext.refl _ | exact Ext.alloc _ _ | exact Ext.drewN _ _ | assumption | refine Ext.trans ?_ (Ext.alloc _ _) | refine Ext.trans ?_ (Ext.drew _) | refine Ext.trans ?_ (by assumption))) hw'
            try have hV := Ext.trans2 hV (by repeat (first | exact Ext.refl _ | exact Ext.alloc _ _ | exact Ext.drewN _ _ | assumption | refine Ext.trans ?_ (Ext.alloc _ _) | refine Ext.trans ?_ (Ext.drew _) | refine Ext.trans ?_ (by assumption))) hw'
            clear hw'
            go_wp2
            go_ret2
            exact ⟨by rw [← R.out]; rfl, (hX0.trans (hW.trans (by repeat (first | exact Ext.refl _ | exact Ext.alloc _ _ | exact Ext.drewN _ _ | assumption | refine Ext.trans ?_ (Ext.alloc _ _) | refine Ext.trans ?_ (Ext.drew _) | refine Ext.trans ?_ (by assumption)))))⟩
          · have S := hide (putsI_succ l vs 0 j hlt hltv)
            have F := hide hf
            go_wp2_with fail
            have hX := fun w' (h : Ext (wr.alloc (Obj.cells #[.int .u8 (l[j]).1, .int .u8 (l[j]).2] 25)) w') => h.boxCell
            have hXf := fun w' (h : Ext (wr.alloc (Obj.cells #[.int .u8 (l[j]).1, .int .u8 (l[j]).2] 25)) w') => h.boxFree
            have hW := hW.trans (Ext.alloc wr (Obj.cells #[.int .u8 (l[j]).1, .int .u8 (l[j]).2] 25))
            generalize wr.alloc (Obj.cells #[.int .u8 (l[j]).1, .int .u8 (l[j]).2] 25) = W1 at *
            have hV := Ext.refl W1
            refine wp_region_ext (by kernel_rfl) (by kernel_rfl) ?_
            repeat
              refine wpQuiet_step (fun K hK => ?_)
              go_simp
              first
              | (refine hK _ ?_; clear hK K)
              | (apply Exists.intro
                 refine ⟨fun w1 h1 => ?_, hK _ ?_⟩
                 (have hW := Ext.trans2 hW (by repeat (first | exact Ext.refl _ | exact Ext.alloc _ _ | exact Ext.drewN _ _ | assumption | refine Ext.trans ?_ (Ext.alloc _ _) | refine Ext.trans ?_ (Ext.drew _) | refine Ext.trans ?_ (by assumption))) h1; (try have hV := Ext.trans2 hV (by repeat (first | exact Ext.refl _ | exact Ext.alloc _ _ | exact Ext.drewN _ _ | assumption | refine Ext.trans ?_ (Ext.alloc _ _) | refine Ext.trans ?_ (Ext.drew _) | refine Ext.trans ?_ (by assumption))) h1); (first | rfl | (go_simp; done) | (go_simp; rfl) | (go_at_call 18; refine (fits_any _ _ _ _ (hl _ (List.getElem_mem _)).1 (hl _ (List.getElem_mem _)).2.1 (hl _ (List.getElem_mem _)).2.2.1 (hl _ (List.getElem_mem _)).2.2.2).mono ?_; rintro e w2 ⟨rfl, hb⟩; exact ⟨rfl, h1.trans hb⟩)))
                 clear hK K)
            refine wpQuiet_nil (fun w' hw' => ?_)
            have hW := Ext.trans2 hW (by repeat (first | exact Ext.refl _ | exact Ext.alloc _ _ | exact Ext.drewN _ _ | assumption | refine Ext.trans ?_ (Ext.alloc _ _) | refine Ext.trans ?_ (Ext.drew _) | refine Ext.trans ?_ (by assumption))) hw'
            try have hV := Ext.trans2 hV (by repeat (first | exact Ext.refl _ | exact Ext.alloc _ _ | exact Ext.drewN _ _ | assumption | refine Ext.trans ?_ (Ext.alloc _ _) | refine Ext.trans ?_ (Ext.drew _) | refine Ext.trans ?_ (by assumption))) hw'
            clear hw'
            go_wp2
            refine wp_region_ext (by kernel_rfl) (by kernel_rfl) ?_
            repeat
              refine wpQuiet_step (fun K hK => ?_)
              go_simp
              first
              | (refine hK _ ?_; clear hK K)
              | (apply Exists.intro
                 refine ⟨fun w1 h1 => ?_, hK _ ?_⟩
                 (have hW := Ext.trans2 hW (by repeat (first | exact Ext.refl _ | exact Ext.alloc _ _ | exact Ext.drewN _ _ | assumption | refine Ext.trans ?_ (Ext.alloc _ _) | refine Ext.trans ?_ (Ext.drew _) | refine Ext.trans ?_ (by assumption))) h1; (try have hV := Ext.trans2 hV (by repeat (first | exact Ext.refl _ | exact Ext.alloc _ _ | exact Ext.drewN _ _ | assumption | refine Ext.trans ?_ (Ext.alloc _ _) | refine Ext.trans ?_ (Ext.drew _) | refine Ext.trans ?_ (by assumption))) h1); (first | rfl | (go_simp; done) | (go_simp; rfl) | (go_at_call 21; refine (put_any _ _ _ _ _ (hl _ (List.getElem_mem _)).1 (hl _ (List.getElem_mem _)).2.1 (hl _ (List.getElem_mem _)).2.2.1 (hl _ (List.getElem_mem _)).2.2.2).mono ?_; rintro e w2 ⟨rfl, hb⟩; exact ⟨rfl, h1.trans hb⟩)))
                 clear hK K)
            refine wpQuiet_nil (fun w' hw' => ?_)
            have hW := Ext.trans2 hW (by repeat (first | exact Ext.refl _ | exact Ext.alloc _ _ | exact Ext.drewN _ _ | assumption | refine Ext.trans ?_ (Ext.alloc _ _) | refine Ext.trans ?_ (Ext.drew _) | refine Ext.trans ?_ (by assumption))) hw'
            try have hV := Ext.trans2 hV (by repeat (first | exact Ext.refl _ | exact Ext.alloc _ _ | exact Ext.drewN _ _ | assumption | refine Ext.trans ?_ (Ext.alloc _ _) | refine Ext.trans ?_ (Ext.drew _) | refine Ext.trans ?_ (by assumption))) hw'
            clear hw'
            go_wp2
            go_roundw
            case rel =>
              refine ⟨j + 1, by omega, by go_num, by rw [S.out], fun k h h' hk => ?_, hW⟩
              by_cases e : k = j
              · subst e; exact F.out
              · exact FT.out k h h' (by omega)
            case measure => simp [intOf]; omega
        · have e : j = l.length := by omega
          have OK : JoinOk l vs := ⟨HN.out, AP.out, fun k h h' _ => FT.out k h h' (by omega)⟩
          have e1 : l.take j = l := List.take_of_length_le (by omega)
          have hn2 := HN.out
          have e2 : vs.take j = vs := List.take_of_length_le (by omega)
          rw [e1, e2]
          have R := hide (join_yes OK)
          clear e1 e2 hn2 e OK
          go_wp2
          go_ret2
          exact ⟨by rw [← R.out]; rfl, (hX0.trans (hW.trans (by repeat (first | exact Ext.refl _ | exact Ext.alloc _ _ | exact Ext.drewN _ _ | assumption | refine Ext.trans ?_ (Ext.alloc _ _) | refine Ext.trans ?_ (Ext.drew _) | refine Ext.trans ?_ (by assumption)))))⟩
  · have hne : ((l.length : Int) != (vs.length : Int)) = true := by rw [bne_iff_ne]; omega
    have R := hide (join_no (l := l) (vs := vs) fun h => hn h.1)
    clear hn
    go_enter Try.func24, Try.ntmps24
    go_wp2
    go_ret2
    exact ⟨by rw [← R.out]; rfl, (hX0.trans (hW.trans (by repeat (first | exact Ext.refl _ | exact Ext.alloc _ _ | exact Ext.drewN _ _ | assumption | refine Ext.trans ?_ (Ext.alloc _ _) | refine Ext.trans ?_ (Ext.drew _) | refine Ext.trans ?_ (by assumption)))))⟩

/-- What is told so far, and noughts. -/
def splitTo (l : Fl) (u : Int) (j : Nat) : List Value := ucells (getsI (l.take j) u) ++ List.replicate (l.length - j) (.int .u64 0)
theorem splitTo_succ (l : Fl) (u : Int) (j : Nat) (hj : j < l.length) : (splitTo l u j).set j (.int .u64 (getI (l[j]).1 (l[j]).2 u)) = splitTo l u (j + 1) := by
  unfold splitTo
  have e1 : l.length - j = (l.length - (j + 1)) + 1 := by omega
  have hlen : (ucells (getsI (l.take j) u)).length = j := by simp [ucells, getsI]; omega
  rw [e1, List.replicate_succ, List.set_append, if_neg (by omega), hlen, Nat.sub_self, List.set_cons_zero, getsI, getsI, take_succ_map _ _ _ hj, ucells, ucells, List.map_append]
  simp
theorem made_words (l : Fl) (u : Int) : (madeCells (Value.int .u64 0).cells (l.length * 1)).toList = splitTo l u 0 := by
  rw [show (Value.int .u64 0).cells = #[.int .u64 0] from rfl, toList_madeCells_one]
  simp [splitTo, getsI, ucells]
theorem splitTo_at (l : Fl) (u : Int) (j : Nat) (hj : j < l.length) : (splitTo l u j)[j]? = some (.int .u64 0) := by
  have hlen : (ucells (getsI (l.take j) u)).length = j := by simp [ucells, getsI]; omega
  unfold splitTo
  rw [List.getElem?_append_right (by omega), hlen, Nat.sub_self, List.getElem?_replicate, if_pos (by omega)]
theorem splitTo_end (l : Fl) (u : Int) : splitTo l u l.length = ucells (getsI l u) := by simp [splitTo]

set_option maxHeartbeats 1000000 in
theorem split_any (A : Option Addr) (c : Nat) (l : Fl) (u : Int) (w : World) (B : Nat) (hB : B ≤ w.heap.size) (hs : Sl w B 2 A l.length (fcells l)) (hl : Okf l) (h40 : l.length ≤ 40) :
    Calls Try.prog 27 #[.slice A l.length c, .int .u64 u] w fun e w' => ∃ v, e = .returned v ∧ w'.ownsRow w.heap.size 24 1 v l.length (ucells (getsI l u)) ∧ Ext w w' := by
  obtain ⟨i0, hi0, hz0, hz1, hz2⟩ := info_parts inf_u64
  have hX0 := Ext.refl w
  have hW := Ext.refl w
  go_enter Try.func27, Try.ntmps27
  go_wp2_with (refine wpList_make_full _ rfl _ _ _ rfl w.heap.size 24 i0 (.int .u64 0) 1 Try.underlying40 hi0 hz0 hz1 .i64 .i64 _ _ l.length rfl rfl rfl rfl (by rw [hz2]; omega) (by unfold maxLen; omega) (Nat.le_refl _) ?_; intro w1 hown hg)
  have hW := hW.grown hg (fun k hk => by cases hk)
  have hown : w1.ownsRow w.heap.size 24 1 (.slice (some ⟨w.heap.size, 0, none⟩) l.length l.length) l.length (splitTo l u 0) := by rw [← made_words l u]; exact hown
  clear hg
  go_loopw [13] (fun i wr => ∃ j : Nat, j ≤ l.length ∧ i = .int .i64 j ∧ wr.ownsRow w.heap.size 24 1 (.slice (some ⟨w.heap.size, 0, none⟩) l.length l.length) l.length (splitTo l u j) ∧ Ext w wr) (fun i _ => l.length - (intOf i).toNat)
  case atStart => exact ⟨0, by omega, rfl, hown, hW⟩
  case round =>
    clear hW hown
    obtain ⟨j, hj, rfl, hown, hW⟩ := hrel
    by_cases hlt : j < l.length
    · obtain ⟨b, off, rfl, hb, _, _⟩ := hs.field hlt
      have r0 := hs.rule0 hB
      have r1 := hs.rule1 hB
      go_wp2_with fail
      refine (get_any _ _ _ _ (hl _ (List.getElem_mem _)).1 (hl _ (List.getElem_mem _)).2.1 (hl _ (List.getElem_mem _)).2.2.1 (hl _ (List.getElem_mem _)).2.2.2).mono ?_
      rintro e w2 ⟨rfl, hb⟩
      have hE := (Ext.alloc _ _).trans hb
      have hown2 := own_ext hown hE
      have hc := hown2.cellAt j (by omega)
      have hf := hown2.frozenAt j
      have hx : (splitTo l u j)[j]? = some (.int .u64 0) := splitTo_at l u j hlt
      rw [hx] at hc
      clear hx
      have hW := hW.trans hE
      go_wp2
      go_roundw
      case rel => exact ⟨j + 1, by omega, by go_num, by rw [← splitTo_succ l u j hlt]; exact (hown2.stored j _).1, hW.set (Nat.le_refl _) _⟩
      case measure => simp [intOf]; omega
    · have e : j = l.length := by omega
      rw [e, splitTo_end] at hown
      clear e
      go_wp2
      go_ret
      exact ⟨_, rfl, hown, (hX0.trans (hW.trans (by repeat (first | exact Ext.refl _ | exact Ext.alloc _ _ | exact Ext.drewN _ _ | assumption | refine Ext.trans ?_ (Ext.alloc _ _) | refine Ext.trans ?_ (Ext.drew _) | refine Ext.trans ?_ (by assumption)))))⟩
end Go.Proofs.Ytcofnmkemnmhaaa
