/- Lists of fields: the calls of package field, and the reference's, on them. -/
import Derived.Test.YtcofnmkemnmhaaaF3
import Derived.Test.YtcofnmkemnmhaaaLists
namespace Go.Proofs.Ytcofnmkemnmhaaa
open Go.RowKit
set_option linter.unusedVariables false


abbrev Fl := List (Int × Int)
def fcells (l : Fl) : List Value := l.flatMap fun p => [.int .u8 p.1, .int .u8 p.2]
def Okf (l : Fl) : Prop := ∀ p ∈ l, 0 ≤ p.1 ∧ p.1 ≤ 255 ∧ 0 ≤ p.2 ∧ p.2 ≤ 255
theorem fcells_length (l : Fl) : (fcells l).length = l.length * 2 := by
  induction l with
  | nil => rfl
  | cons p l ih => simp only [fcells, List.flatMap_cons, List.length_append, List.length_cons, List.length_nil] at ih ⊢; omega
theorem fcells_at (l : Fl) (k : Nat) (hk : k < l.length) : (fcells l)[k * 2]? = some (.int .u8 (l[k]).1) ∧ (fcells l)[k * 2 + 1]? = some (.int .u8 (l[k]).2) := by
  induction l generalizing k with
  | nil => simp at hk
  | cons p l ih =>
    cases k with
    | zero => simp [fcells]
    | succ k =>
      have := ih k (by simpa using hk)
      have e1 : (k + 1) * 2 = k * 2 + 1 + 1 := by omega
      simp only [fcells, List.flatMap_cons, List.cons_append, List.nil_append, e1, List.getElem?_cons_succ, List.getElem_cons_succ] at this ⊢
      exact this

theorem Sl.field {w : World} {B : Nat} {A : Option Addr} {l : Fl} (h : Sl w B 2 A l.length (fcells l)) {k : Nat} (hk : k < l.length) :
    ∃ b off, A = some ⟨b, off, none⟩ ∧ b < B ∧ w.cell? ⟨b, off + k * 2, none⟩ = some (.int .u8 (l[k]).1) ∧ w.cell? ⟨b, off + k * 2 + 1, none⟩ = some (.int .u8 (l[k]).2) := by
  obtain ⟨b, off, rfl, hb, hc⟩ := h.at_ hk
  obtain ⟨e0, e1⟩ := fcells_at l k hk
  exact ⟨b, off, rfl, hb, (hc 0 (by omega)).trans e0, by rw [Nat.add_assoc]; exact (hc 1 (by omega)).trans e1⟩

theorem Sl.rule0 {w : World} {B b off : Nat} {l : Fl} (h : Sl w B 2 (some ⟨b, off, none⟩) l.length (fcells l)) (hB : B ≤ w.heap.size) :
    ∀ w', Ext w w' → ∀ k (hk : k < l.length), w'.cell? ⟨b, off + k * 2, none⟩ = some (.int .u8 (l[k]).1) := fun w' e k hk => by
  obtain ⟨b', off', e, _, c0, c1⟩ := (h.ext e hB).field hk
  cases e
  exact c0
theorem Sl.rule1 {w : World} {B b off : Nat} {l : Fl} (h : Sl w B 2 (some ⟨b, off, none⟩) l.length (fcells l)) (hB : B ≤ w.heap.size) :
    ∀ w', Ext w w' → ∀ k (hk : k < l.length), w'.cell? ⟨b, off + k * 2 + 1, none⟩ = some (.int .u8 (l[k]).2) := fun w' e k hk => by
  obtain ⟨b', off', e, _, c0, c1⟩ := (h.ext e hB).field hk
  cases e
  exact c1

def andI (p q : Int × Int) : Int := bits .and .u64 (maskI p.1 p.2) (maskI q.1 q.2)
def okAt (l : Fl) (i : Nat) (hi : i < l.length) : Prop := mayB (l[i]).1 (l[i]).2 = true ∧ ∀ k (hk : k < i), andI (l[i]) (l[k]) = 0
def ApartP (l : Fl) : Prop := ∀ i (hi : i < l.length), okAt l i hi
noncomputable def apartB (l : Fl) : Bool := @decide (ApartP l) (Classical.propDecidable _)
theorem apartB_yes {l : Fl} (h : ApartP l) : apartB l = true := @decide_eq_true _ (Classical.propDecidable _) h
theorem apartB_no {l : Fl} (h : ¬ ApartP l) : apartB l = false := @decide_eq_false _ (Classical.propDecidable _) h

set_option maxHeartbeats 400000 in
theorem rapart_any (A : Option Addr) (c : Nat) (l : Fl) (w : World) (B : Nat) (hB : B ≤ w.heap.size) (hs : Sl w B 2 A l.length (fcells l)) (hl : Okf l) (h40 : l.length ≤ 40) :
    Calls Try.prog 30 #[.slice A l.length c] w fun e w' => e = .returned (.bool (apartB l)) ∧ Ext w w' := by
  have hX0 := Ext.refl w
  have hW := Ext.refl w
  have HL := hide hl
  go_enter Try.func30, Try.ntmps30
  go_wp2_with fail
  go_loopw [3] (fun i wr => ∃ j : Nat, j ≤ l.length ∧ i = .int .i64 j ∧ (∀ i (hi : i < l.length), i < j → okAt l i hi) ∧ Ext w wr) (fun i _ => l.length - (intOf i).toNat)
  case atStart => exact ⟨0, by omega, rfl, fun i hi h => absurd h (by omega), hW⟩
  case round =>
    clear hW
    obtain ⟨j, hj, rfl, hok, hW⟩ := hrel
    have OK := hide hok
    clear hok
    by_cases hlt : j < l.length
    · obtain ⟨b, off, rfl, hb, _, _⟩ := hs.field hlt
      have r0 := hs.rule0 hB
      have r1 := hs.rule1 hB
      cases hm : mayB (l[j]).1 (l[j]).2
      · have R := hide (apartB_no (l := l) fun h => by have := (h j hlt).1; rw [hm] at this; cases this)
        go_wp2_with (go_at_call 9; refine (rmay_any _ _ _ (hl _ (List.getElem_mem _)).1 (hl _ (List.getElem_mem _)).2.1 (hl _ (List.getElem_mem _)).2.2.1 (hl _ (List.getElem_mem _)).2.2.2).mono ?_; rintro e w' ⟨rfl, hb⟩; have hW := Ext.trans2 hW (by repeat (first | exact Ext.refl _ | exact Ext.alloc _ _ | exact Ext.drewN _ _ | assumption | refine Ext.trans ?_ (Ext.alloc _ _) | refine Ext.trans ?_ (Ext.drew _) | refine Ext.trans ?_ (by assumption))) hb; (try have hV := Ext.trans2 hV (by repeat (first | exact Ext.refl _ | exact Ext.alloc _ _ | exact Ext.drewN _ _ | assumption | refine Ext.trans ?_ (Ext.alloc _ _) | refine Ext.trans ?_ (Ext.drew _) | refine Ext.trans ?_ (by assumption))) hb); clear hb)
        go_ret
        exact ⟨by rw [R.out]; rfl, (hX0.trans (hW.trans (by repeat (first | exact Ext.refl _ | exact Ext.alloc _ _ | exact Ext.drewN _ _ | assumption | refine Ext.trans ?_ (Ext.alloc _ _) | refine Ext.trans ?_ (Ext.drew _) | refine Ext.trans ?_ (by assumption)))))⟩
      · have M := hide hm
        go_wp2_with (go_at_call 9; refine (rmay_any _ _ _ (hl _ (List.getElem_mem _)).1 (hl _ (List.getElem_mem _)).2.1 (hl _ (List.getElem_mem _)).2.2.1 (hl _ (List.getElem_mem _)).2.2.2).mono ?_; rintro e w' ⟨rfl, hb⟩; have hW := Ext.trans2 hW (by repeat (first | exact Ext.refl _ | exact Ext.alloc _ _ | exact Ext.drewN _ _ | assumption | refine Ext.trans ?_ (Ext.alloc _ _) | refine Ext.trans ?_ (Ext.drew _) | refine Ext.trans ?_ (by assumption))) hb; (try have hV := Ext.trans2 hV (by repeat (first | exact Ext.refl _ | exact Ext.alloc _ _ | exact Ext.drewN _ _ | assumption | refine Ext.trans ?_ (Ext.alloc _ _) | refine Ext.trans ?_ (Ext.drew _) | refine Ext.trans ?_ (by assumption))) hb); clear hb)
        go_loopw [4] (fun i wr => ∃ k : Nat, k ≤ j ∧ i = .int .i64 k ∧ (∀ k' (hk' : k' < k), k' < j → ∀ h : k' < l.length, andI (l[j]) (l[k']) = 0) ∧ Ext w wr) (fun i _ => j - (intOf i).toNat)
        case atStart => exact ⟨0, by omega, rfl, fun i hi => absurd hi (by omega), hW⟩
        case round =>
          clear hW
          obtain ⟨k, hk, rfl, hok2, hW⟩ := hrel
          have OK2 := hide hok2
          clear hok2
          by_cases hkj : k < j
          · have hkl : k < l.length := by omega
            by_cases hz : bits .and .u64 (maskI (l[j]).1 (l[j]).2) (maskI (l[k]).1 (l[k]).2) = 0
            · have Z := hide hz
              have hz2 : (bits .and .u64 (maskI (l[j]).1 (l[j]).2) (maskI (l[k]).1 (l[k]).2) != 0) = false := by rw [hz]; rfl
              clear hz
              go_wp2_with fail
              refine wp_region_ext (by kernel_rfl) (by kernel_rfl) ?_
              repeat
                refine wpQuiet_step (fun K hK => ?_)
                go_simp
                first
                | (refine hK _ ?_; clear hK K)
                | (apply Exists.intro
                   refine ⟨fun w1 h1 => ?_, hK _ ?_⟩
                   (have hW := Ext.trans2 hW (by repeat (first | exact Ext.refl _ | exact Ext.alloc _ _ | exact Ext.drewN _ _ | assumption | refine Ext.trans ?_ (Ext.alloc _ _) | refine Ext.trans ?_ (Ext.drew _) | refine Ext.trans ?_ (by assumption))) h1; (try have hV := Ext.trans2 hV (by repeat (first | exact Ext.refl _ | exact Ext.alloc _ _ | exact Ext.drewN _ _ | assumption | refine Ext.trans ?_ (Ext.alloc _ _) | refine Ext.trans ?_ (Ext.drew _) | refine Ext.trans ?_ (by assumption))) h1); (first | rfl | (go_simp; done) | (go_simp; rfl) | (go_at_call 13; refine (rmask_any _ _ _ (hl _ (List.getElem_mem _)).1 (hl _ (List.getElem_mem _)).2.1 (hl _ (List.getElem_mem _)).2.2.1 (hl _ (List.getElem_mem _)).2.2.2).mono ?_; rintro e w2 ⟨rfl, hb⟩; exact ⟨rfl, h1.trans hb⟩)))
                   clear hK K)
              refine wpQuiet_nil (fun w' hw' => ?_)
              have hW := Ext.trans2 hW (by repeat (first | exact Ext.refl _ | exact Ext.alloc _ _ | exact Ext.drewN _ _ | assumption | refine Ext.trans ?_ (Ext.alloc _ _) | refine Ext.trans ?_ (Ext.drew _) | refine Ext.trans ?_ (by assumption))) hw'
              try have hV := Ext.trans2 hV (by repeat (first | exact Ext.refl _ | exact Ext.alloc _ _ | exact Ext.drewN _ _ | assumption | refine Ext.trans ?_ (Ext.alloc _ _) | refine Ext.trans ?_ (Ext.drew _) | refine Ext.trans ?_ (by assumption))) hw'
              clear hw'
              go_wp2
              go_roundw
              case rel =>
                refine ⟨k + 1, by omega, by go_num, fun k' hk' hkj' hl' => ?_, hW⟩
                by_cases e : k' = k
                · subst e; exact Z.out
                · exact OK2.out k' (by omega) hkj' hl'
              case measure => simp [intOf]; omega
            · have R := hide (apartB_no (l := l) fun h => hz ((h j hlt).2 k hkj))
              have hz2 : (bits .and .u64 (maskI (l[j]).1 (l[j]).2) (maskI (l[k]).1 (l[k]).2) != 0) = true := by simpa using hz
              clear hz
              go_wp2_with fail
              refine wp_region_ext (by kernel_rfl) (by kernel_rfl) ?_
              repeat
                refine wpQuiet_step (fun K hK => ?_)
                go_simp
                first
                | (refine hK _ ?_; clear hK K)
                | (apply Exists.intro
                   refine ⟨fun w1 h1 => ?_, hK _ ?_⟩
                   (have hW := Ext.trans2 hW (by repeat (first | exact Ext.refl _ | exact Ext.alloc _ _ | exact Ext.drewN _ _ | assumption | refine Ext.trans ?_ (Ext.alloc _ _) | refine Ext.trans ?_ (Ext.drew _) | refine Ext.trans ?_ (by assumption))) h1; (try have hV := Ext.trans2 hV (by repeat (first | exact Ext.refl _ | exact Ext.alloc _ _ | exact Ext.drewN _ _ | assumption | refine Ext.trans ?_ (Ext.alloc _ _) | refine Ext.trans ?_ (Ext.drew _) | refine Ext.trans ?_ (by assumption))) h1); (first | rfl | (go_simp; done) | (go_simp; rfl) | (go_at_call 13; refine (rmask_any _ _ _ (hl _ (List.getElem_mem _)).1 (hl _ (List.getElem_mem _)).2.1 (hl _ (List.getElem_mem _)).2.2.1 (hl _ (List.getElem_mem _)).2.2.2).mono ?_; rintro e w2 ⟨rfl, hb⟩; exact ⟨rfl, h1.trans hb⟩)))
                   clear hK K)
              refine wpQuiet_nil (fun w' hw' => ?_)
              have hW := Ext.trans2 hW (by repeat (first | exact Ext.refl _ | exact Ext.alloc _ _ | exact Ext.drewN _ _ | assumption | refine Ext.trans ?_ (Ext.alloc _ _) | refine Ext.trans ?_ (Ext.drew _) | refine Ext.trans ?_ (by assumption))) hw'
              try have hV := Ext.trans2 hV (by repeat (first | exact Ext.refl _ | exact Ext.alloc _ _ | exact Ext.drewN _ _ | assumption | refine Ext.trans ?_ (Ext.alloc _ _) | refine Ext.trans ?_ (Ext.drew _) | refine Ext.trans ?_ (by assumption))) hw'
              clear hw'
              go_wp2
              go_ret
              exact ⟨by rw [R.out]; rfl, (hX0.trans (hW.trans (by repeat (first | exact Ext.refl _ | exact Ext.alloc _ _ | exact Ext.drewN _ _ | assumption | refine Ext.trans ?_ (Ext.alloc _ _) | refine Ext.trans ?_ (Ext.drew _) | refine Ext.trans ?_ (by assumption)))))⟩
          · go_wp2
            go_roundw
            case rel =>
              refine ⟨j + 1, by omega, by go_num, fun i hi hij => ?_, hW⟩
              by_cases e : i = j
              · subst e; exact ⟨M.out, fun k' hk' => OK2.out k' (by omega) hk' (by omega)⟩
              · exact OK.out i hi (by omega)
            case measure => simp [intOf]; omega
    · have R := hide (apartB_yes (l := l) fun i hi => OK.out i hi (by omega))
      go_wp2
      go_ret
      exact ⟨by rw [R.out]; rfl, (hX0.trans (hW.trans (by repeat (first | exact Ext.refl _ | exact Ext.alloc _ _ | exact Ext.drewN _ _ | assumption | refine Ext.trans ?_ (Ext.alloc _ _) | refine Ext.trans ?_ (Ext.drew _) | refine Ext.trans ?_ (by assumption)))))⟩

theorem inf_u64 : (Try.prog.info? 24).map (fun i => (i.zero, i.size, i.bytes)) = some (some (.int .u64 0), 1, 8) := by kernel_rfl
theorem inf_fld : (Try.prog.info? 25).map (fun i => (i.zero, i.size, i.bytes)) = some (some (.agg #[.int .u8 0, .int .u8 0]), 2, 2) := by kernel_rfl
def ucells (l : List Int) : List Value := l.map (.int .u64 ·)
def getsI (l : Fl) (u : Int) : List Int := l.map fun p => getI p.1 p.2 u
theorem fcells_succ (l : Fl) (j : Nat) (hj : j < l.length) : fcells (l.take (j + 1)) = fcells (l.take j) ++ [.int .u8 (l[j]).1, .int .u8 (l[j]).2] := by
  rw [List.take_succ_eq_append_getElem hj, fcells, List.flatMap_append]; rfl
theorem take_succ_map {α β : Type} (l : List α) (f : α → β) (j : Nat) (hj : j < l.length) : (l.take (j + 1)).map f = (l.take j).map f ++ [f (l[j])] := by
  rw [List.take_succ_eq_append_getElem hj, List.map_append]; rfl

set_option maxHeartbeats 400000 in
theorem rsplit_any (A : Option Addr) (c : Nat) (l : Fl) (u : Int) (w : World) (B : Nat) (hB : B ≤ w.heap.size) (hs : Sl w B 2 A l.length (fcells l)) (hl : Okf l) (h40 : l.length ≤ 40) (hu : InW u) :
    Calls Try.prog 28 #[.slice A l.length c, .int .u64 u] w fun e w' => ∃ v, e = .returned v ∧ w'.ownsRow w.heap.size 24 1 v l.length (ucells (getsI l u)) ∧ Ext w w' := by
  have hX0 := Ext.refl w
  have hW := Ext.refl w
  go_enter Try.func28, Try.ntmps28
  go_wp2_with fail
  go_loopw [5, 6] (fun v i wr => ∃ j : Nat, j ≤ l.length ∧ i = .int .i64 j ∧ wr.ownsRow w.heap.size 24 1 v j (ucells (getsI (l.take j) u)) ∧ Ext w wr) (fun _ i _ => l.length - (intOf i).toNat)
  case atStart => exact ⟨0, by omega, rfl, own_nil _ _ _ _, hW⟩
  case round =>
    clear hW
    obtain ⟨j, hj, rfl, hown, hW⟩ := hrel
    by_cases hlt : j < l.length
    · obtain ⟨b, off, rfl, hb, _, _⟩ := hs.field hlt
      have r0 := hs.rule0 hB
      have r1 := hs.rule1 hB
      go_wp2_with (first
        | (go_at_call 15; refine (rget_any _ _ _ _ (hl _ (List.getElem_mem _)).1 (hl _ (List.getElem_mem _)).2.1 (hl _ (List.getElem_mem _)).2.2.1 (hl _ (List.getElem_mem _)).2.2.2 hu).mono ?_; rintro e w' ⟨rfl, hb⟩; have hown := own_ext hown hb; have hW := Ext.trans2 hW (by repeat (first | exact Ext.refl _ | exact Ext.alloc _ _ | exact Ext.drewN _ _ | assumption | refine Ext.trans ?_ (Ext.alloc _ _) | refine Ext.trans ?_ (Ext.drew _) | refine Ext.trans ?_ (by assumption))) hb; clear hb)
        | (at_builtin; refine wpList_app1 rfl rfl Try.underlying40 inf_u64 rfl (by omega) rfl hown hW rfl rfl rfl (by simp [Value.oneCell']) (by unfold maxLen; omega) (by omega) ?_; intro v' w2 hown hW))
      go_roundw
      case rel => exact ⟨j + 1, by omega, by go_num, by rw [getsI, take_succ_map _ _ _ hlt, ucells, List.map_append]; exact hown, hW⟩
      case measure => simp [intOf]; omega
    · have e : l.take j = l := List.take_of_length_le (by omega)
      rw [e] at hown
      have e2 : j = l.length := by omega
      rw [e2] at hown
      clear e e2
      go_wp2
      go_ret
      exact ⟨_, rfl, hown, (hX0.trans (hW.trans (by repeat (first | exact Ext.refl _ | exact Ext.alloc _ _ | exact Ext.drewN _ _ | assumption | refine Ext.trans ?_ (Ext.alloc _ _) | refine Ext.trans ?_ (Ext.drew _) | refine Ext.trans ?_ (by assumption)))))⟩

set_option maxHeartbeats 400000 in
theorem theirs_any (A : Option Addr) (c : Nat) (l : Fl) (w : World) (B : Nat) (hB : B ≤ w.heap.size) (hs : Sl w B 2 A l.length (fcells l)) (h40 : l.length ≤ 40) :
    Calls Try.prog 25 #[.slice A l.length c] w fun e w' => ∃ v, e = .returned v ∧ w'.ownsRow w.heap.size 25 2 v l.length (fcells l) ∧ Ext w w' := by
  have hX0 := Ext.refl w
  have hW := Ext.refl w
  go_enter Try.func25, Try.ntmps25
  go_wp2_with fail
  go_loopw [3, 8] (fun v i wr => ∃ j : Nat, j ≤ l.length ∧ i = .int .i64 j ∧ wr.ownsRow w.heap.size 25 2 v j (fcells (l.take j)) ∧ Ext w wr) (fun _ i _ => l.length - (intOf i).toNat)
  case atStart => exact ⟨0, by omega, rfl, own_nil _ _ _ _, hW⟩
  case round =>
    clear hW
    obtain ⟨j, hj, rfl, hown, hW⟩ := hrel
    by_cases hlt : j < l.length
    · obtain ⟨b, off, rfl, hb, _, _⟩ := hs.field hlt
      have r0 := hs.rule0 hB
      have r1 := hs.rule1 hB
      go_wp2_with (at_builtin; refine wpList_app1 rfl rfl Try.underlying44 inf_fld rfl (by omega) rfl (own_ext hown (Ext.alloc _ _)) (hW.trans (Ext.alloc _ _)) rfl (by simp) rfl (by simp [Value.oneCell']) (by unfold maxLen; omega) (by omega) ?_; intro v' w2 hown hW)
      go_roundw
      case rel => exact ⟨j + 1, by omega, by go_num, by rw [fcells_succ l j hlt]; exact hown, hW⟩
      case measure => simp [intOf]; omega
    · have e : l.take j = l := List.take_of_length_le (by omega)
      rw [e] at hown
      have e2 : j = l.length := by omega
      rw [e2] at hown
      clear e e2
      go_wp2
      go_ret
      exact ⟨_, rfl, hown, (hX0.trans (hW.trans (by repeat (first | exact Ext.refl _ | exact Ext.alloc _ _ | exact Ext.drewN _ _ | assumption | refine Ext.trans ?_ (Ext.alloc _ _) | refine Ext.trans ?_ (Ext.drew _) | refine Ext.trans ?_ (by assumption)))))⟩

/-! Join -/
def putsI : Fl → List Int → Int → Int
  | p :: l, v :: vs, u => putsI l vs (putI p.1 p.2 u v)
  | [], _, u => u
  | _ :: _, [], u => u
theorem putsI_succ (l : Fl) (vs : List Int) (u : Int) (j : Nat) (hj : j < l.length) (hv : j < vs.length) : putsI (l.take (j + 1)) (vs.take (j + 1)) u = putI (l[j]).1 (l[j]).2 (putsI (l.take j) (vs.take j) u) (vs[j]) := by
  induction l generalizing vs u j with
  | nil => simp at hj
  | cons p l ih =>
    cases vs with
    | nil => simp at hv
    | cons v vs =>
      cases j with
      | zero => simp [putsI]
      | succ j =>
        simp only [List.take_succ_cons, putsI, List.getElem_cons_succ]
        exact ih vs _ j (by simpa using hj) (by simpa using hv)
def fitsTo (l : Fl) (vs : List Int) (j : Nat) : Prop := ∀ k (h : k < l.length) (h' : k < vs.length), k < j → fitsB (l[k]).1 (l[k]).2 (vs[k]) = true
def JoinOk (l : Fl) (vs : List Int) : Prop := l.length = vs.length ∧ ApartP l ∧ fitsTo l vs l.length
noncomputable def joinB (l : Fl) (vs : List Int) : Bool := @decide (JoinOk l vs) (Classical.propDecidable _)
noncomputable def joinI (l : Fl) (vs : List Int) : Int := if joinB l vs = true then putsI l vs 0 else 0
theorem joinB_yes {l : Fl} {vs : List Int} (h : JoinOk l vs) : joinB l vs = true := @decide_eq_true _ (Classical.propDecidable _) h
theorem joinB_no {l : Fl} {vs : List Int} (h : ¬ JoinOk l vs) : joinB l vs = false := @decide_eq_false _ (Classical.propDecidable _) h
theorem joinB_iff {l : Fl} {vs : List Int} : joinB l vs = true ↔ JoinOk l vs := @decide_eq_true_iff _ (Classical.propDecidable _)
theorem apartB_iff {l : Fl} : apartB l = true ↔ ApartP l := @decide_eq_true_iff _ (Classical.propDecidable _)
theorem join_yes {l : Fl} {vs : List Int} (h : JoinOk l vs) : (Value.tuple #[.int .u64 (putsI l vs 0), .bool true]) = .tuple #[.int .u64 (joinI l vs), .bool (joinB l vs)] := by
  unfold joinI; rw [if_pos (joinB_yes h), joinB_yes h]
theorem join_no {l : Fl} {vs : List Int} (h : ¬ JoinOk l vs) : (Value.tuple #[.int .u64 0, .bool false]) = .tuple #[.int .u64 (joinI l vs), .bool (joinB l vs)] := by
  unfold joinI; rw [joinB_no h, if_neg (by simp)]
def Okv (vs : List Int) : Prop := ∀ v ∈ vs, InW v
theorem Sl.word {w : World} {B : Nat} {A : Option Addr} {vs : List Int} (h : Sl w B 1 A vs.length (ucells vs)) {k : Nat} (hk : k < vs.length) :
    ∃ b off, A = some ⟨b, off, none⟩ ∧ b < B ∧ w.cell? ⟨b, off + k, none⟩ = some (.int .u64 (vs[k])) := by
  obtain ⟨b, off, rfl, hb, hc⟩ := h.at_ hk
  refine ⟨b, off, rfl, hb, ?_⟩
  have := hc 0 (by omega)
  simpa [ucells, hk] using this
theorem Sl.ruleW {w : World} {B b off : Nat} {vs : List Int} (h : Sl w B 1 (some ⟨b, off, none⟩) vs.length (ucells vs)) (hB : B ≤ w.heap.size) :
    ∀ w', Ext w w' → ∀ k (hk : k < vs.length), w'.cell? ⟨b, off + k, none⟩ = some (.int .u64 (vs[k])) := fun w' e k hk => by
  obtain ⟨b', off', e, _, c0⟩ := (h.ext e hB).word hk
  cases e
  exact c0
theorem put_inW {a d u v : Int} (ha : 0 ≤ a) (hd : 0 ≤ d) (hu : InW u) (hv : InW v) : InW (putI a d u v) := by
  by_cases hm : mayB a d = true
  · obtain ⟨A, rfl⟩ := Int.eq_ofNat_of_zero_le ha
    obtain ⟨D, rfl⟩ := Int.eq_ofNat_of_zero_le hd
    obtain ⟨V, rfl, hV⟩ := hv.nat
    obtain ⟨U, rfl, hU⟩ := hu.nat
    rw [put_nat hm hU hV]
    have := sumBits_lt (fun k => if A ≤ k ∧ k < A + D then V.testBit (k - A) else U.testBit k) 64
    rw [← two64_pow] at this
    exact ⟨by omega, by omega⟩
  · rw [put_no hm hu.1 hu.2 hv.1 hv.2]; exact hu
theorem puts_inW (l : Fl) (vs : List Int) (hl : Okf l) (hv : Okv vs) (u : Int) (hu : InW u) : InW (putsI l vs u) := by
  induction l generalizing vs u with
  | nil => cases vs <;> exact hu
  | cons p l ih =>
    cases vs with
    | nil => exact hu
    | cons v vs =>
      have h1 := hl p (List.mem_cons_self ..)
      exact ih vs (fun q hq => hl q (List.mem_cons_of_mem _ hq)) (fun q hq => hv q (List.mem_cons_of_mem _ hq)) _ (put_inW h1.1 h1.2.2.1 hu (hv v (List.mem_cons_self ..)))

set_option maxHeartbeats 1000000 in
theorem rjoin_any (A : Option Addr) (c : Nat) (l : Fl) (A2 : Option Addr) (c2 : Nat) (vs : List Int) (w : World) (B : Nat) (hB : B ≤ w.heap.size) (hs : Sl w B 2 A l.length (fcells l)) (hl : Okf l) (h40 : l.length ≤ 40)
    (hs2 : Sl w B 1 A2 vs.length (ucells vs)) (hv : Okv vs) (h40v : vs.length ≤ 40) :
    Calls Try.prog 26 #[.slice A l.length c, .slice A2 vs.length c2] w fun e w' => e = .returned (.tuple #[.int .u64 (joinI l vs), .bool (joinB l vs)]) ∧ Ext w w' := by
  have hX0 := Ext.refl w
  have hW := Ext.refl w
  by_cases hn : l.length = vs.length
  · have hne : ((l.length : Int) != (vs.length : Int)) = false := by rw [bne_eq_false_iff_eq]; omega
    have HN := hide hn
    have hlt2 : ∀ j, j < l.length → j < vs.length := fun j hj => by omega
    clear hn
    cases hap : apartB l
    · have R := hide (join_no (l := l) (vs := vs) fun h => by have := apartB_yes h.2.1; rw [hap] at this; cases this)
      go_enter Try.func26, Try.ntmps26
      go_wp2_with (go_at_call 30; refine (rapart_any A c l _ B (Nat.le_trans hB hW.size) (hs.ext hW hB) hl h40).mono ?_; rintro e w' ⟨rfl, hb⟩; have hW := Ext.trans2 hW (by repeat (first | exact Ext.refl _ | exact Ext.alloc _ _ | exact Ext.drewN _ _ | assumption | refine Ext.trans ?_ (Ext.alloc _ _) | refine Ext.trans ?_ (Ext.drew _) | refine Ext.trans ?_ (by assumption))) hb; (try have hV := Ext.trans2 hV (by repeat (first | exact Ext.refl _ | exact Ext.alloc _ _ | exact Ext.drewN _ _ | assumption | refine Ext.trans ?_ (Ext.alloc _ _) | refine Ext.trans ?_ (Ext.drew _) | refine Ext.trans ?_ (by assumption))) hb); clear hb)
      go_ret2
      exact ⟨by rw [← R.out]; rfl, (hX0.trans (hW.trans (by repeat (first | exact Ext.refl _ | exact Ext.alloc _ _ | exact Ext.drewN _ _ | assumption | refine Ext.trans ?_ (Ext.alloc _ _) | refine Ext.trans ?_ (Ext.drew _) | refine Ext.trans ?_ (by assumption)))))⟩
    · have AP := hide (apartB_iff.1 hap)
      go_enter Try.func26, Try.ntmps26
      go_wp2_with (go_at_call 30; refine (rapart_any A c l _ B (Nat.le_trans hB hW.size) (hs.ext hW hB) hl h40).mono ?_; rintro e w' ⟨rfl, hb⟩; have hW := Ext.trans2 hW (by repeat (first | exact Ext.refl _ | exact Ext.alloc _ _ | exact Ext.drewN _ _ | assumption | refine Ext.trans ?_ (Ext.alloc _ _) | refine Ext.trans ?_ (Ext.drew _) | refine Ext.trans ?_ (by assumption))) hb; (try have hV := Ext.trans2 hV (by repeat (first | exact Ext.refl _ | exact Ext.alloc _ _ | exact Ext.drewN _ _ | assumption | refine Ext.trans ?_ (Ext.alloc _ _) | refine Ext.trans ?_ (Ext.drew _) | refine Ext.trans ?_ (by assumption))) hb); clear hb)
      go_loopw [6, 7] (fun n i wr => ∃ j : Nat, j ≤ l.length ∧ i = .int .i64 j ∧ n = .int .u64 (putsI (l.take j) (vs.take j) 0) ∧ fitsTo l vs j ∧ Ext w wr) (fun _ i _ => l.length - (intOf i).toNat)
      case atStart => exact ⟨0, by omega, rfl, by simp [putsI], fun k _ _ h => absurd h (by omega), hW⟩
      case round =>
        clear hW
        obtain ⟨j, hj, rfl, rfl, hft, hW⟩ := hrel
        have FT := hide hft
        clear hft
        by_cases hlt : j < l.length
        · have hltv := hlt2 j hlt
          obtain ⟨b, off, rfl, hb, _, _⟩ := hs.field hlt
          have r0 := hs.rule0 hB
          have r1 := hs.rule1 hB
          obtain ⟨b2, off2, rfl, hb2, _⟩ := hs2.word hltv
          have r2 := hs2.ruleW hB
          cases hf : fitsB (l[j]).1 (l[j]).2 (vs[j])
          · have R := hide (join_no (l := l) (vs := vs) fun h => by have := h.2.2 j hlt hltv hlt; rw [hf] at this; cases this)
            go_wp2_with fail
            refine wp_region_ext (by kernel_rfl) (by kernel_rfl) ?_
            repeat
              refine wpQuiet_step (fun K hK => ?_)
              go_simp
              first
              | (refine hK _ ?_; clear hK K)
              | (apply Exists.intro
                 refine ⟨fun w1 h1 => ?_, hK _ ?_⟩
                 (have hW := Ext.trans2 hW (by repeat (first | exact Ext.refl _ | exact Ext.alloc _ _ | exact Ext.drewN _ _ | assumption | refine Ext.trans ?_ (Ext.alloc _ _) | refine Ext.trans ?_ (Ext.drew _) | refine Ext.trans ?_ (by assumption))) h1; (try have hV := Ext.trans2 hV (by repeat (first | exact Ext.refl _ | exact Ext.alloc _ _ | exact Ext.drewN _ _ | assumption | refine Ext.trans ?_ (Ext.alloc _ _) | refine Ext.trans ?_ (Ext.drew _) | refine Ext.trans ?_ (by assumption))) h1); (first | rfl | (go_simp; done) | (go_simp; rfl) | (go_at_call 19; refine (rfits_any _ _ _ _ (hl _ (List.getElem_mem _)).1 (hl _ (List.getElem_mem _)).2.1 (hl _ (List.getElem_mem _)).2.2.1 (hl _ (List.getElem_mem _)).2.2.2).mono ?_; rintro e w2 ⟨rfl, hb⟩; exact ⟨rfl, h1.trans hb⟩)))
                 clear hK K)
            refine wpQuiet_nil (fun w' hw' => ?_)
            have hW := Ext.trans2 hW (by repeat (first | exact Ext.refl _ | exact Ext.alloc _ _ | exact Ext.drewN _ _ | assumption | refine Ext.trans ?_ (Ext.alloc _ _) | refine Ext.trans ?_ (Ext.drew _) | refine Ext.trans ?_ (by assumption))) hw'
            try have hV := Ext.trans2 hV (by repeat (first | exact Ext.refl _ | exact Ext.alloc _ _ | exact Ext.drewN _ _ | assumption | refine Ext.trans ?_ (Ext.alloc _ _) | refine Ext.trans ?_ (Ext.drew _) | refine Ext.trans ?_ (by assumption))) hw'
            clear hw'
            go_wp2
            go_ret2
            exact ⟨by rw [← R.out]; rfl, (hX0.trans (hW.trans (by repeat (first | exact Ext.refl _ | exact Ext.alloc _ _ | exact Ext.drewN _ _ | assumption | refine Ext.trans ?_ (Ext.alloc _ _) | refine Ext.trans ?_ (Ext.drew _) | refine Ext.trans ?_ (by assumption)))))⟩
          · have S := hide (putsI_succ l vs 0 j hlt hltv)
            have F := hide hf
            have hu := puts_inW (l.take j) (vs.take j) (fun p hp => hl p (List.mem_of_mem_take hp)) (fun p hp => hv p (List.mem_of_mem_take hp)) 0 inW_zero
            go_wp2_with fail
            refine wp_region_ext (by kernel_rfl) (by kernel_rfl) ?_
            repeat
              refine wpQuiet_step (fun K hK => ?_)
              go_simp
              first
              | (refine hK _ ?_; clear hK K)
              | (apply Exists.intro
                 refine ⟨fun w1 h1 => ?_, hK _ ?_⟩
                 (have hW := Ext.trans2 hW (by repeat (first | exact Ext.refl _ | exact Ext.alloc _ _ | exact Ext.drewN _ _ | assumption | refine Ext.trans ?_ (Ext.alloc _ _) | refine Ext.trans ?_ (Ext.drew _) | refine Ext.trans ?_ (by assumption))) h1; (try have hV := Ext.trans2 hV (by repeat (first | exact Ext.refl _ | exact Ext.alloc _ _ | exact Ext.drewN _ _ | assumption | refine Ext.trans ?_ (Ext.alloc _ _) | refine Ext.trans ?_ (Ext.drew _) | refine Ext.trans ?_ (by assumption))) h1); (first | rfl | (go_simp; done) | (go_simp; rfl) | (go_at_call 19; refine (rfits_any _ _ _ _ (hl _ (List.getElem_mem _)).1 (hl _ (List.getElem_mem _)).2.1 (hl _ (List.getElem_mem _)).2.2.1 (hl _ (List.getElem_mem _)).2.2.2).mono ?_; rintro e w2 ⟨rfl, hb⟩; exact ⟨rfl, h1.trans hb⟩)))
                 clear hK K)
            refine wpQuiet_nil (fun w' hw' => ?_)
            have hW := Ext.trans2 hW (by repeat (first | exact Ext.refl _ | exact Ext.alloc _ _ | exact Ext.drewN _ _ | assumption | refine Ext.trans ?_ (Ext.alloc _ _) | refine Ext.trans ?_ (Ext.drew _) | refine Ext.trans ?_ (by assumption))) hw'
            try have hV := Ext.trans2 hV (by repeat (first | exact Ext.refl _ | exact Ext.alloc _ _ | exact Ext.drewN _ _ | assumption | refine Ext.trans ?_ (Ext.alloc _ _) | refine Ext.trans ?_ (Ext.drew _) | refine Ext.trans ?_ (by assumption))) hw'
            clear hw'
            go_wp2
            refine wp_region_ext (by kernel_rfl) (by kernel_rfl) ?_
            repeat
              refine wpQuiet_step (fun K hK => ?_)
              go_simp
              first
              | (refine hK _ ?_; clear hK K)
              | (apply Exists.intro
                 refine ⟨fun w1 h1 => ?_, hK _ ?_⟩
                 (have hW := Ext.trans2 hW (by repeat (first | exact Ext.refl _ | exact Ext.alloc _ _ | exact Ext.drewN _ _ | assumption | refine Ext.trans ?_ (Ext.alloc _ _) | refine Ext.trans ?_ (Ext.drew _) | refine Ext.trans ?_ (by assumption))) h1; (try have hV := Ext.trans2 hV (by repeat (first | exact Ext.refl _ | exact Ext.alloc _ _ | exact Ext.drewN _ _ | assumption | refine Ext.trans ?_ (Ext.alloc _ _) | refine Ext.trans ?_ (Ext.drew _) | refine Ext.trans ?_ (by assumption))) h1); (first | rfl | (go_simp; done) | (go_simp; rfl) | (go_at_call 22; refine (rput_any _ _ _ _ _ (hl _ (List.getElem_mem _)).1 (hl _ (List.getElem_mem _)).2.1 (hl _ (List.getElem_mem _)).2.2.1 (hl _ (List.getElem_mem _)).2.2.2 hu (hv _ (List.getElem_mem _))).mono ?_; rintro e w2 ⟨rfl, hb⟩; exact ⟨rfl, h1.trans hb⟩)))
                 clear hK K)
            refine wpQuiet_nil (fun w' hw' => ?_)
            have hW := Ext.trans2 hW (by repeat (first | exact Ext.refl _ | exact Ext.alloc _ _ | exact Ext.drewN _ _ | assumption | refine Ext.trans ?_ (Ext.alloc _ _) | refine Ext.trans ?_ (Ext.drew _) | refine Ext.trans ?_ (by assumption))) hw'
            try have hV := Ext.trans2 hV (by repeat (first | exact Ext.refl _ | exact Ext.alloc _ _ | exact Ext.drewN _ _ | assumption | refine Ext.trans ?_ (Ext.alloc _ _) | refine Ext.trans ?_ (Ext.drew _) | refine Ext.trans ?_ (by assumption))) hw'
            clear hw'
            go_wp2
            go_roundw
            case rel =>
              refine ⟨j + 1, by omega, by go_num, by rw [S.out], fun k h h' hk => ?_, hW⟩
              by_cases e : k = j
              · subst e; exact F.out
              · exact FT.out k h h' (by omega)
            case measure => simp [intOf]; omega
        · have e : j = l.length := by omega
          have OK : JoinOk l vs := ⟨HN.out, AP.out, fun k h h' _ => FT.out k h h' (by omega)⟩
          have e1 : l.take j = l := List.take_of_length_le (by omega)
          have hn2 := HN.out
          have e2 : vs.take j = vs := List.take_of_length_le (by omega)
          rw [e1, e2]
          have R := hide (join_yes OK)
          clear e1 e2 hn2 e OK
          go_wp2
          go_ret2
          exact ⟨by rw [← R.out]; rfl, (hX0.trans (hW.trans (by repeat (first | exact Ext.refl _ | exact Ext.alloc _ _ | exact Ext.drewN _ _ | assumption | refine Ext.trans ?_ (Ext.alloc _ _) | refine Ext.trans ?_ (Ext.drew _) | refine Ext.trans ?_ (by assumption)))))⟩
  · have hne : ((l.length : Int) != (vs.length : Int)) = true := by rw [bne_iff_ne]; omega
    have R := hide (join_no (l := l) (vs := vs) fun h => hn h.1)
    clear hn
    go_enter Try.func26, Try.ntmps26
    go_wp2
    go_ret2
    exact ⟨by rw [← R.out]; rfl, (hX0.trans (hW.trans (by repeat (first | exact Ext.refl _ | exact Ext.alloc _ _ | exact Ext.drewN _ _ | assumption | refine Ext.trans ?_ (Ext.alloc _ _) | refine Ext.trans ?_ (Ext.drew _) | refine Ext.trans ?_ (by assumption)))))⟩
end Go.Proofs.Ytcofnmkemnmhaaa
