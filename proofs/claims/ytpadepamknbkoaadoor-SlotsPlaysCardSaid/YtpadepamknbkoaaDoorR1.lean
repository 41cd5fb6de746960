/- The document's table behind a pointer: its block, its slots' row; first, Count, Mine. -/
import Derived.Test.YtpadepamknbkoaaDoorS1
namespace Go.Proofs.YtpadepamknbkoaaDoor
open Go.RowKit
set_option linter.unusedSimpArgs false
set_option linter.unusedVariables false

abbrev TR : List TypeId := [29, 76]
def qc (x : Pl) : List Value := [.int .i64 x.a, .int .i64 x.t, .int .i64 x.c, .int .u32 x.g]
def qcells (l : List Pl) : List Value := l.flatMap qc
theorem qcells_length (l : List Pl) : (qcells l).length = l.length * 4 := by
  induction l with
  | nil => rfl
  | cons p l ih => simp only [qcells, qc, List.flatMap_cons, List.length_append, List.length_cons, List.length_nil] at ih ⊢; omega
theorem qcells_at (l : List Pl) (k i : Nat) (hk : k < l.length) (hi : i < 4) : (qcells l)[k * 4 + i]? = (qc l[k])[i]? := by
  induction l generalizing k with
  | nil => simp at hk
  | cons p l ih =>
    have e0 : (qc p).length = 4 := rfl
    cases k with
    | zero =>
      unfold qcells
      rw [List.flatMap_cons, List.getElem?_append_left (by rw [e0]; omega)]
      simp
    | succ k =>
      have := ih k (by simpa using hk)
      unfold qcells at this ⊢
      rw [List.flatMap_cons, List.getElem?_append_right (by rw [e0]; omega), e0, show (k + 1) * 4 + i - 4 = k * 4 + i by omega, this]
      rfl
theorem qcells_set (l : List Pl) (k i : Nat) (v : Value) (x : Pl) (hk : k < l.length) (hi : i < 4) (he : (qc l[k]).set i v = qc x) : (qcells l).set (k * 4 + i) v = qcells (l.set k x) := by
  induction l generalizing k with
  | nil => simp at hk
  | cons p l ih =>
    have e0 : (qc p).length = 4 := rfl
    cases k with
    | zero =>
      unfold qcells
      rw [List.flatMap_cons, List.set_append_left _ _ (by rw [e0]; omega), List.set_cons_zero, List.flatMap_cons]
      have he : (qc p).set i v = qc x := he
      rw [show 0 * 4 + i = i by omega, he]
    | succ k =>
      have := ih k (by simpa using hk) he
      unfold qcells at this ⊢
      rw [List.flatMap_cons, List.set_append_right (h := by rw [e0]; omega), e0, show (k + 1) * 4 + i - 4 = k * 4 + i by omega, this, List.set_cons_succ, List.flatMap_cons]
/-- The document's table at block R. -/
structure RefT (w : World) (B R : Nat) (S : TS) : Prop where
  lo : B ≤ R
  row : ∃ r c, Blk w R #[.int .i64 (S.b : Int), .int .i64 (S.N : Int), .slice (some ⟨r, 0, none⟩) S.L.length c] 29 ∧ w.ownsRow B 76 4 (.slice (some ⟨r, 0, none⟩) S.L.length c) S.L.length (qcells S.L)
section
variable {w w' : World} {B R : Nat} {S : TS}
theorem RefT.ext (h : RefT w B R S) (x : Ext w w') : RefT w' B R S := by
  obtain ⟨h0, r, c, hb, ho⟩ := h
  exact ⟨h0, r, c, hb.ext x, own_ext ho x⟩
theorem RefT.kp {ts : List TypeId} {B' : Nat} (h : RefT w B R S) (x : Kp ts B' w w') (h1 : 29 ∉ ts) (h2 : 76 ∉ ts) : RefT w' B R S := by
  obtain ⟨h0, r, c, hb, ho⟩ := h
  exact ⟨h0, r, c, x.blk hb h1, x.own ho h2⟩
theorem RefT.at_ {k : Nat} (h : RefT w B R S) : ∃ r c, (∀ wx, Ext w wx → wx.cell? ⟨R, 0, none⟩ = some (.int .i64 (S.b : Int)) ∧ wx.cell? ⟨R, 1, none⟩ = some (.int .i64 (S.N : Int)) ∧ wx.cell? ⟨R, 2, none⟩ = some (.slice (some ⟨r, 0, none⟩) S.L.length c)) ∧
    (k < S.L.length → ∀ wx, Ext w wx → wx.cell? ⟨r, k * 4, none⟩ = some (.int .i64 (S.p k).a) ∧ wx.cell? ⟨r, k * 4 + 1, none⟩ = some (.int .i64 (S.p k).t) ∧ wx.cell? ⟨r, k * 4 + 2, none⟩ = some (.int .i64 (S.p k).c) ∧ wx.cell? ⟨r, k * 4 + 3, none⟩ = some (.int .u32 (S.p k).g)) := by
  obtain ⟨h0, r, c, hb, ho⟩ := h
  refine ⟨r, c, fun wx x => ⟨(hb.ext x).cell 0, (hb.ext x).cell 1, (hb.ext x).cell 2⟩, fun hk wx x => ?_⟩
  have ho2 := own_ext ho x
  have hp : S.L[k] = S.p k := by
    have := TS.p_at hk
    rw [List.getElem?_eq_getElem hk] at this
    exact Option.some.inj this
  have q : ∀ i, i < 4 → wx.cell? ⟨r, k * 4 + i, none⟩ = (qc (S.p k))[i]? := fun i hi => by
    rw [World.ownsRow.cellAt ho2 (k * 4 + i) (by omega), qcells_at S.L k i hk hi, hp]
  exact ⟨q 0 (by omega), q 1 (by omega), q 2 (by omega), q 3 (by omega)⟩
def isT (z : Int) : Bool := decide (0 ≤ z ∧ z < 256)
theorem ris_any (z : Int) (w : World) : Calls Tryd.prog 27 #[.int .i64 z] w fun e w' => e = .returned (.bool (isT z)) ∧ w = w' := by
  by_cases h0 : 0 ≤ z
  · by_cases h1 : z < 256
    · have E := hide (show isT z = true by unfold isT; simp [h0, h1])
      go_enter Tryd.func27, Tryd.ntmps27
      go_wp2
      go_ret
      exact ⟨by rw [E.out]; simp, rfl⟩
    · have E := hide (show isT z = false by unfold isT; simp; omega)
      go_enter Tryd.func27, Tryd.ntmps27
      go_wp2
      go_ret
      exact ⟨by rw [E.out]; simp, rfl⟩
  · have E := hide (show isT z = false by unfold isT; simp; omega)
    go_enter Tryd.func27, Tryd.ntmps27
    go_wp2
    go_ret
    exact ⟨by rw [E.out]; simp, rfl⟩
/-- The first slot that is somewhere. -/
def FirI (S : TS) (a : Int) (v : Int) : Prop := (v = -1 ∧ ∀ i, i < S.L.length → (S.p i).a ≠ a) ∨ ∃ k : Nat, v = (k : Int) ∧ k < S.L.length ∧ (S.p k).a = a ∧ ∀ i, i < k → (S.p i).a ≠ a
set_option maxRecDepth 100000 in
theorem rfirst_any (a : Int) (h : RefT w B R S) (ok : Ok S) : Calls Tryd.prog 31 #[.pointer (some ⟨R, 0, none⟩), .int .i64 a] w fun e w' => ∃ v, e = .returned (.int .i64 v) ∧ FirI S a v ∧ w = w' := by
  have H := hide h
  have hn1 := ok.n1
  clear h ok
  go_enter Tryd.func31, Tryd.ntmps31
  go_wp2_with fail
  go_loop [5] (fun i => ∃ j : Nat, j ≤ S.L.length ∧ i = .int .i64 (j : Int) ∧ ∀ k, k < j → (S.p k).a ≠ a) (fun i => S.L.length - (intOf i).toNat)
  case atStart => exact ⟨0, by omega, rfl, fun k hk => by omega⟩
  case round =>
    obtain ⟨j, hj, rfl, hno⟩ := hrel
    have HN := hide hno
    clear hno
    obtain ⟨r, c, q1, q2⟩ := H.out.at_ (k := j)
    have c2 := (q1 w (Ext.refl w)).2.2
    by_cases hlt : j < S.L.length
    · have c0 := (q2 hlt w (Ext.refl w)).1
      clear q1 q2
      by_cases he : (S.p j).a = a
      · have HE := hide he
        have E0 : ((S.p j).a == a) = true := by simpa using he
        clear he
        go_wp2_with fail
        go_ret
        exact ⟨_, rfl, .inr ⟨j, rfl, hlt, HE.out, HN.out⟩, rfl⟩
      · have E0 : ((S.p j).a == a) = false := by simpa using he
        go_wp2_with fail
        go_round
        case rel => exact ⟨j + 1, by omega, by go_num, fun k hk => by
          by_cases e : k = j
          · rw [e]; exact he
          · exact HN.out k (by omega)⟩
        case measure => simp [intOf]; omega
    · obtain rfl : j = S.L.length := by omega
      clear q1 q2
      go_wp2_with fail
      go_ret
      exact ⟨_, rfl, .inl ⟨rfl, HN.out⟩, rfl⟩
def cntP (S : TS) (a : Int) (j : Nat) : Nat := (List.range j).countP fun i => (S.p i).a == a
theorem cntP_le (S : TS) (a : Int) (j : Nat) : cntP S a j ≤ j := by
  have := List.countP_le_length (p := fun i : Nat => (S.p i).a == a) (l := List.range j)
  rwa [List.length_range] at this
theorem cntP_s (S : TS) (a : Int) (j : Nat) : cntP S a (j + 1) = cntP S a j + if (S.p j).a = a then 1 else 0 := by
  unfold cntP; rw [List.range_succ, List.countP_append]
  by_cases q : (S.p j).a = a <;> simp [q]
set_option maxRecDepth 100000 in
theorem rcount_any (a : Int) (h : RefT w B R S) (ok : Ok S) : Calls Tryd.prog 33 #[.pointer (some ⟨R, 0, none⟩), .int .i64 a] w fun e w' => e = .returned (.int .i64 (S.cnt a : Nat)) ∧ w = w' := by
  have H := hide h
  have hn1 := ok.n1
  have E := hide (show cntP S a S.L.length = S.cnt a from rfl)
  clear h ok
  go_enter Tryd.func33, Tryd.ntmps33
  go_wp2_with fail
  go_loop [5, 6] (fun v i => ∃ j : Nat, j ≤ S.L.length ∧ i = .int .i64 (j : Int) ∧ v = .int .i64 (cntP S a j : Nat)) (fun _ i => S.L.length - (intOf i).toNat)
  case atStart => exact ⟨0, by omega, rfl, rfl⟩
  case round =>
    obtain ⟨j, hj, rfl, rfl⟩ := hrel
    obtain ⟨r, c, q1, q2⟩ := H.out.at_ (k := j)
    have c2 := (q1 w (Ext.refl w)).2.2
    have hle := cntP_le S a j
    by_cases hlt : j < S.L.length
    · have c0 := (q2 hlt w (Ext.refl w)).1
      have hs := cntP_s S a j
      clear q1 q2
      by_cases he : (S.p j).a = a
      · have E0 : ((S.p j).a == a) = true := by simpa using he
        rw [if_pos he] at hs
        have HS := hide hs
        clear he hs
        generalize cntP S a j = y at *
        go_wp2_with fail
        go_round
        case rel => exact ⟨j + 1, by omega, by go_num, by rw [HS.out]; go_num⟩
        case measure => simp [intOf]; omega
      · have E0 : ((S.p j).a == a) = false := by simpa using he
        rw [if_neg he] at hs
        have HS := hide hs
        clear he hs
        generalize cntP S a j = y at *
        go_wp2_with fail
        go_round
        case rel => exact ⟨j + 1, by omega, by go_num, by rw [HS.out]; rfl⟩
        case measure => simp [intOf]; omega
    · obtain rfl : j = S.L.length := by omega
      clear q1 q2
      rw [E.out]
      go_wp2_with fail
      go_ret
      exact ⟨rfl, rfl⟩

/-- What a round of Mine has told. -/
def mineP (S : TS) (t : Int) (c i : Nat) : List Nat := ((List.range c).flatMap fun c => S.row t c) ++ (List.range i).filter fun i => isO (S.p i) t c
theorem mineP_0 (S : TS) (t : Int) (c : Nat) : mineP S t (c + 1) 0 = mineP S t c S.L.length := by
  unfold mineP
  rw [List.range_succ, List.flatMap_append, List.flatMap_singleton]
  simp [TS.row]
theorem mineP_yes {S : TS} {t : Int} {c i : Nat} (h : isO (S.p i) t c = true) : mineP S t c (i + 1) = mineP S t c i ++ [i] := by
  unfold mineP
  rw [List.range_succ (n := i), List.filter_append]
  simp [h]
theorem mineP_no {S : TS} {t : Int} {c i : Nat} (h : isO (S.p i) t c = false) : mineP S t c (i + 1) = mineP S t c i := by
  unfold mineP
  rw [List.range_succ (n := i), List.filter_append]
  simp [h]
theorem range_sub {m n : Nat} (h : m ≤ n) : (List.range m).Sublist (List.range n) := by
  obtain ⟨d, rfl⟩ : ∃ d, n = m + d := ⟨n - m, by omega⟩
  rw [List.range_add]
  exact List.sublist_append_left _ _
theorem mineP_le (S : TS) (t : Int) {c i : Nat} (hi : i ≤ S.L.length) : (mineP S t c i).length ≤ S.L.length := by
  have h1 : (mineP S t c i).Sublist (mineP S t c S.L.length) := by
    unfold mineP
    exact List.Sublist.append (List.Sublist.refl _) (List.Sublist.filter _ (range_sub hi))
  have h2 : (mineP S t c S.L.length).Nodup := by
    rw [← mineP_0]
    unfold mineP
    rw [List.range_zero, List.filter_nil, List.append_nil]
    have := mine_nodup { S with N := c } t
    exact this
  exact nodup_range_le (h1.nodup h2) (fun x hx => by
    have hx := h1.subset hx
    unfold mineP TS.row at hx
    rcases List.mem_append.1 hx with q | q
    · obtain ⟨d, _, q⟩ := List.mem_flatMap.1 q
      exact List.mem_range.1 (List.mem_filter.1 q).1
    · exact List.mem_range.1 (List.mem_filter.1 q).1)
theorem isO_split (x : Pl) (t : Int) (c : Nat) : isO x t c = true ↔ x.a = 3 ∧ x.t = t ∧ x.c = c := by unfold isO; simp [and_assoc]
set_option maxRecDepth 100000 in
theorem rmine_any (t : Int) (h : RefT w B R S) (ok : Ok S) (hN : S.N ≤ 1000) : Calls Tryd.prog 28 #[.pointer (some ⟨R, 0, none⟩), .int .i64 t] w fun e w' => ∃ v, e = .returned v ∧ w'.ownsRow w.heap.size 3 1 v (S.mine t).length ((S.mine t).map enI) ∧ Ext w w' := by
  have H := hide h
  have hn1 := ok.n1
  have E := hide (show mineP S t (S.N + 1) 0 = S.mine t by unfold mineP TS.mine; simp)
  clear h ok
  go_enter Tryd.func28, Tryd.ntmps28
  go_wp2_with fail
  go_loopw [5, 6] (fun v i wr => ∃ c : Nat, c ≤ S.N + 1 ∧ i = .int .i64 (c : Int) ∧ wr.ownsRow w.heap.size 3 1 v (mineP S t c 0).length ((mineP S t c 0).map enI) ∧ Ext w wr) (fun _ i _ => S.N + 1 - (intOf i).toNat)
  case atStart => exact ⟨0, by omega, rfl, own_nil _ _ _ _, Ext.refl _⟩
  case round =>
    obtain ⟨c, hc, rfl, hown, hX⟩ := hrel
    obtain ⟨A1, c1, rfl⟩ := own_sl hown
    obtain ⟨r, cc, q1, _⟩ := H.out.at_ (k := 0)
    have d1 := (q1 wr hX).2.1
    have HO := hide hown
    have HX := hide hX
    clear hown hX
    by_cases hlt : c < S.N + 1
    · go_wp2_with fail
      go_loopw [5, 7] (fun v i wr => ∃ i' : Nat, i' ≤ S.L.length ∧ i = .int .i64 (i' : Int) ∧ wr.ownsRow w.heap.size 3 1 v (mineP S t c i').length ((mineP S t c i').map enI) ∧ Ext w wr) (fun _ i _ => S.L.length - (intOf i).toNat)
      case atStart => exact ⟨0, by omega, rfl, HO.out, HX.out⟩
      case round =>
        clear HO HX
        obtain ⟨i, hi, rfl, hown, hX⟩ := hrel
        obtain ⟨A1, c1, rfl⟩ := own_sl hown
        obtain ⟨r, cc, q1, q2⟩ := H.out.at_ (k := i)
        have d2 := (q1 wr hX).2.2
        have hle := mineP_le S t (c := c) hi
        have HO := hide hown
        have HX := hide hX
        clear hown hX d1 q1
        by_cases hlt2 : i < S.L.length
        · obtain ⟨x0, x1, x2, x3⟩ := q2 hlt2 wr HX.out
          clear q2 x3
          by_cases e0 : (S.p i).a = 3
          · by_cases e1 : (S.p i).t = t
            · by_cases e2 : (S.p i).c = (c : Int)
              · have Y := hide (mineP_yes ((isO_split (S.p i) t c).2 ⟨e0, e1, e2⟩))
                rw [e0] at x0
                rw [e1] at x1
                rw [e2] at x2
                clear e0 e1 e2
                go_wp2_with (first
                  | (at_builtin; refine wpList_app1 (W0 := w) rfl rfl Tryd.underlying51 inf_int rfl (by omega) rfl HO.out HX.out rfl rfl rfl (by simp [Value.oneCell']) (by unfold maxLen; omega) (by omega) ?_; intro v' w3 hown' hW3; go_frame)
                  | go_in)
                go_roundw
                case rel => exact ⟨i + 1, by omega, by go_num, by rw [Y.out, List.length_append, List.map_append]; exact hown', hW3⟩
                case measure => simp [intOf]; omega
              · have Y := hide (mineP_no (S := S) (t := t) (c := c) (i := i) (Bool.eq_false_iff.2 fun q => e2 ((isO_split _ _ _).1 q).2.2))
                have E2 : ((S.p i).c == (c : Int)) = false := by simpa using e2
                rw [e0] at x0
                rw [e1] at x1
                clear e0 e1 e2
                go_wp2_with fail
                go_roundw
                case rel => exact ⟨i + 1, by omega, by go_num, by rw [Y.out]; exact HO.out, HX.out⟩
                case measure => simp [intOf]; omega
            · have Y := hide (mineP_no (S := S) (t := t) (c := c) (i := i) (Bool.eq_false_iff.2 fun q => e1 ((isO_split _ _ _).1 q).2.1))
              have E1 : ((S.p i).t == t) = false := by simpa using e1
              rw [e0] at x0
              clear e0 e1
              go_wp2_with fail
              go_roundw
              case rel => exact ⟨i + 1, by omega, by go_num, by rw [Y.out]; exact HO.out, HX.out⟩
              case measure => simp [intOf]; omega
          · have Y := hide (mineP_no (S := S) (t := t) (c := c) (i := i) (Bool.eq_false_iff.2 fun q => e0 ((isO_split _ _ _).1 q).1))
            have E0 : ((S.p i).a == 3) = false := by simpa using e0
            clear e0
            go_wp2_with fail
            go_roundw
            case rel => exact ⟨i + 1, by omega, by go_num, by rw [Y.out]; exact HO.out, HX.out⟩
            case measure => simp [intOf]; omega
        · obtain rfl : i = S.L.length := by omega
          clear q2
          go_wp2_with fail
          go_roundw
          case rel => exact ⟨c + 1, by omega, by go_num, by rw [mineP_0]; exact HO.out, HX.out⟩
          case measure => simp [intOf]; omega
    · obtain rfl : c = S.N + 1 := by omega
      have HO2 := HO.out
      rw [E.out] at HO2
      clear HO
      have hlen : (mineP S t (S.N + 1) 0).length = (S.mine t).length := by rw [E.out]
      rw [hlen]
      clear hlen
      go_wp2_with fail
      go_ret
      exact ⟨_, rfl, HO2, HX.out⟩
end
end Go.Proofs.YtpadepamknbkoaaDoor
