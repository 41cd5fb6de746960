/- The calls, each by one spec; what the laws of layer 12 share: a queue that is alive; steps that are not too many; lists held against each other. -/
import Derived.Test.YtnmegokppbdhdaaD2
import Derived.Test.YtnmegokppbdhdaaR1
import Derived.Test.YtnmegokppbdhdaaOpens
import Derived.Deep.Strs
import Derived.ChangeSame
namespace Go.Proofs.Ytnmegokppbdhdaa
set_option maxRecDepth 100000
open Go.ChangeShapes Go.WideShapes Go.ChangeAt Go.RowKit Go.Deep Go.Joins
set_option linter.unusedVariables false
set_option linter.unusedSimpArgs false

theorem append_any {w : World} {A : Option Addr} {c : Nat} {l : List Int} (t : Int) (h : Row w A l.length c l) (ok : OkQ l) :
    Calls Try.prog 10 #[(Value.agg #[.slice A l.length c]), .int .i64 t] w fun e w' => ∃ A' c', e = .returned (.tuple #[(Value.agg #[.slice A' (apL l t).length c']), .bool (apB l t)]) ∧ Row w' A' (apL l t).length c' (apL l t) ∧ Ext w w' ∧ (∀ b off, A' = some ⟨b, off, none⟩ → A' = A ∨ w.heap.size ≤ b) := by
  cases e : apB l t with
  | false => rw [apL_no e]; exact (append_no h ok e).mono fun e w' ⟨h1, h2⟩ => ⟨A, c, h1, h.ext h2, h2, fun _ _ _ => .inl rfl⟩
  | true =>
    rw [apL_yes e]
    refine (append_yes h ok e).mono fun e w' ⟨A', c', h1, h2, h3, h4⟩ => ⟨A', c', ?_, ?_, h3, fun b off e => .inr (h4 b off e)⟩
    · simpa using h1
    · simpa using h2
theorem rappend_any {w : World} {A : Option Addr} {c : Nat} {l : List Int} (t : Int) (h : Row w A l.length c l) (ok : OkQ l) :
    Calls Try.prog 11 #[.slice A l.length c, .int .i64 t] w fun e w' => ∃ A' c', e = .returned (.tuple #[.slice A' (apL l t).length c', .bool (apB l t)]) ∧ Row w' A' (apL l t).length c' (apL l t) ∧ Ext w w' := by
  cases e : apB l t with
  | false => rw [apL_no e]; exact (rappend_no h ok e).mono fun e w' ⟨h1, h2⟩ => ⟨A, c, h1, by rw [← h2]; exact h, by rw [← h2]; exact Ext.refl _⟩
  | true =>
    rw [apL_yes e]
    refine (rappend_yes h ok e).mono fun e w' ⟨A', c', h1, h2, h3⟩ => ⟨A', c', ?_, ?_, h3⟩
    · simpa using h1
    · simpa using h2
theorem remove_any {w : World} {A : Option Addr} {c : Nat} {l : List Int} (t : Int) (h : Row w A l.length c l) (ok : OkQ l) :
    Calls Try.prog 15 #[(Value.agg #[.slice A l.length c]), .int .i64 t] w fun e w' => ∃ A' c', e = .returned (.tuple #[(Value.agg #[.slice A' (rmL l t).length c']), .bool (hasQ l t)]) ∧ Row w' A' (rmL l t).length c' (rmL l t) ∧ Ext w w' := by
  by_cases hm : t ∈ l
  · rw [show hasQ l t = true from decide_eq_true hm]
    exact remove_yes h ok hm
  · rw [show hasQ l t = false from decide_eq_false hm, rmL_no hm]
    exact (remove_no h ok hm).mono fun e w' ⟨h1, h2⟩ => ⟨A, c, h1, h.ext h2, h2⟩
def hdQ (l : List Int) : Int := l.headD (-1)
def neQ (l : List Int) : Bool := decide (0 < l.length)
theorem pop_any {w : World} {A : Option Addr} {c : Nat} {l : List Int} (h : Row w A l.length c l) (ok : OkQ l) :
    Calls Try.prog 14 #[(Value.agg #[.slice A l.length c])] w fun e w' => ∃ A' c', e = .returned (.tuple #[.int .i64 (hdQ l), (Value.agg #[.slice A' l.tail.length c']), .bool (neQ l)]) ∧ Row w' A' l.tail.length c' l.tail ∧ Ext w w' := by
  cases l with
  | nil => exact (pop_nil A c w).mono fun e w' ⟨h1, h2⟩ => ⟨A, c, h1, h.ext h2, h2⟩
  | cons x l =>
    have hl := ok.len
    exact (pop_cons h (by simp at hl; omega)).mono fun e w' ⟨A', h1, h2, h3⟩ => ⟨A', c - 1, h1, h2, h3⟩
theorem OkQ.tail {l : List Int} (h : OkQ l) : OkQ l.tail := by
  cases l with
  | nil => exact h
  | cons x l => exact h.tl
theorem alive_any (w : World) : Calls Try.prog 8 #[] w fun e w' => e = .returned (.bool true) ∧ Ext w w' := by
  have hd : Calls Try.prog 12 #[(Value.agg #[.slice none 0 0]), .slice (some ⟨w.heap.size, 0, none⟩) 3 3] (w.alloc (.cells #[.int .i64 3, .int .i64 2, .int .i64 1] 3)) fun e w' => ∃ A' c', e = .returned (.tuple #[(Value.agg #[.slice A' 3 c']), .int .i64 3]) ∧ Row w' A' 3 c' [1, 2, 3] ∧ Ext (w.alloc (.cells #[.int .i64 3, .int .i64 2, .int .i64 1] 3)) w' := by
    have := drain_any (w := w.alloc (.cells #[.int .i64 3, .int .i64 2, .int .i64 1] 3)) (l := []) (ch := [3, 2, 1]) (A := none) (c := 0) (C := some ⟨w.heap.size, 0, none⟩) (c2 := 3) (Row.nil _) okq_nil
      (.inr ⟨w.heap.size, 0, rfl, by simp, fun j hj => by
        have hb := (Blk.new w #[.int .i64 3, .int .i64 2, .int .i64 1] 3).cell
        rw [Nat.zero_add, hb]
        match j, hj with
        | 0, _ => rfl
        | 1, _ => rfl
        | 2, _ => rfl⟩) (by decide) (by intro j hj; match j, hj with | 0, _ => rfl | 1, _ => rfl | 2, _ => rfl)
    rw [show drL [] [3, 2, 1] = [1, 2, 3] by decide, show drN [] [3, 2, 1] = 3 by decide] at this
    exact this
  go_enter Try.func8, Try.ntmps8
  go_wp2_with fail
  refine hd.mono ?_
  rintro e w1 ⟨A1, c1, rfl, hr, hx⟩
  have hX := (Ext.alloc w _).trans hx
  clear hd hx
  have hp := pop_any (w := w1.alloc (.cells #[.slice A1 3 c1] 27)) (l := [1, 2, 3]) (hr.ext (Ext.alloc _ _)) ⟨by decide, by decide⟩
  simp only [List.length_cons, List.length_nil, Nat.zero_add, Nat.reduceAdd, List.tail_cons] at hp
  rw [show hdQ [1, 2, 3] = 1 from rfl, show neQ [1, 2, 3] = true from rfl] at hp
  go_wp2_with fail
  refine hp.mono ?_
  rintro e w2 ⟨A2, c2, rfl, hr2, hx2⟩
  have r1 := ((Blk.new w1 #[.slice A1 3 c1] 27).ext hx2).rule
  have r2 := (Blk.new w2 #[.slice A2 2 c2] 27).rule
  have r1' := fun w' (x : Ext (w2.alloc (.cells #[.slice A2 2 c2] 27)) w') => r1 w' ((Ext.alloc _ _).trans x)
  have e1 := fun o => Ext.alloc (w2.alloc (.cells #[.slice A2 2 c2] 27)) o
  have e0 := Ext.refl (w2.alloc (.cells #[.slice A2 2 c2] 27))
  have HX := hide (((hX.trans (Ext.alloc _ _)).trans hx2).trans (Ext.alloc _ (.cells #[.slice A2 2 c2] 27)))
  clear hp hX r1 hr hr2 hx2
  go_wp2_with (first | (go_at_call 19; refine (len_any _ _ _ _).mono ?_; rintro e w6 ⟨rfl, rfl⟩))
  go_ret
  exact ⟨by simp, (HX.out.trans (Ext.alloc _ _)).trans (Ext.alloc _ _)⟩
theorem short_any (A : Option Addr) (n c : Nat) (w : World) (hn : n ≤ c) (hc : c ≤ maxLen) :
    Calls Try.prog 9 #[.slice A n c] w fun e w' => e = .returned (.slice A (min n 100) c) ∧ w = w' := by
  unfold maxLen at hc
  by_cases h : n ≤ 100
  · have h1 : (n : Int) ≤ 100 := by omega
    have E := hide (show min n 100 = n by omega)
    go_enter Try.func9, Try.ntmps9
    go_wp2
    go_ret
    exact ⟨by rw [E.out]; simp <;> omega, rfl⟩
  · have h1 : ¬ (n : Int) ≤ 100 := by omega
    have E := hide (show min n 100 = 100 by omega)
    have h2 : 100 ≤ c := by omega
    go_enter Try.func9, Try.ntmps9
    go_wp2
    go_ret
    exact ⟨by rw [E.out]; simp <;> omega, rfl⟩
/-- Two lists held against each other. -/
theorem same_any {w : World} {A1 A2 : Option Addr} {c1 c2 : Nat} {l : List Int} (h1 : Ch w A1 l) (h2 : Ch w A2 l) (hl : l.length ≤ 70000) :
    Calls Try.prog 17 #[.slice A1 l.length c1, .slice A2 l.length c2] w fun e w' => e = .returned (.bool true) ∧ Ext w w' := by
  have H1 := hide h1
  have H2 := hide h2
  have hW0 := Ext.refl w
  clear h1 h2
  go_enter Try.func17, Try.ntmps17
  go_wp2_with fail
  go_loopw [13] (fun i wr => ∃ j : Nat, j ≤ l.length ∧ i = .int .i64 (j : Int) ∧ Ext w wr) (fun i _ => l.length - (intOf i).toNat)
  case atStart => exact ⟨0, by omega, rfl, hW0⟩
  case round =>
    clear hW0
    obtain ⟨j, hj, rfl, hW0⟩ := hrel
    by_cases hlt : j < l.length
    · obtain ⟨b1, o1, rfl, r1⟩ := (H1.out.ext hW0).at_ hlt
      obtain ⟨b2, o2, rfl, r2⟩ := (H2.out.ext hW0).at_ hlt
      have E := hide (rfl : l[j] = l[j])
      generalize l[j] = q at *
      have HX := hide hW0
      have hW := Ext.refl wr
      go_wp2_with fail
      refine wp_region_ext (by kernel_rfl) (by kernel_rfl) ?_
      repeat
        with_reducible refine wpQuiet_step (fun K hK => ?_)
        go_simp
        first
        | (refine hK _ ?_; clear hK K)
        | (apply Exists.intro
           refine ⟨fun w1 h1 => ?_, hK _ ?_⟩
           (have hW := Ext.trans2 hW (by repeat (first | exact Ext.refl _ | exact Ext.alloc _ _ | exact Ext.drewN _ _ | assumption | refine Ext.trans ?_ (Ext.alloc _ _) | refine Ext.trans ?_ (Ext.drew _) | refine Ext.trans ?_ (by assumption))) h1; (try have hV := Ext.trans2 hV (by repeat (first | exact Ext.refl _ | exact Ext.alloc _ _ | exact Ext.drewN _ _ | assumption | refine Ext.trans ?_ (Ext.alloc _ _) | refine Ext.trans ?_ (Ext.drew _) | refine Ext.trans ?_ (by assumption))) h1); (first | rfl | (go_simp; done) | (go_simp; rfl) | fail))
           clear hK K)
      refine wpQuiet_nil (fun w' hw' => ?_)
      have hW := Ext.trans2 hW (by repeat (first | exact Ext.refl _ | exact Ext.alloc _ _ | exact Ext.drewN _ _ | assumption | refine Ext.trans ?_ (Ext.alloc _ _) | refine Ext.trans ?_ (Ext.drew _) | refine Ext.trans ?_ (by assumption))) hw'
      try have hV := Ext.trans2 hV (by repeat (first | exact Ext.refl _ | exact Ext.alloc _ _ | exact Ext.drewN _ _ | assumption | refine Ext.trans ?_ (Ext.alloc _ _) | refine Ext.trans ?_ (Ext.drew _) | refine Ext.trans ?_ (by assumption))) hw'
      clear hw'
      go_wp2_with fail
      go_roundw
      case rel => exact ⟨j + 1, by omega, by go_num, HX.out.trans hW⟩
      case measure => simp [intOf]; omega
    · obtain rfl : j = l.length := by omega
      go_wp2_with fail
      go_ret
      exact ⟨rfl, hW0⟩
/-- A step: its kind, its number, its chain. -/
structure Stp where
  k : Int
  n : Int
  a : Option Addr
  cp : Nat
  ch : List Int
instance : Inhabited Stp := ⟨⟨0, 0, none, 0, []⟩⟩
def sc (s : Stp) : Array Value := #[.int .u8 s.k, .int .i64 s.n, .slice s.a s.ch.length s.cp]
structure Okst (W : World) (s : Stp) : Prop where
  k0 : 0 ≤ s.k
  k1 : s.k ≤ 255
  n0 : (ky s.n).wf = true
  c : Ch W s.a s.ch
  len : s.ch.length ≤ s.cp
  cap : s.cp ≤ maxLen
  wf : ∀ j (h : j < s.ch.length), (ky s.ch[j]).wf = true
/-- The steps that a slice reads as. -/
def Stps (w : World) (A : Option Addr) (n : Nat) (f : Nat → Stp) : Prop :=
  ∀ k, k < n → ∃ b off, A = some ⟨b, off, none⟩ ∧ b < w.heap.size ∧ ∀ i, i < 3 → w.cell? ⟨b, off + (k * 3 + i), none⟩ = (sc (f k))[i]?
theorem Stps.rules {w : World} {n : Nat} {A : Option Addr} {f : Nat → Stp} (h : Stps w A n f) {k : Nat} (hk : k < n) :
    ∃ b off, A = some ⟨b, off, none⟩ ∧ (∀ w', Ext w w' → w'.cell? ⟨b, off + k * 3, none⟩ = some (.int .u8 (f k).k)) ∧ (∀ w', Ext w w' → w'.cell? ⟨b, off + k * 3 + 1, none⟩ = some (.int .i64 (f k).n)) ∧ (∀ w', Ext w w' → w'.cell? ⟨b, off + k * 3 + 2, none⟩ = some (.slice (f k).a (f k).ch.length (f k).cp)) := by
  obtain ⟨b, off, ha, hb, hc⟩ := h k hk
  refine ⟨b, off, ha, fun w' x => (x.oldCell _ _ hb).trans (hc 0 (by omega)), fun w' x => (x.oldCell _ _ hb).trans ?_, fun w' x => (x.oldCell _ _ hb).trans ?_⟩
  · rw [Nat.add_assoc]; exact hc 1 (by omega)
  · rw [Nat.add_assoc]; exact hc 2 (by omega)
def farN (f : Nat → Stp) : Nat → Nat
  | 0 => 0
  | k + 1 => farN f k + min (f k).ch.length 10000
theorem farN_le (f : Nat → Stp) (k : Nat) : farN f k ≤ 10000 * k := by
  induction k with
  | zero => simp [farN]
  | succ k ih => simp only [farN]; omega
theorem farN_one (f : Nat → Stp) {m : Nat} : ∀ {k : Nat}, k < m → min (f k).ch.length 10000 ≤ farN f m := by
  induction m with
  | zero => intro k h; omega
  | succ m ih =>
    intro k h
    simp only [farN]
    by_cases e : k = m
    · subst e; omega
    · have := ih (k := k) (by omega); omega
set_option maxHeartbeats 1000000 in
theorem far_any {w : World} {A : Option Addr} {n c : Nat} {f : Nat → Stp} (hs : Stps w A n f) (hf : ∀ k, k < n → Okst w (f k)) (hn : n ≤ c) (hc : c ≤ maxLen) {m : Nat} (hm : m = min n 100) :
    Calls Try.prog 7 #[.slice A n c] w fun e w' => e = .returned (.bool (decide (500 < farN f m))) ∧ Ext w w' := by
  have HF := hide hf
  have hX := Ext.refl w
  clear hf
  go_enter Try.func7, Try.ntmps7
  go_wp2_with fail
  refine (short_any A n c _ hn hc).mono ?_
  rintro e w2 ⟨rfl, rfl⟩
  rw [← hm]
  have HN := hide (show m ≤ n by omega)
  have HN2 := hide (show m ≤ 100 by omega)
  clear hm
  go_wp2_with fail
  go_loopw [3, 9] (fun v i wr => ∃ j : Nat, j ≤ m ∧ v = .int .i64 (farN f j : Int) ∧ i = .int .i64 (j : Int) ∧ Ext w wr) (fun _ i _ => m - (intOf i).toNat)
  case atStart => exact ⟨0, by omega, rfl, rfl, hX⟩
  case round =>
    clear hX
    obtain ⟨j, hj, rfl, rfl, hX⟩ := hrel
    by_cases hlt : j < m
    · have hj2 : j < n := by have := HN.out; omega
      obtain ⟨b, off, rfl, r0, r1, r2⟩ := hs.rules hj2
      have ok := HF.out j hj2
      have hF := farN_le f j
      have hlen := ok.len
      have hcap := ok.cap
      unfold maxLen at hcap
      have E := hide (show farN f (j + 1) = farN f j + min (f j).ch.length 10000 from rfl)
      have HM2 := HN2.out
      obtain ⟨x, hx⟩ : ∃ x, x = f j := ⟨_, rfl⟩
      rw [← hx] at r0 r1 r2 E hlen
      clear ok hx
      have r0 := r0 wr hX
      have r1 := r1 wr hX
      have r2 := r2 wr hX
      have HX := hide hX
      clear hX
      by_cases hb : (x.ch.length : Int) ≤ 10000
      · have EM := hide (show min x.ch.length 10000 = x.ch.length by omega)
        go_wp2_with fail
        go_roundw
        case rel => exact ⟨j + 1, by omega, by rw [E.out, EM.out]; go_num, by go_num, HX.out.trans (Ext.alloc _ _)⟩
        case measure => simp [intOf]; omega
      · have EM := hide (show min x.ch.length 10000 = 10000 by omega)
        go_wp2_with fail
        go_roundw
        case rel => exact ⟨j + 1, by omega, by rw [E.out, EM.out]; go_num, by go_num, HX.out.trans (Ext.alloc _ _)⟩
        case measure => simp [intOf]; omega
    · obtain rfl : j = m := by omega
      have hF := farN_le f j
      go_wp2_with fail
      go_ret
      exact ⟨by simp; omega, hX⟩
end Go.Proofs.Ytnmegokppbdhdaa
