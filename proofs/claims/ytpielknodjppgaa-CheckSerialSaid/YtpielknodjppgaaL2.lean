/-
  A law of layer 23 holds of every input: CheckSerial. No condition.
-/
import Derived.Test.YtpielknodjppgaaVA
import Derived.Test.YtpielknodjppgaaGC
namespace Go.Proofs.Ytpielknodjppgaa
open Go.ChangeShapes Go.WideShapes Go.ChangeAt Go.RowKit Go.Deep Go.Joins
set_option linter.unusedVariables false
set_option linter.unusedSimpArgs false
set_option maxRecDepth 100000
set_option maxHeartbeats 8000000



/-- The first i of them have times of their own. -/
def reT (g : Nat → Cl) (i : Nat) : Nat → Cl := fun k => if k < i then { g k with f := 2 * (k : Int), u := 2 * (k : Int) + 1 } else g k
theorem reT_0 (g : Nat → Cl) : reT g 0 = g := by funext k; unfold reT; rw [if_neg (by omega)]
theorem reT_run (g : Nat → Cl) (i : Nat) (S : St) : ∀ j, run (reT g i) S j = run g S j
  | 0 => rfl
  | j + 1 => by
    show nxt (run (reT g i) S j) (reT g i j) = nxt (run g S j) (g j)
    rw [reT_run g i S j]
    unfold nxt reT
    split <;> rfl
theorem reT_acc (g : Nat → Cl) (i k : Nat) (S : St) : acc S (reT g i k) = acc S (g k) := by
  unfold acc reT
  split <;> rfl
/-- Cells of calls in a block of the law's own. -/
def RowC (w : World) (G n : Nat) (g : Nat → Cl) : Prop := ∃ cur, Blk w G cur 38 ∧ ∀ k, k < n → ∀ i, i < 7 → cur[k * 7 + i]? = (cc (g k))[i]?
theorem RowC.ext {w w' : World} {G n : Nat} {g : Nat → Cl} (h : RowC w G n g) (x : Ext w w') : RowC w' G n g := by
  obtain ⟨cur, hb, hc⟩ := h
  exact ⟨cur, hb.ext x, hc⟩
theorem RowC.cs {w : World} {G n : Nat} {g : Nat → Cl} (h : RowC w G n g) : Cs w w.heap.size (some ⟨G, 0, none⟩) n g := by
  obtain ⟨cur, hb, hc⟩ := h
  exact cs_blk hb hc
theorem RowC.set {w : World} {G n : Nat} {g : Nat → Cl} {k : Nat} (h : RowC w G n (reT g k)) (hk : k < n) : RowC ((w.setCell ⟨G, k * 7 + 5, none⟩ (.int .i64 (2 * (k : Int)))).setCell ⟨G, k * 7 + 6, none⟩ (.int .i64 (2 * (k : Int) + 1))) G n (reT g (k + 1)) := by
  obtain ⟨cur, hb, hc⟩ := h
  refine ⟨_, (hb.set (k * 7 + 5) _).set (k * 7 + 6) _, fun q hq i hi => ?_⟩
  have hs : k * 7 + 6 < cur.size := by
    have h6 := hc k hk 6 (by omega)
    rcases Nat.lt_or_ge (k * 7 + 6) cur.size with z | z
    · exact z
    · rw [Array.getElem?_eq_none z] at h6
      unfold cc at h6
      simp at h6
  rw [Array.getElem?_setIfInBounds, Array.getElem?_setIfInBounds]
  have h0 := hc q hq i hi
  by_cases e : q = k
  · subst e
    have er : reT g (q + 1) q = { g q with f := 2 * (q : Int), u := 2 * (q : Int) + 1 } := by unfold reT; rw [if_pos (by omega)]
    have e0 : reT g q q = g q := by unfold reT; rw [if_neg (by omega)]
    rw [er]
    rw [e0] at h0
    by_cases e6 : i = 6
    · subst e6
      rw [if_pos rfl, if_pos (by simpa using hs)]; rfl
    · rw [if_neg (by omega)]
      by_cases e5 : i = 5
      · subst e5
        rw [if_pos rfl, if_pos (by omega)]; rfl
      · rw [if_neg (by omega), h0]
        have hi : i = 0 ∨ i = 1 ∨ i = 2 ∨ i = 3 ∨ i = 4 := by omega
        rcases hi with rfl | rfl | rfl | rfl | rfl <;> rfl
  · have e1 : reT g (k + 1) q = reT g k q := by
      unfold reT
      by_cases z : q < k
      · rw [if_pos z, if_pos (by omega)]
      · rw [if_neg z, if_neg (by omega)]
    rw [if_neg (by omega), if_neg (by omega), e1]
    exact h0
theorem RowC.of {w : World} {base n c : Nat} {A : Option Addr} {g : Nat → Cl} (h : w.ownsRow base 38 7 (.slice A n c) n (ccl g n)) (hn : 0 < n) : ∃ G, A = some ⟨G, 0, none⟩ ∧ base ≤ G ∧ RowC w G n g ∧ n ≤ c ∧ c ≤ maxLen := by
  rcases h.2 with ⟨_, h0⟩ | ⟨G, cap, cur, e, hb, hh, h3, h4, h5, h6⟩
  · omega
  · cases e
    refine ⟨G, rfl, hb, ⟨cur, hh, fun k hk i hi => ?_⟩, h3, h4⟩
    have hlt : k * 7 + i < n * 7 := by
      have : (k + 1) * 7 ≤ n * 7 := Nat.mul_le_mul_right _ hk
      omega
    rw [← ccl_at g hk hi, ← h6, List.getElem?_take_of_lt hlt, Array.getElem?_toList]
theorem RowC.at_ {w : World} {G n : Nat} {g : Nat → Cl} (h : RowC w G n g) {k : Nat} (hk : k < n) : w.cell? ⟨G, k * 7 + 5, none⟩ = some (.int .i64 (g k).f) ∧ w.cell? ⟨G, k * 7 + 6, none⟩ = some (.int .i64 (g k).u) ∧ (∀ i, w.frozen? ⟨G, i, none⟩ = false) := by
  obtain ⟨cur, hb, hc⟩ := h
  exact ⟨by rw [hb.cell]; exact hc k hk 5 (by omega), by rw [hb.cell]; exact hc k hk 6 (by omega), hb.free⟩
theorem RowC.ok {g : Nat → Cl} {n i : Nat} (hok : ∀ k, k < n → OkC (g k)) (hn : n ≤ 12) : ∀ k, k < n → OkC (reT g i k) := fun k hk => by
  have h := hok k hk
  unfold reT
  split
  · exact ⟨h.k, h.t, h.o, h.a, h.r, wfI_of (by simp only; omega) (by simp only; omega), wfI_of (by simp only; omega) (by simp only; omega)⟩
  · exact h
theorem reT_at (g : Nat → Cl) {i j : Nat} (h : i < j) : reT g j i = reT g (i + 1) i := by unfold reT; rw [if_pos h, if_pos (by omega)]
theorem reT_u (g : Nat → Cl) {i j : Nat} (h : i < j) : (reT g j i).f = 2 * (i : Int) ∧ (reT g j i).u = 2 * (i : Int) + 1 := by unfold reT; rw [if_pos h]; exact ⟨rfl, rfl⟩
/-- What Can tells of them. -/
theorem can_tells {a b c : Int} {n m : Nat} {g : Nat → Cl} {ok : Bool} (h : SerR a b c n g m ok) (hm : m ≤ 12) (hM : ∀ i, i < m → mayC (reT g (i + 1) i) = true) :
    (decide (ordE a b c m (reT g m) = 0) && (ordP a b c m (reT g m)).isSome) = okN a b c ∧ ordE a b c m (reT g m) = (if okN a b c = true then 0 else 1) := by
  have hA : allM (reT g m) m = true := allM_iff.2 fun i hi => by rw [reT_at g hi]; exact hM i hi
  rcases h with ⟨h1, rfl, rfl⟩ | ⟨h1, h2⟩
  · have e : ordE a b c 0 (reT g 0) = 1 := by unfold ordE; rw [h1]; rfl
    rw [e, h1]; exact ⟨rfl, rfl⟩
  · have e : ordE a b c m (reT g m) = 0 := by unfold ordE; rw [h1, hA]; simp; omega
    have hp : ordP a b c m (reT g m) ≠ none := by
      unfold ordP
      rw [if_pos e]
      refine in_order (fun i hi => ?_) (fun i j hij hj => ?_)
      · rw [reT_run, reT_acc]; exact h2.1 i hi
      · rw [(reT_u g hj).2, (reT_u g (show i < m by omega)).1]; omega
    rw [e, h1]
    refine ⟨?_, rfl⟩
    cases q : ordP a b c m (reT g m) with
    | none => exact absurd q hp
    | some x => rfl
theorem lserial_far {a b c : Int} {A : Option Addr} {n cp : Nat} {w : World} (h : 12 < n) : Calls Try.prog 4 #[.agg #[Value.int .i64 a, .int .i64 b, .int .i64 c], .slice A n cp] w fun e w' => e = .returned (.bool true) ∧ Ext w w' := by
  have HX := hide (Ext.alloc w (.cells #[Value.int .i64 a, .int .i64 b, .int .i64 c] 22))
  have al := fun w => alive_any w
  have i1 : (12 : Int) < n := by omega
  go_enter Try.func4, Try.ntmps4
  go_wp2_with fail
  refine (al _).mono ?_
  rintro e w1 ⟨rfl, hx⟩
  go_wp2_with fail
  go_ret
  exact ⟨by simp, HX.out.trans hx⟩
theorem lserial_any {a b c : Int} {A : Option Addr} {n cp : Nat} {g : Nat → Cl} {w : World} (hn : n ≤ 12) (hncp : n ≤ cp) (hcm : cp ≤ maxLen) (h : Cs w w.heap.size A n g) (hok : ∀ k, k < n → OkC (g k)) :
    Calls Try.prog 4 #[.agg #[Value.int .i64 a, .int .i64 b, .int .i64 c], .slice A n cp] w fun e w' => e = .returned (.bool true) ∧ Ext w w' := by
  have H := hide h
  have HOK := hide hok
  have HS := hide (Blk.new w #[Value.int .i64 a, .int .i64 b, .int .i64 c] 22)
  have HX := hide (Ext.alloc w (.cells #[Value.int .i64 a, .int .i64 b, .int .i64 c] 22))
  clear h hok
  have i1 : ¬ (12 : Int) < n := by omega
  unfold maxLen at hcm
  go_enter Try.func4, Try.ntmps4
  go_upto_region 3 with fail
  generalize w.alloc (.cells #[Value.int .i64 a, .int .i64 b, .int .i64 c] 22) = W0 at *
  have hk := Ext.drew W0
  refine wp_region_held_drew (S := fun w' => w'.cell? ⟨w.heap.size, 0, none⟩ = some (.int .i64 a) ∧ w'.cell? ⟨w.heap.size, 1, none⟩ = some (.int .i64 b) ∧ w'.cell? ⟨w.heap.size, 2, none⟩ = some (.int .i64 c)) (by kernel_rfl) ⟨(HS.out.ext hk).cell 0, (HS.out.ext hk).cell 1, (HS.out.ext hk).cell 2⟩ (fun hHeld => ?_)
  (refine held_take (i := 0) (v := ?_) rfl (by kernel_rfl) (by kernel_rfl) (by kernel_rfl) (fun _ _ _ h => h) (by rfl) ?_ (by assumption) ?_; rotate_left; (intro w hSw; (try dsimp only at hSw); (first | (go_simp; done) | (go_simp; with_reducible rfl))); (try simp only [Act.put, List.setIfInBounds_toArray, List.set_cons_zero, List.set_cons_succ]))
  (refine held_take (i := 1) (v := ?_) rfl (by kernel_rfl) (by kernel_rfl) (by kernel_rfl) (fun _ _ _ h => h) (by rfl) ?_ (by assumption) ?_; rotate_left; (intro w hSw; (try dsimp only at hSw); (first | (go_simp; done) | (go_simp; with_reducible rfl))); (try simp only [Act.put, List.setIfInBounds_toArray, List.set_cons_zero, List.set_cons_succ]))
  (refine held_take (i := 2) (v := ?_) rfl (by kernel_rfl) (by kernel_rfl) (by kernel_rfl) (fun _ _ _ h => h) (by rfl) ?_ (by assumption) ?_; rotate_left; (intro w hSw; (try dsimp only at hSw); (first | (go_simp; done) | (go_simp; with_reducible rfl))); (try simp only [Act.put, List.setIfInBounds_toArray, List.set_cons_zero, List.set_cons_succ]))
  (refine held_take (i := 3) (v := ?_) rfl (by kernel_rfl) (by kernel_rfl) (by kernel_rfl) (fun _ _ _ h => h) (by rfl) ?_ (by assumption) ?_; rotate_left; (intro w hSw; (try dsimp only at hSw); (first | (go_simp; done) | (go_simp; with_reducible rfl))); (try simp only [Act.put, List.setIfInBounds_toArray, List.set_cons_zero, List.set_cons_succ]))
  (refine held_take (i := 4) (v := ?_) rfl (by kernel_rfl) (by kernel_rfl) (by kernel_rfl) (fun _ _ _ h => h) (by rfl) ?_ (by assumption) ?_; rotate_left; (intro w hSw; (try dsimp only at hSw); (first | (go_simp; done) | (go_simp; with_reducible rfl))); (try simp only [Act.put, List.setIfInBounds_toArray, List.set_cons_zero, List.set_cons_succ]))
  (refine held_take (i := 5) (v := ?_) rfl (by kernel_rfl) (by kernel_rfl) (by kernel_rfl) (fun _ _ _ h => h) (by rfl) ?_ (by assumption) ?_; rotate_left; (intro w hSw; (try dsimp only at hSw); (first | (go_simp; done) | (go_simp; with_reducible rfl))); (try simp only [Act.put, List.setIfInBounds_toArray, List.set_cons_zero, List.set_cons_succ]))
  (refine held_take (i := 6) (v := ?_) rfl (by kernel_rfl) (by kernel_rfl) (by kernel_rfl) (fun _ _ _ h => h) (by rfl) ?_ (by assumption) ?_; rotate_left; (intro w hSw; (try dsimp only at hSw); (first | (go_simp; done) | (go_simp; with_reducible rfl))); (try simp only [Act.put, List.setIfInBounds_toArray, List.set_cons_zero, List.set_cons_succ]))
  refine wpAnyH_ready (rs := [7]) (by kernel_rfl) (by simp) (held_cons rfl (fun K hK => ?_) AllReadyH.nil)
  rw [if_pos (by rfl)]
  go_simp
  go_at_call 8
  refine (theirs_any (H.out.ext (HX.out.trans hk) (Nat.le_refl _)) ((HX.out.trans hk).size) (by omega)).mono ?_
  rintro e w5 ⟨A5, c5, rfl, hr5, hx5⟩
  have hk := hk.trans hx5
  refine hK.out _ _ ⟨(HS.out.ext hk).cell 0, (HS.out.ext hk).cell 1, (HS.out.ext hk).cell 2⟩ (fun hHeld => ?_)
  (try simp only [Act.put, List.setIfInBounds_toArray, List.set_cons_zero, List.set_cons_succ])
  refine wpAnyH_ready (rs := [8]) (by kernel_rfl) (by simp) (held_cons rfl (fun K hK => ?_) AllReadyH.nil)
  rw [if_pos (by rfl)]
  go_simp
  go_at_call 13
  refine (serial_any HOK.out (by omega) (own_cs hr5) (Nat.le_refl _) a b c).mono ?_
  rintro e w6 ⟨m, ok, rfl, hser, hx6⟩
  have hk := hk.trans hx6
  refine hK.out _ _ ⟨(HS.out.ext hk).cell 0, (HS.out.ext hk).cell 1, (HS.out.ext hk).cell 2⟩ (fun hHeld => ?_)
  (try simp only [Act.put, List.setIfInBounds_toArray, List.set_cons_zero, List.set_cons_succ])
  (refine held_take (i := 9) (v := ?_) rfl (by kernel_rfl) (by kernel_rfl) (by kernel_rfl) (fun _ _ _ h => h) (by rfl) ?_ (by assumption) ?_; rotate_left; (intro w hSw; (try dsimp only at hSw); (first | (go_simp; done) | (go_simp; with_reducible rfl))); (try simp only [Act.put, List.setIfInBounds_toArray, List.set_cons_zero, List.set_cons_succ]))
  (refine held_take (i := 10) (v := ?_) rfl (by kernel_rfl) (by kernel_rfl) (by kernel_rfl) (fun _ _ _ h => h) (by rfl) ?_ (by assumption) ?_; rotate_left; (intro w hSw; (try dsimp only at hSw); (first | (go_simp; done) | (go_simp; with_reducible rfl))); (try simp only [Act.put, List.setIfInBounds_toArray, List.set_cons_zero, List.set_cons_succ]))
  (refine held_take (i := 11) (v := ?_) rfl (by kernel_rfl) (by kernel_rfl) (by kernel_rfl) (fun _ _ _ h => h) (by rfl) ?_ (by assumption) ?_; rotate_left; (intro w hSw; (try dsimp only at hSw); (first | (go_simp; done) | (go_simp; with_reducible rfl))); (try simp only [Act.put, List.setIfInBounds_toArray, List.set_cons_zero, List.set_cons_succ]))
  (refine held_take (i := 12) (v := ?_) rfl (by kernel_rfl) (by kernel_rfl) (by kernel_rfl) (fun _ _ _ h => h) (by rfl) ?_ (by assumption) ?_; rotate_left; (intro w hSw; (try dsimp only at hSw); (first | (go_simp; done) | (go_simp; with_reducible rfl))); (try simp only [Act.put, List.setIfInBounds_toArray, List.set_cons_zero, List.set_cons_succ]))
  (refine held_take (i := 13) (v := ?_) rfl (by kernel_rfl) (by kernel_rfl) (by kernel_rfl) (fun _ _ _ h => h) (by rfl) ?_ (by assumption) ?_; rotate_left; (intro w hSw; (try dsimp only at hSw); (first | (go_simp; done) | (go_simp; with_reducible rfl))); (try simp only [Act.put, List.setIfInBounds_toArray, List.set_cons_zero, List.set_cons_succ]))
  refine wpAnyH_done (by kernel_rfl) ?_ _
  have HS := hide (HS.out.ext hk)
  have HX := hide (HX.out.trans hk)
  clear hK hHeld hr5 hk
  have hrs := rserial_any (c := cp) (by omega) (H.out.ext HX.out (Nat.le_refl _)) HX.out.size a b c
  have rs := HS.out.cell
  go_wp2_with fail
  refine hrs.mono ?_
  rintro e w8 ⟨m2, ok2, rfl, hser2, hx8⟩
  obtain ⟨e1, e2⟩ := serR_one hser hser2
  subst e1 e2
  have hmn := serR_le hser
  have HSER := hide hser
  have HX8 := hide (HX.out.trans hx8)
  have HS8 := hide (HS.out.ext hx8)
  clear hrs hser hser2 hx8 hx6 rs HX HS i1
  have hth := theirs_any (c := cp) ((H.out.ext HX8.out (Nat.le_refl _)).cut hmn) HX8.out.size (by omega)
  go_wp2_with fail
  refine hth.mono ?_
  rintro e w9 ⟨A9, c9, rfl, hr9, hx9⟩
  have HX9 := hide (HX8.out.trans hx9)
  have HS9 := hide (HS8.out.ext hx9)
  have hws : w.heap.size < w8.heap.size := HS8.out.lt
  have HRC := hide (show 0 < m → ∃ G, A9 = some ⟨G, 0, none⟩ ∧ w.heap.size < G ∧ RowC w9 G m (reT g 0) from fun q => by
    obtain ⟨G, e1, e2, e3, _⟩ := RowC.of hr9 q
    rw [reT_0]
    exact ⟨G, e1, by omega, e3⟩)
  clear hth hr9 hx9 HX8 HS8
  go_wp2_with fail
  go_loopw [66] (fun v wr => ∃ j : Nat, j ≤ m ∧ v = .int .i64 (j : Int) ∧ (0 < m → ∃ G, A9 = some ⟨G, 0, none⟩ ∧ w.heap.size < G ∧ RowC wr G m (reT g j)) ∧ Blk wr w.heap.size #[Value.int .i64 a, .int .i64 b, .int .i64 c] 22 ∧ (∀ i, i < j → mayC (reT g (i + 1) i) = true) ∧ Ext w wr) (fun v _ => m - (intOf v).toNat)
  case atStart => exact ⟨0, by omega, rfl, HRC.out, HS9.out, fun i hi => by omega, HX9.out⟩
  case round =>
    clear HRC HS9 HX9
    obtain ⟨j, hj, rfl, hrc, hs, hmf, hX⟩ := hrel
    have HMF := hide hmf
    by_cases hlt : j < m
    · obtain ⟨G, rfl, hG, hrow⟩ := hrc (by omega)
      obtain ⟨k5, k6, kf⟩ := hrow.at_ hlt
      have HR := hide (hrow.set hlt)
      have HS := hide ((hs.far (p := ⟨G, j * 7 + 5, none⟩) (by simp; omega) (.int .i64 (2 * (j : Int)))).far (p := ⟨G, j * 7 + 6, none⟩) (by simp; omega) (.int .i64 (2 * (j : Int) + 1)))
      have HX := hide ((hX.set (p := ⟨G, j * 7 + 5, none⟩) (by simp; omega) (.int .i64 (2 * (j : Int)))).set (p := ⟨G, j * 7 + 6, none⟩) (by simp; omega) (.int .i64 (2 * (j : Int) + 1)))
      clear hrc hs hmf hX hrow
      go_upto_region 12 with fail
      generalize (wr.setCell ⟨G, j * 7 + 5, none⟩ (.int .i64 (2 * (j : Int)))).setCell ⟨G, j * 7 + 6, none⟩ (.int .i64 (2 * (j : Int) + 1)) = W2 at *
      obtain ⟨b9, off, e9, hb0, r0, r1, r2, r3, r4, r5, r6⟩ := (HR.out.cs).rules hlt
      cases e9
      simp only [Nat.zero_add] at r0 r1 r2 r3 r4 r5 r6
      have CM := hide (cmay_any (reT g (j + 1) j))
      have HNX := hide (show mayC (reT g (j + 1) j) = true → ∀ i, i < j + 1 → mayC (reT g (i + 1) i) = true from fun q i hi => by
        by_cases z : i = j
        · subst z; exact q
        · exact HMF.out i (by omega))
      unfold cc at CM
      generalize mayC (reT g (j + 1) j) = mj at *
      generalize (reT g (j + 1) j).k = x0 at *
      generalize (reT g (j + 1) j).t = x1 at *
      generalize (reT g (j + 1) j).o = x2 at *
      generalize (reT g (j + 1) j).a = x3 at *
      generalize (reT g (j + 1) j).r = x4 at *
      generalize (reT g (j + 1) j).f = x5 at *
      generalize (reT g (j + 1) j).u = x6 at *
      clear k5 k6 kf
      go_wp2_with fail
      refine (CM.out _).mono ?_
      rintro e w12 ⟨rfl, hx12⟩
      have HX12 := hide (HX.out.trans hx12)
      have HS12 := hide (HS.out.ext hx12)
      have HR12 := hide (HR.out.ext hx12)
      clear r0 r1 r2 r3 r4 r5 r6 hx12 HX HS HR CM
      cases mj
      · go_wp2_with fail
        refine (alive_any _).mono ?_
        rintro e w20 ⟨rfl, hx20⟩
        go_wp2_with fail
        go_ret
        exact ⟨by simp, HX12.out.trans hx20⟩
      · have HN := hide (HNX.out rfl)
        clear HNX
        go_wp2_with fail
        go_roundw
        case rel => exact ⟨j + 1, by omega, by go_num, fun _ => ⟨G, rfl, hG, HR12.out⟩, HS12.out, HN.out, HX12.out⟩
        case measure => simp [intOf]; omega
    · obtain rfl : j = m := by omega
      have HCT := hide (can_tells HSER.out (by omega) hmf)
      have hcs : Cs wr wr.heap.size A9 j (reT g j) := by
        by_cases q : 0 < j
        · obtain ⟨G, e, _, hr⟩ := hrc q
          rw [e]; exact hr.cs
        · exact fun k hk => by omega
      have hcan := can_any (c := c9) (RowC.ok (i := j) (fun k hk => HOK.out k (by omega)) (show j ≤ 12 by omega)) (by omega) hcs (Nat.le_refl _) a b c
      rw [HCT.out.1, HCT.out.2] at hcan
      have rs := hs.cell
      have HS := hide hs
      have HX := hide hX
      clear hcs hrc hmf hs hX HCT
      obtain ⟨zz, hz1, hz2, hz3, hz4, -⟩ : ∃ zz : Array Value, (∀ w, (zeroValue 56).run Try.prog w = .ok (.agg zz) w) ∧ ¬ zz = #[] ∧ ¬ zz.size < 2 ∧ zz.size = 227 ∧ zz = zr := ⟨_, fun w => by kernel_rfl, by decide +kernel, by decide +kernel, by decide +kernel, rfl⟩
      have HZ := hide hz4
      clear hz4
      cases q1 : okN a b c
      · rw [q1] at hcan
        have hrn := rnew_no q1
        generalize st0 0 0 0 = S0 at *
        go_wp2_with fail
        refine hcan.mono ?_
        rintro e w10 ⟨rfl, hx10⟩
        have rs := (HS.out.ext hx10).cell
        have HX10 := hide (HX.out.trans hx10)
        clear hcan hx10
        go_wp2_with fail
        refine (hrn _).mono ?_
        rintro e w1 ⟨rfl, hx1⟩
        have HX1 := hide (HX10.out.trans hx1)
        clear hx1 rs
        go_wp2_with (first | (refine wpList_put rfl _ _ rfl w1.heap.size S0 rfl rfl zz (Blk.new w1 zz 56) HZ.out ?_; intro W3 hb3 hc3 hs3; have hc4 := ((Ext.alloc w1 (.cells zz 56)).chg [w1.heap.size]).trans hc3; have HX3 := hide (HX1.out.turn hc4 (by have := HX1.out.size; simp; omega)); clear hb3 hc3 hs3 hc4; go_frame))
        refine (alive_any _).mono ?_
        rintro e w20 ⟨rfl, hx20⟩
        go_wp2_with fail
        go_ret
        exact ⟨by simp, HX3.out.trans hx20⟩
      · obtain ⟨a, b, c, rfl, rfl, rfl⟩ := okN_nat q1
        rw [q1] at hcan
        have hrn := rnew_ok q1
        generalize st0 a b c = S0 at *
        generalize (a : Int) = a at *
        generalize (b : Int) = b at *
        generalize (c : Int) = c at *
        go_wp2_with fail
        refine hcan.mono ?_
        rintro e w10 ⟨rfl, hx10⟩
        have rs := (HS.out.ext hx10).cell
        have HX10 := hide (HX.out.trans hx10)
        clear hcan hx10
        go_wp2_with fail
        refine (hrn _).mono ?_
        rintro e w1 ⟨rfl, hx1⟩
        have HX1 := hide (HX10.out.trans hx1)
        clear hx1 rs
        go_wp2_with (first | (refine wpList_put rfl _ _ rfl w1.heap.size S0 rfl rfl zz (Blk.new w1 zz 56) HZ.out ?_; intro W3 hb3 hc3 hs3; have hc4 := ((Ext.alloc w1 (.cells zz 56)).chg [w1.heap.size]).trans hc3; have HX3 := hide (HX1.out.turn hc4 (by have := HX1.out.size; simp; omega)); clear hb3 hc3 hs3 hc4; go_frame))
        refine (alive_any _).mono ?_
        rintro e w20 ⟨rfl, hx20⟩
        go_wp2_with fail
        go_ret
        exact ⟨by simp, HX3.out.trans hx20⟩
set_option maxRecDepth 100000 in
theorem checkSerial_walk {H : Type} {enc : TypeId × Value → H} (W : World) (base : Nat) (args : Array Value) (ds : List (DataW H)) (p : List MemPlace)
    (hval0 : ∀ (j : Nat) t v, Try.f4.params[j]? = some t → args[j]? = some v → Value.okWide Try.prog W .any base t v)
    (hA0 : DataW.TrodAll enc Try.prog W 0 (fun _ => true) true Try.f4.params.toList args.toList ds p) (_hlt : ∀ x ∈ p, x.block < W.heap.size) :
    Calls Try.prog 4 args W fun e W' => e = .returned (.bool true) ∧ Ext W W' := by
  have hval := hval0
  have hA := hA0
  rw [Try.params4] at hA hval
  clear hval0 hA0
  obtain ⟨v0, v1, d0, d1, p0, p1, hargs, rfl, rfl, h0, h1⟩ := trodAll_two hA
  obtain rfl : args = #[v0, v1] := by cases args; simp_all
  obtain ⟨a, b, c, rfl⟩ := open_trip (hval 0 22 v0 rfl rfl) h0
  obtain ⟨A, n, cp, g, rfl, hn, hc, hs, hok⟩ := open_calls (hval 1 23 v1 rfl rfl) h1
  by_cases q : 12 < n
  · exact lserial_far q
  · exact lserial_any (by omega) hn hc hs hok
set_option maxRecDepth 100000 in
theorem checkSerial_lifted (os : Os) (started : os.Started) (H : Type) (enc : TypeId × Value → H) :
    ReturnsInHanded {} Try.checked os 4 .any (Rows.checkSerialSpec.pre6 enc Try.prog Try.f4 Rows.checkSerialRow.domain false) (Rows.checkSerialSpec.post enc Try.prog Try.f4 false true false false) :=
  law_lifted (fn := Try.f4) 4 os started (by kernel_rfl) Try.func4 rfl rfl Try.underlying4 (hread_of (by kernel_rfl))
    (fun l hl => by
      have hl2 : l.length = 2 := hl
      clear hl
      match l, hl2 with
      | [_, _], _ => rfl)
    (ChangeSpec.witness6 (enc := enc) (C := Try.checked) false ⟨#[], #[.agg #[.int .i64 0, .int .i64 0, .int .i64 0], .slice none 0 0], []⟩ 8 (by kernel_rfl) (by kernel_rfl) (by kernel_rfl) (by kernel_rfl))
    (fun W base args ds p hval hA hlt => checkSerial_walk W base args ds p hval hA hlt)
theorem checkSerial_holds : Rows.CheckSerialSaid :=
  OpenClaim.holds_of_wide 4 Try.f4 rfl rfl rfl rfl rfl rfl rfl ⟨rfl, rfl, rfl, rfl, rfl⟩ rfl rfl rfl rfl rfl (by kernel_rfl) Try.func4 (by kernel_rfl)
    (of_decide_eq_true (by kernel_rfl)) (by unfold Func.isWrapper; rw [if_neg (of_decide_eq_false (by kernel_rfl))]; exact ⟨rfl, rfl⟩)
    (fun os started H enc _ => checkSerial_lifted os started H enc)
end Go.Proofs.Ytpielknodjppgaa
