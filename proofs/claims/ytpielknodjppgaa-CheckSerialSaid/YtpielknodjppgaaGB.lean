/- What a search's calls turn, and what they leave; one call taken as the next one. -/
import Derived.Test.YtpielknodjppgaaGA
import Derived.Test.YtpielknodjppgaaE2
import Derived.Test.YtpielknodjppgaaW4
import Derived.Test.YtpielknodjppgaaN1
import Derived.Test.YtpielknodjppgaaHeld
import Derived.Deep.RegionHeld3
namespace Go.Proofs.Ytpielknodjppgaa
open Go.RowKit Go.Maps
set_option linter.unusedSimpArgs false
set_option linter.unusedVariables false
set_option maxRecDepth 100000


def blkL (v : Value) : List Nat := v.ownBlock.toList
theorem blkL_of {v : Value} {k : Nat} (h : v.ownBlock = some k) : k ∈ blkL v := by unfold blkL; rw [h]; simp
theorem of_blkL {v : Value} {k : Nat} (h : k ∈ blkL v) : v.ownBlock = some k := by
  unfold blkL at h
  cases e : v.ownBlock with
  | none => rw [e] at h; simp at h
  | some x => rw [e] at h; simp at h; rw [h]
section
variable {w w' : World} {b0 SB DB c n : Nat} {A : Option Addr} {av ov ov' : Value} {g : Nat → Cl} {D D' : Nat → Bool} {o o' : List Nat}
theorem SQ.low (h : SQ w b0 SB DB A c av ov n g D o) : ∀ t, t ∈ SB :: DB :: blkL ov → b0 ≤ t := by
  intro t ht
  rcases List.mem_cons.1 ht with e | ht
  · rw [e]; exact h.b1
  · rcases List.mem_cons.1 ht with e | ht
    · rw [e]; exact h.b2
    · exact own_row h.row t (of_blkL ht)
theorem SQ.not (h : SQ w b0 SB DB A c av ov n g D o) {k : Nat} {cs : Array Value} {t : TypeId} (hb : Blk w k cs t) (h1 : t ≠ 87) (h2 : t ≠ 3) : k ∉ SB :: DB :: blkL ov := by
  intro hk
  rcases List.mem_cons.1 hk with e | hk
  · subst e; exact h1 (hb.type h.b)
  · rcases List.mem_cons.1 hk with e | hk
    · subst e; exact h.map.noC _ _ hb
    · obtain ⟨cs2, hb2⟩ := own_blk h.row k (of_blkL hk)
      exact h2 (hb.type hb2)
theorem SQ.notM (h : SQ w b0 SB DB A c av ov n g D o) {k : Nat} (hb : ∀ cs t, ¬ Blk w k cs t) (h1 : k ≠ DB) : k ∉ SB :: DB :: blkL ov := by
  intro hk
  rcases List.mem_cons.1 hk with e | hk
  · subst e; exact hb _ _ h.b
  · rcases List.mem_cons.1 hk with e | hk
    · exact h1 e
    · obtain ⟨cs2, hb2⟩ := own_blk h.row k (of_blkL hk)
      exact hb _ _ hb2
theorem SQ.turn (h : SQ w b0 SB DB A c av ov n g D o) (x : Chg (SB :: DB :: blkL ov) w w') (hb : Blk w' SB #[.slice A n c, av, .map (some DB), ov'] 87)
    (hr : w'.ownsRow b0 3 1 ov' o'.length (o'.map enI)) (hm : DS w' DB D') : SQ w' b0 SB DB A c av ov' n g D' o' :=
  ⟨hb, hr, hm, h.cs.chg x h.lb h.low, own_chgB h.ah x (fun k hk => by
    obtain ⟨cs, hb2⟩ := own_blk h.ah k hk
    exact h.not hb2 (by decide) (by decide)), h.b1, h.b2, h.n12⟩
theorem ModT.stay {B W L : Nat} {S : St} (hm : ModT w B W L S) (h : SQ w b0 SB DB A c av ov n g D o) (h1 : W ≠ DB) (h2 : L ≠ DB) (x : Chg (SB :: DB :: blkL ov) w w') : ModT w' B W L S :=
  hm.chg x (h.not hm.b (by decide) (by decide)) (h.notM hm.wm.noC h1) (h.notM hm.lm.noC h2)
theorem Chg.more2 {w1 w2 : World} (x : Chg (SB :: DB :: blkL ov) w w1) (hn : ∀ k, ov'.ownBlock = some k → ov.ownBlock = some k ∨ w.heap.size ≤ k) (y : Chg (SB :: DB :: blkL ov') w1 w2) : Chg (SB :: DB :: blkL ov) w w2 :=
  ⟨y.os.trans x.os, y.tape.trans x.tape, y.output.trans x.output, Nat.le_trans x.size y.size, fun k hk hT => (y.block k (Nat.lt_of_lt_of_le hk x.size) (fun hm => hT (by
    rcases List.mem_cons.1 hm with e | hm
    · rw [e]; exact List.mem_cons_self ..
    · rcases List.mem_cons.1 hm with e | hm
      · rw [e]; exact List.mem_cons_of_mem _ (List.mem_cons_self ..)
      · rcases hn k (of_blkL hm) with q | q
        · exact List.mem_cons_of_mem _ (List.mem_cons_of_mem _ (blkL_of q))
        · omega))).trans (x.block k hk hT)⟩
end
/-- How a call of the search ends. -/
structure Fin (N M K : Nat) (b0 SB DB c n : Nat) (A : Option Addr) (av ov : Value) (g : Nat → Cl) (o : List Nat) (w w' : World) (r : Option (List Nat)) (ov' : Value) (D' : Nat → Bool) : Prop where
  q : SQ w' b0 SB DB A c av ov' n g D' (o ++ r.getD [])
  d : r = none → Dead n g N M K D'
  x : Chg (SB :: DB :: blkL ov) w w'
  f : ∀ k, ov'.ownBlock = some k → ov.ownBlock = some k ∨ w.heap.size ≤ k
theorem own_cut {w : World} {base n g c : Nat} {e : TypeId} {xs : List Value} (h : w.ownsRow base e 1 (.slice (some ⟨g, 0, none⟩) (n + 1) c) (n + 1) xs) : w.ownsRow base e 1 (.slice (some ⟨g, 0, none⟩) n c) n (xs.take n) := by
  obtain ⟨hl, ⟨h1, h2⟩ | ⟨g2, cap, cur, hv, hb, hh, h3, h4, h5, h6⟩⟩ := h
  · omega
  · simp only [Value.slice.injEq, Option.some.injEq, Addr.mk.injEq] at hv
    obtain ⟨⟨rfl, _⟩, _, rfl⟩ := hv
    refine ⟨by simp; omega, .inr ⟨g, c, cur, rfl, hb, hh, by omega, h4, h5, ?_⟩⟩
    rw [← h6, List.take_take]
    congr 1
    omega
theorem own_some {w : World} {base n size c : Nat} {e : TypeId} {A : Option Addr} {xs : List Value} (h : w.ownsRow base e size (.slice A n c) n xs) (hn : 0 < n) : ∃ g, A = some ⟨g, 0, none⟩ ∧ n ≤ c ∧ c ≤ maxLen := by
  obtain ⟨hl, h | ⟨g, cap, cur, hv, hb, hh, h3, h4, h5, h6⟩⟩ := h
  · have := h.2; omega
  · simp only [Value.slice.injEq] at hv
    obtain ⟨rfl, _, rfl⟩ := hv
    exact ⟨g, rfl, h3, h4⟩
/-- What goOn does, of f calls that are left. -/
def GoC (N M K n : Nat) (g : Nat → Cl) (f : Nat) : Prop := ∀ (w : World) (b0 SB DB c B W L m d : Nat) (A : Option Addr) (av ov : Value) (D : Nat → Bool) (o : List Nat) (S : St),
  ModT w B W L S → W ≠ DB → L ≠ DB → SQ w b0 SB DB A c av ov n g D o → InvK n g N M K m d S → Dead n g N M K D → o.length = m → m + f = n →
  Calls Try.prog 28 #[.pointer (some ⟨SB, 0, none⟩), .pointer (some ⟨B, 0, none⟩), s16v d] w fun e w' => ∃ ov' D', e = .returned (.bool (pick n g f S d).isSome) ∧ Fin N M K b0 SB DB c n A av ov g o w w' (pick n g f S d) ov' D'
/-- What one that is taken gives. -/
def takeR (n : Nat) (g : Nat → Cl) (f : Nat) (S : St) (d i : Nat) : Option (List Nat) := if acc S (g i) then (pick n g f (nxt S (g i)) (d ||| 2 ^ i)).map (i :: ·) else none
theorem takes_any {N M K n : Nat} {g : Nat → Cl} {f : Nat} (IH : GoC N M K n g f) (hok : ∀ i, i < n → OkC (g i)) (hM : allM g n = true) {w : World} {b0 SB DB c B W L m d i : Nat} {A : Option Addr} {av ov : Value} {D : Nat → Bool} {o : List Nat} {S : St}
    (hm : ModT w B W L S) (h : SQ w b0 SB DB A c av ov n g D o) (hi : InvK n g N M K m d S) (hD : Dead n g N M K D) (ho : o.length = m) (hf : m + (f + 1) = n) (hin : i < n) (hdi : d.testBit i = false) :
    Calls Try.prog 42 #[.pointer (some ⟨SB, 0, none⟩), .pointer (some ⟨B, 0, none⟩), s16v d, .int .i64 (i : Int)] w fun e w' => ∃ ov' D', e = .returned (.bool (takeR n g f S d i).isSome) ∧ Fin N M K b0 SB DB c n A av ov g o w w' (takeR n g f S d i) ov' D' := by
  have H := hide h
  have HI := hide hi
  have HD := hide hD
  have n12 := h.n12
  have hd16 : d < 65536 := Nat.lt_of_lt_of_le hi.lt (show 2 ^ n ≤ 2 ^ 16 from Nat.pow_le_pow_right (by omega) (by omega))
  have hcl := clone_any hm
  have hmay := allM_iff.1 hM i hin
  have HMAY := hide hmay
  have HOK := hide (hok i hin)
  clear hm h hi hD hM hmay
  unfold s16v
  go_enter Try.func42, Try.ntmps42
  go_wp2_with fail
  refine hcl.mono ?_
  rintro e w1 ⟨B1, W1, L1, rfl, hm1, hb1, hw1, hl1, hx1⟩
  have q1 := H.out.ext hx1
  have rb := q1.b.cell
  have hnd : DB < w.heap.size := H.out.map.lt
  obtain ⟨b, off, rfl, hb0, r0, r1, r2, r3, r4, r5, r6⟩ := q1.cs.rules hin
  have hap := apply_any hm1 (g i).k (g i).t (g i).o (g i).a (g i).r HOK.out.a
  have HQ1 := hide q1
  have HM1 := hide hm1
  clear hcl q1 hm1
  have HA := hide (show apE S (g i).k (g i).t (g i).o (g i).a (g i).r = (if acc S (g i) = true then 0 else 15) from rfl)
  have HN := hide (show apS S (g i).k (g i).t (g i).o (g i).a (g i).r = nxt S (g i) from rfl)
  generalize apS S (g i).k (g i).t (g i).o (g i).a (g i).r = S1 at *
  generalize apE S (g i).k (g i).t (g i).o (g i).a (g i).r = er at *
  generalize (g i).k = x0 at *
  generalize (g i).t = x1 at *
  generalize (g i).o = x2 at *
  generalize (g i).a = x3 at *
  generalize (g i).r = x4 at *
  clear r5 r6
  go_wp2_with fail
  refine hap.mono ?_
  rintro e w2 ⟨rfl, hm2, hc2⟩
  have hx2 : Ext w w2 := hx1.turn hc2 (by simp; omega)
  have q2 := H.out.ext hx2
  have hsz := hx2.size
  clear hx1 rb r0 r1 r2 r3 r4 hap hc2 HQ1 HM1
  cases ha : acc S (g i)
  · have E := hide (show takeR n g f S d i = none by unfold takeR; rw [ha]; rfl)
    have e15 : er = 15 := by rw [HA.out, ha]; rfl
    subst e15
    clear ha HA
    have HQ2 := hide q2
    clear q2
    go_wp2_with fail
    go_ret
    exact ⟨ov, D, by rw [E.out]; simp, by rw [E.out]; simpa using HQ2.out, fun _ => HD.out, hx2.chg _, fun k hk => .inl hk⟩
  · have E := hide (show takeR n g f S d i = (pick n g f (nxt S (g i)) (d ||| 2 ^ i)).map (i :: ·) by unfold takeR; rw [ha]; rfl)
    have e0 : er = 0 := by rw [HA.out, ha]; rfl
    subst e0
    have hc : cntE (g i).k (g i).a (g i).r = true := by
      have := HMAY.out
      unfold mayC at this
      simp only [Bool.and_eq_true] at this
      exact this.1
    have HI2 := hide (inv_next HI.out hin hdi hc ha)
    rw [HN.out] at hm2
    have HM2 := hide hm2
    clear ha HA hc HMAY HOK HI HN hm2
    generalize nxt S (g i) = S2 at *
    obtain ⟨A0, c0, rfl⟩ := own_sl q2.row
    have HQ2 := hide q2
    have hrow := q2.row
    have hb0w := q2.lb
    have rb := q2.b.cell
    have ho12 : o.length ≤ 11 := by omega
    have HX2 := hide hx2
    have HLEN := hide ho
    have HF := hide hf
    have HDI := hide hdi
    clear q2 hx2 ho hf hdi
    have hol := only_any (i := i) (by omega)
    have hy16 := pow_lt16 (i := i) (by omega)
    unfold s16v at hol
    obtain ⟨y, hy⟩ : ∃ y, y = 2 ^ i := ⟨_, rfl⟩
    rw [← hy] at hol hy16 HI2 E
    have hor := u16_or_nat d y hd16 hy16
    have HY := hide hy
    clear hy hy16
    go_wp2_with (first
      | (go_at_call 40; refine (hol _).mono ?_; rintro e w9 ⟨rfl, rfl⟩; go_frame)
      | (at_builtin; (refine wpList_app3 (g := w2.heap.size) (v := .slice A0 o.length c0) rfl rfl Try.underlying30 inf_int rfl (by omega) rfl hrow hb0w rfl rfl rfl (by simp [Value.oneCell']) (by unfold maxLen; omega) (by omega) ?_); intro v' w3 hown' hg3 hnw; obtain ⟨A3, c3, rfl⟩ := own_sl hown'; have HB3 := hide ((HQ2.out.b.ext (Ext.alloc _ _)).grown hg3 (fun k e q => by subst q; obtain ⟨cs, hb2⟩ := own_blk hrow k e; exact absurd (HQ2.out.b.type hb2) (by decide))); have HO := hide hown'; have HG := hide hg3; have HNW := hide hnw; have p1 := HB3.out.cell; have p2 := HB3.out.free; clear hown' hg3 hnw rb hrow; go_frame)
      )
    have hx4 : Chg (SB :: blkL (Value.slice A0 o.length c0)) w2 (w3.setCell ⟨SB, 3, none⟩ (.slice A3 (o.length + 1) c3)) :=
      ((Chg.alloc (SB :: blkL (Value.slice A0 o.length c0)) w2 _).of_grow HG.out (fun k hk => List.mem_cons_of_mem _ (blkL_of hk))).set (p := ⟨SB, 3, none⟩) (.inl (List.mem_cons_self ..)) _
    have hx5 : Chg (SB :: DB :: blkL (Value.slice A0 o.length c0)) w2 (w3.setCell ⟨SB, 3, none⟩ (.slice A3 (o.length + 1) c3)) := hx4.mono (fun k hk => by
      rcases List.mem_cons.1 hk with e | e
      · rw [e]; exact List.mem_cons_self ..
      · exact List.mem_cons_of_mem _ (List.mem_cons_of_mem _ e))
    have hb4 := HB3.out.set 3 (.slice A3 (o.length + 1) c3)
    rw [show (#[Value.slice (some ⟨b, off, none⟩) n c, av, .map (some DB), .slice A0 o.length c0].setIfInBounds 3 (.slice A3 (o.length + 1) c3)) = #[Value.slice (some ⟨b, off, none⟩) n c, av, .map (some DB), .slice A3 (o.length + 1) c3] by simp] at hb4
    have hr4 : (w3.setCell ⟨SB, 3, none⟩ (.slice A3 (o.length + 1) c3)).ownsRow b0 3 1 (.slice A3 (o.length + 1) c3) (o ++ [i]).length ((o ++ [i]).map enI) := by
      have := own_chgB HO.out ((Chg.refl [SB] w3).set (p := ⟨SB, 3, none⟩) (.inl (by simp)) (.slice A3 (o.length + 1) c3)) (fun k hk hm => by
        obtain ⟨cs, hb2⟩ := own_blk HO.out k hk
        simp at hm
        subst hm
        exact absurd (HB3.out.type hb2) (by decide))
      simpa [enI] using this
    have hm4 : DS (w3.setCell ⟨SB, 3, none⟩ (.slice A3 (o.length + 1) c3)) DB D := HQ2.out.map.chg hx4 (fun hk => by
      rcases List.mem_cons.1 hk with e | e
      · have hb9 := HQ2.out.b
        rw [← e] at hb9
        exact HQ2.out.map.noC _ _ hb9
      · obtain ⟨cs2, hb2⟩ := own_blk HQ2.out.row DB (of_blkL e)
        exact HQ2.out.map.noC _ _ hb2)
    have q4 := HQ2.out.turn hx5 hb4 hr4 hm4
    have hM4 := HM2.out.stay HQ2.out (by omega) (by omega) hx5
    have HX5 := hide (HX2.out.chg _ |>.trans hx5)
    have HNW2 := hide (fun k hk => (HNW.out k hk).imp id (fun q => Nat.le_trans hsz q))
    clear hx4 hx5 hb4 hr4 hm4 p1 p2 HB3 HO HG HNW HX2 HQ2 HM2
    generalize w3.setCell ⟨SB, 3, none⟩ (.slice A3 (o.length + 1) c3) = w4 at *
    refine (IH w4 b0 SB DB c B1 W1 L1 (m + 1) (d ||| y) _ av _ D (o ++ [i]) S2 hM4 (by omega) (by omega) q4 HI2.out HD.out (by simp [HLEN.out]) (by have := HF.out; omega)).mono ?_
    rintro e w5 ⟨ov5, D5, rfl, hF⟩
    have HF5 := hide hF
    clear hF q4 hM4 HI2 HD IH
    generalize pick n g f S2 (d ||| y) = r at *
    have HX6 := hide (HX5.out.more2 HNW2.out HF5.out.x)
    have HNW6 : Hid (∀ k, ov5.ownBlock = some k → (Value.slice A0 o.length c0).ownBlock = some k ∨ w.heap.size ≤ k) := hide (fun k hk => by
      rcases HF5.out.f k hk with q | q
      · exact HNW2.out k q
      · exact .inr (Nat.le_trans HX5.out.size q))
    cases r with
    | some out =>
      go_wp2_with fail
      go_ret
      refine ⟨ov5, D5, by rw [E.out]; simp, ?_, fun q => (by rw [E.out] at q; cases q), HX6.out, HNW6.out⟩
      rw [E.out]
      have := HF5.out.q
      simpa using this
    | none =>
      have q5 := HF5.out.q
      rw [Option.getD_none, List.append_nil] at q5
      obtain ⟨A5, c5, rfl⟩ := own_sl q5.row
      obtain ⟨G5, rfl, hc5, hc6⟩ := own_some q5.row (by simp)
      have e5 : (o ++ [i]).length = o.length + 1 := by simp
      have hrow5 := q5.row
      rw [e5] at hrow5
      have rb := (q5.b.ext (Ext.drew w5)).cell
      have fb := (q5.b.ext (Ext.drew w5)).free
      have rb0 := q5.b.cell
      have fb0 := q5.b.free
      have HQ5 := hide q5
      rw [e5] at rb rb0 hc5
      have HR5 := hide (own_cut hrow5)
      clear q5 hrow5 e5
      go_wp2_with fail
      go_region
      go_wp2_with fail
      go_ret
      have x6 : Chg [SB] w5 (w5.setCell ⟨SB, 3, none⟩ (.slice (some ⟨G5, 0, none⟩) o.length c5)).drew := ((Chg.refl [SB] w5).set (p := ⟨SB, 3, none⟩) (.inl (by simp)) _).trans (Chg.drew _ _)
      have hb6 := (HQ5.out.b.set 3 (.slice (some ⟨G5, 0, none⟩) o.length c5)).ext (Ext.drew _)
      rw [show (#[Value.slice (some ⟨b, off, none⟩) n c, av, .map (some DB), .slice (some ⟨G5, 0, none⟩) (o ++ [i]).length c5].setIfInBounds 3 (.slice (some ⟨G5, 0, none⟩) o.length c5)) = #[Value.slice (some ⟨b, off, none⟩) n c, av, .map (some DB), .slice (some ⟨G5, 0, none⟩) o.length c5] by simp] at hb6
      have x7 : Chg (SB :: DB :: blkL (Value.slice (some ⟨G5, 0, none⟩) (o ++ [i]).length c5)) w5 (w5.setCell ⟨SB, 3, none⟩ (.slice (some ⟨G5, 0, none⟩) o.length c5)).drew := x6.mono (fun k hk => by simp at hk; simp [hk])
      have hr6 : (w5.setCell ⟨SB, 3, none⟩ (.slice (some ⟨G5, 0, none⟩) o.length c5)).drew.ownsRow b0 3 1 (.slice (some ⟨G5, 0, none⟩) o.length c5) o.length (o.map enI) := by
        have hh := own_chgB HR5.out x6 (fun k hk hm => by
          obtain ⟨cs, hb2⟩ := own_blk HR5.out k hk
          simp at hm
          subst hm
          exact absurd (HQ5.out.b.type hb2) (by decide))
        simpa using hh
      have hm6 : DS (w5.setCell ⟨SB, 3, none⟩ (.slice (some ⟨G5, 0, none⟩) o.length c5)).drew DB D5 := HQ5.out.map.chg x6 (fun hk => by
        simp at hk
        have hb9 := HQ5.out.b
        rw [← hk] at hb9
        exact HQ5.out.map.noC _ _ hb9)
      refine ⟨.slice (some ⟨G5, 0, none⟩) o.length c5, D5, by rw [E.out]; simp, ?_, fun _ => HF5.out.d rfl, HX6.out.more2 HNW6.out x7, fun k hk => HNW6.out k hk⟩
      rw [E.out]
      simpa using HQ5.out.turn x7 hb6 hr6 hm6
end Go.Proofs.Ytpielknodjppgaa

namespace Go.Proofs.Ytpielknodjppgaa
open Go.RowKit Go.Maps
set_option linter.unusedSimpArgs false
set_option linter.unusedVariables false
set_option maxRecDepth 100000
set_option maxHeartbeats 1000000


theorem try_take {n : Nat} {g : Nat → Cl} {f d i : Nat} {S : St} (h : freeB n g d i = true) : tryK n g f S d i = takeR n g f S d i := by unfold tryK takeR; rw [h, Bool.true_and]
theorem try_no {n : Nat} {g : Nat → Cl} {f d i : Nat} {S : St} (h : freeB n g d i = false) : tryK n g f S d i = none := by unfold tryK; rw [h]; rfl
theorem goOn_0 {N M K n : Nat} {g : Nat → Cl} : GoC N M K n g 0 := by
  intro w b0 SB DB c B W L m d A av ov D o S hm h1 h2 h hi hD ho hf
  have H := hide h
  have E := hide (show pick n g 0 S d = some [] from rfl)
  obtain ⟨A0, c0, rfl⟩ := own_sl h.row
  have e : o.length = n := by omega
  have rb := h.b.cell
  rw [e] at rb
  clear h hm hi ho hf e hD
  unfold s16v
  go_enter Try.func28, Try.ntmps28
  go_wp2_with fail
  go_region
  go_wp2_with fail
  go_ret
  refine ⟨_, D, by rw [E.out]; simp, ?_, fun q => (by rw [E.out] at q; cases q), Chg.drew _ _, fun k hk => .inl hk⟩
  rw [E.out]
  simpa using H.out.ext (Ext.drew w)
theorem goOn_succ {N M K n : Nat} {g : Nat → Cl} {f : Nat} (IH : GoC N M K n g f) (hok : ∀ i, i < n → OkC (g i)) (hM : allM g n = true) : GoC N M K n g (f + 1) := by
  intro w b0 SB DB c B W L m d A av ov D o S hm h1 h2 h hi hD ho hf
  have H := hide h
  have HM := hide hm
  have HI := hide hi
  have HD := hide hD
  have n12 := h.n12
  have hd16 : d < 65536 := Nat.lt_of_lt_of_le hi.lt (show 2 ^ n ≤ 2 ^ 16 from Nat.pow_le_pow_right (by omega) (by omega))
  have HP := hide (pick_succ n g f S d)
  have hdead : Hid (D d = true → pick n g (f + 1) S d = none) := hide (fun q => by
    have := hD d m S q hi
    rwa [show n - m = f + 1 by omega] at this)
  obtain ⟨A0, c0, rfl⟩ := own_sl h.row
  have e : ((o.length : Int) == (n : Int)) = false := by simp; omega
  have rb := h.b.cell
  have rbd := (h.b.ext (Ext.drew w)).cell
  have rba := (h.b.ext (Ext.alloc w (.cells #[] 99))).cell
  have hlook := (h.map.ext (Ext.drew w)).look hd16
  have HLEN := hide ho
  have HF := hide hf
  have HE := hide e
  obtain ⟨ol, hol⟩ : ∃ ol, ol = o.length := ⟨_, rfl⟩
  rw [← hol] at rb rbd rba e
  have HOL := hide hol
  clear h hm hi ho hf hD hol
  unfold s16v at *
  cases q0 : D d
  · rw [q0] at hlook
    clear hdead q0
    go_enter Try.func28, Try.ntmps28
    go_wp2_with fail
    go_region
    go_wp2_with fail
    have HX := hide ((Ext.alloc w (.cells #[] 99)).trans (Ext.drew _))
    clear rb rba rbd hlook HE e
    go_loopw [36] (fun v wr => ∃ (i : Nat) (ov1 : Value) (D1 : Nat → Bool), i ≤ n ∧ v = .int .i64 (i : Int) ∧ SQ wr b0 SB DB A c av ov1 n g D1 o ∧ Dead n g N M K D1 ∧ Chg (SB :: DB :: blkL (Value.slice A0 o.length c0)) w wr ∧ (∀ k, ov1.ownBlock = some k → (Value.slice A0 o.length c0).ownBlock = some k ∨ w.heap.size ≤ k) ∧ ∀ j, j < i → tryK n g f S d j = none) (fun v _ => n - (intOf v).toNat)
    case atStart => exact ⟨0, _, D, by omega, rfl, H.out.ext HX.out, HD.out, HX.out.chg _, fun k hk => .inl hk, fun j hj => by omega⟩
    case round =>
      obtain ⟨i, ov1, D1, hin, rfl, hq, hDD, hc, hfr, hno⟩ := hrel
      have HQ := hide hq
      have HDD := hide hDD
      have HC := hide hc
      have HFR := hide hfr
      have HNO := hide hno
      by_cases hlt : i < n
      · have hnx := next_any hq hlt hd16
        have hmM := HM.out.stay H.out h1 h2 hc
        unfold s16v at hnx
        cases qf : freeB n g d i
        · rw [qf] at hnx
          have HNO2 := hide (show ∀ j, j < i + 1 → tryK n g f S d j = none from fun j hj => by
            by_cases q : j = i
            · rw [q]; exact try_no qf
            · exact hno j (by omega))
          clear hq hDD hc hfr hno hmM HNO qf
          go_wp2_with (go_at_call 41; refine hnx.mono ?_; rintro e w9 ⟨rfl, rfl⟩; go_frame)
          go_roundw
          case rel => exact ⟨i + 1, ov1, D1, by omega, by go_num, HQ.out, HDD.out, HC.out, HFR.out, HNO2.out⟩
          case measure => simp [intOf]; omega
        · have hdi := (free_iff.1 qf).1
          have htk := takes_any IH hok hM hmM hq HI.out hDD HLEN.out HF.out hlt hdi
          rw [qf] at hnx
          rw [← try_take (f := f) (S := S) qf] at htk
          unfold s16v at htk
          obtain ⟨r, hr⟩ : ∃ r, r = tryK n g f S d i := ⟨_, rfl⟩
          rw [← hr] at htk
          have HR := hide hr
          clear hq hDD hc hfr hno hmM qf hr hdi
          go_wp2_with (go_at_call 41; refine hnx.mono ?_; rintro e w9 ⟨rfl, rfl⟩; go_frame)
          refine htk.mono ?_
          rintro e w5 ⟨ov5, D5, rfl, hF⟩
          have HFN := hide hF
          clear htk hnx hF
          have HX6 := hide (HC.out.more2 HFR.out HFN.out.x)
          have HNW6 : Hid (∀ k, ov5.ownBlock = some k → (Value.slice A0 o.length c0).ownBlock = some k ∨ w.heap.size ≤ k) := hide (fun k hk => by
            rcases HFN.out.f k hk with q | q
            · exact HFR.out k q
            · exact .inr (Nat.le_trans HC.out.size q))
          cases r with
          | some out =>
            have E := hide (HP.out.trans (find_some hlt HNO.out HR.out.symm))
            go_wp2_with fail
            go_ret
            refine ⟨ov5, D5, by rw [E.out]; simp, ?_, fun q => (by rw [E.out] at q; cases q), HX6.out, HNW6.out⟩
            rw [E.out]
            exact HFN.out.q
          | none =>
            have HNO2 := hide (show ∀ j, j < i + 1 → tryK n g f S d j = none from fun j hj => by
              by_cases q : j = i
              · rw [q]; exact HR.out.symm
              · exact HNO.out j (by omega))
            have HQ5 := hide (show SQ w5 b0 SB DB A c av ov5 n g D5 o by simpa using HFN.out.q)
            have HD5 := hide (HFN.out.d rfl)
            clear HNO HFN HQ HDD HC HFR HR
            go_wp2_with fail
            go_roundw
            case rel => exact ⟨i + 1, ov5, D5, by omega, by go_num, HQ5.out, HD5.out, HX6.out, HNW6.out, HNO2.out⟩
            case measure => simp [intOf]; omega
      · obtain rfl : i = n := by omega
        have E := hide (HP.out.trans (find_none HNO.out))
        obtain ⟨w7, hrun, hds, hg7⟩ := hq.map.put hd16
        have rq := hq.b.cell
        have HDS := hide hds
        have HG7 := hide hg7
        unfold s16v at hrun
        clear hq hDD hc hfr hno hds hg7 HNO
        go_wp2_with fail
        go_ret
        have x7 : Chg [DB] wr w7 := ⟨HG7.out.os, HG7.out.tape, HG7.out.output, HG7.out.size, fun k hk hT => HG7.out.block k hk (fun e => by cases e; exact hT (by simp))⟩
        have x8 : Chg (SB :: DB :: blkL ov1) wr w7 := x7.mono (fun k hk => by simp at hk; simp [hk])
        have hne : SB ≠ DB := fun e => by
          have hb9 := HQ.out.b
          rw [e] at hb9
          exact HQ.out.map.noC _ _ hb9
        have hb7 := HQ.out.b.chg x7 (by simpa using hne)
        have hr7 := own_chgB HQ.out.row x7 (fun k hk hm => by
          obtain ⟨cs, hb2⟩ := own_blk HQ.out.row k hk
          simp at hm
          subst hm
          exact HQ.out.map.noC _ _ hb2)
        refine ⟨ov1, updD D1 d, by rw [E.out]; simp, ?_, fun _ => ?_, HC.out.more2 HFR.out x8, HFR.out⟩
        · rw [E.out]
          simpa using HQ.out.turn x8 hb7 hr7 HDS.out
        · exact HDD.out.put HI.out (by rw [show i - m = f + 1 by have := HF.out; omega]; exact E.out)
  · have E := hide (hdead.out q0)
    rw [q0] at hlook
    clear hdead
    go_enter Try.func28, Try.ntmps28
    go_wp2_with fail
    go_region
    go_wp2_with fail
    go_ret
    refine ⟨_, D, by rw [E.out]; simp, ?_, fun _ => HD.out, ?_, fun k hk => .inl hk⟩
    · rw [E.out]
      simpa using H.out.ext ((Ext.alloc w (.cells #[] 99)).trans (Ext.drew _))
    · exact ((Ext.alloc w (.cells #[] 99)).trans (Ext.drew _)).chg _
theorem goOn_any {N M K n : Nat} {g : Nat → Cl} (hok : ∀ i, i < n → OkC (g i)) (hM : allM g n = true) : ∀ f, GoC N M K n g f
  | 0 => goOn_0
  | f + 1 => goOn_succ (goOn_any hok hM f) hok hM
end Go.Proofs.Ytpielknodjppgaa

namespace Go.Proofs.Ytpielknodjppgaa
open Go.RowKit Go.Maps
set_option linter.unusedSimpArgs false
set_option linter.unusedVariables false
set_option maxRecDepth 100000
set_option maxHeartbeats 1000000


theorem inf_set : (Try.prog.info? 89).map (fun i => (i.zero, i.size, i.bytes)) = some (some (.int .u16 0), 1, 2) := by kernel_rfl
def ahL (g : Nat → Cl) (n j : Nat) : List Value := (List.range j).map fun i => s16v (ahd g (g i).f n)
theorem ahL_succ (g : Nat → Cl) (n j : Nat) : ahL g n (j + 1) = ahL g n j ++ [s16v (ahd g (g j).f n)] := by unfold ahL; rw [List.range_succ, List.map_append]; rfl
theorem own_T {w w' : World} {row : Option Nat} (hg : w.grownBy w' row) : Chg row.toList w w' := Chg.grow1 hg (by rintro k rfl; simp)
/-- A search that is being made. -/
structure SM (w0 w : World) (A : Option Addr) (c n j : Nat) (g : Nat → Cl) (av : Value) : Prop where
  b : Blk w (w0.heap.size + 1) #[.slice A n c, av, .map (some w0.heap.size), .slice none 0 0] 87
  row : w.ownsRow w0.heap.size 89 1 av j (ahL g n j)
  map : DS w w0.heap.size (fun _ => false)
  x : Ext w0 w
theorem SM.ext {w0 w w' : World} {A : Option Addr} {c n j : Nat} {g : Nat → Cl} {av : Value} (h : SM w0 w A c n j g av) (x : Ext w w') : SM w0 w' A c n j g av := ⟨h.b.ext x, own_ext h.row x, h.map.ext x, h.x.trans x⟩
theorem SM.app {w0 w w' : World} {A : Option Addr} {c n j : Nat} {g : Nat → Cl} {av av' : Value} (h : SM w0 w A c n j g av) (hr : w'.ownsRow w0.heap.size 89 1 av' (j + 1) (ahL g n j ++ [s16v (ahd g (g j).f n)])) (hg : w.grownBy w' av.ownBlock) :
    Blk w' (w0.heap.size + 1) #[.slice A n c, av, .map (some w0.heap.size), .slice none 0 0] 87 ∧ SM w0 (w'.setCell ⟨w0.heap.size + 1, 1, none⟩ av') A c n (j + 1) g av' := by
  have hc := own_T hg
  have hb := h.b.chg hc (fun hm => by
    simp only [Option.mem_toList] at hm
    obtain ⟨cs, hb2⟩ := own_blk h.row _ hm
    exact absurd (h.b.type hb2) (by decide))
  have hd := h.map.chg hc (fun hm => by
    simp only [Option.mem_toList] at hm
    obtain ⟨cs, hb2⟩ := own_blk h.row _ hm
    exact h.map.noC _ _ hb2)
  have x1 := (Chg.refl [w0.heap.size + 1] w').set (p := ⟨w0.heap.size + 1, 1, none⟩) (.inl (by simp)) av'
  have hb4 := hb.set 1 av'
  rw [show (#[Value.slice A n c, av, .map (some w0.heap.size), .slice none 0 0].setIfInBounds 1 av') = #[Value.slice A n c, av', .map (some w0.heap.size), .slice none 0 0] by simp] at hb4
  refine ⟨hb, hb4, ?_, hd.chg x1 (by simp), ?_⟩
  · rw [ahL_succ]
    exact own_chgB hr x1 (fun k hk hm => by
      obtain ⟨cs, hb2⟩ := own_blk hr k hk
      simp at hm
      subst hm
      exact absurd (hb.type hb2) (by decide))
  · refine (h.x.turn hc (fun t ht => ?_)).turn x1 (by simp)
    simp only [Option.mem_toList] at ht
    exact own_row h.row t ht
theorem first_any {N M K n : Nat} {g : Nat → Cl} (hok : ∀ i, i < n → OkC (g i)) (hM : allM g n = true) (hn : n ≤ 12) {w : World} {b0 B W L c : Nat} {A : Option Addr} (hS : okN N M K = true)
    (hm : ModT w B W L (st0 N M K)) (h : Cs w b0 A n g) (hb : b0 ≤ w.heap.size) :
    Calls Try.prog 19 #[.pointer (some ⟨B, 0, none⟩), .slice A n c] w fun e w' => ∃ v, e = .returned v ∧ w'.ownsRow w.heap.size 3 1 v ((pick n g n (st0 N M K) 0).getD []).length (((pick n g n (st0 N M K) 0).getD []).map enI) ∧ Ext w w' := by
  have H := hide h
  have HM := hide hm
  have hlm := hm.lt
  clear h hm
  have hmm := @run_makeMap Try.prog
  obtain ⟨ti, hi, hz, hsize, hby⟩ := info_parts inf_set
  go_enter Try.func19, Try.ntmps19
  go_wp2_with fail
  have H0 := hide (show SM w ((w.alloc (.map #[] 0)).alloc (.cells #[.slice A n c, .slice none 0 0, .map (some w.heap.size), .slice none 0 0] 87)) A c n 0 g (.slice none 0 0) from
    ⟨by have := Blk.new (w.alloc (.map #[] 0)) #[.slice A n c, .slice none 0 0, .map (some w.heap.size), .slice none 0 0] 87; simpa using this, own_nil _ _ _ _, (DS.made w).ext (Ext.alloc _ _), (Ext.alloc _ _).trans (Ext.alloc _ _)⟩)
  clear hmm
  go_loopw [13] (fun v wr => ∃ (j : Nat) (av : Value), j ≤ n ∧ v = .int .i64 (j : Int) ∧ SM w wr A c n j g av) (fun v _ => n - (intOf v).toNat)
  case atStart => exact ⟨0, _, by omega, rfl, H0.out⟩
  case round =>
    clear H0
    obtain ⟨j, av, hj, rfl, hs⟩ := hrel
    have HS := hide hs
    by_cases hlt : j < n
    · have hcs := H.out.ext hs.x hb
      obtain ⟨b, off, rfl, hb0, r0, r1, r2, r3, r4, r5, r6⟩ := hcs.rules hlt
      have hcs2 := hcs.ext (Ext.alloc wr (.cells (cc (g j)) 38)) (by have := hs.x.size; omega)
      have HS1 := hide (hs.ext (Ext.alloc wr (.cells (cc (g j)) 38)))
      have HC := hide (Blk.new wr (cc (g j)) 38)
      have HCS := hide hcs2
      unfold cc at HC HS1 HCS
      obtain ⟨R, hR⟩ : ∃ R, R = wr.heap.size := ⟨_, rfl⟩
      rw [← hR] at HC
      have HR := hide hR
      clear hs hcs hcs2 hR
      go_upto_region 5 with fail
      rw [← HR.out]
      have hl1 := HC.out.lt
      generalize wr.alloc (.cells #[.int .i64 (g j).k, .int .i64 (g j).t, .int .i64 (g j).o, .int .i64 (g j).a, .int .i64 (g j).r, .int .i64 (g j).f, .int .i64 (g j).u] 38) = W1 at *
      clear r0 r1 r2 r3 r4 r5 r6 HS HR
      generalize hE : ahd g (g j).f n = xx at *
      have HE := hide hE
      clear hE
      generalize hF : (g j).f = ff at *
      have HF := hide hF
      clear hF
      generalize (g j).k = x0 at *
      generalize (g j).t = x1 at *
      generalize (g j).o = x2 at *
      generalize (g j).a = x3 at *
      generalize (g j).r = x4 at *
      generalize (g j).u = x6 at *
      have hk := Ext.drew W1
      refine wp_region_held_drew (S := fun w' => w'.cell? ⟨R, 5, none⟩ = some (.int .i64 ff)) (by kernel_rfl) ((HC.out.ext hk).cell 5) (fun hHeld => ?_)
      (refine held_take (i := 0) (v := ?_) rfl (by kernel_rfl) (by kernel_rfl) (by kernel_rfl) (fun _ _ _ h => h) (by rfl) ?_ (by assumption) ?_; rotate_left; (intro w hSw; (try dsimp only at hSw); (first | (go_simp; done) | (go_simp; with_reducible rfl))); (try simp only [Act.put, List.setIfInBounds_toArray, List.set_cons_zero, List.set_cons_succ]))
      (refine held_take (i := 2) (v := ?_) rfl (by kernel_rfl) (by kernel_rfl) (by kernel_rfl) (fun _ _ _ h => h) (by rfl) ?_ (by assumption) ?_; rotate_left; (intro w hSw; (try dsimp only at hSw); (first | (go_simp; done) | (go_simp; with_reducible rfl))); (try simp only [Act.put, List.setIfInBounds_toArray, List.set_cons_zero, List.set_cons_succ]))
      (refine held_take (i := 3) (v := ?_) rfl (by kernel_rfl) (by kernel_rfl) (by kernel_rfl) (fun _ _ _ h => h) (by rfl) ?_ (by assumption) ?_; rotate_left; (intro w hSw; (try dsimp only at hSw); (first | (go_simp; done) | (go_simp; with_reducible rfl))); (try simp only [Act.put, List.setIfInBounds_toArray, List.set_cons_zero, List.set_cons_succ]))
      (refine held_take (i := 4) (v := ?_) rfl (by kernel_rfl) (by kernel_rfl) (by kernel_rfl) (fun _ _ _ h => h) (by rfl) ?_ (by assumption) ?_; rotate_left; (intro w hSw; (try dsimp only at hSw); (first | (go_simp; done) | (go_simp; with_reducible rfl))); (try simp only [Act.put, List.setIfInBounds_toArray, List.set_cons_zero, List.set_cons_succ]))
      refine wpAnyH_ready (rs := [1, 5]) (by kernel_rfl) (by simp) (held_cons rfl (fun K hK => ?_) (held_cons rfl (fun K hK => ?_) AllReadyH.nil))
      · rw [if_pos (by rfl)]
        have hl9 := (HS1.out.b.ext hk).cell 1
        go_wp2
        refine hK.out _ _ ((HC.out.ext hk).cell 5) (fun hHeld => ?_)
        (try simp only [Act.put, List.setIfInBounds_toArray, List.set_cons_zero, List.set_cons_succ])
        refine wpAnyH_ready (rs := [5]) (by kernel_rfl) (by simp) (held_cons rfl (fun K hK => ?_) AllReadyH.nil)
        rw [if_pos (by rfl)]
        go_simp
        go_at_call 27
        refine (over_any (HCS.out.ext hk (by have := HS1.out.x.size; omega)) (by have := HS1.out.x.size; simp; omega) (by omega) ff).mono ?_
        rintro e w6 ⟨rfl, hx6⟩
        have hk := hk.trans hx6
        rw [HE.out]
        refine hK.out _ _ ((HC.out.ext hk).cell 5) (fun hHeld => ?_)
        (try simp only [Act.put, List.setIfInBounds_toArray, List.set_cons_zero, List.set_cons_succ])
        refine wpAnyH_ready (rs := [6]) (by kernel_rfl) (by simp) (held_cons rfl (fun K hK => ?_) AllReadyH.nil)
        rw [if_pos (by rfl)]
        unfold s16v
        go_wp2
        have hk := hk.trans (Ext.alloc w6 (.cells #[.int .u16 (xx : Int)] 89))
        have HN3 := hide (Blk.new w6 #[.int .u16 (xx : Int)] 89)
        have HS3 := hide (HS1.out.ext hk)
        have HC3 := hide (HC.out.ext hk)
        generalize w6.alloc (.cells #[.int .u16 (xx : Int)] 89) = W3 at *
        refine hK.out _ _ (HC3.out.cell 5) (fun hHeld => ?_)
        (try simp only [Act.put, List.setIfInBounds_toArray, List.set_cons_zero, List.set_cons_succ])
        refine wpAnyH_ready (rs := [7]) (by kernel_rfl) (by simp) (held_cons rfl (fun K hK => ?_) AllReadyH.nil)
        rw [if_pos (by rfl)]
        refine wp_append_own W3 _ _ 85 rfl w.heap.size 89 ti _ 1 2 Try.underlying85 hi hz hsize hby rfl (by omega) av j (ahL g n j) rfl HS3.out.row ⟨w6.heap.size, 0, none⟩ 1 1 [.int .u16 (xx : Int)] rfl rfl (fun i u hu => by rw [Addr.add_mid, Nat.zero_add, HN3.out.cell, ← hu]; simp) (by simp [Value.oneCell']) (by unfold maxLen; omega) (by omega) HS3.out.x.size ?_
        intro v' w4 ho4 hg4 _
        obtain ⟨A4, c4, rfl⟩ := own_sl ho4
        have h4 := HS3.out.app (av' := .slice A4 (j + 1) c4) (by rw [HF.out, HE.out]; exact ho4) hg4
        have hb4 := h4.1
        have H5 := hide h4.2
        have hc4 := own_T hg4
        have HC4 := HC3.out.chg hc4 (fun hm => by
          simp only [Option.mem_toList] at hm
          obtain ⟨cs, hb2⟩ := own_blk HS3.out.row _ hm
          exact absurd (HC3.out.type hb2) (by decide))
        have sf4 := hb4.free 1
        have sc4 := hb4.cell 1
        have hne4 : R ≠ w.heap.size + 1 := by
          rintro rfl
          exact absurd (HC4.type hb4) (by decide)
        have HC5 := hide (HC4.far (p := ⟨w.heap.size + 1, 1, none⟩) hne4 (.slice A4 (j + 1) c4))
        clear h4 hc4 ho4 hg4
        refine hK.out _ _ (HC4.cell 5) (fun hHeld => ?_)
        (try simp only [Act.put, List.setIfInBounds_toArray, List.set_cons_zero, List.set_cons_succ])
        (refine held_take (i := 8) (v := ?_) rfl (by kernel_rfl) (by kernel_rfl) (by kernel_rfl) (fun _ _ _ h => h) (by rfl) ?_ (by assumption) ?_; rotate_left; (intro w hSw; (try dsimp only at hSw); (first | (go_simp; done) | (go_simp; with_reducible rfl))); (try simp only [Act.put, List.setIfInBounds_toArray, List.set_cons_zero, List.set_cons_succ]))
        refine wpAnyH_ready (rs := [9]) (by kernel_rfl) (by simp) (held_cons rfl (fun K hK => ?_) AllReadyH.nil)
        rw [if_pos (by rfl)]
        go_wp2
        refine hK.out _ _ (HC5.out.cell 5) (fun hHeld => ?_)
        (try simp only [Act.put, List.setIfInBounds_toArray, List.set_cons_zero, List.set_cons_succ])
        refine wpAnyH_done (by kernel_rfl) ?_ _
        clear sf4 sc4 hb4 HC4 hHeld hK
        generalize w4.setCell ⟨w.heap.size + 1, 1, none⟩ (.slice A4 (j + 1) c4) = W5 at *
        go_wp2_with fail
        go_roundw
        case rel => exact ⟨j + 1, _, by omega, by go_num, H5.out⟩
        case measure => simp [intOf]; omega
      · rw [if_pos (by rfl)]
        go_simp
        go_at_call 27
        refine (over_any (HCS.out.ext hk (by have := HS1.out.x.size; omega)) (by have := HS1.out.x.size; simp; omega) (by omega) ff).mono ?_
        rintro e w6 ⟨rfl, hx6⟩
        have hk := hk.trans hx6
        rw [HE.out]
        refine hK.out _ _ ((HC.out.ext hk).cell 5) (fun hHeld => ?_)
        (try simp only [Act.put, List.setIfInBounds_toArray, List.set_cons_zero, List.set_cons_succ])
        refine wpAnyH_ready (rs := [1, 6]) (by kernel_rfl) (by simp) (held_cons rfl (fun K hK => ?_) (held_cons rfl (fun K hK => ?_) AllReadyH.nil))
        · rw [if_pos (by rfl)]
          have hl9 := (HS1.out.b.ext hk).cell 1
          go_wp2
          refine hK.out _ _ ((HC.out.ext hk).cell 5) (fun hHeld => ?_)
          (try simp only [Act.put, List.setIfInBounds_toArray, List.set_cons_zero, List.set_cons_succ])
          refine wpAnyH_ready (rs := [6]) (by kernel_rfl) (by simp) (held_cons rfl (fun K hK => ?_) AllReadyH.nil)
          rw [if_pos (by rfl)]
          unfold s16v
          go_wp2
          have hk := hk.trans (Ext.alloc w6 (.cells #[.int .u16 (xx : Int)] 89))
          have HN3 := hide (Blk.new w6 #[.int .u16 (xx : Int)] 89)
          have HS3 := hide (HS1.out.ext hk)
          have HC3 := hide (HC.out.ext hk)
          generalize w6.alloc (.cells #[.int .u16 (xx : Int)] 89) = W3 at *
          refine hK.out _ _ (HC3.out.cell 5) (fun hHeld => ?_)
          (try simp only [Act.put, List.setIfInBounds_toArray, List.set_cons_zero, List.set_cons_succ])
          refine wpAnyH_ready (rs := [7]) (by kernel_rfl) (by simp) (held_cons rfl (fun K hK => ?_) AllReadyH.nil)
          rw [if_pos (by rfl)]
          refine wp_append_own W3 _ _ 85 rfl w.heap.size 89 ti _ 1 2 Try.underlying85 hi hz hsize hby rfl (by omega) av j (ahL g n j) rfl HS3.out.row ⟨w6.heap.size, 0, none⟩ 1 1 [.int .u16 (xx : Int)] rfl rfl (fun i u hu => by rw [Addr.add_mid, Nat.zero_add, HN3.out.cell, ← hu]; simp) (by simp [Value.oneCell']) (by unfold maxLen; omega) (by omega) HS3.out.x.size ?_
          intro v' w4 ho4 hg4 _
          obtain ⟨A4, c4, rfl⟩ := own_sl ho4
          have h4 := HS3.out.app (av' := .slice A4 (j + 1) c4) (by rw [HF.out, HE.out]; exact ho4) hg4
          have hb4 := h4.1
          have H5 := hide h4.2
          have hc4 := own_T hg4
          have HC4 := HC3.out.chg hc4 (fun hm => by
            simp only [Option.mem_toList] at hm
            obtain ⟨cs, hb2⟩ := own_blk HS3.out.row _ hm
            exact absurd (HC3.out.type hb2) (by decide))
          have sf4 := hb4.free 1
          have sc4 := hb4.cell 1
          have hne4 : R ≠ w.heap.size + 1 := by
            rintro rfl
            exact absurd (HC4.type hb4) (by decide)
          have HC5 := hide (HC4.far (p := ⟨w.heap.size + 1, 1, none⟩) hne4 (.slice A4 (j + 1) c4))
          clear h4 hc4 ho4 hg4
          refine hK.out _ _ (HC4.cell 5) (fun hHeld => ?_)
          (try simp only [Act.put, List.setIfInBounds_toArray, List.set_cons_zero, List.set_cons_succ])
          (refine held_take (i := 8) (v := ?_) rfl (by kernel_rfl) (by kernel_rfl) (by kernel_rfl) (fun _ _ _ h => h) (by rfl) ?_ (by assumption) ?_; rotate_left; (intro w hSw; (try dsimp only at hSw); (first | (go_simp; done) | (go_simp; with_reducible rfl))); (try simp only [Act.put, List.setIfInBounds_toArray, List.set_cons_zero, List.set_cons_succ]))
          refine wpAnyH_ready (rs := [9]) (by kernel_rfl) (by simp) (held_cons rfl (fun K hK => ?_) AllReadyH.nil)
          rw [if_pos (by rfl)]
          go_wp2
          refine hK.out _ _ (HC5.out.cell 5) (fun hHeld => ?_)
          (try simp only [Act.put, List.setIfInBounds_toArray, List.set_cons_zero, List.set_cons_succ])
          refine wpAnyH_done (by kernel_rfl) ?_ _
          clear sf4 sc4 hb4 HC4 hHeld hK
          generalize w4.setCell ⟨w.heap.size + 1, 1, none⟩ (.slice A4 (j + 1) c4) = W5 at *
          go_wp2_with fail
          go_roundw
          case rel => exact ⟨j + 1, _, by omega, by go_num, H5.out⟩
          case measure => simp [intOf]; omega
        · rw [if_pos (by rfl)]
          unfold s16v
          go_wp2
          have hk := hk.trans (Ext.alloc w6 (.cells #[.int .u16 (xx : Int)] 89))
          have HN3 := hide (Blk.new w6 #[.int .u16 (xx : Int)] 89)
          have HS3 := hide (HS1.out.ext hk)
          have HC3 := hide (HC.out.ext hk)
          generalize w6.alloc (.cells #[.int .u16 (xx : Int)] 89) = W3 at *
          refine hK.out _ _ (HC3.out.cell 5) (fun hHeld => ?_)
          (try simp only [Act.put, List.setIfInBounds_toArray, List.set_cons_zero, List.set_cons_succ])
          refine wpAnyH_ready (rs := [1]) (by kernel_rfl) (by simp) (held_cons rfl (fun K hK => ?_) AllReadyH.nil)
          rw [if_pos (by rfl)]
          have hl9 := (HS1.out.b.ext hk).cell 1
          go_wp2
          refine hK.out _ _ ((HC.out.ext hk).cell 5) (fun hHeld => ?_)
          (try simp only [Act.put, List.setIfInBounds_toArray, List.set_cons_zero, List.set_cons_succ])
          refine wpAnyH_ready (rs := [7]) (by kernel_rfl) (by simp) (held_cons rfl (fun K hK => ?_) AllReadyH.nil)
          rw [if_pos (by rfl)]
          refine wp_append_own W3 _ _ 85 rfl w.heap.size 89 ti _ 1 2 Try.underlying85 hi hz hsize hby rfl (by omega) av j (ahL g n j) rfl HS3.out.row ⟨w6.heap.size, 0, none⟩ 1 1 [.int .u16 (xx : Int)] rfl rfl (fun i u hu => by rw [Addr.add_mid, Nat.zero_add, HN3.out.cell, ← hu]; simp) (by simp [Value.oneCell']) (by unfold maxLen; omega) (by omega) HS3.out.x.size ?_
          intro v' w4 ho4 hg4 _
          obtain ⟨A4, c4, rfl⟩ := own_sl ho4
          have h4 := HS3.out.app (av' := .slice A4 (j + 1) c4) (by rw [HF.out, HE.out]; exact ho4) hg4
          have hb4 := h4.1
          have H5 := hide h4.2
          have hc4 := own_T hg4
          have HC4 := HC3.out.chg hc4 (fun hm => by
            simp only [Option.mem_toList] at hm
            obtain ⟨cs, hb2⟩ := own_blk HS3.out.row _ hm
            exact absurd (HC3.out.type hb2) (by decide))
          have sf4 := hb4.free 1
          have sc4 := hb4.cell 1
          have hne4 : R ≠ w.heap.size + 1 := by
            rintro rfl
            exact absurd (HC4.type hb4) (by decide)
          have HC5 := hide (HC4.far (p := ⟨w.heap.size + 1, 1, none⟩) hne4 (.slice A4 (j + 1) c4))
          clear h4 hc4 ho4 hg4
          refine hK.out _ _ (HC4.cell 5) (fun hHeld => ?_)
          (try simp only [Act.put, List.setIfInBounds_toArray, List.set_cons_zero, List.set_cons_succ])
          (refine held_take (i := 8) (v := ?_) rfl (by kernel_rfl) (by kernel_rfl) (by kernel_rfl) (fun _ _ _ h => h) (by rfl) ?_ (by assumption) ?_; rotate_left; (intro w hSw; (try dsimp only at hSw); (first | (go_simp; done) | (go_simp; with_reducible rfl))); (try simp only [Act.put, List.setIfInBounds_toArray, List.set_cons_zero, List.set_cons_succ]))
          refine wpAnyH_ready (rs := [9]) (by kernel_rfl) (by simp) (held_cons rfl (fun K hK => ?_) AllReadyH.nil)
          rw [if_pos (by rfl)]
          go_wp2
          refine hK.out _ _ (HC5.out.cell 5) (fun hHeld => ?_)
          (try simp only [Act.put, List.setIfInBounds_toArray, List.set_cons_zero, List.set_cons_succ])
          refine wpAnyH_done (by kernel_rfl) ?_ _
          clear sf4 sc4 hb4 HC4 hHeld hK
          generalize w4.setCell ⟨w.heap.size + 1, 1, none⟩ (.slice A4 (j + 1) c4) = W5 at *
          go_wp2_with fail
          go_roundw
          case rel => exact ⟨j + 1, _, by omega, by go_num, H5.out⟩
          case measure => simp [intOf]; omega
    · obtain rfl : j = n := by omega
      have hq : SQ wr w.heap.size (w.heap.size + 1) w.heap.size A c av (.slice none 0 0) j g (fun _ => false) [] :=
        ⟨hs.b, own_nil _ _ _ _, hs.map, (H.out.ext hs.x hb).more hb, hs.row, by omega, by omega, hn⟩
      have hgo := goOn_any (N := N) (M := M) (K := K) hok hM j wr w.heap.size (w.heap.size + 1) w.heap.size c B W L 0 0 A av _ _ [] _ (HM.out.ext hs.x) (by omega) (by omega) hq (inv_0 hS j g) (dead_no j g N M K) rfl (by omega)
      have HX := hide hs.x
      unfold s16v at hgo
      clear hs HS hq
      obtain ⟨r, hr⟩ : ∃ r, r = pick j g j (st0 N M K) 0 := ⟨_, rfl⟩
      rw [← hr] at hgo
      have HR := hide hr
      clear hr
      go_wp2_with fail
      refine hgo.mono ?_
      rintro e w5 ⟨ov5, D5, rfl, hF⟩
      have HF := hide hF
      have rb := hF.q.b.cell
      obtain ⟨A5, c5, rfl⟩ := own_sl hF.q.row
      clear hgo hF
      have HX5 := hide (HX.out.turn HF.out.x (fun t ht => by
        rcases List.mem_cons.1 ht with e | ht
        · omega
        · rcases List.mem_cons.1 ht with e | ht
          · omega
          · cases of_blkL ht))
      cases r with
      | none =>
        go_wp2_with fail
        go_ret
        refine ⟨_, rfl, ?_, HX5.out⟩
        rw [← HR.out]
        exact own_nil _ _ _ _
      | some out =>
        go_wp2_with fail
        go_ret
        refine ⟨_, rfl, ?_, HX5.out⟩
        rw [← HR.out]
        simpa using HF.out.q.row
end Go.Proofs.Ytpielknodjppgaa

namespace Go.Proofs.Ytpielknodjppgaa
open Go.RowKit Go.Maps
set_option linter.unusedSimpArgs false
set_option linter.unusedVariables false
set_option maxRecDepth 100000
set_option maxHeartbeats 1000000


def ordE (N M K : Int) (n : Nat) (g : Nat → Cl) : Int := if okN N M K = true then (if allM g n = true then (if 12 < n then 5 else 0) else 1) else 1
def ordP (N M K : Int) (n : Nat) (g : Nat → Cl) : Option (List Nat) := if ordE N M K n g = 0 then pick n g n (st0 N.toNat M.toNat K.toNat) 0 else none
theorem askS_ok {N M K : Int} {n : Nat} {g : Nat → Cl} (h : ordE N M K n g = 0) : okN N M K = true ∧ allM g n = true ∧ n ≤ 12 := by
  unfold ordE at h
  split at h
  · rename_i h1
    split at h
    · rename_i h2
      split at h
      · omega
      · exact ⟨h1, h2, by omega⟩
    · omega
  · omega
theorem okN_nat {N M K : Int} (h : okN N M K = true) : ∃ a b c : Nat, N = a ∧ M = b ∧ K = c := by
  obtain ⟨h1, h2, h3, h4, h5, h6⟩ := (okN_iff N M K).1 h
  exact ⟨N.toNat, M.toNat, K.toNat, by omega, by omega, by omega⟩
section
variable {n : Nat} {g : Nat → Cl} {w : World} {b0 c : Nat} {A : Option Addr}
theorem order_any (hok : ∀ i, i < n → OkC (g i)) (hn : n ≤ 1000000) (h : Cs w b0 A n g) (hb : b0 ≤ w.heap.size) (N M K : Int) :
    Calls Try.prog 9 #[.int .i64 N, .int .i64 M, .int .i64 K, .slice A n c] w fun e w' => ∃ v, e = .returned (.tuple #[v, .int .i64 (ordE N M K n g)]) ∧ w'.ownsRow w.heap.size 3 1 v ((ordP N M K n g).getD []).length (((ordP N M K n g).getD []).map enI) ∧ Ext w w' := by
  have H := hide h
  clear h
  cases q1 : okN N M K
  · have E := hide (show ordE N M K n g = 1 by unfold ordE; rw [q1]; rfl)
    have hnew := new_no q1 w
    go_enter Try.func9, Try.ntmps9
    go_wp2_with fail
    refine hnew.mono ?_
    rintro e w1 ⟨rfl, rfl⟩
    go_wp2_with fail
    go_ret2
    refine ⟨.slice none 0 0, by rw [E.out]; simp, ?_, Ext.refl _⟩
    unfold ordP
    rw [E.out]
    exact own_nil _ _ _ _
  · obtain ⟨N, M, K, rfl, rfl, rfl⟩ := okN_nat q1
    have hnew := new_ok q1 w
    cases q2 : allM g n
    · have E := hide (show ordE N M K n g = 1 by unfold ordE; rw [q1, q2]; rfl)
      go_enter Try.func9, Try.ntmps9
      go_wp2_with fail
      refine hnew.mono ?_
      rintro e w1 ⟨B, W, L, rfl, hm, hb1, hw1, hl1, hx1⟩
      have HC := hide (contF_any (c := c) (H.out.ext hx1 hb) (by have := hx1.size; omega) (by omega))
      rw [q2] at HC
      clear hnew hm
      go_wp2_with fail
      refine HC.out.mono ?_
      rintro e w2 ⟨rfl, hx2⟩
      go_wp2_with fail
      go_ret2
      refine ⟨.slice none 0 0, by rw [E.out]; simp, ?_, hx1.trans hx2⟩
      unfold ordP
      rw [E.out]
      exact own_nil _ _ _ _
    · by_cases q3 : 12 < n
      · have E := hide (show ordE N M K n g = 5 by unfold ordE; rw [q1, q2]; simp; omega)
        go_enter Try.func9, Try.ntmps9
        go_wp2_with fail
        refine hnew.mono ?_
        rintro e w1 ⟨B, W, L, rfl, hm, hb1, hw1, hl1, hx1⟩
        have HC := hide (contF_any (c := c) (H.out.ext hx1 hb) (by have := hx1.size; omega) (by omega))
        rw [q2] at HC
        clear hnew hm
        go_wp2_with fail
        refine HC.out.mono ?_
        rintro e w2 ⟨rfl, hx2⟩
        go_wp2_with fail
        go_ret2
        refine ⟨.slice none 0 0, by rw [E.out]; simp, ?_, hx1.trans hx2⟩
        unfold ordP
        rw [E.out]
        exact own_nil _ _ _ _
      · have E := hide (show ordE N M K n g = 0 by unfold ordE; rw [q1, q2]; simp; omega)
        have EP := hide (show ordP N M K n g = pick n g n (st0 N M K) 0 by unfold ordP; rw [E.out]; rfl)
        go_enter Try.func9, Try.ntmps9
        go_wp2_with fail
        refine hnew.mono ?_
        rintro e w1 ⟨B, W, L, rfl, hm, hb1, hw1, hl1, hx1⟩
        have HM := hide hm
        have HC := hide (contF_any (c := c) (H.out.ext hx1 hb) (by have := hx1.size; omega) (by omega))
        rw [q2] at HC
        clear hnew hm
        go_wp2_with fail
        refine HC.out.mono ?_
        rintro e w2 ⟨rfl, hx2⟩
        have hf := first_any (c := c) hok q2 (by omega) q1 (HM.out.ext hx2) (H.out.ext (hx1.trans hx2) hb) (by have := hx1.size; have := hx2.size; omega)
        have HX := hide (hx1.trans hx2)
        clear hx1 hx2
        go_wp2_with fail
        refine hf.mono ?_
        rintro e w3 ⟨v, rfl, hr, hx3⟩
        obtain ⟨A3, c3, rfl⟩ := own_sl hr
        have HR := hide hr
        have HX3 := hide (HX.out.trans hx3)
        clear hf hr hx3
        go_wp2_with fail
        go_ret2
        refine ⟨_, by rw [E.out]; simp; rfl, ?_, HX3.out⟩
        rw [EP.out]
        exact own_low HR.out HX.out.size
theorem can_any (hok : ∀ i, i < n → OkC (g i)) (hn : n ≤ 1000000) (h : Cs w b0 A n g) (hb : b0 ≤ w.heap.size) (N M K : Int) :
    Calls Try.prog 7 #[.int .i64 N, .int .i64 M, .int .i64 K, .slice A n c] w fun e w' => e = .returned (.tuple #[.bool (decide (ordE N M K n g = 0) && (ordP N M K n g).isSome), .int .i64 (ordE N M K n g)]) ∧ Ext w w' := by
  have ho := order_any (c := c) hok hn h hb N M K
  have hl : ordE N M K n g = 0 → (((ordP N M K n g).getD []).length = n ↔ (ordP N M K n g).isSome = true) := by
    intro e
    unfold ordP
    rw [if_pos e]
    cases q : pick n g n (st0 N.toNat M.toNat K.toNat) 0 with
    | none =>
      have : n ≠ 0 := by rintro rfl; simp [pick] at q
      simp; omega
    | some out => simp [(pick_sound n _ _ _ q).1]
  have HL := hide hl
  clear h hok hl
  generalize ordE N M K n g = er at *
  generalize ordP N M K n g = r at *
  go_enter Try.func7, Try.ntmps7
  go_wp2_with fail
  refine ho.mono ?_
  rintro e w1 ⟨v, rfl, hr, hx⟩
  obtain ⟨A3, c3, rfl⟩ := own_sl hr
  clear hr ho
  generalize (r.getD []).length = ln at *
  go_wp2_with fail
  all_goals
    rename_i he
    first
    | (have he2 : ¬ er = 0 := he
       clear HL
       go_ret2
       exact ⟨by simp [he2], hx⟩)
    | (subst he
       have h2 := HL.out rfl
       go_ret2
       refine ⟨?_, hx⟩
       have h3 : ((ln : Int) == (n : Int)) = r.isSome := by
         apply Bool.eq_iff_iff.2
         rw [← h2]
         simp
         omega
       simp [h3])
def SerR (N M K : Int) (n : Nat) (g : Nat → Cl) (j : Nat) (b : Bool) : Prop := (okN N M K = false ∧ j = 0 ∧ b = false) ∨ (okN N M K = true ∧ Ser g n (st0 N.toNat M.toNat K.toNat) j b)
theorem serR_one {N M K : Int} {n : Nat} {g : Nat → Cl} {j j' : Nat} {b b' : Bool} (h : SerR N M K n g j b) (h' : SerR N M K n g j' b') : j = j' ∧ b = b' := by
  rcases h with ⟨h1, rfl, rfl⟩ | ⟨h1, h2⟩
  · rcases h' with ⟨h3, rfl, rfl⟩ | ⟨h3, h4⟩
    · exact ⟨rfl, rfl⟩
    · rw [h1] at h3; cases h3
  · rcases h' with ⟨h3, rfl, rfl⟩ | ⟨h3, h4⟩
    · rw [h1] at h3; cases h3
    · exact ser_one h2 h4
theorem serR_le {N M K : Int} {n : Nat} {g : Nat → Cl} {j : Nat} {b : Bool} (h : SerR N M K n g j b) : j ≤ n := by
  rcases h with ⟨_, rfl, _⟩ | ⟨_, h⟩
  · exact Nat.zero_le _
  · exact ser_le h
theorem serial_any (hok : ∀ i, i < n → OkC (g i)) (hn : n ≤ 1000000) (h : Cs w b0 A n g) (hb : b0 ≤ w.heap.size) (N M K : Int) :
    Calls Try.prog 13 #[.int .i64 N, .int .i64 M, .int .i64 K, .slice A n c] w fun e w' => ∃ j b, e = .returned (.tuple #[.int .i64 ((j : Nat) : Int), .bool b]) ∧ SerR N M K n g j b ∧ Ext w w' := by
  have H := hide h
  clear h
  cases q1 : okN N M K
  · have hnew := new_no q1 w
    go_enter Try.func13, Try.ntmps13
    go_wp2_with fail
    refine hnew.mono ?_
    rintro e w1 ⟨rfl, rfl⟩
    go_wp2_with fail
    go_ret2
    exact ⟨0, false, by simp, .inl ⟨q1, rfl, rfl⟩, Ext.refl _⟩
  · obtain ⟨N, M, K, rfl, rfl, rfl⟩ := okN_nat q1
    have hnew := new_ok q1 w
    have HQ := hide (show ∀ j b, Ser g n (st0 N M K) j b → SerR N M K n g j b from fun j b h => .inr ⟨q1, h⟩)
    clear q1
    generalize st0 N M K = S0 at *
    go_enter Try.func13, Try.ntmps13
    go_wp2_with fail
    refine hnew.mono ?_
    rintro e w1 ⟨B, W, L, rfl, hm, hb1, hw1, hl1, hx1⟩
    have HM := hide hm
    have HLO := hide (And.intro hb1 (And.intro hw1 hl1))
    clear hnew hm hb1 hw1 hl1
    go_wp2_with fail
    go_loopw [25] (fun v wr => ∃ j : Nat, j ≤ n ∧ v = .int .i64 (j : Int) ∧ ModT wr B W L (run g S0 j) ∧ (∀ i, i < j → acc (run g S0 i) (g i) = true) ∧ Ext w wr) (fun v _ => n - (intOf v).toNat)
    case atStart => exact ⟨0, by omega, rfl, HM.out, fun i hi => by omega, hx1⟩
    case round =>
      clear HM hx1
      obtain ⟨j, hj, rfl, hm, hbf, hX⟩ := hrel
      have HB := hide hbf
      clear hbf
      by_cases hlt : j < n
      · obtain ⟨b, off, rfl, hb0, r0, r1, r2, r3, r4, r5, r6⟩ := (H.out.ext hX hb).rules hlt
        have hx2 := Ext.alloc wr (.cells (cc (g j)) 38)
        have hap := apply_any (hm.ext hx2) (g j).k (g j).t (g j).o (g j).a (g j).r (hok j hlt).a
        have HX := hide (hX.trans hx2)
        have HA := hide (show apE (run g S0 j) (g j).k (g j).t (g j).o (g j).a (g j).r = (if acc (run g S0 j) (g j) = true then 0 else 15) from rfl)
        have HN := hide (show apS (run g S0 j) (g j).k (g j).t (g j).o (g j).a (g j).r = run g S0 (j + 1) from rfl)
        have HSER := hide (show acc (run g S0 j) (g j) = false → Ser g n S0 j false from fun q => ⟨HB.out, .inr ⟨rfl, hlt, q⟩⟩)
        unfold cc at hap HX
        generalize hac : acc (run g S0 j) (g j) = ac at *
        have HAC := hide hac
        clear hac hm hx2 hX
        generalize apS (run g S0 j) (g j).k (g j).t (g j).o (g j).a (g j).r = S1 at *
        generalize apE (run g S0 j) (g j).k (g j).t (g j).o (g j).a (g j).r = er at *
        generalize (g j).k = x0 at *
        generalize (g j).t = x1 at *
        generalize (g j).o = x2 at *
        generalize (g j).a = x3 at *
        generalize (g j).r = x4 at *
        generalize (g j).f = x5 at *
        generalize (g j).u = x6 at *
        go_wp2_with fail
        refine hap.mono ?_
        rintro e w2 ⟨rfl, hm2, hc2⟩
        have HX2 := hide (HX.out.turn hc2 (fun t ht => by have := HLO.out; simp at ht; rcases ht with rfl | rfl | rfl <;> omega))
        rw [HN.out] at hm2
        have HM2 := hide hm2
        clear hap hm2 hc2 HN
        cases ac
        · have e15 : er = 15 := HA.out
          subst e15
          have E := hide (HSER.out rfl)
          clear HA HSER HAC
          go_wp2_with fail
          go_ret2
          exact ⟨j, false, by simp, HQ.out _ _ E.out, HX2.out⟩
        · have e0 : er = 0 := HA.out
          subst e0
          clear HA HSER
          go_wp2_with fail
          go_roundw
          case rel => exact ⟨j + 1, by omega, by go_num, HM2.out, fun i hi => by
            by_cases q : i = j
            · subst q; exact HAC.out
            · exact HB.out i (by omega), HX2.out⟩
          case measure => simp [intOf]; omega
      · obtain rfl : j = n := by omega
        go_wp2_with fail
        go_ret2
        exact ⟨j, true, by simp, HQ.out _ _ ⟨HB.out, .inl ⟨rfl, rfl⟩⟩, hX⟩
end
end Go.Proofs.Ytpielknodjppgaa
