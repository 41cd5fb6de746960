/- Tick. -/
import Derived.Test.YtgfhpgbklcjooaaT8
namespace Go.Proofs.Ytgfhpgbklcjooaa
open Go.RowKit Go.Maps
set_option linter.unusedSimpArgs false
set_option linter.unusedVariables false

def tkN (n : Int) : Int := max n 0
def tkT (now n : Int) : Int := latI now (tkN n)
/-- What is left of alarms once those up to a time were told. -/
def rest (f : Al) (T : Int) : Al := fun t => if f t ≤ T then 0 else f t
/-- .. once those of a list were. -/
def gone (f : Al) (l : List Nat) : Al := fun t => if t ∈ l then 0 else f t
theorem gone_nil (f : Al) : gone f [] = f := by funext t; simp [gone]
theorem gone_snoc (f : Al) (l : List Nat) (x : Nat) : clr (gone f l) (x : Int) = gone f (l ++ [x]) := by
  funext t
  unfold clr
  rw [if_pos (by omega)]
  unfold upd gone
  simp only [Int.toNat_natCast, List.mem_append, List.mem_singleton]
  by_cases h1 : t = x
  · simp [h1]
  · simp [h1]
theorem gone_due {f : Al} {T : Int} {l : List Nat} (h : DueL f T l) (hT : 0 ≤ T) : gone f l = rest f T := by
  funext t
  unfold gone rest
  by_cases h1 : f t ≤ T
  · rw [if_pos h1]
    by_cases h0 : f t = 0
    · rw [h0]; split <;> rfl
    · rw [if_pos ((h.mem t).2 ⟨h0, h1⟩)]
  · rw [if_neg h1, if_neg fun hm => h1 ((h.mem t).1 hm).2]
theorem OkA.gone {f : Al} (ok : OkA f) (l : List Nat) : OkA (gone f l) := by
  refine ⟨fun s hs => ?_, fun s => ?_, fun s => ?_⟩ <;> unfold Proofs.Ytgfhpgbklcjooaa.gone <;> split
  · rfl
  · exact ok.th s hs
  · exact Int.le_refl _
  · exact ok.lo s
  · unfold TM; omega
  · exact ok.hi s
theorem ClkT.at {w : World} {C m : Nat} {now T : Int} {f : Al} (h : ClkT w C m now f) (h0 : 0 ≤ T) (h1 : T ≤ TM) : ClkT (w.setCell ⟨C, 1, none⟩ (.int .i64 T)) C m T f := by
  have hb := h.c.set 1 (.int .i64 T)
  rw [show (#[Value.map (some m), .int .i64 now].setIfInBounds 1 (.int .i64 T)) = #[.map (some m), .int .i64 T] by simp] at hb
  have hc := (Chg.refl [C] w).set (p := ⟨C, 1, none⟩) (.inl (by simp)) (.int .i64 T)
  exact ⟨hb, h.mp.chg hc (by simpa using h.ne), h.ok, h0, h1⟩
theorem own_at {w : World} {base : Nat} {v : Value} {l : List Nat} (h : w.ownsRow base 3 1 v l.length (l.map enI)) {j : Nat} (hj : j < l.length) :
    ∃ g c, v = .slice (some ⟨g, 0, none⟩) l.length c ∧ base ≤ g ∧ w.cell? ⟨g, j, none⟩ = some (.int .i64 ((l[j] : Nat) : Int)) := by
  rcases h.2 with ⟨_, h0⟩ | ⟨g, cap, cur, rfl, hb, hh, h3, h4, h5, h6⟩
  · omega
  · refine ⟨g, cap, rfl, hb, ?_⟩
    have h1 : (cur.toList.take (l.length * 1))[j]? = (l.map enI)[j]? := by rw [h6]
    rw [List.getElem?_take_of_lt (by omega), List.getElem?_map, List.getElem?_eq_getElem hj] at h1
    rw [cell_of_row w g j cur 3 (0, 0) hh, ← Array.getElem?_toList, h1]
    rfl
theorem own_len {w : World} {base : Nat} {v : Value} {l : List Nat} (h : w.ownsRow base 3 1 v l.length (l.map enI)) : ∃ A c, v = .slice A l.length c := by
  rcases h.2 with ⟨rfl, h0⟩ | ⟨g, cap, cur, rfl, _⟩
  · exact ⟨none, 0, by rw [h0]⟩
  · exact ⟨_, _, rfl⟩
theorem nodup_len : ∀ (N : Nat) (l : List Nat), l.Nodup → (∀ x ∈ l, x < N) → l.length ≤ N
  | 0, [], _, _ => Nat.le_refl _
  | 0, x :: l, _, h => absurd (h x (by simp)) (by omega)
  | N + 1, l, hn, h => by
    by_cases hm : N ∈ l
    · have h1 := List.length_erase_of_mem hm
      have h2 := nodup_len N (l.erase N) (hn.erase N) fun x hx => by
        have h3 := (hn.mem_erase_iff).1 hx
        have := h x h3.2
        have := h3.1
        omega
      omega
    · have := nodup_len N l hn fun x hx => by
        have h3 := h x hx
        have : x ≠ N := fun e => hm (e ▸ hx)
        omega
      omega
theorem DueL.len {f : Al} {now : Int} {l : List Nat} (h : DueL f now l) (ok : OkA f) : l.length ≤ 256 := nodup_len 256 l h.nodup (h.lt ok)
set_option maxRecDepth 100000 in
theorem tick_any {w : World} {C m : Nat} {now : Int} {f : Al} {n : Int} (h : ClkT w C m now f) (hn : (ky n).wf = true) :
    Calls Try.prog 12 #[.pointer (some ⟨C, 0, none⟩), .int .i64 n] w fun e w' => ∃ v l, e = .returned v ∧ DueL f (tkT now n) l ∧ w'.ownsRow w.heap.size 3 1 v l.length (l.map enI) ∧ ClkT w' C m (tkT now n) (rest f (tkT now n)) ∧ Chg [C, m] w w' := by
  have bk := bounds_i64 hn
  have H0 := hide h
  have hq := map_some m
  have T0 : 0 ≤ tkT now n := by have := latI_ge (now := now) (k := tkN n) h.n1 (by unfold tkN; omega); have := h.n0; unfold tkT; omega
  have T1 : tkT now n ≤ TM := latI_le h.n1
  have TT : latI now (max n 0) = tkT now n := rfl
  generalize tkT now n = T at *
  have HT := hide TT
  have hne := hide h.ne
  clear TT
  go_enter Try.func12, Try.ntmps12
  go_wp2_with fail
  refine (all_in h).mono ?_
  rintro e w1 ⟨rfl, rfl⟩
  go_wp2_with fail
  refine (later_any (k := max n 0) h (by omega) (by omega)).mono ?_
  rintro e w1 ⟨rfl, hx⟩
  rw [HT.out]
  have hf := (h.ext hx).c.free
  have hcr := (h.ext hx).c.cell
  have HK := hide ((h.ext hx).at T0 T1)
  have HC := hide ((hx.chg [C]).set (p := ⟨C, 1, none⟩) (.inl (by simp)) (.int .i64 T))
  clear hx
  go_wp2_with fail
  clear hf hcr
  generalize w1.setCell ⟨C, 1, none⟩ (.int .i64 T) = w2 at *
  refine (due_any HK.out).mono ?_
  rintro e w3 ⟨v, l, rfl, hd, hrow, hx⟩
  have hs := HC.out.size
  have HC := hide (HC.out.trans (hx.chg [C]))
  have HK := hide (HK.out.ext hx)
  have hrow := own_low hrow hs
  have hlen := hd.len h.ok
  have HD := hide hd
  clear hx hs hd
  obtain ⟨A, cp, rfl⟩ := own_len hrow
  go_wp2_with fail
  go_loopw [22] (fun i wr => ∃ j : Nat, j ≤ l.length ∧ i = .int .i64 j ∧ ClkT wr C m T (gone f (l.take j)) ∧ Chg [C, m] w3 wr) (fun i _ => l.length - (intOf i).toNat)
  case atStart => exact ⟨0, by omega, rfl, by rw [List.take_zero, gone_nil]; exact HK.out, Chg.refl _ _⟩
  case round =>
    obtain ⟨j, hj, rfl, hk, hc⟩ := hrel
    have hCl := H0.out.c.lt
    have hml := H0.out.mp.lt
    have hrw := own_chg hrow hc (by simp; omega)
    by_cases hlt : j < l.length
    · obtain ⟨g, c2, hv, hg, hcell⟩ := own_at hrw hlt
      simp only [Value.slice.injEq] at hv
      obtain ⟨rfl, -, rfl⟩ := hv
      have r := hk.c.cell
      have wk : (ky ((l[j] : Nat) : Int)).wf = true := by
        have := HD.out.lt H0.out.ok l[j] (List.getElem_mem hlt)
        exact ky_wf (by omega) (by omega)
      have HK2 := hide hk
      have HCC := hide hc
      have HW := hide hrow
      obtain ⟨D, hown, rep⟩ := hk.mp
      clear hk hc hrw hrow
      generalize hx : l[j] = x at *
      have HX := hide hx
      clear hx
      go_wp2_with (first
        | (at_delete; refine wpList_delete_own _ rfl _ _ 45 3 rfl 2 kI Try.underlying45 (plainElem (H := Unit) Try.prog 2) m 256 D rfl hown _ (ky (x : Int)) rfl (kof wk) ?_; intro w4 hown4 hturn4; go_frame)
        | go_in)
      have hc4 := Chg.of_grown (T := [C, m]) hturn4.grown (by simp)
      have hc5 := Chg.of_grown (T := [m]) hturn4.grown (by simp)
      have e := gone_snoc f (l.take j) x
      rw [← HX.out, ← List.take_succ_eq_append_getElem hlt] at e
      go_roundw
      case rel => exact ⟨j + 1, by omega, by go_num, ⟨HK2.out.c.chg hc5 (by simpa using hne.out.symm), by rw [← e, HX.out]; exact MpT.of hown4 (rep.del HK2.out.ok wk), H0.out.ok.gone _, HK2.out.n0, HK2.out.n1⟩, HCC.out.trans hc4⟩
      case measure => simp [intOf]; omega
    · go_wp2_with fail
      go_ret
      have e : l.take j = l := List.take_of_length_le (by omega)
      rw [e, gone_due HD.out T0] at hk
      exact ⟨_, l, rfl, HD.out, hrw, hk, (HC.out.mono (by simp)).trans hc⟩
theorem tick_nob {p : Value} {w : World} {n : Int} (h : Nob w p) : Calls Try.prog 12 #[p, .int .i64 n] w fun e w' => e = .returned (.slice none 0 0) ∧ w = w' := by
  have hq := map_none
  go_enter Try.func12, Try.ntmps12
  go_wp2_with fail
  refine (all_nob h).mono ?_
  rintro e w1 ⟨rfl, rfl⟩
  go_wp2_with fail
  go_ret
  exact ⟨by simp, rfl⟩
end Go.Proofs.Ytgfhpgbklcjooaa
