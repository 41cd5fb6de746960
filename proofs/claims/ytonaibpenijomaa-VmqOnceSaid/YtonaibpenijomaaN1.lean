/- What VmqOnce keeps; its closure, which takes the next one. -/
import Derived.Test.YtonaibpenijomaaM2
namespace Go.Proofs.Ytonaibpenijomaa
open Go.RowKit Go.Maps
set_option linter.unusedVariables false
set_option linter.unusedSimpArgs false
set_option maxRecDepth 100000


/-- The law's own: three variables, its list, its map. -/
structure LI (w0 w : World) (O : List Nat) (C b3 b4 b5 m : Nat) (S : List En) : Prop where
  q : QT w O C S
  e : Ext w0 w
  lo : ∀ k, k ∈ O → w0.heap.size ≤ k
  c3 : Blk w b3 #[.pointer (some ⟨C, 0, none⟩)] 23
  c5 : Blk w b5 #[.map (some m)] 53
  map : MpI w m (wOf S) (wN S)
  row : ∃ A c, Blk w b4 #[.slice A S.length c] 47 ∧ RowQ w A S.length c (ks S) ∧ ∀ a, A = some a → a.block ∉ O ∧ w0.heap.size ≤ a.block
  n3 : b3 ∉ O
  n4 : b4 ∉ O
  n5 : b5 ∉ O
  nm : m ∉ O
  l4 : w0.heap.size ≤ b4
  lm : w0.heap.size ≤ m
section
variable {w0 w w' : World} {O O' : List Nat} {C b3 b4 b5 m : Nat} {S S' : List En}
theorem LI.ext (h : LI w0 w O C b3 b4 b5 m S) (x : Ext w w') : LI w0 w' O C b3 b4 b5 m S := by
  obtain ⟨A, c, r1, r2, r3⟩ := h.row
  exact ⟨h.q.ext x, h.e.trans x, h.lo, h.c3.ext x, h.c5.ext x, h.map.ext x, ⟨A, c, r1.ext x, r2.ext x, r3⟩, h.n3, h.n4, h.n5, h.nm, h.l4, h.lm⟩
end
theorem slice_one {g off off' n c : Nat} (hc : n + 1 ≤ c) (h1 : c = 1 → off' = off) (h2 : ¬ c = 1 → off' = off + 2) (w : World) :
    Sem.run Try.prog (Instr.sliceAt 47 (.slice (some ⟨g, off, none⟩) (n + 1) c) (some (.int .i64 1)) none none) w = .ok (.slice (some ⟨g, off', none⟩) n (c - 1)) w := by
  by_cases e : c = 1
  · have := h1 e
    subst this e
    obtain rfl : n = 0 := by omega
    go_simp
    try omega
  · have := h2 e
    subst this
    go_simp
    try omega
set_option maxHeartbeats 4000000 in
theorem next_end {w0 w : World} {O : List Nat} {C b3 b4 b5 m : Nat} (h : LI w0 w O C b3 b4 b5 m []) :
    Calls Try.prog 19 #[.pointer (some ⟨b3, 0, none⟩), .pointer (some ⟨b4, 0, none⟩), .pointer (some ⟨b5, 0, none⟩)] w fun e w' => e = .returned (.bool true) ∧ LI w0 w' O C b3 b4 b5 m [] := by
  obtain ⟨A, c, hb4, hrow, _⟩ := h.row
  have r3 := h.c3.rule
  have r4 := hb4.rule
  simp only [List.length_nil] at r4
  have hn := next_none h.q.any
  have H := hide h
  clear h hb4 hrow
  have r30 := r3 w (Ext.refl w)
  go_enter Try.func19, Try.ntmps19
  go_wp2_with fail
  refine hn.mono ?_
  rintro e w1 ⟨rfl, hx⟩
  have hx1 := hx.trans (Ext.alloc w1 (.cells #[.int .i64 0, .int .i64 0] 33))
  have r41 := r4 _ hx1
  clear r3 r4 r30
  go_wp2_with fail
  go_ret
  exact ⟨rfl, H.out.ext hx1⟩
set_option maxHeartbeats 8000000 in
theorem next_more {w0 w : World} {O : List Nat} {C b3 b4 b5 m : Nat} {r : Rq} {l : List Int} {S : List En} (h : LI w0 w O C b3 b4 b5 m ((r, l) :: S)) :
    Calls Try.prog 19 #[.pointer (some ⟨b3, 0, none⟩), .pointer (some ⟨b4, 0, none⟩), .pointer (some ⟨b5, 0, none⟩)] w fun e w' => e = .returned (.bool true) ∧ LI w0 w' O C b3 b4 b5 m S := by
  obtain ⟨A, c, hb4, hrow, hA⟩ := h.row
  have H := hide h
  have ok := h.q.ok
  have OK := hide ok
  have hlw := ok.wlen (e := (r, l)) (List.mem_cons_self ..)
  have hls := ok.len
  simp only [List.length_cons] at hls hlw
  have r30 := h.c3.cell
  have hn := next_some h.q
  obtain ⟨k, o⟩ := r
  simp only at hn
  obtain ⟨g, off, off', rfl, hc0, ho1, ho2, hdrop⟩ := RowQ.drop (n := S.length) (by simpa using hrow)
  have hnc : S.length + 1 ≤ c := by have := hrow.2.1; simpa using this
  obtain ⟨g2, off2, e2, hat⟩ := hrow.at_ (j := 0) (by simp [ks])
  cases e2
  have hsl := fun w => slice_one (g := g) hnc ho1 ho2 w
  have HA := hide hA
  have HROW := hide hrow
  have HB4 := hide hb4
  clear h ok hA hrow hb4
  go_enter Try.func19, Try.ntmps19
  go_wp2_with fail
  refine hn.mono ?_
  rintro e w1 ⟨s, rfl, hr1, hb1, hq1, hc1⟩
  obtain ⟨As, cs, es, hch⟩ := own_ch hr1
  rw [es]
  have n3 := H.out.n3
  have n4 := H.out.n4
  have n5 := H.out.n5
  have nm := H.out.nm
  have ng := (HA.out _ rfl).1
  have hx1 := Ext.alloc w1 (.cells #[.int .i64 k, .int .i64 o] 33)
  have hK := Blk.new w1 #[.int .i64 k, .int .i64 o] 33
  have h4 := (HB4.out.chg hc1 n4).ext hx1
  have hrow1 := (HROW.out.chg hc1 (fun a ha => by cases ha; exact ng)).ext hx1
  have hat1 := hrow1.at_ (j := 0) (by simp [ks])
  obtain ⟨g3, off3, e3, hat1⟩ := hat1
  cases e3
  have HQ1 := hide (hq1.ext hx1)
  have HR1 := hide (own_ext hr1 hx1)
  have HC3 := hide ((H.out.c3.chg hc1 n3).ext hx1)
  have HC5 := hide ((H.out.c5.chg hc1 n5).ext hx1)
  have HM := hide ((H.out.map.chg hc1 nm).ext hx1)
  have HE := hide ((H.out.e.turn hc1 H.out.lo).trans hx1)
  have HK := hide hK
  have H4 := hide h4
  have HD := hide ((hdrop.chg hc1 (fun a ha => by cases ha; exact ng)).ext hx1)
  have HB1 := hide hb1
  have ES := hide es
  have r4 := h4.rule
  have f4 := h4.ruleF
  have rK := hK.rule
  simp only [List.length_cons] at r4
  have cg0 : ∀ wx, Ext (w1.alloc (.cells #[.int .i64 k, .int .i64 o] 33)) wx → wx.cell? ⟨g, off, none⟩ = some (.int .i64 k) := fun wx x => (hat1 wx x).1
  have cg1 : ∀ wx, Ext (w1.alloc (.cells #[.int .i64 k, .int .i64 o] 33)) wx → wx.cell? ⟨g, off + 1, none⟩ = some (.int .i64 o) := fun wx x => (hat1 wx x).2
  have hne := fun w => neq_spot k o k o w
  rw [eqQ_same, Bool.not_true] at hne
  have hgt : (0 : Int) < (S.length : Int) + 1 := by omega
  have hW := Ext.refl (w1.alloc (.cells #[.int .i64 k, .int .i64 o] 33))
  clear hr1 hb1 hq1 hc1 es hch hn hat hat1 hdrop r30 hK h4 hrow1 n3 n4 n5 nm hx1
  go_wp2_with fail
  refine wp_region_ext (by kernel_rfl) (by kernel_rfl) ?_
  repeat
    with_reducible refine wpQuiet_step (fun K hK => ?_)
    go_simp
    first
    | (refine hK _ ?_; clear hK K)
    | (apply Exists.intro
       refine ⟨fun w1 h1 => ?_, hK _ ?_⟩
       (have hW := Ext.trans2 hW (by repeat (first | exact Ext.refl _ | exact Ext.alloc _ _ | exact Ext.drewN _ _ | assumption | refine Ext.trans ?_ (Ext.alloc _ _) | refine Ext.trans ?_ (Ext.drew _) | refine Ext.trans ?_ (by assumption))) h1; (try have hV := Ext.trans2 hV (by repeat (first | exact Ext.refl _ | exact Ext.alloc _ _ | exact Ext.drewN _ _ | assumption | refine Ext.trans ?_ (Ext.alloc _ _) | refine Ext.trans ?_ (Ext.drew _) | refine Ext.trans ?_ (by assumption))) h1); (first | rfl | (go_simp; done) | (go_simp; rfl) | fail))
       clear hK K)
  refine wpQuiet_nil (fun w' hw' => ?_)
  have hW := Ext.trans2 hW (by repeat (first | exact Ext.refl _ | exact Ext.alloc _ _ | exact Ext.drewN _ _ | assumption | refine Ext.trans ?_ (Ext.alloc _ _) | refine Ext.trans ?_ (Ext.drew _) | refine Ext.trans ?_ (by assumption))) hw'
  try have hV := Ext.trans2 hV (by repeat (first | exact Ext.refl _ | exact Ext.alloc _ _ | exact Ext.drewN _ _ | assumption | refine Ext.trans ?_ (Ext.alloc _ _) | refine Ext.trans ?_ (Ext.drew _) | refine Ext.trans ?_ (by assumption))) hw'
  clear hw'
  have a4 := r4 w' hW
  have b4f := f4 w' hW
  go_wp2_with fail
  obtain ⟨W3, hW3⟩ : ∃ W, W = w'.setCell ⟨b4, 0, none⟩ (.slice (some ⟨g, off', none⟩) S.length (c - 1)) := ⟨_, rfl⟩
  have hc3 : Chg [b4] w' W3 := by rw [hW3]; exact (Chg.refl _ _).set (p := ⟨b4, 0, none⟩) (.inl (by simp)) _
  have h4w := H4.out.ext hW
  have nO : ∀ q, q ∈ O → q ∉ [b4] := fun q hq z => by simp at z; exact H.out.n4 (z ▸ hq)
  have nt : ∀ {q : Nat} {cs : Array Value} {ty : TypeId}, Blk w' q cs ty → ty ≠ 47 → q ∉ [b4] := fun hb hty z => by simp at z; exact hty (hb.type (z ▸ h4w))
  have Q3 := hide ((HQ1.out.ext hW).chg hc3 nO)
  have R3 := hide (own_chgB (own_ext HR1.out hW) hc3 (fun q hq => nO q (HB1.out q hq)))
  have B3 := hide ((HC3.out.ext hW).chg hc3 (nt (HC3.out.ext hW) (by decide)))
  have B5 := hide ((HC5.out.ext hW).chg hc3 (nt (HC5.out.ext hW) (by decide)))
  have BK := hide ((HK.out.ext hW).chg hc3 (nt (HK.out.ext hW) (by decide)))
  have M3 := hide ((HM.out.ext hW).chg hc3 (by simp; rintro rfl; exact (HM.out.ext hW).noC _ _ h4w))
  have B4 : Hid (Blk W3 b4 #[.slice (some ⟨g, off', none⟩) S.length (c - 1)] 47) := hide (by rw [hW3]; exact h4w.set 0 _)
  have D3 := hide ((HD.out.ext hW).chg hc3 (fun a ha => by
    obtain ⟨cs, hb⟩ := (HD.out.ext hW).blk a ha
    exact nt hb (by decide)))
  have E3 := hide ((HE.out.trans hW).turn hc3 (fun q hq => by simp at hq; rw [hq]; exact H.out.l4))
  have NM := hide H.out.nm
  rw [← hW3]
  have x3 := Chg.refl [m] W3
  have m3 : MpI W3 m (wCut ((k, o), l) S 0) (l.length - 0 + wN S) := by rw [wCut_zero]; exact M3.out
  clear hW3 hc3 h4w nO nt a4 b4f r4 f4 rK cg0 cg1 hW HQ1 HR1 HC3 HC5 HM HE HK H4 HD hsl hgt ho1 ho2 hc0 hnc
  go_loopw [36] (fun i wr => ∃ q : Nat, q ≤ l.length ∧ i = .int .i64 (q : Int) ∧ MpI wr m (wCut ((k, o), l) S q) (l.length - q + wN S) ∧ Chg [m] W3 wr) (fun i _ => l.length - (intOf i).toNat)
  case atStart => exact ⟨0, by omega, rfl, m3, x3⟩
  case round =>
    clear m3 x3
    obtain ⟨q, hq, rfl, hm, hc⟩ := hrel
    have nmB : ∀ {x : Nat} {cs : Array Value} {ty : TypeId}, Blk wr x cs ty → x ∉ [m] := fun hb z => by simp at z; exact hm.noC _ _ (z ▸ hb)
    have nmC : ∀ {x : Nat} {cs : Array Value} {ty : TypeId}, Blk W3 x cs ty → x ∉ [m] := fun hb z => by simp at z; exact M3.out.noC _ _ (z ▸ hb)
    have k5 := B5.out.chg hc (nmC B5.out)
    have kK := BK.out.chg hc (nmC BK.out)
    by_cases hlt : q < l.length
    · have hrw := own_chgB R3.out hc (fun x hx => by
        obtain ⟨cs, hb⟩ := own_blk R3.out x hx
        exact nmC hb)
      rw [ES.out] at hrw
      obtain ⟨A9, c9, e9, hch⟩ := own_ch hrw
      cases e9
      obtain ⟨b9, o9, rfl, r9⟩ := hch.at_ hlt
      have r90 := r9 wr (Ext.refl _)
      have hrng := OK.out.rng ((k, o), l) (List.mem_cons_self ..) l[q] (List.getElem_mem hlt)
      have hwf : wfI l[q] := wfI_of (by omega) (by omega)
      have hlk := hm.look hwf
      have hF := wCut_at OK.out hlt
      simp only at hF
      rw [hF] at hlk
      simp only [Option.getD_some, Option.isSome_some] at hlk
      have hxa := Ext.alloc wr (.cells #[.int .i64 k, .int .i64 o] 33)
      obtain ⟨w8, hrun, hm8, hg8⟩ := MpI.drop (n := l.length - (q + 1) + wN S) ((hm.ext hxa).eqF rfl (by omega)) hwf (by rw [hF]; rfl) 0
      rw [wCut_succ (e := ((k, o), l)) hlt] at hm8
      have HM8 := hide hm8
      have HC8 := hide ((hc.trans (hxa.chg [m])).trans (Chg.of_grown hg8 (by simp)))
      have r5 := k5.cell
      have r5b := (k5.ext hxa).cell
      have rKb := (kK.ext hxa).cell
      generalize l[q] = tt at *
      clear hrw hch r9 hF hm hc hm8 hg8 k5 kK nmB nmC hxa
      go_wp2_with fail
      go_roundw
      case rel => exact ⟨q + 1, by omega, by go_num, HM8.out, HC8.out⟩
      case measure => simp [intOf]; omega
    · obtain rfl : q = l.length := by omega
      rw [wCut_all OK.out] at hm
      have hm := hm.eqF rfl (show l.length - l.length + wN S = wN S by omega)
      have L4 : Hid (LI w0 wr O C b3 b4 b5 m S) := hide ⟨Q3.out.chg hc (fun x hx z => by simp at z; exact NM.out (z ▸ hx)), E3.out.turn hc (fun x hx => by simp at hx; rw [hx]; exact H.out.lm), H.out.lo, B3.out.chg hc (nmC B3.out), k5, hm,
        ⟨_, _, B4.out.chg hc (nmC B4.out), D3.out.chg hc (fun a ha => by obtain ⟨cs, hb⟩ := D3.out.blk a ha; exact nmC hb), fun a ha => by cases ha; exact HA.out ⟨g, off, none⟩ rfl⟩, H.out.n3, H.out.n4, H.out.n5, H.out.nm, H.out.l4, H.out.lm⟩
      have KK := hide kK
      have K5 := hide k5
      have HM := hide hm
      clear hc nmB nmC k5 kK hm M3 B4 D3 E3 B3 B5 BK R3 Q3 HB1 ES HA HROW HB4
      go_wp2_with fail
      obtain ⟨W4, hW4⟩ : ∃ W, W = wr := ⟨_, rfl⟩
      subst hW4
      have x4 := Ext.refl W4
      go_loopw [56] (fun i wr => ∃ t : Nat, t ≤ 256 ∧ i = .int .i64 (t : Int) ∧ Ext W4 wr) (fun i _ => 256 - (intOf i).toNat)
      case atStart => exact ⟨0, by omega, rfl, x4⟩
      case round =>
        clear x4
        obtain ⟨t, ht, rfl, hX⟩ := hrel
        by_cases hlt : t < 256
        · have hi : (t : Int) < 256 := by omega
          have hlk := (HM.out.ext hX).look (z := (t : Int)) (wfI_of (by omega) (by omega))
          have r5 := (K5.out.ext hX).cell
          cases hw : wOf S (t : Int) with
          | none =>
            rw [hw] at hlk
            simp only [Option.getD_none, Option.isSome_none] at hlk
            have hx9 := hide (hX.trans (Ext.alloc wr (.cells #[.int .i64 0, .int .i64 0] 33)))
            clear hX hw
            go_wp2_with fail
            go_roundw
            case rel => exact ⟨t + 1, by omega, by go_num, hx9.out⟩
            case measure => simp [intOf]; omega
          | some x =>
            obtain ⟨e, he, h1, h2⟩ := wOf_of hw
            have hxr : x ≠ (k, o) := by rw [← h1]; exact OK.out.head e he
            rw [hw] at hlk
            simp only [Option.getD_some, Option.isSome_some] at hlk
            obtain ⟨x1, x2⟩ := x
            have heq := fun w => eq_spot x1 x2 k o w
            rw [eqQ_no hxr] at heq
            have hxa := Ext.alloc wr (.cells #[.int .i64 x1, .int .i64 x2] 33)
            have rK := ((KK.out.ext hX).ext hxa).cell
            have hx9 := hide (hX.trans hxa)
            simp only at hlk
            clear hX hw h1 h2 he hxr hxa
            go_wp2_with fail
            go_roundw
            case rel => exact ⟨t + 1, by omega, by go_num, hx9.out⟩
            case measure => simp [intOf]; omega
        · obtain rfl : t = 256 := by omega
          go_wp2_with fail
          go_ret
          exact ⟨by simp, L4.out.ext hX⟩
theorem next_any {w0 w : World} {O : List Nat} {C b3 b4 b5 m : Nat} {S : List En} (h : LI w0 w O C b3 b4 b5 m S) :
    Calls Try.prog 19 #[.pointer (some ⟨b3, 0, none⟩), .pointer (some ⟨b4, 0, none⟩), .pointer (some ⟨b5, 0, none⟩)] w fun e w' => e = .returned (.bool true) ∧ LI w0 w' O C b3 b4 b5 m S.tail := by
  rcases S with _ | ⟨⟨r, l⟩, S⟩
  · exact next_end h
  · exact next_more h
end Go.Proofs.Ytonaibpenijomaa
