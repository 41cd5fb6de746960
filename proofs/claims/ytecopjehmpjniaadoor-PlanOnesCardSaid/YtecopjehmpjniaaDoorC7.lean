/- Revoke: walked. -/
import Derived.Test.YtecopjehmpjniaaDoorC6
namespace Go.Proofs.YtecopjehmpjniaaDoor
open Go.RowKit
set_option linter.unusedSimpArgs false
set_option linter.unusedVariables false
set_option maxRecDepth 100000



theorem revoke_no {w : World} {B : Nat} {A A2 : Option Addr} {cp cp2 m : Nat} {l : List Ob} (o rb rv : Int) (h : Sl w B 3 A l.length (fl sc l)) (hB : B ≤ w.heap.size) (hm : ¬ mayO l m o) :
    Calls Tryd.prog 13 #[.slice A l.length cp, .slice A2 m cp2, .int .i64 o, .int .i64 rb, .int .i64 rv] w fun e w' => e = .returned (.tuple #[.int .i64 0, .slice none 0 0, .slice none 0 0, .int .i64 1]) ∧ Ext w w' := by
  have H := hide h
  clear h
  go_enter Tryd.func13, Tryd.ntmps13
  go_wp2_with fail
  have hX := fun w' (h : Ext (w.alloc (Obj.cells #[.slice A l.length cp] 47)) w') => h.boxCell
  have hXf := fun w' (h : Ext (w.alloc (Obj.cells #[.slice A l.length cp] 47)) w') => h.boxFree
  have hX0 : Ext w (w.alloc (Obj.cells #[.slice A l.length cp] 47)) := Ext.alloc _ _
  generalize w.alloc (Obj.cells #[.slice A l.length cp] 47) = W0 at *
  have hW := Ext.refl W0
  go_wp2_with fail
  refine (pmay_no (B := B) (A2 := A2) o (H.out.ext hX0 hB) (Nat.le_trans hB hX0.size) hm).mono ?_
  rintro e w1 ⟨rfl, hb⟩
  have hW := hW.trans hb
  go_wp2_with fail
  refine bodyPost_ret (v := .tuple #[.int .i64 0, .slice none 0 0, .slice none 0 0, .int .i64 1]) (by simp [results, Tryd.results13, go_sem, *]) rfl ?_
  exact ⟨rfl, (hX0.trans (hW.trans (by repeat (first | exact Ext.refl _ | exact Ext.alloc _ _ | exact Ext.drewN _ _ | assumption | refine Ext.trans ?_ (Ext.alloc _ _) | refine Ext.trans ?_ (Ext.drew _) | refine Ext.trans ?_ (by assumption)))))⟩
set_option maxHeartbeats 1000000 in
theorem revoke_0 {w : World} {B base : Nat} {A A2 : Option Addr} {cp cp2 : Nat} {l : List Ob} {ks : List Kl} (j : Nat) (rb rv : Int) (hG : Glob w) (hs : Sl w B 3 A l.length (fl sc l)) (hB : B ≤ w.heap.size) (hx : ∀ x, x ∈ l → OkO w x)
    (hk : w.ownsRow base 51 3 (.slice A2 ks.length cp2) ks.length (fl kc ks)) (c1 : l.length ≤ 256) (c2 : ks.length ≤ 256) (hj : j < l.length) {a : Nat} (ha : (l[j]).k = (a : Int)) (hka : a < ks.length) (hy : OkK ks[a])
    (hq : polI (ks[a]).b (upC (ks[a]).c) rb rv = 0) :
    Calls Tryd.prog 13 #[.slice A l.length cp, .slice A2 ks.length cp2, .int .i64 (j : Int), .int .i64 rb, .int .i64 rv] w fun e w' => ∃ v1 v2, e = .returned (.tuple #[.int .i64 0, v1, v2, .int .i64 0]) ∧ w'.ownsRow w.heap.size 51 3 v1 ks.length (fl kc (ks.set a (newK 0 ks[a]))) ∧ w'.ownsRow w.heap.size 28 4 v2 (chs 0 ks[a] j l).length (fl gc (chs 0 ks[a] j l)) ∧ Ext w w' := by
  obtain ⟨b, off, rfl, hbB, RO⟩ := sl_obj2 hs hB (by omega)
  have h0 : 0 ≤ (l[j]).k := by omega
  have h1 : (l[j]).k < (ks.length : Int) := by omega
  obtain ⟨A3, cp3, e3, hks⟩ := Sl.of_own hk
  simp only [Value.slice.injEq, true_and] at e3
  obtain ⟨rfl, rfl⟩ := e3
  obtain ⟨bk, offk, rfl, hbk, KO⟩ := sl_cls hks rfl (Nat.le_refl _) hka
  obtain ⟨y, Hy⟩ : ∃ y, Hid (y = ks[a]) := ⟨_, hide rfl⟩
  rw [← Hy.out] at KO hy hq ⊢
  obtain ⟨yb, ye, yc⟩ := y
  simp only at KO hy hq ⊢
  have HCH := hide (show chs 0 ⟨yb, ye, yc⟩ j l = one1 (oneB j l[j] && (oneV j l[j]).w != (l[j]).w) (oneV j l[j]) by simp [chs, pO, cO, ob_at hj])
  have HNK := hide (show newK 0 ⟨yb, ye, yc⟩ = ⟨yb, ye, upC yc⟩ from rfl)
  obtain ⟨LL, HLL⟩ : ∃ LL, Hid (LL = chs 0 ⟨yb, ye, yc⟩ j l) := ⟨_, hide rfl⟩
  rw [← HLL.out] at HCH ⊢
  go_enter Tryd.func13, Tryd.ntmps13
  go_wp2_with fail
  have hP0 := Blk.new w #[.slice (some ⟨b, off, none⟩) l.length cp] 47
  have z0 : (w.alloc (Obj.cells #[.slice (some ⟨b, off, none⟩) l.length cp] 47)).heap.size = w.heap.size + 1 := by simp
  have hX := fun w' (h : Ext (w.alloc (Obj.cells #[.slice (some ⟨b, off, none⟩) l.length cp] 47)) w') => h.boxCell
  have hXf := fun w' (h : Ext (w.alloc (Obj.cells #[.slice (some ⟨b, off, none⟩) l.length cp] 47)) w') => h.boxFree
  have hX0 : Ext w (w.alloc (Obj.cells #[.slice (some ⟨b, off, none⟩) l.length cp] 47)) := Ext.alloc _ _
  generalize w.alloc (Obj.cells #[.slice (some ⟨b, off, none⟩) l.length cp] 47) = W0 at *
  have hW := Ext.refl W0
  go_wp2_with fail
  have HA := hide ha
  clear ha
  refine (pmay_yes (B := B) (A2 := _) j (hs.ext hX0 hB) (Nat.le_trans hB hX0.size) c1 c2 hj h0 h1).mono ?_
  rintro e w1 ⟨rfl, hb1⟩
  have hW := hW.trans hb1
  have hWA := fun o => hW.trans (Ext.alloc w1 o)
  have ra := fun w' (h : Ext W0 w') => ((RO j hj).2.1 w' (hX0.trans h)).trans (congrArg (fun z => some (Value.int .i64 z)) HA.out)
  have rk0 := fun w' (h : Ext W0 w') => (KO.1) w' (hX0.trans h)
  have rk1 := fun w' (h : Ext W0 w') => (KO.2.1) w' (hX0.trans h)
  have rk2 := fun w' (h : Ext W0 w') => (KO.2.2) w' (hX0.trans h)
  go_wp2_with fail
  refine (kpolicy_any yb ye yc rb rv _ hy.c0 hy.c1).mono ?_
  rintro e w2 ⟨rfl, hb2⟩
  rw [hq]
  have S0 : RS w (w2.alloc (.cells (kc ⟨yb, ye, upC yc⟩) 51)) w.heap.size w1.heap.size w2.heap.size (some ⟨b, off, none⟩) l.length cp ⟨yb, ye, upC yc⟩ [] :=
    ⟨(((hP0.ext hW).ext (Ext.alloc w1 (.cells #[.slice none 0 0] 43))).ext hb2).ext (Ext.alloc _ _), ⟨_, ((Blk.new w1 #[.slice none 0 0] 43).ext hb2).ext (Ext.alloc _ _), own_nil _ _ _ _⟩, Blk.new w2 _ _, ((hX0.trans hW).trans ((Ext.alloc _ _).trans hb2)).trans (Ext.alloc _ _), Nat.le_trans hX0.size hW.size, Nat.le_trans (Nat.le_trans hX0.size hW.size) ((Ext.alloc _ _).trans hb2).size⟩
  have hW := hW.trans ((Ext.alloc w1 (.cells #[.slice none 0 0] 43)).trans hb2)
  have hWA := fun o => hW.trans (Ext.alloc w2 o)
  simp only [kc] at S0
  have HS := hide S0
  clear S0 hb2 hb1 hP0
  have ro0 := fun w' (h : Ext W0 w') => (RO j hj).1 w' (hX0.trans h)
  have ro2 := fun w' (h : Ext W0 w') => (RO j hj).2.2 w' (hX0.trans h)
  have one := one_any (j : Int) l[j]
  simp only [sc] at one
  rw [HA.out] at one
  go_wp2_with fail
  refine (one _ (hG.ext (HS.out.x)) ((hx _ (List.getElem_mem hj)).ext HS.out.x)).mono ?_
  rintro e w3 ⟨rfl, hb3⟩
  have HS := hide (HS.out.ext hb3)
  have rg := rs_gather HS.out (by simp) (oneV j l[j]) (oneB j l[j]) (l[j]).w (fun e => ⟨j, by rw [oneV, if_pos e]; split <;> rfl, hj, fun w' x => (RO j hj).1 w' x⟩)
  rw [List.nil_append, ← HCH.out] at rg
  clear one hb3
  generalize oneV j l[j] = cv at *
  generalize oneB j l[j] = cb at *
  go_wp2_with fail
  refine rg.mono ?_
  rintro e w4 ⟨rfl, hS4⟩
  have HS := hide hS4
  clear rg hS4
  have hr := own_ext hk HS.out.x
  go_wp2_with fail
  refine (clone_any hr (by omega)).mono ?_
  rintro e w7 ⟨v1, rfl, hr1, hx7⟩
  clear hr
  have HS4 := HS
  have HS := hide (HS.out.ext hx7)
  rcases hr1.2 with ⟨rfl, h9⟩ | ⟨g1, cap1, cur1, rfl, hg1, hh1, h3, h4, h5, h6⟩
  · omega
  clear hh1 h3 h4 h5 h6
  obtain ⟨vr, hcb, hcr⟩ := HS.out.c
  obtain ⟨cg, hbg⟩ := own_blk hr1 g1 rfl
  have f9 := hbg.free
  obtain ⟨A5, c5, e5, hsl⟩ := Sl.of_own hr1
  simp only [Value.slice.injEq, true_and] at e5
  obtain ⟨rfl, rfl⟩ := e5
  obtain ⟨b6, o6, e6, _, s0, s1, s2⟩ := sl_cls hsl rfl (Nat.le_refl _) hka
  simp only [Option.some.injEq, Addr.mk.injEq, and_true] at e6
  obtain ⟨rfl, rfl⟩ := e6
  simp only [Nat.zero_add] at s0 s1 s2
  have s0 := s0 w7 (Ext.refl _)
  have s1 := s1 w7 (Ext.refl _)
  have s2 := s2 w7 (Ext.refl _)
  have n7 : ¬ a * 3 = a * 3 + 1 := by omega
  have n8 : ¬ a * 3 = a * 3 + 2 := by omega
  have n9 : ¬ a * 3 + 1 = a * 3 + 2 := by omega
  have k9 := HS.out.k.cell
  simp only [kc] at k9
  go_wp2_with fail
  have hr8 := own_setK hr1 hka ⟨yb, ye, upC yc⟩
  have hc8 : Chg [g1] w7 (((w7.setCell ⟨g1, a * 3, none⟩ (.bool (yb))).setCell ⟨g1, a * 3 + 1, none⟩ (.int .u8 (ye))).setCell ⟨g1, a * 3 + 2, none⟩ (.int .i64 (upC yc))) :=
    (((Chg.refl [g1] w7).set (p := ⟨g1, a * 3, none⟩) (.inl (by simp)) _).set (p := ⟨g1, a * 3 + 1, none⟩) (.inl (by simp)) _).set (p := ⟨g1, a * 3 + 2, none⟩) (.inl (by simp)) _
  have hcb8 := hcb.chg hc8 (by intro q; rw [List.mem_singleton.1 q] at hcb; exact absurd (Blk.type hcb hbg) (by decide))
  have hcr8 := own_chgB hcr hc8 (fun k e q => by
    obtain ⟨cs, hb⟩ := own_blk hcr k e
    rw [List.mem_singleton.1 q] at hb
    exact absurd (Blk.type hb hbg) (by decide))
  have hx8 := HS.out.x.turn hc8 (fun t ht => by rw [List.mem_singleton.1 ht]; exact Nat.le_trans (Nat.le_trans HS4.out.x.size (Nat.le_refl _)) hg1)
  clear hc8 hcb hcr hsl s0 s1 s2 k9 f9 hbg hr1
  generalize ((w7.setCell ⟨g1, a * 3, none⟩ (.bool (yb))).setCell ⟨g1, a * 3 + 1, none⟩ (.int .u8 (ye))).setCell ⟨g1, a * 3 + 2, none⟩ (.int .i64 (upC yc)) = w8 at *
  have rC := fun w' (h : Ext w8 w') => (hcb8.ext h).cell 0
  have hW := Ext.refl w8
  obtain ⟨A7, c7, rfl⟩ := own_sl hcr8
  refine wp_region_ext (by kernel_rfl) (by kernel_rfl) ?_
  repeat
    with_reducible refine wpQuiet_step (fun K hK => ?_)
    go_simp
    first
    | (refine hK _ ?_; clear hK K)
    | (apply Exists.intro
       refine ⟨fun w1 h1 => ?_, hK _ ?_⟩
       (have hW := Ext.trans2 hW (by repeat (first | exact Ext.refl _ | exact Ext.alloc _ _ | exact Ext.drewN _ _ | assumption | refine Ext.trans ?_ (Ext.alloc _ _) | refine Ext.trans ?_ (Ext.drew _) | refine Ext.trans ?_ (by assumption))) h1; (try have hV := Ext.trans2 hV (by repeat (first | exact Ext.refl _ | exact Ext.alloc _ _ | exact Ext.drewN _ _ | assumption | refine Ext.trans ?_ (Ext.alloc _ _) | refine Ext.trans ?_ (Ext.drew _) | refine Ext.trans ?_ (by assumption))) h1); (first | rfl | (go_simp; done) | (go_simp; rfl) | fail))
       clear hK K)
  refine wpQuiet_nil (fun w' hw' => ?_)
  have hW := Ext.trans2 hW (by repeat (first | exact Ext.refl _ | exact Ext.alloc _ _ | exact Ext.drewN _ _ | assumption | refine Ext.trans ?_ (Ext.alloc _ _) | refine Ext.trans ?_ (Ext.drew _) | refine Ext.trans ?_ (by assumption))) hw'
  try have hV := Ext.trans2 hV (by repeat (first | exact Ext.refl _ | exact Ext.alloc _ _ | exact Ext.drewN _ _ | assumption | refine Ext.trans ?_ (Ext.alloc _ _) | refine Ext.trans ?_ (Ext.drew _) | refine Ext.trans ?_ (by assumption))) hw'
  clear hw'
  go_wp2_with fail
  refine bodyPost_ret (v := .tuple #[.int .i64 0, .slice (some ⟨g1, 0, none⟩) ks.length cap1, .slice A7 LL.length c7, .int .i64 0]) (by simp [results, Tryd.results13, go_sem, *]) rfl ?_
  have hz := hW
  refine ⟨_, _, rfl, ?_, own_ext hcr8 hz, hx8.trans hz⟩
  rw [HNK.out]
  exact own_low (own_ext hr8 hz) (HS4.out.x.size)
end Go.Proofs.YtecopjehmpjniaaDoor
