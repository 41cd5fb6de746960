/- What the laws of layer 26 share: edges that come in, theirs, same, far; a graph that is alive. -/
import Derived.Test.YtaglpodilepioaaDoorR3
import Derived.Test.YtaglpodilepioaaDoorP7
import Derived.Test.YtaglpodilepioaaDoorP8
import Derived.Test.YtaglpodilepioaaDoorP9
namespace Go.Proofs.YtaglpodilepioaaDoor
open Go.RowKit
set_option linter.unusedSimpArgs false
set_option linter.unusedVariables false
set_option maxRecDepth 100000
set_option maxHeartbeats 8000000


abbrev IE := List (Int × Int)
/-- Edges in memory. -/
def Eds (w : World) (A : Option Addr) (es : IE) : Prop := ∀ k p, es[k]? = some p → ∃ b off, A = some ⟨b, off, none⟩ ∧ ∀ wx, Ext w wx → wx.cell? ⟨b, off + k * 2, none⟩ = some (.int .i64 p.1) ∧ wx.cell? ⟨b, off + k * 2 + 1, none⟩ = some (.int .i64 p.2)
theorem Eds.ext {w w' : World} {A : Option Addr} {es : IE} (h : Eds w A es) (x : Ext w w') : Eds w' A es := fun k p hp => by
  obtain ⟨b, off, ha, hc⟩ := h k p hp
  exact ⟨b, off, ha, fun wx hx => hc wx (x.trans hx)⟩
/-- All edges added, in order. -/
def adds (es : IE) : EL := es.foldl (fun L p => addL L p.1 p.2) []
theorem adds_step {es : IE} {k : Nat} {p : Int × Int} (h : es[k]? = some p) : adds (es.take (k + 1)) = addL (adds (es.take k)) p.1 p.2 := by
  unfold adds
  rw [List.take_add_one, h]
  simp [List.foldl_append]
theorem adds_ok : ∀ (es : IE) (L : EL), LOk L → LOk (es.foldl (fun L p => addL L p.1 p.2) L)
  | [], L, h => h
  | p :: es, L, h => adds_ok es _ (addL_ok h p.1 p.2)
theorem adds_len : ∀ (es : IE) (L : EL), (es.foldl (fun L p => addL L p.1 p.2) L).length ≤ L.length + es.length
  | [], L => by simp
  | p :: es, L => by
    have h1 := adds_len es (addL L p.1 p.2)
    have h2 := addL_len L p.1 p.2
    simp only [List.foldl_cons, List.length_cons]
    omega
theorem lok_nil : LOk [] := ⟨List.nodup_nil, by simp⟩
theorem adds_is (es : IE) : LOk (adds es) ∧ (adds es).length ≤ es.length := ⟨adds_ok es [] lok_nil, by have := adds_len es []; simpa [adds] using this⟩
theorem theirs_any {A : Option Addr} {es : IE} {n : Nat} (c : Nat) (w : World) (h : Eds w A es) (hn : es.length = n) (hb : n < 9000000000000000000) : Calls Tryd.prog 18 #[.slice A n c] w fun e w' => e = .returned (.agg (gc (eg (adds es)))) ∧ Ext w w' := by
  have HE := hide h
  have HN := hide hn
  clear h hn
  obtain ⟨zz, hz1, hz2, hz3, hz5, hz4⟩ : ∃ zz : Array Value, (∀ w, (zeroValue 27).run Tryd.prog w = .ok (.agg zz) w) ∧ ¬ zz = #[] ∧ ¬ zz.size < 2 ∧ zz.size = 64 ∧ zz = zrw := ⟨_, fun w => by kernel_rfl, by decide +kernel, by decide +kernel, by decide +kernel, rfl⟩
  rw [← gc_zero, ← eg_nil] at hz4
  have HZ := hide hz5
  have HZ4 := hide hz4
  clear hz4 hz5
  go_enter Tryd.func18, Tryd.ntmps18
  go_upto_region 2 with fail
  have HR := hide ((Blk.new w zz 27).ext (Ext.alloc _ (.cells zz 27)))
  have hG := Blk.new (w.alloc (.cells zz 27)) zz 27
  rw [World.size_alloc] at hG
  have HG := hide hG
  have HX := hide ((Ext.alloc w (.cells zz 27)).trans (Ext.alloc _ (.cells zz 27)))
  generalize ((w.alloc (.cells zz 27)).alloc (.cells zz 27)) = W0 at *
  clear hz1 hz2 hz3 hG
  go_wp2_with fail
  go_loopw [8] (fun y wr => ∃ k : Nat, k ≤ n ∧ y = .int .i64 (k : Int) ∧ Blk wr w.heap.size zz 27 ∧ Blk wr (w.heap.size + 1) (gc (eg (adds (es.take k)))) 27 ∧ Ext w wr) (fun y _ => n - (intOf y).toNat)
  case atStart => exact ⟨0, by omega, rfl, HR.out, by rw [List.take_zero, show adds [] = [] from rfl, ← HZ4.out]; exact HG.out, HX.out⟩
  case round =>
    clear HR HG HX
    obtain ⟨k, hk, rfl, hR, hG, hX⟩ := hrel
    have HR := hide hR
    have HG := hide hG
    have HX := hide hX
    clear hR hG hX
    by_cases hlt : k < n
    · obtain ⟨p, hp⟩ : ∃ p, es[k]? = some p := ⟨_, List.getElem?_eq_getElem (by rw [HN.out]; exact hlt)⟩
      obtain ⟨b, off, rfl, hcc⟩ := HE.out k p hp
      obtain ⟨d1, d2⟩ := hcc _ HX.out
      have HS := hide (adds_step hp)
      generalize adds (es.take k) = L at *
      have HADD := hide (fun w => add_any (eg L) p.1 p.2 w)
      rw [eg_adds] at HADD
      have hX2 := Ext.alloc wr (.cells #[.int .i64 p.1, .int .i64 p.2] 31)
      have HG2 := hide (HG.out.ext hX2)
      have HR2 := hide (HR.out.ext hX2)
      have HX2 := hide (HX.out.trans hX2)
      clear hcc hp hX2
      have HADD := hide (fun (_ : Unit) => HADD.out)
      go_wp2_with (first | (with_reducible refine get_g rfl _ rfl (w.heap.size + 1) (eg L) rfl HG2.out ?_; go_frame) | (go_at_call 7; (with_reducible refine (HADD.out () _).mono ?_); rintro e1 w1 ⟨rfl, hx1⟩; go_frame) | (with_reducible refine put_g rfl _ _ rfl (w.heap.size + 1) (eg (addL L p.1 p.2)) rfl rfl _ (HG2.out.ext hx1) gc_size ?_; intro w2 hb2 hc2 hs2; go_frame))
      have HR3 := hide ((HR2.out.ext hx1).chg hc2 (by simp))
      have HX3 := hide ((HX2.out.trans hx1).turn hc2 (by simp))
      go_roundw
      case rel => exact ⟨k + 1, by omega, by go_num, HR3.out, by rw [HS.out]; exact hb2, HX3.out⟩
      case measure => simp [intOf]; omega
    · obtain rfl : k = n := by omega
      have HT := hide (show es.take k = es from by rw [← HN.out]; exact List.take_length)
      rw [HT.out] at HG
      go_wp2_with (first | (with_reducible refine get_g rfl _ rfl (w.heap.size + 1) (eg (adds es)) rfl HG.out ?_; go_frame) | (with_reducible refine put_g rfl _ _ rfl w.heap.size (eg (adds es)) rfl rfl _ HR.out HZ.out ?_; intro w2 hb2 hc2 hs2; go_frame))
      refine bodyPost_ret (results_cell_row (t := 27) (cs := gc (eg (adds es))) (fr := (0, 0)) (g := w.heap.size) Tryd.results18 _ _ _ rfl hb2 Tryd.underlying27 rfl (by rw [gc_size]; exact inf_g)) rfl ?_
      exact ⟨rfl, HX.out.turn hc2 (by simp)⟩
theorem far_any {A : Option Addr} (n c : Nat) (w : World) : Calls Tryd.prog 17 #[.slice A n c] w fun e w' => e = .returned (.bool (decide (14 < n))) ∧ w = w' := by
  by_cases h : 14 < n
  · have h2 : (14 : Int) < (n : Int) := by omega
    rw [show decide (14 < n) = true by simpa using h]
    go_enter Tryd.func17, Tryd.ntmps17
    go_wp2_with fail
    go_ret
    exact ⟨rfl, rfl⟩
  · have h2 : ¬ (14 : Int) < (n : Int) := by omega
    rw [show decide (14 < n) = false by simpa using h]
    go_enter Tryd.func17, Tryd.ntmps17
    go_wp2_with fail
    go_ret
    exact ⟨rfl, rfl⟩
/-- Two lists that are one are the same. -/
theorem same_any {B1 B2 n : Nat} {v1 v2 : Value} {l : List Nat} (w : World) (h1 : w.ownsRow B1 3 1 v1 n (l.map enN)) (h2 : w.ownsRow B2 3 1 v2 n (l.map enN)) (hn : n < 1000) :
    Calls Tryd.prog 11 #[v1, v2] w fun e w' => e = .returned (.bool true) ∧ Ext w w' := by
  have hl : l.length = n := by have := h1.1; simpa using this
  obtain ⟨A1, c1, rfl⟩ := own_sl h1
  obtain ⟨A2, c2, rfl⟩ := own_sl h2
  have H1 := hide h1
  have H2 := hide h2
  have HL := hide hl
  clear h1 h2 hl
  go_enter Tryd.func11, Tryd.ntmps11
  go_wp2_with fail
  go_loopw [13] (fun y wr => ∃ q : Nat, q ≤ n ∧ y = .int .i64 (q : Int) ∧ Ext w wr) (fun y _ => n - (intOf y).toNat)
  case atStart => exact ⟨0, by omega, rfl, Ext.refl _⟩
  case round =>
    obtain ⟨q, hq, rfl, hX⟩ := hrel
    have HX := hide hX
    clear hX
    by_cases hlt : q < n
    · obtain ⟨p, hp⟩ : ∃ p, l[q]? = some p := ⟨_, List.getElem?_eq_getElem (by rw [HL.out]; exact hlt)⟩
      obtain ⟨b1, off1, c3, he1, _, hc1⟩ := row_at H1.out hp
      simp only [Value.slice.injEq] at he1
      obtain ⟨rfl, -, rfl⟩ := he1
      obtain ⟨b2, off2, c4, he2, _, hc2⟩ := row_at H2.out hp
      simp only [Value.slice.injEq] at he2
      obtain ⟨rfl, -, rfl⟩ := he2
      have d1 : ∀ wx, Ext wr wx → wx.cell? ⟨b1, off1 + q, none⟩ = some (.int .i64 (p : Int)) := fun wx h => hc1 wx (HX.out.trans h)
      have d2 : ∀ wx, Ext wr wx → wx.cell? ⟨b2, off2 + q, none⟩ = some (.int .i64 (p : Int)) := fun wx h => hc2 wx (HX.out.trans h)
      have hqn : (q : Int) < (n : Int) := by omega
      clear hp hc1 hc2
      go_wp2_with fail
      have hW := Ext.refl wr
      refine wp_region_ext (by kernel_rfl) (by kernel_rfl) ?_
      repeat
        with_reducible refine wpQuiet_step (fun K hK => ?_)
        go_simp
        first
        | (refine hK _ ?_; clear hK K)
        | (apply Exists.intro
           refine ⟨fun w1 h1 => ?_, hK _ ?_⟩
           (have hW := Ext.trans2 hW (by repeat (first | exact Ext.refl _ | exact Ext.alloc _ _ | exact Ext.drewN _ _ | assumption | refine Ext.trans ?_ (Ext.alloc _ _) | refine Ext.trans ?_ (Ext.drew _) | refine Ext.trans ?_ (by assumption))) h1; (try have hV := Ext.trans2 hV (by repeat (first | exact Ext.refl _ | exact Ext.alloc _ _ | exact Ext.drewN _ _ | assumption | refine Ext.trans ?_ (Ext.alloc _ _) | refine Ext.trans ?_ (Ext.drew _) | refine Ext.trans ?_ (by assumption))) h1); (first | rfl | (go_simp; done) | (go_simp; rfl) | fail))
           clear hK K)
      refine wpQuiet_nil (fun w' hw' => ?_)
      have hW := Ext.trans2 hW (by repeat (first | exact Ext.refl _ | exact Ext.alloc _ _ | exact Ext.drewN _ _ | assumption | refine Ext.trans ?_ (Ext.alloc _ _) | refine Ext.trans ?_ (Ext.drew _) | refine Ext.trans ?_ (by assumption))) hw'
      try have hV := Ext.trans2 hV (by repeat (first | exact Ext.refl _ | exact Ext.alloc _ _ | exact Ext.drewN _ _ | assumption | refine Ext.trans ?_ (Ext.alloc _ _) | refine Ext.trans ?_ (Ext.drew _) | refine Ext.trans ?_ (by assumption))) hw'
      clear hw'
      have HX2 := hide (HX.out.trans hW)
      go_wp2_with fail
      go_roundw
      case rel => exact ⟨q + 1, by omega, by go_num, HX2.out⟩
      case measure => simp [intOf]; omega
    · obtain rfl : q = n := by omega
      go_wp2_with fail
      go_ret
      exact ⟨rfl, HX.out⟩
end Go.Proofs.YtaglpodilepioaaDoor
