/- The document's Right: its loop; entries that are refused. -/
import Derived.Test.YtacneghgimfklaaKA
namespace Go.Proofs.Ytacneghgimfklaa
open Go.RowKit Go.Maps
set_option linter.unusedSimpArgs false
set_option linter.unusedVariables false
set_option maxRecDepth 100000
set_option maxHeartbeats 80000000





theorem kinf_r (x : Ent) : (Try.prog.info? 31).map (·.size) = some (ec x).toList.length := by kernel_rfl
theorem kinf_rs (x : Ent) : (Try.prog.info? 31).map (·.size) = some (ec x).size := by kernel_rfl
theorem kall_ec (x : Ent) : (ec x).all (·.oneCell') = true := by simp [ec, Value.oneCell']
theorem kblk_rng {w : World} {b : Nat} {x : Ent} {t : TypeId} (h : Blk w b (ec x) t) : w.rangeAt b 0 (ec x).toList := fun j v hv => by rw [Nat.zero_add, h.cell, ← hv, Array.getElem?_toList]
theorem wpList_newr {ops : Array Oper} {rest : List Oper} {o : Oper} {a : Act} {w : World} {Q : Exit → Act → World → Prop} (hgd : o.guard = none) (p q : Operand) (ho : o.op = .store 31 p q) (x : Ent)
    (hx : a.eval p = .pointer (some ⟨w.heap.size, 0, none⟩)) (hy : a.eval q = .agg (ec x)) (h : wpList Try.prog ops Q rest (a.put o.dst undef) (w.alloc (.cells (ec x) 31))) : wpList Try.prog ops Q (o :: rest) a (w.alloc (.cells #[Value.int .i64 0, .int .i64 0, .int .i64 0, .int .i64 0, .int .i64 0, .int .i64 0, .int .i64 0, .int .i64 0, .int .i64 0, .int .i64 0, .int .i64 0, .int .i64 0, .int .i64 0] 31)) :=
  wpList_store_row hgd 31 p q ho w.heap.size (ec x) hx hy 31 #[Value.int .i64 0, .int .i64 0, .int .i64 0, .int .i64 0, .int .i64 0, .int .i64 0, .int .i64 0, .int .i64 0, .int .i64 0, .int .i64 0, .int .i64 0, .int .i64 0, .int .i64 0] (Blk.new w #[Value.int .i64 0, .int .i64 0, .int .i64 0, .int .i64 0, .int .i64 0, .int .i64 0, .int .i64 0, .int .i64 0, .int .i64 0, .int .i64 0, .int .i64 0, .int .i64 0, .int .i64 0] 31) (kinf_rs x) rfl (kall_ec x) (by rw [World.setRow_alloc_new]; exact h)
/-- The entries that come in. -/
def RgS (w : World) (A : Option Addr) (n : Nat) (f : Nat → Ent) : Prop := ∀ k, k < n → ∃ b off, A = some ⟨b, off, none⟩ ∧ b < w.heap.size ∧ w.rangeAt b (off + k * 13) (ec (f k)).toList
theorem RgS.at_ {w w' : World} {A : Option Addr} {n k : Nat} {f : Nat → Ent} (h : RgS w A n f) (x : Ext w w') (hk : k < n) : ∃ b off, A = some ⟨b, off, none⟩ ∧ w'.rangeAt b (off + k * 13) (ec (f k)).toList := by
  obtain ⟨b, off, ha, hb, hc⟩ := h k hk
  exact ⟨b, off, ha, fun j v hv => (x.oldCell _ _ hb).trans (hc j v hv)⟩
theorem inf_rat (d : Dg) (v : Value) : (Try.prog.info? 50).map (·.size) = some (a6 d v).toArray.size := by kernel_rfl
/-- What one thread did is stored. -/
theorem wpList_rat {ops : Array Oper} {rest : List Oper} {op : Oper} {a : Act} {w : World} {Q : Exit → Act → World → Prop} (hgd : op.guard = none) (x y : Operand) (ho : op.op = .store 50 x y)
    {ba : Nat} {D : Nat → Dg} {sl : Nat → Value} {t : Nat} (ht : t < 8) (d : Dg) (v : Value) (hv : v.oneCell' = true) (q : Array Value) (hq : q = (a6 d v).toArray) (hx : a.eval x = .pointer (some ⟨ba, t * 6, none⟩)) (hy : a.eval y = .agg q) (h : Blk w ba (atc D sl) 51)
    (K : ∀ w', Blk w' ba (atc (upd D t d) (upd sl t v)) 51 → Chg [ba] w w' → wpList Try.prog ops Q rest (a.put op.dst undef) w') : wpList Try.prog ops Q (op :: rest) a w := by
  subst hq
  have hl : (a6 d v).length = 6 := rfl
  refine wpList_store_mid hgd 50 x y ho ba (t * 6) (a6 d v).toArray hx hy (fun i hi => ?_) (inf_rat d v) (by have := hv; simp [a6, Value.oneCell'] at this ⊢; exact this) (K _ ?_ ?_)
  · have hi : i < 6 := by simpa [a6] using hi
    rw [h.cell, atc_6 ht hi]
    refine ⟨?_, h.free _⟩
    rw [List.getElem?_eq_getElem (by rw [show (a6 (D t) (sl t)).length = 6 from rfl]; exact hi)]; rfl
  · have := h.lay (a6 d v) (t * 6)
    rwa [atc_lay ht] at this
  · exact Chg.lay (by simp) _ _ _ _ (Chg.refl _ _)
/-- All of it lies below a block. -/
def Bel (bx bm ba : Nat) (sl : Nat → Value) : Prop := bm < bx ∧ ba < bx ∧ ∀ t k, (sl t).ownBlock = some k → k < bx
theorem RT.bel {w : World} {B bm ba : Nat} {S : St} {D : Nat → Dg} {V : Nat → List Ev} {sl : Nat → Value} (h : RT w B bm ba S D V sl) : Bel w.heap.size bm ba sl := ⟨h.m.lt, h.a.lt, fun t k hk => own_lt (h.r t) k hk⟩
theorem RT.up {T : List Nat} {w w' : World} {B bm ba bx : Nat} {S : St} {D : Nat → Dg} {V : Nat → List Ev} {sl : Nat → Value} (h : RT w B bm ba S D V sl) (b : Bel bx bm ba sl) (x : Chg T w w') (hT : ∀ i, i ∈ T → bx ≤ i) : RT w' B bm ba S D V sl :=
  ⟨h.m.chg x (fun q => by have := hT _ q; have := b.1; omega), h.a.chg x (fun q => by have := hT _ q; have := b.2.1; omega), fun t => own_chgB (h.r t) x (fun k hk q => by have := hT _ q; have := b.2.2 t k hk; omega)⟩
/-- One thread's part has turned. -/
theorem RT.turn {w w' : World} {B bm ba : Nat} {S : St} {D : Nat → Dg} {V : Nat → List Ev} {sl : Nat → Value} (h : RT w B bm ba S D V sl) (hne : bm ≠ ba) {t : Nat} {d : Dg} {v : Value} {l : List Ev} (ha : Blk w' ba (atc (upd D t d) (upd sl t v)) 51) (x : Chg [ba] w w') (hv : Lw w' B v l) : RT w' B bm ba S (upd D t d) (upd V t l) (upd sl t v) := by
  refine ⟨h.m.chg x (by simpa using hne), ha, fun t' => ?_⟩
  unfold upd
  split
  · exact hv
  · refine own_chgB (h.r t') x (fun k hk q => ?_)
    obtain ⟨cs, hb⟩ := own_blk (h.r t') k hk
    simp only [List.mem_singleton] at q
    subst q
    have := Blk.type hb h.a
    revert this; decide
/-- The model has turned. -/
theorem RT.mod {w w' : World} {B bm ba : Nat} {S S' : St} {D : Nat → Dg} {V : Nat → List Ev} {sl : Nat → Value} (h : RT w B bm ba S D V sl) (hne : bm ≠ ba) (hb : Blk w' bm (rc S') 47) (x : Chg [bm] w w') : RT w' B bm ba S' D V sl := by
  refine ⟨hb, h.a.chg x (by simpa using Ne.symm hne), fun t' => own_chgB (h.r t') x (fun k hk q => ?_)⟩
  obtain ⟨cs, hb'⟩ := own_blk (h.r t') k hk
  simp only [List.mem_singleton] at q
  subst q
  have := Blk.type hb' h.m
  revert this; decide
theorem go_st {d : Dg} (h : d.st ≠ 0) (k a r : Int) : clI (goD d k a r) = clI d ∧ ((goD d k a r).st != 0) = true ∧ (goD d k a r).kd = d.kd ∧ (goD d k a r).ob = d.ob ∧ (goD d k a r).ar = d.ar := by
  unfold goD clI
  repeat' split
  all_goals simp_all
theorem ev_rng {w : World} {b : Nat} {x : Ent} {t : TypeId} (h : Blk w b (ec x) t) : w.rangeAt b 6 [.int .i64 x.ek, .int .i64 x.et, .int .i64 x.eo, .int .i64 x.ea, .int .i64 x.er] := fun j v hv => by
  rw [h.cell, ← hv, show 6 + j = j + 6 by omega]
  match j with
  | 0 => rfl
  | 1 => rfl
  | 2 => rfl
  | 3 => rfl
  | 4 => rfl
  | j + 5 => simp at hv
theorem wpList_box {ops : Array Oper} {rest : List Oper} {op : Oper} {a : Act} {w : World} {Q : Exit → Act → World → Prop} (hgd : op.guard = none) (x y : Operand) (ho : op.op = .store 50 x y)
    {ab : Nat} {old : Array Value} (q : Array Value) (hb : Blk w ab old 50) (hs : old.size = 6) (hq : q.size = 6) (h1 : q.all (·.oneCell') = true) (hx : a.eval x = .pointer (some ⟨ab, 0, none⟩)) (hy : a.eval y = .agg q)
    (K : ∀ w', Blk w' ab q 50 → Chg [ab] w w' → wpList Try.prog ops Q rest (a.put op.dst undef) w') : wpList Try.prog ops Q (op :: rest) a w :=
  wpList_store_row hgd 50 x y ho ab q hx hy 50 old hb (by rw [hq]; kernel_rfl) (by rw [hs, hq]) h1 (K _ (setRow_heap w ab old _ _ _ hb) (Chg.row hb))
theorem rright_ok {n m k : Nat} (h : okN n m k = true) (A : Option Addr) (nn cc : Nat) (f : Nat → Ent) (w : World) (hn : nn ≤ 1000) (hs : RgS w A nn f) (hf : ∀ i, i < nn → wfI (f i).ea) :
    Calls Try.prog 9 #[.int .i64 (n : Int), .int .i64 (m : Int), .int .i64 (k : Int), .slice A nn cc] w fun e w' => (∃ S' D' sl', (∀ t, (sl' t).oneCell' = true) ∧ e = .returned (.tuple #[.int .i64 (cntR (st0 n m k) f nn : Int), .agg (rc S'), .agg (atc D' sl')])) ∧ Ext w w' := by
  have cr := fun w' => rnew_ok h w'
  have NN := hide (show (st0 n m k).N = n ∧ (st0 n m k).M = m from ⟨rfl, rfl⟩)
  have J0 := hide (jr_0 n m k)
  have K0 := hide (ok_st0 h)
  have HSS := hide hs
  have HF := hide hf
  clear h hs hf
  generalize st0 n m k = S0 at *
  obtain ⟨e1, e2⟩ := NN.out
  clear NN
  subst e1 e2
  obtain ⟨zz, hz1, hz2, hz3, hz4, -⟩ : ∃ zz : Array Value, (∀ w, (zeroValue 47).run Try.prog w = .ok (.agg zz) w) ∧ ¬ zz = #[] ∧ ¬ zz.size < 2 ∧ zz.size = 227 ∧ zz = zr := ⟨_, fun w => by kernel_rfl, by decide +kernel, by decide +kernel, by decide +kernel, rfl⟩
  have HZ := hide hz4
  clear hz4
  obtain ⟨za, ha1, ha2, ha3, ha4, ha5⟩ : ∃ za : Array Value, (∀ w, (zeroValue 51).run Try.prog w = .ok (.agg za) w) ∧ ¬ za = #[] ∧ ¬ za.size < 2 ∧ za.size = 48 ∧ za = atc D0 (fun _ => .slice none 0 0) := ⟨_, zero_a, by decide +kernel, by decide +kernel, by decide +kernel, rfl⟩
  have HA := hide ha4
  have HA5 := hide ha5
  clear ha4 ha5
  go_enter Try.func9, Try.ntmps9
  go_upto_region 1 with fail
  have B9 := hide ((Blk.new w zz 47).ext (Ext.alloc _ (.cells za 51)))
  have hb10 := Blk.new (w.alloc (.cells zz 47)) za 51
  rw [World.size_alloc] at hb10
  have B10 := hide hb10
  have HX := hide ((Ext.alloc w (.cells zz 47)).trans (Ext.alloc _ (.cells za 51)))
  have HS := hide (show ((w.alloc (.cells zz 47)).alloc (.cells za 51)).heap.size = w.heap.size + 1 + 1 by simp)
  clear hb10
  generalize ((w.alloc (.cells zz 47)).alloc (.cells za 51)) = W0 at *
  go_wp2_with fail
  refine (cr _).mono ?_
  rintro e w2 ⟨rfl, hx2⟩
  have B9 := hide (B9.out.ext hx2)
  have B10 := hide (B10.out.ext hx2)
  have HX := hide (HX.out.trans hx2)
  have HS := hide (show w.heap.size + 1 + 1 ≤ w2.heap.size by have := hx2.size; have := HS.out; omega)
  clear hx2
  go_wp2_with (first | (refine wpList_put rfl _ _ rfl w2.heap.size S0 rfl rfl zz (Blk.new w2 zz 47) HZ.out ?_; intro W3 hb3 hc3 hs3; have hc4 := ((Ext.alloc w2 (.cells zz 47)).chg [w2.heap.size]).trans hc3; have B9 := hide (B9.out.chg hc4 (by have := HS.out; simp; omega)); have B10 := hide (B10.out.chg hc4 (by have := HS.out; simp; omega)); have HX := hide (HX.out.turn hc4 (by have := HS.out; simp; omega)); have HM3 := hide hb3; have HS3 := hide (show W3.heap.size = w2.heap.size + 1 by rw [hs3]; simp); clear hb3 hc3 hs3 hc4; go_frame))
  have HNE := hide (show w.heap.size + 1 < w2.heap.size ∧ w2.heap.size < W3.heap.size by have := HS.out; have := HS3.out; omega)
  have BA := hide (Blk.new W3 za 51)
  have HM := hide (HM3.out.ext (Ext.alloc W3 (.cells za 51)))
  have B9 := hide (B9.out.ext (Ext.alloc W3 (.cells za 51)))
  have B10 := hide (B10.out.ext (Ext.alloc W3 (.cells za 51)))
  have HX := hide (HX.out.trans (Ext.alloc W3 (.cells za 51)))
  generalize W3.alloc (.cells za 51) = W4 at *
  rw [HA5.out] at BA
  clear HM3 HS HS3
  generalize hbm : w2.heap.size = bm at *
  generalize hba : W3.heap.size = ba at *
  clear hbm hba cr
  go_loopw [14] (fun v wr => ∃ (j : Nat) (V : Nat → List Ev) (sl : Nat → Value), j ≤ nn ∧ v = .int .i64 (j : Int) ∧ RT wr w.heap.size bm ba (stN S0 f j).1 (stN S0 f j).2 V sl ∧ Jr (stN S0 f j).1 (stN S0 f j).2 V ∧ (∀ i, i < j → okJ S0 f i = true) ∧ (∀ t, (V t).length ≤ j) ∧ Blk wr w.heap.size zz 47 ∧ Blk wr (w.heap.size + 1) za 51 ∧ Ext w wr) (fun v _ => nn - (intOf v).toNat)
  case atStart => exact ⟨0, fun _ => [], fun _ => .slice none 0 0, by omega, rfl, ⟨HM.out, BA.out, fun t => own_nil _ _ _ _⟩, J0.out, fun i hi => by omega, fun t => Nat.le_refl _, B9.out, B10.out, HX.out⟩
  case round =>
    clear HM BA B9 B10 HX J0
    obtain ⟨j, V, sl, hj, rfl, hr, hjr, hok, hvl, h9, h10, hX⟩ := hrel
    have bd := stN_bd S0 f j
    have nm := stN_NM S0 f j
    have ok := stN_ok K0.out f j
    have rt := fun x => rt_eq hjr x
    have jn := jr_step hjr (f j)
    have HN1 := hide (show stN S0 f (j + 1) = (takeS (stN S0 f j).1 (stN S0 f j).2 (f j), takeD (stN S0 f j).1 (stN S0 f j).2 (f j)) from rfl)
    have HOK := hide (show okJ S0 f j = takeB (stN S0 f j).1 (stN S0 f j).2 (f j) from rfl)
    generalize hS : (stN S0 f j).1 = S at *
    generalize hD : (stN S0 f j).2 = D at *
    clear hS hD
    by_cases hlt : j < nn
    · obtain ⟨b, off, rfl, hrg⟩ := HSS.out.at_ hX hlt
      have hwa := hide (HF.out j hlt)
      have CE0 := hide (fun e : okJ S0 f j = false => cnt_eq hok hj (fun _ => e))
      generalize f j = x at *
      have RG := hide hrg
      have hx := Ext.alloc wr (.cells (ec x) 31)
      have LT0 := hide (And.intro hr.a.lt hr.m.lt)
      have BEL := hide hr.bel
      have RG2 := hide (kblk_rng (Blk.new wr (ec x) 31))
      have HBX := hide (Blk.new wr (ec x) 31)
      have HR := hide (hr.ext hx)
      have B9 := hide (h9.ext hx)
      have B10 := hide (h10.ext hx)
      have HX := hide (hX.trans hx)
      have JN := hide jn
      have JJ := hide hjr
      have RTX := hide (rt x)
      have OKA := hide hok
      have VL := hide hvl
      have BD := hide bd
      have OK1 := hide ok
      have NM := hide nm
      have e1 : (S.N : Int) = (S0.N : Int) := by rw [nm.1]
      have e2 : (S.M : Int) = (S0.M : Int) := by rw [nm.2]
      clear hr h9 h10 hX jn hjr rt hok hvl bd ok nm hx hrg
      go_wp2_with (first | (with_reducible refine wpList_load_mid rfl 31 _ rfl b (off + j * 13) rfl (ec x).toList _ RG.out Try.underlying31 rfl (kinf_r _) ?_; rw [Array.toArray_toList]; go_frame) | (with_reducible refine wpList_newr rfl _ _ rfl x rfl rfl ?_; go_frame) | (with_reducible refine wpList_load_mid rfl 31 _ rfl wr.heap.size 0 rfl (ec x).toList _ RG2.out Try.underlying31 rfl (kinf_r _) ?_; rw [Array.toArray_toList]; go_frame))
      refine (rbare_any x _).mono ?_
      rintro e w5 ⟨rfl, hx5⟩
      have HBX := hide (HBX.out.ext hx5)
      have HR := hide (HR.out.ext hx5)
      have B9 := hide (B9.out.ext hx5)
      have B10 := hide (B10.out.ext hx5)
      have HX := hide (HX.out.trans hx5)
      have x1 := HBX.out.cell 1
      change _ = some (Value.int .i64 x.th) at x1
      clear hx5 RG RG2
      cases qb : bareB x
      · skip
        -- <
        have CE := hide (CE0.out (by rw [HOK.out, ← RTX.out]; unfold rtB; rw [qb]; rfl))
        go_upto_region 10 with fail
        generalize w5 = W6 at *
        have HM := hide (HR.out.m.ext (Ext.drew _))
        have BA := hide (HR.out.a.ext (Ext.drew _))
        have B9 := hide (B9.out.ext (Ext.drew _))
        have B10 := hide (B10.out.ext (Ext.drew _))
        have HX := hide (HX.out.trans (Ext.drew _))
        refine wp_region_held_drew (S := fun w' => w'.rangeAt bm 0 (rc S).toList ∧ w'.rangeAt ba 0 (atc D sl).toList) (by kernel_rfl) (by exact ⟨rc_rng HM.out, atc_rng BA.out⟩) (fun hHeld => ?_)
        generalize W6.drew = W4 at *
        (refine held_take (i := 0) (v := ?_) rfl (by kernel_rfl) (by kernel_rfl) (by kernel_rfl) (fun _ _ _ h => h) (by rfl) ?_ (by assumption) ?_; rotate_left; (intro w hSw; (try dsimp only at hSw); (first | (go_simp; done) | (go_simp; with_reducible rfl))); (try simp only [Act.put, List.setIfInBounds_toArray, List.set_cons_zero, List.set_cons_succ]))
        refine wpAnyH_take (i := 1) (at_drop rfl) (by kernel_rfl) (by kernel_rfl) (by kernel_rfl) (fun _ _ _ h => h) (yieldsIf_load_mid (by rfl) 47 _ rfl bm 0 rfl (rc S).toList _ (fun w h => h.1) Try.underlying47 rfl (inf_rm S)) (by assumption) ?_; rw [Array.toArray_toList]
        (try simp only [Act.put, List.setIfInBounds_toArray, List.set_cons_zero, List.set_cons_succ])
        refine wpAnyH_take (i := 2) (at_drop rfl) (by kernel_rfl) (by kernel_rfl) (by kernel_rfl) (fun _ _ _ h => h) (yieldsIf_load_mid (by rfl) 51 _ rfl ba 0 rfl (atc D sl).toList _ (fun w h => h.2) Try.underlying51 rfl inf_al) (by assumption) ?_; rw [Array.toArray_toList]
        (try simp only [Act.put, List.setIfInBounds_toArray, List.set_cons_zero, List.set_cons_succ])
        (refine held_take (i := 3) (v := ?_) rfl (by kernel_rfl) (by kernel_rfl) (by kernel_rfl) (fun _ _ _ h => h) (by rfl) ?_ (by assumption) ?_; rotate_left; (intro w hSw; (try dsimp only at hSw); (first | (go_simp; done) | (go_simp; with_reducible rfl))); (try simp only [Act.put, List.setIfInBounds_toArray, List.set_cons_zero, List.set_cons_succ]))
        refine wpAnyH_ready (rs := [4]) (by kernel_rfl) (by simp) (held_cons rfl (fun K hK => ?_) AllReadyH.nil)
        rw [if_pos (by rfl)]
        refine wp_store_row 47 _ _ rfl w.heap.size (rc S) rfl rfl 47 zz B9.out (by rw [rc_size]; exact inf_rz) (by rw [HZ.out, rc_size]) (all_rc _) ?_
        have c9 := Chg.row (cs := rc S) B9.out
        have B9 := hide (show Blk (W4.setRow w.heap.size (rc S)) w.heap.size (rc S) 47 from setRow_heap W4 w.heap.size zz (rc S) 47 _ B9.out)
        have HM := hide (HM.out.chg c9 (by have := HNE.out; simp; omega))
        have BA := hide (BA.out.chg c9 (by have := HNE.out; simp; omega))
        have B10 := hide (B10.out.chg c9 (by simp))
        have HX := hide (HX.out.turn c9 (by simp))
        clear c9
        generalize W4.setRow w.heap.size (rc S) = W4 at *
        refine hK.out _ _ (by exact ⟨rc_rng HM.out, atc_rng BA.out⟩) (fun hHeld => ?_)
        (try simp only [Act.put, List.setIfInBounds_toArray, List.set_cons_zero, List.set_cons_succ])
        refine wpAnyH_ready (rs := [5]) (by kernel_rfl) (by simp) (held_cons rfl (fun K hK => ?_) AllReadyH.nil)
        rw [if_pos (by rfl)]
        refine wp_store_row 51 _ _ rfl (w.heap.size + 1) (atc (D) (sl)) rfl rfl 51 za B10.out (by rw [atc_size]; exact inf_a) (by rw [HA.out, atc_size]) (all_atc HR.out.one) ?_
        have c10 := Chg.row (cs := atc (D) (sl)) B10.out
        have B10 := hide (show Blk (W4.setRow (w.heap.size + 1) (atc (D) (sl))) (w.heap.size + 1) (atc (D) (sl)) 51 from setRow_heap W4 (w.heap.size + 1) za (atc (D) (sl)) 51 _ B10.out)
        have HM := hide (HM.out.chg c10 (by have := HNE.out; simp; omega))
        have BA := hide (BA.out.chg c10 (by have := HNE.out; simp; omega))
        have B9 := hide (B9.out.chg c10 (by simp))
        have HX := hide (HX.out.turn c10 (by simp))
        clear c10
        generalize W4.setRow (w.heap.size + 1) (atc (D) (sl)) = W4 at *
        refine hK.out _ _ (by exact ⟨rc_rng HM.out, atc_rng BA.out⟩) (fun hHeld => ?_)
        (try simp only [Act.put, List.setIfInBounds_toArray, List.set_cons_zero, List.set_cons_succ])
        refine wpAnyH_done (by kernel_rfl) ?_ _
        go_wp2_with fail
        refine bodyPost_ret (rres_of Try.results9 _ _ rfl rfl rfl B9.out B10.out) rfl ?_
        exact ⟨⟨_, _, _, HR.out.one, by rw [CE.out]; rfl⟩, HX.out⟩
        -- >
      · have RB : takeB S D x = (isT S x.th && (if x.kd = 1 then ((D x.th.toNat).st == 0 && x.nu == clI (D x.th.toNat)) && mayO S x.ok x.oo x.oa
            else if x.kd = 2 then rcB (D x.th.toNat) (V x.th.toNat) x.ek x.eo x.ea && apE S x.ek x.et x.eo x.ea x.er == 0
            else toB (D x.th.toNat) (V x.th.toNat) && x.nu == clI (D x.th.toNat) - 1 && x.va == toV (D x.th.toNat) (V x.th.toNat) && x.rr == (lst (V x.th.toNat)).r)) := by
          rw [← RTX.out]; unfold rtB; rw [qb, Bool.true_and]
        have RB := hide RB
        have eT : isT S x.th = (decide (0 ≤ x.th) && decide (x.th < (S.N : Int))) := rfl
        by_cases t0 : x.th < 0
        · skip
          -- <
          have CE := hide (CE0.out (by rw [HOK.out, RB.out, eT, decide_eq_false (by omega)]; rfl))
          have q0 := decide_eq_true t0
          go_upto_region 10 with fail
          generalize w5 = W6 at *
          have HM := hide (HR.out.m.ext (Ext.drew _))
          have BA := hide (HR.out.a.ext (Ext.drew _))
          have B9 := hide (B9.out.ext (Ext.drew _))
          have B10 := hide (B10.out.ext (Ext.drew _))
          have HX := hide (HX.out.trans (Ext.drew _))
          refine wp_region_held_drew (S := fun w' => w'.rangeAt bm 0 (rc S).toList ∧ w'.rangeAt ba 0 (atc D sl).toList) (by kernel_rfl) (by exact ⟨rc_rng HM.out, atc_rng BA.out⟩) (fun hHeld => ?_)
          generalize W6.drew = W4 at *
          (refine held_take (i := 0) (v := ?_) rfl (by kernel_rfl) (by kernel_rfl) (by kernel_rfl) (fun _ _ _ h => h) (by rfl) ?_ (by assumption) ?_; rotate_left; (intro w hSw; (try dsimp only at hSw); (first | (go_simp; done) | (go_simp; with_reducible rfl))); (try simp only [Act.put, List.setIfInBounds_toArray, List.set_cons_zero, List.set_cons_succ]))
          refine wpAnyH_take (i := 1) (at_drop rfl) (by kernel_rfl) (by kernel_rfl) (by kernel_rfl) (fun _ _ _ h => h) (yieldsIf_load_mid (by rfl) 47 _ rfl bm 0 rfl (rc S).toList _ (fun w h => h.1) Try.underlying47 rfl (inf_rm S)) (by assumption) ?_; rw [Array.toArray_toList]
          (try simp only [Act.put, List.setIfInBounds_toArray, List.set_cons_zero, List.set_cons_succ])
          refine wpAnyH_take (i := 2) (at_drop rfl) (by kernel_rfl) (by kernel_rfl) (by kernel_rfl) (fun _ _ _ h => h) (yieldsIf_load_mid (by rfl) 51 _ rfl ba 0 rfl (atc D sl).toList _ (fun w h => h.2) Try.underlying51 rfl inf_al) (by assumption) ?_; rw [Array.toArray_toList]
          (try simp only [Act.put, List.setIfInBounds_toArray, List.set_cons_zero, List.set_cons_succ])
          (refine held_take (i := 3) (v := ?_) rfl (by kernel_rfl) (by kernel_rfl) (by kernel_rfl) (fun _ _ _ h => h) (by rfl) ?_ (by assumption) ?_; rotate_left; (intro w hSw; (try dsimp only at hSw); (first | (go_simp; done) | (go_simp; with_reducible rfl))); (try simp only [Act.put, List.setIfInBounds_toArray, List.set_cons_zero, List.set_cons_succ]))
          refine wpAnyH_ready (rs := [4]) (by kernel_rfl) (by simp) (held_cons rfl (fun K hK => ?_) AllReadyH.nil)
          rw [if_pos (by rfl)]
          refine wp_store_row 47 _ _ rfl w.heap.size (rc S) rfl rfl 47 zz B9.out (by rw [rc_size]; exact inf_rz) (by rw [HZ.out, rc_size]) (all_rc _) ?_
          have c9 := Chg.row (cs := rc S) B9.out
          have B9 := hide (show Blk (W4.setRow w.heap.size (rc S)) w.heap.size (rc S) 47 from setRow_heap W4 w.heap.size zz (rc S) 47 _ B9.out)
          have HM := hide (HM.out.chg c9 (by have := HNE.out; simp; omega))
          have BA := hide (BA.out.chg c9 (by have := HNE.out; simp; omega))
          have B10 := hide (B10.out.chg c9 (by simp))
          have HX := hide (HX.out.turn c9 (by simp))
          clear c9
          generalize W4.setRow w.heap.size (rc S) = W4 at *
          refine hK.out _ _ (by exact ⟨rc_rng HM.out, atc_rng BA.out⟩) (fun hHeld => ?_)
          (try simp only [Act.put, List.setIfInBounds_toArray, List.set_cons_zero, List.set_cons_succ])
          refine wpAnyH_ready (rs := [5]) (by kernel_rfl) (by simp) (held_cons rfl (fun K hK => ?_) AllReadyH.nil)
          rw [if_pos (by rfl)]
          refine wp_store_row 51 _ _ rfl (w.heap.size + 1) (atc (D) (sl)) rfl rfl 51 za B10.out (by rw [atc_size]; exact inf_a) (by rw [HA.out, atc_size]) (all_atc HR.out.one) ?_
          have c10 := Chg.row (cs := atc (D) (sl)) B10.out
          have B10 := hide (show Blk (W4.setRow (w.heap.size + 1) (atc (D) (sl))) (w.heap.size + 1) (atc (D) (sl)) 51 from setRow_heap W4 (w.heap.size + 1) za (atc (D) (sl)) 51 _ B10.out)
          have HM := hide (HM.out.chg c10 (by have := HNE.out; simp; omega))
          have BA := hide (BA.out.chg c10 (by have := HNE.out; simp; omega))
          have B9 := hide (B9.out.chg c10 (by simp))
          have HX := hide (HX.out.turn c10 (by simp))
          clear c10
          generalize W4.setRow (w.heap.size + 1) (atc (D) (sl)) = W4 at *
          refine hK.out _ _ (by exact ⟨rc_rng HM.out, atc_rng BA.out⟩) (fun hHeld => ?_)
          (try simp only [Act.put, List.setIfInBounds_toArray, List.set_cons_zero, List.set_cons_succ])
          refine wpAnyH_done (by kernel_rfl) ?_ _
          go_wp2_with fail
          refine bodyPost_ret (rres_of Try.results9 _ _ rfl rfl rfl B9.out B10.out) rfl ?_
          exact ⟨⟨_, _, _, HR.out.one, by rw [CE.out]; rfl⟩, HX.out⟩
          -- >
        by_cases t1 : (S0.N : Int) ≤ x.th
        · skip
          -- <
          have CE := hide (CE0.out (by rw [HOK.out, RB.out, eT, decide_eq_false (by omega : ¬ x.th < (S.N : Int))]; simp))
          have q0 := decide_eq_false t0
          have q1 := decide_eq_true t1
          go_upto_region 10 with fail
          generalize w5 = W6 at *
          have HM := hide (HR.out.m.ext (Ext.drew _))
          have BA := hide (HR.out.a.ext (Ext.drew _))
          have B9 := hide (B9.out.ext (Ext.drew _))
          have B10 := hide (B10.out.ext (Ext.drew _))
          have HX := hide (HX.out.trans (Ext.drew _))
          refine wp_region_held_drew (S := fun w' => w'.rangeAt bm 0 (rc S).toList ∧ w'.rangeAt ba 0 (atc D sl).toList) (by kernel_rfl) (by exact ⟨rc_rng HM.out, atc_rng BA.out⟩) (fun hHeld => ?_)
          generalize W6.drew = W4 at *
          (refine held_take (i := 0) (v := ?_) rfl (by kernel_rfl) (by kernel_rfl) (by kernel_rfl) (fun _ _ _ h => h) (by rfl) ?_ (by assumption) ?_; rotate_left; (intro w hSw; (try dsimp only at hSw); (first | (go_simp; done) | (go_simp; with_reducible rfl))); (try simp only [Act.put, List.setIfInBounds_toArray, List.set_cons_zero, List.set_cons_succ]))
          refine wpAnyH_take (i := 1) (at_drop rfl) (by kernel_rfl) (by kernel_rfl) (by kernel_rfl) (fun _ _ _ h => h) (yieldsIf_load_mid (by rfl) 47 _ rfl bm 0 rfl (rc S).toList _ (fun w h => h.1) Try.underlying47 rfl (inf_rm S)) (by assumption) ?_; rw [Array.toArray_toList]
          (try simp only [Act.put, List.setIfInBounds_toArray, List.set_cons_zero, List.set_cons_succ])
          refine wpAnyH_take (i := 2) (at_drop rfl) (by kernel_rfl) (by kernel_rfl) (by kernel_rfl) (fun _ _ _ h => h) (yieldsIf_load_mid (by rfl) 51 _ rfl ba 0 rfl (atc D sl).toList _ (fun w h => h.2) Try.underlying51 rfl inf_al) (by assumption) ?_; rw [Array.toArray_toList]
          (try simp only [Act.put, List.setIfInBounds_toArray, List.set_cons_zero, List.set_cons_succ])
          (refine held_take (i := 3) (v := ?_) rfl (by kernel_rfl) (by kernel_rfl) (by kernel_rfl) (fun _ _ _ h => h) (by rfl) ?_ (by assumption) ?_; rotate_left; (intro w hSw; (try dsimp only at hSw); (first | (go_simp; done) | (go_simp; with_reducible rfl))); (try simp only [Act.put, List.setIfInBounds_toArray, List.set_cons_zero, List.set_cons_succ]))
          refine wpAnyH_ready (rs := [4]) (by kernel_rfl) (by simp) (held_cons rfl (fun K hK => ?_) AllReadyH.nil)
          rw [if_pos (by rfl)]
          refine wp_store_row 47 _ _ rfl w.heap.size (rc S) rfl rfl 47 zz B9.out (by rw [rc_size]; exact inf_rz) (by rw [HZ.out, rc_size]) (all_rc _) ?_
          have c9 := Chg.row (cs := rc S) B9.out
          have B9 := hide (show Blk (W4.setRow w.heap.size (rc S)) w.heap.size (rc S) 47 from setRow_heap W4 w.heap.size zz (rc S) 47 _ B9.out)
          have HM := hide (HM.out.chg c9 (by have := HNE.out; simp; omega))
          have BA := hide (BA.out.chg c9 (by have := HNE.out; simp; omega))
          have B10 := hide (B10.out.chg c9 (by simp))
          have HX := hide (HX.out.turn c9 (by simp))
          clear c9
          generalize W4.setRow w.heap.size (rc S) = W4 at *
          refine hK.out _ _ (by exact ⟨rc_rng HM.out, atc_rng BA.out⟩) (fun hHeld => ?_)
          (try simp only [Act.put, List.setIfInBounds_toArray, List.set_cons_zero, List.set_cons_succ])
          refine wpAnyH_ready (rs := [5]) (by kernel_rfl) (by simp) (held_cons rfl (fun K hK => ?_) AllReadyH.nil)
          rw [if_pos (by rfl)]
          refine wp_store_row 51 _ _ rfl (w.heap.size + 1) (atc (D) (sl)) rfl rfl 51 za B10.out (by rw [atc_size]; exact inf_a) (by rw [HA.out, atc_size]) (all_atc HR.out.one) ?_
          have c10 := Chg.row (cs := atc (D) (sl)) B10.out
          have B10 := hide (show Blk (W4.setRow (w.heap.size + 1) (atc (D) (sl))) (w.heap.size + 1) (atc (D) (sl)) 51 from setRow_heap W4 (w.heap.size + 1) za (atc (D) (sl)) 51 _ B10.out)
          have HM := hide (HM.out.chg c10 (by have := HNE.out; simp; omega))
          have BA := hide (BA.out.chg c10 (by have := HNE.out; simp; omega))
          have B9 := hide (B9.out.chg c10 (by simp))
          have HX := hide (HX.out.turn c10 (by simp))
          clear c10
          generalize W4.setRow (w.heap.size + 1) (atc (D) (sl)) = W4 at *
          refine hK.out _ _ (by exact ⟨rc_rng HM.out, atc_rng BA.out⟩) (fun hHeld => ?_)
          (try simp only [Act.put, List.setIfInBounds_toArray, List.set_cons_zero, List.set_cons_succ])
          refine wpAnyH_done (by kernel_rfl) ?_ _
          go_wp2_with fail
          refine bodyPost_ret (rres_of Try.results9 _ _ rfl rfl rfl B9.out B10.out) rfl ?_
          exact ⟨⟨_, _, _, HR.out.one, by rw [CE.out]; rfl⟩, HX.out⟩
          -- >
        obtain ⟨t, hxt⟩ := Int.eq_ofNat_of_zero_le (show 0 ≤ x.th by omega)
        have ht : t < S.N := by omega
        have n8 := OK1.out.n1
        have ht8 : t < 8 := by omega
        have i8 : (t : Int) < 8 := by omega
        have hT : isT S x.th = true := by rw [eT, decide_eq_true (by omega), decide_eq_true (by omega)]; rfl
        have hN : x.th.toNat = t := by omega
        have q0 := decide_eq_false t0
        have q1 := decide_eq_false t1
        have RB := hide (RB.out)
        rw [hT, hN, Bool.true_and] at RB
        rw [hxt] at x1 q0 q1
        obtain ⟨A6, c6, hsl⟩ := own_sl (HR.out.r t)
        have HSL := hide hsl
        have ca := HR.out.a.cell
        have a0 := (ca (t * 6 + 0)).trans (atc_6 ht8 (by omega))
        have a1 := (ca (t * 6 + 1)).trans (atc_6 ht8 (by omega))
        have a2 := (ca (t * 6 + 2)).trans (atc_6 ht8 (by omega))
        have a3 := (ca (t * 6 + 3)).trans (atc_6 ht8 (by omega))
        have a4 := (ca (t * 6 + 4)).trans (atc_6 ht8 (by omega))
        have a5 := (ca (t * 6 + 5)).trans (atc_6 ht8 (by omega))
        simp only [a6, List.getElem?_cons_zero, List.getElem?_cons_succ, Nat.add_zero, hsl] at a0 a1 a2 a3 a4 a5
        have x0 := HBX.out.cell 0
        have x2 := HBX.out.cell 2
        change _ = some (Value.int .i64 x.kd) at x0
        change _ = some (Value.int .i64 x.nu) at x2
        clear ca hsl eT t0 t1 hT
        go_upto_region 12 with fail
        have HAA := hide (Blk.new w5 #[.int .i64 (clI (D t)), .bool ((D t).st != 0), .int .i64 (D t).kd, .int .i64 (D t).ob, .int .i64 (D t).ar, .slice A6 (V t).length c6] 50)
        have LT5 := hide HBX.out.lt
        have xx := Ext.alloc w5 (.cells #[.int .i64 (clI (D t)), .bool ((D t).st != 0), .int .i64 (D t).kd, .int .i64 (D t).ob, .int .i64 (D t).ar, .slice A6 (V t).length c6] 50)
        have HBX := hide (HBX.out.ext xx)
        have HR := hide (HR.out.ext xx)
        have B9 := hide (B9.out.ext xx)
        have B10 := hide (B10.out.ext xx)
        have HX := hide (HX.out.trans xx)
        have LTX := hide (show wr.heap.size < w5.heap.size ∧ ba < wr.heap.size ∧ bm < wr.heap.size from ⟨LT5.out, LT0.out.1, LT0.out.2⟩)
        have x0 := HBX.out.cell 0
        have x1 := HBX.out.cell 1
        have x2 := HBX.out.cell 2
        have x3 := HBX.out.cell 3
        have x4 := HBX.out.cell 4
        have x5 := HBX.out.cell 5
        change _ = some (Value.int .i64 x.kd) at x0
        change _ = some (Value.int .i64 x.th) at x1
        change _ = some (Value.int .i64 x.nu) at x2
        change _ = some (Value.int .i64 x.ok) at x3
        change _ = some (Value.int .i64 x.oo) at x4
        change _ = some (Value.int .i64 x.oa) at x5
        rw [hxt] at x1
        have g0 := HAA.out.cell 0
        have g1 := HAA.out.cell 1
        simp only [List.getElem?_toArray, List.getElem?_cons_zero, List.getElem?_cons_succ] at g0 g1
        generalize w5.alloc (.cells #[.int .i64 (clI (D t)), .bool ((D t).st != 0), .int .i64 (D t).kd, .int .i64 (D t).ob, .int .i64 (D t).ar, .slice A6 (V t).length c6] 50) = W6 at *
        generalize hbx : wr.heap.size = bx at *
        generalize hab : w5.heap.size = ab at *
        clear xx a0 a1 a2 a3 a4 a5
        have RB0 := RB.out
        by_cases k1 : x.kd = 1
        · skip
          -- <
          rw [k1] at x0
          have RB := RB.out
          rw [if_pos k1] at RB
          cases y0 : ((D t).st != 0)
          · have s0 : ((D t).st == 0) = true := by simpa [bne] using y0
            rw [y0] at g1
            rw [s0, Bool.true_and] at RB
            cases y1 : (x.nu != clI (D t))
            · have s1 : (x.nu == clI (D t)) = true := by simpa [bne] using y1
              rw [s1, Bool.true_and] at RB
              have CM := fun w' => rmay_any S x.ok x.oo x.oa w'
              rw [← RB, e1, e2] at CM
              cases yb : takeB S D x
              · rw [yb] at CM
                have CE := hide (CE0.out (by rw [HOK.out]; exact yb))
                go_wp2_with fail
                refine (CM _).mono ?_
                rintro e w7 ⟨rfl, hx7⟩
                have HR := hide (HR.out.ext hx7)
                have B9 := hide (B9.out.ext hx7)
                have B10 := hide (B10.out.ext hx7)
                have HX := hide (HX.out.trans hx7)
                clear hx7
                go_upto_region 19 with fail
                generalize w7 = W6 at *
                have HM := hide (HR.out.m.ext (Ext.drew _))
                have BA := hide (HR.out.a.ext (Ext.drew _))
                have B9 := hide (B9.out.ext (Ext.drew _))
                have B10 := hide (B10.out.ext (Ext.drew _))
                have HX := hide (HX.out.trans (Ext.drew _))
                refine wp_region_held_drew (S := fun w' => w'.rangeAt bm 0 (rc S).toList ∧ w'.rangeAt ba 0 (atc D sl).toList) (by kernel_rfl) (by exact ⟨rc_rng HM.out, atc_rng BA.out⟩) (fun hHeld => ?_)
                generalize W6.drew = W4 at *
                (refine held_take (i := 0) (v := ?_) rfl (by kernel_rfl) (by kernel_rfl) (by kernel_rfl) (fun _ _ _ h => h) (by rfl) ?_ (by assumption) ?_; rotate_left; (intro w hSw; (try dsimp only at hSw); (first | (go_simp; done) | (go_simp; with_reducible rfl))); (try simp only [Act.put, List.setIfInBounds_toArray, List.set_cons_zero, List.set_cons_succ]))
                refine wpAnyH_take (i := 1) (at_drop rfl) (by kernel_rfl) (by kernel_rfl) (by kernel_rfl) (fun _ _ _ h => h) (yieldsIf_load_mid (by rfl) 47 _ rfl bm 0 rfl (rc S).toList _ (fun w h => h.1) Try.underlying47 rfl (inf_rm S)) (by assumption) ?_; rw [Array.toArray_toList]
                (try simp only [Act.put, List.setIfInBounds_toArray, List.set_cons_zero, List.set_cons_succ])
                refine wpAnyH_take (i := 2) (at_drop rfl) (by kernel_rfl) (by kernel_rfl) (by kernel_rfl) (fun _ _ _ h => h) (yieldsIf_load_mid (by rfl) 51 _ rfl ba 0 rfl (atc D sl).toList _ (fun w h => h.2) Try.underlying51 rfl inf_al) (by assumption) ?_; rw [Array.toArray_toList]
                (try simp only [Act.put, List.setIfInBounds_toArray, List.set_cons_zero, List.set_cons_succ])
                (refine held_take (i := 3) (v := ?_) rfl (by kernel_rfl) (by kernel_rfl) (by kernel_rfl) (fun _ _ _ h => h) (by rfl) ?_ (by assumption) ?_; rotate_left; (intro w hSw; (try dsimp only at hSw); (first | (go_simp; done) | (go_simp; with_reducible rfl))); (try simp only [Act.put, List.setIfInBounds_toArray, List.set_cons_zero, List.set_cons_succ]))
                refine wpAnyH_ready (rs := [4]) (by kernel_rfl) (by simp) (held_cons rfl (fun K hK => ?_) AllReadyH.nil)
                rw [if_pos (by rfl)]
                refine wp_store_row 47 _ _ rfl w.heap.size (rc S) rfl rfl 47 zz B9.out (by rw [rc_size]; exact inf_rz) (by rw [HZ.out, rc_size]) (all_rc _) ?_
                have c9 := Chg.row (cs := rc S) B9.out
                have B9 := hide (show Blk (W4.setRow w.heap.size (rc S)) w.heap.size (rc S) 47 from setRow_heap W4 w.heap.size zz (rc S) 47 _ B9.out)
                have HM := hide (HM.out.chg c9 (by have := HNE.out; simp; omega))
                have BA := hide (BA.out.chg c9 (by have := HNE.out; simp; omega))
                have B10 := hide (B10.out.chg c9 (by simp))
                have HX := hide (HX.out.turn c9 (by simp))
                clear c9
                generalize W4.setRow w.heap.size (rc S) = W4 at *
                refine hK.out _ _ (by exact ⟨rc_rng HM.out, atc_rng BA.out⟩) (fun hHeld => ?_)
                (try simp only [Act.put, List.setIfInBounds_toArray, List.set_cons_zero, List.set_cons_succ])
                refine wpAnyH_ready (rs := [5]) (by kernel_rfl) (by simp) (held_cons rfl (fun K hK => ?_) AllReadyH.nil)
                rw [if_pos (by rfl)]
                refine wp_store_row 51 _ _ rfl (w.heap.size + 1) (atc (D) (sl)) rfl rfl 51 za B10.out (by rw [atc_size]; exact inf_a) (by rw [HA.out, atc_size]) (all_atc HR.out.one) ?_
                have c10 := Chg.row (cs := atc (D) (sl)) B10.out
                have B10 := hide (show Blk (W4.setRow (w.heap.size + 1) (atc (D) (sl))) (w.heap.size + 1) (atc (D) (sl)) 51 from setRow_heap W4 (w.heap.size + 1) za (atc (D) (sl)) 51 _ B10.out)
                have HM := hide (HM.out.chg c10 (by have := HNE.out; simp; omega))
                have BA := hide (BA.out.chg c10 (by have := HNE.out; simp; omega))
                have B9 := hide (B9.out.chg c10 (by simp))
                have HX := hide (HX.out.turn c10 (by simp))
                clear c10
                generalize W4.setRow (w.heap.size + 1) (atc (D) (sl)) = W4 at *
                refine hK.out _ _ (by exact ⟨rc_rng HM.out, atc_rng BA.out⟩) (fun hHeld => ?_)
                (try simp only [Act.put, List.setIfInBounds_toArray, List.set_cons_zero, List.set_cons_succ])
                refine wpAnyH_done (by kernel_rfl) ?_ _
                go_wp2_with fail
                refine bodyPost_ret (rres_of Try.results9 _ _ rfl rfl rfl B9.out B10.out) rfl ?_
                exact ⟨⟨_, _, _, HR.out.one, by rw [CE.out]; rfl⟩, HX.out⟩
              · rw [yb] at CM
                go_wp2_with fail
                refine (CM _).mono ?_
                rintro e w7 ⟨rfl, hx7⟩
                have HR := hide (HR.out.ext hx7)
                have HAA := hide (HAA.out.ext hx7)
                have HBX := hide (HBX.out.ext hx7)
                have B9 := hide (B9.out.ext hx7)
                have B10 := hide (B10.out.ext hx7)
                have HX := hide (HX.out.trans hx7)
                have x3 := HBX.out.cell 3
                have x4 := HBX.out.cell 4
                have x5 := HBX.out.cell 5
                change _ = some (Value.int .i64 x.ok) at x3
                change _ = some (Value.int .i64 x.oo) at x4
                change _ = some (Value.int .i64 x.oa) at x5
                have g0 := HAA.out.cell 0
                simp only [List.getElem?_toArray, List.getElem?_cons_zero, List.getElem?_cons_succ] at g0
                have cb : 0 ≤ clI (D t) ∧ clI (D t) ≤ 1000000 := by have := BD.out t; unfold clI; split <;> omega
                clear hx7 x0 x1 x2
                have hq1 : (#[Value.int .i64 (clI (D t) + 1), .bool true, .int .i64 x.ok, .int .i64 x.oo, .int .i64 x.oa, .slice none 0 0]).all (·.oneCell') = true := by simp [Value.oneCell']
                go_upto_region 27 with (with_reducible refine wpList_box rfl _ _ rfl #[Value.int .i64 (clI (D t) + 1), .bool true, .int .i64 x.ok, .int .i64 x.oo, .int .i64 x.oa, .slice none 0 0] HAA.out rfl rfl hq1 rfl rfl ?_; intro w8 hb8 hc8; go_frame)
                have st0 : (D t).st = 0 := by simpa using s0
                have HR := hide (HR.out.up BEL.out hc8 (by have := LTX.out; simp; omega))
                have HBX := hide (HBX.out.chg hc8 (by have := LTX.out; simp; omega))
                have B9 := hide (B9.out.chg hc8 (by have := LTX.out; have := HNE.out; simp; omega))
                have B10 := hide (B10.out.chg hc8 (by have := LTX.out; have := HNE.out; simp; omega))
                have HX := hide (HX.out.turn hc8 (by have := LTX.out; have := HNE.out; simp; omega))
                have x1 := HBX.out.cell 1
                change _ = some (Value.int .i64 x.th) at x1
                rw [hxt] at x1
                have qc0 := hb8.cell 0
                have qc1 := hb8.cell 1
                have qc2 := hb8.cell 2
                have qc3 := hb8.cell 3
                have qc4 := hb8.cell 4
                have qc5 := hb8.cell 5
                simp only [List.getElem?_toArray, List.getElem?_cons_zero, List.getElem?_cons_succ] at qc0 qc1 qc2 qc3 qc4 qc5
                clear hc8
                have hq : (#[Value.int .i64 (clI (D t) + 1), .bool true, .int .i64 x.ok, .int .i64 x.oo, .int .i64 x.oa, .slice none 0 0]) = (a6 (begD (D t) x.ok x.oo x.oa) (.slice none 0 0)).toArray := by
                  simp [a6, begD, clI, st0]
                go_wp2_with (with_reducible refine wpList_rat rfl _ _ rfl ht8 (begD (D t) x.ok x.oo x.oa) (.slice none 0 0) rfl _ rfl rfl rfl HR.out.a ?_; intro w9 hb9 hc9; go_frame)
                go_roundw
                case rel =>
                  have f1 : takeS S D x = S := by unfold takeS; rw [if_neg (by omega)]
                  have f2 : takeD S D x = upd D t (begD (D t) x.ok x.oo x.oa) := by unfold takeD; rw [if_pos yb, hN, if_pos k1]
                  have f3 : takeV S D V x = upd V t [] := by unfold takeV; rw [if_pos yb, hN, if_neg (by omega)]
                  have h9 := HR.out.turn (by have := HNE.out; omega) hb9 hc9 (l := []) (v := .slice none 0 0) (own_nil _ _ _ _)
                  refine ⟨j + 1, takeV S D V x, upd sl t (.slice none 0 0), by omega, by go_num, ?_, ?_, ?_, ?_, ?_, ?_, ?_⟩
                  · rw [HN1.out, f1, f2, f3]; exact h9
                  · rw [HN1.out]; exact JN.out
                  · intro i hi
                    by_cases e : i = j
                    · subst e; rw [HOK.out]; exact yb
                    · exact OKA.out i (by omega)
                  · intro t'
                    rw [f3]
                    unfold upd
                    split
                    · have := VL.out t; simp; try omega
                    · have := VL.out t'; omega
                  · exact B9.out.chg hc9 (by have := HNE.out; simp; omega)
                  · exact B10.out.chg hc9 (by have := HNE.out; simp; omega)
                  · exact HX.out.turn hc9 (by have := HNE.out; simp; omega)
                case measure => simp [intOf]; omega
            · skip
              have s1 : (x.nu == clI (D t)) = false := by simpa [bne] using y1
              rw [s1, Bool.false_and] at RB
              have CE := hide (CE0.out (by rw [HOK.out]; exact RB))
              go_upto_region 19 with fail
              have HM := hide (HR.out.m.ext (Ext.drew _))
              have BA := hide (HR.out.a.ext (Ext.drew _))
              have B9 := hide (B9.out.ext (Ext.drew _))
              have B10 := hide (B10.out.ext (Ext.drew _))
              have HX := hide (HX.out.trans (Ext.drew _))
              refine wp_region_held_drew (S := fun w' => w'.rangeAt bm 0 (rc S).toList ∧ w'.rangeAt ba 0 (atc D sl).toList) (by kernel_rfl) (by exact ⟨rc_rng HM.out, atc_rng BA.out⟩) (fun hHeld => ?_)
              generalize W6.drew = W4 at *
              (refine held_take (i := 0) (v := ?_) rfl (by kernel_rfl) (by kernel_rfl) (by kernel_rfl) (fun _ _ _ h => h) (by rfl) ?_ (by assumption) ?_; rotate_left; (intro w hSw; (try dsimp only at hSw); (first | (go_simp; done) | (go_simp; with_reducible rfl))); (try simp only [Act.put, List.setIfInBounds_toArray, List.set_cons_zero, List.set_cons_succ]))
              refine wpAnyH_take (i := 1) (at_drop rfl) (by kernel_rfl) (by kernel_rfl) (by kernel_rfl) (fun _ _ _ h => h) (yieldsIf_load_mid (by rfl) 47 _ rfl bm 0 rfl (rc S).toList _ (fun w h => h.1) Try.underlying47 rfl (inf_rm S)) (by assumption) ?_; rw [Array.toArray_toList]
              (try simp only [Act.put, List.setIfInBounds_toArray, List.set_cons_zero, List.set_cons_succ])
              refine wpAnyH_take (i := 2) (at_drop rfl) (by kernel_rfl) (by kernel_rfl) (by kernel_rfl) (fun _ _ _ h => h) (yieldsIf_load_mid (by rfl) 51 _ rfl ba 0 rfl (atc D sl).toList _ (fun w h => h.2) Try.underlying51 rfl inf_al) (by assumption) ?_; rw [Array.toArray_toList]
              (try simp only [Act.put, List.setIfInBounds_toArray, List.set_cons_zero, List.set_cons_succ])
              (refine held_take (i := 3) (v := ?_) rfl (by kernel_rfl) (by kernel_rfl) (by kernel_rfl) (fun _ _ _ h => h) (by rfl) ?_ (by assumption) ?_; rotate_left; (intro w hSw; (try dsimp only at hSw); (first | (go_simp; done) | (go_simp; with_reducible rfl))); (try simp only [Act.put, List.setIfInBounds_toArray, List.set_cons_zero, List.set_cons_succ]))
              refine wpAnyH_ready (rs := [4]) (by kernel_rfl) (by simp) (held_cons rfl (fun K hK => ?_) AllReadyH.nil)
              rw [if_pos (by rfl)]
              refine wp_store_row 47 _ _ rfl w.heap.size (rc S) rfl rfl 47 zz B9.out (by rw [rc_size]; exact inf_rz) (by rw [HZ.out, rc_size]) (all_rc _) ?_
              have c9 := Chg.row (cs := rc S) B9.out
              have B9 := hide (show Blk (W4.setRow w.heap.size (rc S)) w.heap.size (rc S) 47 from setRow_heap W4 w.heap.size zz (rc S) 47 _ B9.out)
              have HM := hide (HM.out.chg c9 (by have := HNE.out; simp; omega))
              have BA := hide (BA.out.chg c9 (by have := HNE.out; simp; omega))
              have B10 := hide (B10.out.chg c9 (by simp))
              have HX := hide (HX.out.turn c9 (by simp))
              clear c9
              generalize W4.setRow w.heap.size (rc S) = W4 at *
              refine hK.out _ _ (by exact ⟨rc_rng HM.out, atc_rng BA.out⟩) (fun hHeld => ?_)
              (try simp only [Act.put, List.setIfInBounds_toArray, List.set_cons_zero, List.set_cons_succ])
              refine wpAnyH_ready (rs := [5]) (by kernel_rfl) (by simp) (held_cons rfl (fun K hK => ?_) AllReadyH.nil)
              rw [if_pos (by rfl)]
              refine wp_store_row 51 _ _ rfl (w.heap.size + 1) (atc (D) (sl)) rfl rfl 51 za B10.out (by rw [atc_size]; exact inf_a) (by rw [HA.out, atc_size]) (all_atc HR.out.one) ?_
              have c10 := Chg.row (cs := atc (D) (sl)) B10.out
              have B10 := hide (show Blk (W4.setRow (w.heap.size + 1) (atc (D) (sl))) (w.heap.size + 1) (atc (D) (sl)) 51 from setRow_heap W4 (w.heap.size + 1) za (atc (D) (sl)) 51 _ B10.out)
              have HM := hide (HM.out.chg c10 (by have := HNE.out; simp; omega))
              have BA := hide (BA.out.chg c10 (by have := HNE.out; simp; omega))
              have B9 := hide (B9.out.chg c10 (by simp))
              have HX := hide (HX.out.turn c10 (by simp))
              clear c10
              generalize W4.setRow (w.heap.size + 1) (atc (D) (sl)) = W4 at *
              refine hK.out _ _ (by exact ⟨rc_rng HM.out, atc_rng BA.out⟩) (fun hHeld => ?_)
              (try simp only [Act.put, List.setIfInBounds_toArray, List.set_cons_zero, List.set_cons_succ])
              refine wpAnyH_done (by kernel_rfl) ?_ _
              go_wp2_with fail
              refine bodyPost_ret (rres_of Try.results9 _ _ rfl rfl rfl B9.out B10.out) rfl ?_
              exact ⟨⟨_, _, _, HR.out.one, by rw [CE.out]; rfl⟩, HX.out⟩
          · skip
            have s0 : ((D t).st == 0) = false := by simpa [bne] using y0
            rw [y0] at g1
            rw [s0, Bool.false_and, Bool.false_and] at RB
            have CE := hide (CE0.out (by rw [HOK.out]; exact RB))
            go_upto_region 19 with fail
            have HM := hide (HR.out.m.ext (Ext.drew _))
            have BA := hide (HR.out.a.ext (Ext.drew _))
            have B9 := hide (B9.out.ext (Ext.drew _))
            have B10 := hide (B10.out.ext (Ext.drew _))
            have HX := hide (HX.out.trans (Ext.drew _))
            refine wp_region_held_drew (S := fun w' => w'.rangeAt bm 0 (rc S).toList ∧ w'.rangeAt ba 0 (atc D sl).toList) (by kernel_rfl) (by exact ⟨rc_rng HM.out, atc_rng BA.out⟩) (fun hHeld => ?_)
            generalize W6.drew = W4 at *
            (refine held_take (i := 0) (v := ?_) rfl (by kernel_rfl) (by kernel_rfl) (by kernel_rfl) (fun _ _ _ h => h) (by rfl) ?_ (by assumption) ?_; rotate_left; (intro w hSw; (try dsimp only at hSw); (first | (go_simp; done) | (go_simp; with_reducible rfl))); (try simp only [Act.put, List.setIfInBounds_toArray, List.set_cons_zero, List.set_cons_succ]))
            refine wpAnyH_take (i := 1) (at_drop rfl) (by kernel_rfl) (by kernel_rfl) (by kernel_rfl) (fun _ _ _ h => h) (yieldsIf_load_mid (by rfl) 47 _ rfl bm 0 rfl (rc S).toList _ (fun w h => h.1) Try.underlying47 rfl (inf_rm S)) (by assumption) ?_; rw [Array.toArray_toList]
            (try simp only [Act.put, List.setIfInBounds_toArray, List.set_cons_zero, List.set_cons_succ])
            refine wpAnyH_take (i := 2) (at_drop rfl) (by kernel_rfl) (by kernel_rfl) (by kernel_rfl) (fun _ _ _ h => h) (yieldsIf_load_mid (by rfl) 51 _ rfl ba 0 rfl (atc D sl).toList _ (fun w h => h.2) Try.underlying51 rfl inf_al) (by assumption) ?_; rw [Array.toArray_toList]
            (try simp only [Act.put, List.setIfInBounds_toArray, List.set_cons_zero, List.set_cons_succ])
            (refine held_take (i := 3) (v := ?_) rfl (by kernel_rfl) (by kernel_rfl) (by kernel_rfl) (fun _ _ _ h => h) (by rfl) ?_ (by assumption) ?_; rotate_left; (intro w hSw; (try dsimp only at hSw); (first | (go_simp; done) | (go_simp; with_reducible rfl))); (try simp only [Act.put, List.setIfInBounds_toArray, List.set_cons_zero, List.set_cons_succ]))
            refine wpAnyH_ready (rs := [4]) (by kernel_rfl) (by simp) (held_cons rfl (fun K hK => ?_) AllReadyH.nil)
            rw [if_pos (by rfl)]
            refine wp_store_row 47 _ _ rfl w.heap.size (rc S) rfl rfl 47 zz B9.out (by rw [rc_size]; exact inf_rz) (by rw [HZ.out, rc_size]) (all_rc _) ?_
            have c9 := Chg.row (cs := rc S) B9.out
            have B9 := hide (show Blk (W4.setRow w.heap.size (rc S)) w.heap.size (rc S) 47 from setRow_heap W4 w.heap.size zz (rc S) 47 _ B9.out)
            have HM := hide (HM.out.chg c9 (by have := HNE.out; simp; omega))
            have BA := hide (BA.out.chg c9 (by have := HNE.out; simp; omega))
            have B10 := hide (B10.out.chg c9 (by simp))
            have HX := hide (HX.out.turn c9 (by simp))
            clear c9
            generalize W4.setRow w.heap.size (rc S) = W4 at *
            refine hK.out _ _ (by exact ⟨rc_rng HM.out, atc_rng BA.out⟩) (fun hHeld => ?_)
            (try simp only [Act.put, List.setIfInBounds_toArray, List.set_cons_zero, List.set_cons_succ])
            refine wpAnyH_ready (rs := [5]) (by kernel_rfl) (by simp) (held_cons rfl (fun K hK => ?_) AllReadyH.nil)
            rw [if_pos (by rfl)]
            refine wp_store_row 51 _ _ rfl (w.heap.size + 1) (atc (D) (sl)) rfl rfl 51 za B10.out (by rw [atc_size]; exact inf_a) (by rw [HA.out, atc_size]) (all_atc HR.out.one) ?_
            have c10 := Chg.row (cs := atc (D) (sl)) B10.out
            have B10 := hide (show Blk (W4.setRow (w.heap.size + 1) (atc (D) (sl))) (w.heap.size + 1) (atc (D) (sl)) 51 from setRow_heap W4 (w.heap.size + 1) za (atc (D) (sl)) 51 _ B10.out)
            have HM := hide (HM.out.chg c10 (by have := HNE.out; simp; omega))
            have BA := hide (BA.out.chg c10 (by have := HNE.out; simp; omega))
            have B9 := hide (B9.out.chg c10 (by simp))
            have HX := hide (HX.out.turn c10 (by simp))
            clear c10
            generalize W4.setRow (w.heap.size + 1) (atc (D) (sl)) = W4 at *
            refine hK.out _ _ (by exact ⟨rc_rng HM.out, atc_rng BA.out⟩) (fun hHeld => ?_)
            (try simp only [Act.put, List.setIfInBounds_toArray, List.set_cons_zero, List.set_cons_succ])
            refine wpAnyH_done (by kernel_rfl) ?_ _
            go_wp2_with fail
            refine bodyPost_ret (rres_of Try.results9 _ _ rfl rfl rfl B9.out B10.out) rfl ?_
            exact ⟨⟨_, _, _, HR.out.one, by rw [CE.out]; rfl⟩, HX.out⟩
          -- >
        rw [if_neg k1] at RB0
        by_cases k2 : x.kd = 2
        · rw [if_pos k2] at RB0
          rw [k2] at x0
          have HLW := hide (HR.out.r t)
          rw [HSL.out] at HLW
          have vl := VL.out t
          have ga := HAA.out.cell
          have g2 := ga 2
          have g3 := ga 3
          have g4 := ga 4
          have g5 := ga 5
          simp only [List.getElem?_toArray, List.getElem?_cons_zero, List.getElem?_cons_succ] at g2 g3 g4 g5
          clear ga x3 x4 x5
          have x6 := HBX.out.cell 6
          have x7 := HBX.out.cell 7
          have x8 := HBX.out.cell 8
          have x9 := HBX.out.cell 9
          have x10 := HBX.out.cell 10
          change _ = some (Value.int .i64 x.ek) at x6
          change _ = some (Value.int .i64 x.et) at x7
          change _ = some (Value.int .i64 x.eo) at x8
          change _ = some (Value.int .i64 x.ea) at x9
          change _ = some (Value.int .i64 x.er) at x10
          have CA := fun w' => rapply_any OK1.out x.ek x.et x.eo x.ea x.er w'
          have CC := fun (w' : World) (h : Lw w' w.heap.size (.slice A6 (V t).length c6) (V t)) => rcommit_any (clI (D t)) (D t) (V t) h (by omega) (JJ.out t).1.k x.ek x.et x.eo x.ea x.er
          unfold RAp at CA
          have TS := hide (show takeB S D x = true → takeS S D x = apS S x.ek x.et x.eo x.ea x.er from fun e => by unfold takeS; rw [if_pos ⟨e, k2⟩])
          have TKQ := hide (show takeB S D x = true → tkB (D t) x.ek x.eo x.ea = true from fun e => by
            simp [takeB, comB, k2, hN] at e
            exact e.2.1.2)
          have RBH := hide RB0
          clear RB0 vl
          generalize rcB (D t) (V t) x.ek x.eo x.ea = rb at *
          generalize apS S x.ek x.et x.eo x.ea x.er = S' at *
          generalize apE S x.ek x.et x.eo x.ea x.er = ee at *
          go_wp2_with (with_reducible refine wpList_get rfl _ rfl bm _ rfl HR.out.m ?_; go_frame)
          refine (CA _).mono ?_
          rintro e w7 ⟨rfl, hx7⟩
          have HR := hide (HR.out.ext hx7)
          have HAA := hide (HAA.out.ext hx7)
          have HBX := hide (HBX.out.ext hx7)
          have HLW := hide (HLW.out.ext hx7)
          have B9 := hide (B9.out.ext hx7)
          have B10 := hide (B10.out.ext hx7)
          have HX := hide (HX.out.trans hx7)
          have LT7 := hide (show ab < w7.heap.size from HAA.out.lt)
          clear hx7 x0 x1 x2 x6 x7 x8 x9 x10 g0 g1 g2 g3 g4 g5
          go_upto_region 23 with (refine wpList_put rfl _ _ rfl w7.heap.size S' rfl rfl zz (Blk.new w7 zz 47) HZ.out ?_; intro w8 hb8 hc8 hs8; go_frame)
          have hc := ((Ext.alloc w7 (.cells zz 47)).chg [w7.heap.size]).trans hc8
          have x8e : Ext w7 w8 := (Ext.refl w7).turn hc (by simp)
          have HR := hide (HR.out.ext x8e)
          have HAA := hide (HAA.out.ext x8e)
          have HBX := hide (HBX.out.ext x8e)
          have HLW := hide (HLW.out.ext x8e)
          have B9 := hide (B9.out.ext x8e)
          have B10 := hide (B10.out.ext x8e)
          have HX := hide (HX.out.trans x8e)
          have HY := hide hb8
          have LTY := hide (show ab < w7.heap.size ∧ w7.heap.size < w8.heap.size by have := LT7.out; have := hb8.lt; omega)
          clear hc x8e hc8 hs8 hb8
          generalize w7.heap.size = bY at *
          have x6 := HBX.out.cell 6
          have x7 := HBX.out.cell 7
          have x8 := HBX.out.cell 8
          have x9 := HBX.out.cell 9
          have x10 := HBX.out.cell 10
          change _ = some (Value.int .i64 x.ek) at x6
          change _ = some (Value.int .i64 x.et) at x7
          change _ = some (Value.int .i64 x.eo) at x8
          change _ = some (Value.int .i64 x.ea) at x9
          change _ = some (Value.int .i64 x.er) at x10
          have ga := HAA.out.cell
          have g0 := ga 0
          have g1 := ga 1
          have g2 := ga 2
          have g3 := ga 3
          have g4 := ga 4
          have g5 := ga 5
          simp only [List.getElem?_toArray, List.getElem?_cons_zero, List.getElem?_cons_succ] at g0 g1 g2 g3 g4 g5
          clear ga
          go_wp2_with fail
          refine (CC _ HLW.out).mono ?_
          rintro e w9 ⟨rfl, hx9⟩
          have HR := hide (HR.out.ext hx9)
          have HAA := hide (HAA.out.ext hx9)
          have HBX := hide (HBX.out.ext hx9)
          have HLW := hide (HLW.out.ext hx9)
          have B9 := hide (B9.out.ext hx9)
          have B10 := hide (B10.out.ext hx9)
          have HX := hide (HX.out.trans hx9)
          have HY := hide (HY.out.ext hx9)
          clear hx9 x6 x7 x8 x9 x10 g0 g1 g2 g3 g4 g5
          cases yr : rb
          · skip
            -- <
            have CE := hide (CE0.out (by rw [HOK.out, RBH.out, yr]; rfl))
            go_upto_region 24 with fail
            generalize w9 = W6 at *
            have HM := hide (HR.out.m.ext (Ext.drew _))
            have BA := hide (HR.out.a.ext (Ext.drew _))
            have B9 := hide (B9.out.ext (Ext.drew _))
            have B10 := hide (B10.out.ext (Ext.drew _))
            have HX := hide (HX.out.trans (Ext.drew _))
            refine wp_region_held_drew (S := fun w' => w'.rangeAt bm 0 (rc S).toList ∧ w'.rangeAt ba 0 (atc D sl).toList) (by kernel_rfl) (by exact ⟨rc_rng HM.out, atc_rng BA.out⟩) (fun hHeld => ?_)
            generalize W6.drew = W4 at *
            (refine held_take (i := 0) (v := ?_) rfl (by kernel_rfl) (by kernel_rfl) (by kernel_rfl) (fun _ _ _ h => h) (by rfl) ?_ (by assumption) ?_; rotate_left; (intro w hSw; (try dsimp only at hSw); (first | (go_simp; done) | (go_simp; with_reducible rfl))); (try simp only [Act.put, List.setIfInBounds_toArray, List.set_cons_zero, List.set_cons_succ]))
            refine wpAnyH_take (i := 1) (at_drop rfl) (by kernel_rfl) (by kernel_rfl) (by kernel_rfl) (fun _ _ _ h => h) (yieldsIf_load_mid (by rfl) 47 _ rfl bm 0 rfl (rc S).toList _ (fun w h => h.1) Try.underlying47 rfl (inf_rm S)) (by assumption) ?_; rw [Array.toArray_toList]
            (try simp only [Act.put, List.setIfInBounds_toArray, List.set_cons_zero, List.set_cons_succ])
            refine wpAnyH_take (i := 2) (at_drop rfl) (by kernel_rfl) (by kernel_rfl) (by kernel_rfl) (fun _ _ _ h => h) (yieldsIf_load_mid (by rfl) 51 _ rfl ba 0 rfl (atc D sl).toList _ (fun w h => h.2) Try.underlying51 rfl inf_al) (by assumption) ?_; rw [Array.toArray_toList]
            (try simp only [Act.put, List.setIfInBounds_toArray, List.set_cons_zero, List.set_cons_succ])
            (refine held_take (i := 3) (v := ?_) rfl (by kernel_rfl) (by kernel_rfl) (by kernel_rfl) (fun _ _ _ h => h) (by rfl) ?_ (by assumption) ?_; rotate_left; (intro w hSw; (try dsimp only at hSw); (first | (go_simp; done) | (go_simp; with_reducible rfl))); (try simp only [Act.put, List.setIfInBounds_toArray, List.set_cons_zero, List.set_cons_succ]))
            refine wpAnyH_ready (rs := [4]) (by kernel_rfl) (by simp) (held_cons rfl (fun K hK => ?_) AllReadyH.nil)
            rw [if_pos (by rfl)]
            refine wp_store_row 47 _ _ rfl w.heap.size (rc S) rfl rfl 47 zz B9.out (by rw [rc_size]; exact inf_rz) (by rw [HZ.out, rc_size]) (all_rc _) ?_
            have c9 := Chg.row (cs := rc S) B9.out
            have B9 := hide (show Blk (W4.setRow w.heap.size (rc S)) w.heap.size (rc S) 47 from setRow_heap W4 w.heap.size zz (rc S) 47 _ B9.out)
            have HM := hide (HM.out.chg c9 (by have := HNE.out; simp; omega))
            have BA := hide (BA.out.chg c9 (by have := HNE.out; simp; omega))
            have B10 := hide (B10.out.chg c9 (by simp))
            have HX := hide (HX.out.turn c9 (by simp))
            clear c9
            generalize W4.setRow w.heap.size (rc S) = W4 at *
            refine hK.out _ _ (by exact ⟨rc_rng HM.out, atc_rng BA.out⟩) (fun hHeld => ?_)
            (try simp only [Act.put, List.setIfInBounds_toArray, List.set_cons_zero, List.set_cons_succ])
            refine wpAnyH_ready (rs := [5]) (by kernel_rfl) (by simp) (held_cons rfl (fun K hK => ?_) AllReadyH.nil)
            rw [if_pos (by rfl)]
            refine wp_store_row 51 _ _ rfl (w.heap.size + 1) (atc (D) (sl)) rfl rfl 51 za B10.out (by rw [atc_size]; exact inf_a) (by rw [HA.out, atc_size]) (all_atc HR.out.one) ?_
            have c10 := Chg.row (cs := atc (D) (sl)) B10.out
            have B10 := hide (show Blk (W4.setRow (w.heap.size + 1) (atc (D) (sl))) (w.heap.size + 1) (atc (D) (sl)) 51 from setRow_heap W4 (w.heap.size + 1) za (atc (D) (sl)) 51 _ B10.out)
            have HM := hide (HM.out.chg c10 (by have := HNE.out; simp; omega))
            have BA := hide (BA.out.chg c10 (by have := HNE.out; simp; omega))
            have B9 := hide (B9.out.chg c10 (by simp))
            have HX := hide (HX.out.turn c10 (by simp))
            clear c10
            generalize W4.setRow (w.heap.size + 1) (atc (D) (sl)) = W4 at *
            refine hK.out _ _ (by exact ⟨rc_rng HM.out, atc_rng BA.out⟩) (fun hHeld => ?_)
            (try simp only [Act.put, List.setIfInBounds_toArray, List.set_cons_zero, List.set_cons_succ])
            refine wpAnyH_done (by kernel_rfl) ?_ _
            go_wp2_with fail
            refine bodyPost_ret (rres_of Try.results9 _ _ rfl rfl rfl B9.out B10.out) rfl ?_
            exact ⟨⟨_, _, _, HR.out.one, by rw [CE.out]; rfl⟩, HX.out⟩
            -- >
          cases ye : (ee != 0)
          · have e0 : ee = 0 := by simpa using ye
            have YB := hide (show takeB S D x = true by rw [RBH.out, yr, e0]; rfl)
            have TKB := hide (show tkB (D t) x.ek x.eo x.ea = true from TKQ.out YB.out)
            subst e0
            clear yr ye
            go_upto_region 26 with (first | (with_reducible refine wpList_get rfl _ rfl bY _ rfl HY.out ?_; go_frame) | (refine wpList_put rfl _ _ rfl bm S' rfl rfl (rc S) HR.out.m rc_size ?_; intro w10 hb10 hc10 hs10; go_frame))
            have HR := hide (HR.out.mod (by have := HNE.out; omega) hb10 hc10)
            have HAA := hide (HAA.out.chg hc10 (by have := LTX.out; simp; omega))
            have HBX := hide (HBX.out.chg hc10 (by have := LTX.out; simp; omega))
            have B9 := hide (B9.out.chg hc10 (by have := HNE.out; simp; omega))
            have B10 := hide (B10.out.chg hc10 (by have := HNE.out; simp; omega))
            have HX := hide (HX.out.turn hc10 (by have := HNE.out; simp; omega))
            have HLW := hide (HR.out.r t)
            rw [HSL.out] at HLW
            clear hb10 hc10 hs10 HY CA CC
            have LVS : (Try.prog.info? 29).map (·.size) = some ([Value.int .i64 x.ek, .int .i64 x.et, .int .i64 x.eo, .int .i64 x.ea, .int .i64 x.er]).length := by kernel_rfl
            refine wp_region_held_drew (S := fun w' => w'.rangeAt bx 6 [Value.int .i64 x.ek, .int .i64 x.et, .int .i64 x.eo, .int .i64 x.ea, .int .i64 x.er]) (by kernel_rfl) (by exact ev_rng (HBX.out.ext (Ext.drew _))) (fun hHeld => ?_)
            have xd := Ext.drew w10
            have HR := hide (HR.out.ext xd)
            have HAA := hide (HAA.out.ext xd)
            have HBX := hide (HBX.out.ext xd)
            have HLW := hide (HLW.out.ext xd)
            have B9 := hide (B9.out.ext xd)
            have B10 := hide (B10.out.ext xd)
            have HX := hide (HX.out.trans xd)
            clear xd
            generalize w10.drew = W1 at *
            (refine held_take (i := 0) (v := ?_) rfl (by kernel_rfl) (by kernel_rfl) (by kernel_rfl) (fun _ _ _ h => h) (by rfl) ?_ (by assumption) ?_; rotate_left; (intro w hSw; (try dsimp only at hSw); (first | (go_simp; done) | (go_simp; with_reducible rfl))); (try simp only [Act.put, List.setIfInBounds_toArray, List.set_cons_zero, List.set_cons_succ]))
            (refine held_take (i := 3) (v := ?_) rfl (by kernel_rfl) (by kernel_rfl) (by kernel_rfl) (fun _ _ _ h => h) (by rfl) ?_ (by assumption) ?_; rotate_left; (intro w hSw; (try dsimp only at hSw); (first | (go_simp; done) | (go_simp; with_reducible rfl))); (try simp only [Act.put, List.setIfInBounds_toArray, List.set_cons_zero, List.set_cons_succ]))
            refine wpAnyH_take (i := 4) (at_drop rfl) (by kernel_rfl) (by kernel_rfl) (by kernel_rfl) (fun _ _ _ h => h) (yieldsIf_load_mid (by rfl) 29 _ rfl bx 6 rfl [Value.int .i64 x.ek, .int .i64 x.et, .int .i64 x.eo, .int .i64 x.ea, .int .i64 x.er] _ (fun w h => h) Try.underlying29 rfl LVS) (by assumption) ?_
            (try simp only [Act.put, List.setIfInBounds_toArray, List.set_cons_zero, List.set_cons_succ])
            refine wpAnyH_ready (rs := [1, 5]) (by kernel_rfl) (by simp) (held_cons rfl (fun K hK => ?_) (held_cons rfl (fun K hK => ?_) AllReadyH.nil))
            · rw [if_pos (by rfl)]
              have g5 := HAA.out.cell 5
              simp only [List.getElem?_toArray, List.getElem?_cons_zero, List.getElem?_cons_succ] at g5
              go_wp2
              clear g5
              refine hK.out _ _ (ev_rng HBX.out) (fun hHeld => ?_)
              (try simp only [Act.put, List.setIfInBounds_toArray, List.set_cons_zero, List.set_cons_succ])
              refine wpAnyH_ready (rs := [2, 5]) (by kernel_rfl) (by simp) (held_cons rfl (fun K hK => ?_) (held_cons rfl (fun K hK => ?_) AllReadyH.nil))
              · rw [if_pos (by rfl)]
                refine wp_dup _ _ rfl rfl rfl HLW.out (by have := VL.out t; omega) ?_
                intro Ad cd W2 hd hxd
                have HD := hide hd
                have DBD := hide (show ab < W1.heap.size ∧ W1.heap.size ≤ W2.heap.size from ⟨HAA.out.lt, hxd.size⟩)
                have HR := hide (HR.out.ext hxd)
                have HAA := hide (HAA.out.ext hxd)
                have HBX := hide (HBX.out.ext hxd)
                have HLW := hide (HLW.out.ext hxd)
                have B9 := hide (B9.out.ext hxd)
                have B10 := hide (B10.out.ext hxd)
                have HX := hide (HX.out.trans hxd)
                (try have HN := hide (HN.out.ext hxd))
                clear hd hxd
                refine hK.out _ _ (ev_rng HBX.out) (fun hHeld => ?_)
                (try simp only [Act.put, List.setIfInBounds_toArray, List.set_cons_zero, List.set_cons_succ])
                refine wpAnyH_ready (rs := [5]) (by kernel_rfl) (by simp) (held_cons rfl (fun K hK => ?_) AllReadyH.nil)
                rw [if_pos (by rfl)]
                go_wp2
                have xb := Ext.alloc W2 (.cells #[Value.int .i64 x.ek, .int .i64 x.et, .int .i64 x.eo, .int .i64 x.ea, .int .i64 x.er] 29)
                have HR := hide (HR.out.ext xb)
                have HAA := hide (HAA.out.ext xb)
                have HBX := hide (HBX.out.ext xb)
                have HLW := hide (HLW.out.ext xb)
                have B9 := hide (B9.out.ext xb)
                have B10 := hide (B10.out.ext xb)
                have HX := hide (HX.out.trans xb)
                have HN := hide (Blk.new W2 #[Value.int .i64 x.ek, .int .i64 x.et, .int .i64 x.eo, .int .i64 x.ea, .int .i64 x.er] 29)
                (try have HD := hide (HD.out.ext xb))
                (try have DBD := hide (show ab < _ ∧ _ ≤ _ from ⟨DBD.out.1, Nat.le_trans DBD.out.2 xb.size⟩))
                clear xb
                generalize W2.alloc (.cells #[Value.int .i64 x.ek, .int .i64 x.et, .int .i64 x.eo, .int .i64 x.ea, .int .i64 x.er] 29) = W3 at *
                refine hK.out _ _ (ev_rng HBX.out) (fun hHeld => ?_)
                (try simp only [Act.put, List.setIfInBounds_toArray, List.set_cons_zero, List.set_cons_succ])
                refine wpAnyH_ready (rs := [6]) (by kernel_rfl) (by simp) (held_cons rfl (fun K hK => ?_) AllReadyH.nil)
                rw [if_pos (by rfl)]
                have bxl : bx < ab := LTX.out.1
                have dl := DBD.out
                have LB := hide (show w.heap.size ≤ W1.heap.size by have := LTX.out; have := HNE.out; omega)
                refine wp_one _ _ rfl (B := W1.heap.size) (y := evX x) rfl rfl HD.out HN.out (by have := VL.out t; omega) dl.2 ?_
                rintro Ae ce W5 he ⟨T, hT, hcT⟩
                have HE := hide he
                have HR := hide (HR.out.up BEL.out hcT (fun i hi => by have := hT i hi; omega))
                have HAA := hide (HAA.out.chg hcT (fun q => by have := hT _ q; omega))
                have HBX := hide (HBX.out.chg hcT (fun q => by have := hT _ q; omega))
                have B9 := hide (B9.out.chg hcT (fun q => by have := hT _ q; have := LTX.out; have := HNE.out; omega))
                have B10 := hide (B10.out.chg hcT (fun q => by have := hT _ q; have := LTX.out; have := HNE.out; omega))
                have HX := hide (HX.out.turn hcT (fun i hi => by have := hT i hi; have := LTX.out; have := HNE.out; omega))
                clear he hcT
                refine hK.out _ _ (ev_rng HBX.out) (fun hHeld => ?_)
                (try simp only [Act.put, List.setIfInBounds_toArray, List.set_cons_zero, List.set_cons_succ])
                (refine held_take (i := 7) (v := ?_) rfl (by kernel_rfl) (by kernel_rfl) (by kernel_rfl) (fun _ _ _ h => h) (by rfl) ?_ (by assumption) ?_; rotate_left; (intro w hSw; (try dsimp only at hSw); (first | (go_simp; done) | (go_simp; with_reducible rfl))); (try simp only [Act.put, List.setIfInBounds_toArray, List.set_cons_zero, List.set_cons_succ]))
                refine wpAnyH_ready (rs := [8]) (by kernel_rfl) (by simp) (held_cons rfl (fun K hK => ?_) AllReadyH.nil)
                rw [if_pos (by rfl)]
                have g5 := HAA.out.cell 5
                simp only [List.getElem?_toArray, List.getElem?_cons_zero, List.getElem?_cons_succ] at g5
                have f5 := HAA.out.free 5
                go_wp2
                clear g5 f5
                have hb8 := HAA.out.set 5 (.slice Ae ((V t).length + 1) ce)
                have hc8 := (Chg.refl [ab] W5).set (p := ⟨ab, 5, none⟩) (.inl (by simp)) (.slice Ae ((V t).length + 1) ce)
                have HE := hide (own_chgB HE.out hc8 (fun k hk q => by
                  obtain ⟨cs, hbk⟩ := own_blk HE.out k hk
                  simp only [List.mem_singleton] at q
                  subst q
                  have := Blk.type hbk HAA.out
                  revert this; decide))
                simp only [List.setIfInBounds_toArray, List.set_cons_zero, List.set_cons_succ] at hb8
                have HBX8 := HBX.out.chg hc8 (by have := LTX.out; simp; omega)
                generalize W5.setCell ⟨ab, 5, none⟩ (.slice Ae ((V t).length + 1) ce) = w8 at *
                refine hK.out _ _ (ev_rng HBX8) (fun hHeld => ?_)
                (try simp only [Act.put, List.setIfInBounds_toArray, List.set_cons_zero, List.set_cons_succ])
                clear HBX8 bxl dl HAA HD HN DBD
                have HR := hide (HR.out.up BEL.out hc8 (by have := LTX.out; simp; omega))
                have HBX := hide (HBX.out.chg hc8 (by have := LTX.out; simp; omega))
                have B9 := hide (B9.out.chg hc8 (by have := LTX.out; have := HNE.out; simp; omega))
                have B10 := hide (B10.out.chg hc8 (by have := LTX.out; have := HNE.out; simp; omega))
                have HX := hide (HX.out.turn hc8 (by have := LTX.out; have := HNE.out; simp; omega))
                have x1 := HBX.out.cell 1
                change _ = some (Value.int .i64 x.th) at x1
                rw [hxt] at x1
                have qc0 := hb8.cell 0
                have qc1 := hb8.cell 1
                have qc2 := hb8.cell 2
                have qc3 := hb8.cell 3
                have qc4 := hb8.cell 4
                have qc5 := hb8.cell 5
                simp only [List.getElem?_toArray, List.getElem?_cons_zero, List.getElem?_cons_succ] at qc0 qc1 qc2 qc3 qc4 qc5
                clear hc8
                have hst : (D t).st ≠ 0 := by
                  intro s0
                  have := TKB.out
                  unfold tkB at this
                  split at this
                  · cases this
                  · rw [if_neg (by omega), if_neg (by omega)] at this; cases this
                have gs := go_st hst x.ek x.ea x.er
                have hq : (#[Value.int .i64 (clI (D t)), .bool ((D t).st != 0), .int .i64 (D t).kd, .int .i64 (D t).ob, .int .i64 (D t).ar, .slice Ae ((V t).length + 1) ce]) = (a6 (goD (D t) x.ek x.ea x.er) (.slice Ae ((V t).length + 1) ce)).toArray := by
                  have e : ((D t).st != 0) = true := by simpa using hst
                  unfold a6
                  rw [gs.1, gs.2.1, gs.2.2.1, gs.2.2.2.1, gs.2.2.2.2, e]
                have GS := hide gs
                clear gs hst
                refine wpAnyH_done (by kernel_rfl) ?_ _
                go_wp2_with (with_reducible refine wpList_rat rfl _ _ rfl ht8 (goD (D t) x.ek x.ea x.er) (.slice Ae ((V t).length + 1) ce) rfl _ rfl rfl rfl HR.out.a ?_; intro w9 hb9 hc9; go_frame)
                go_roundw
                case rel =>
                  have yb := YB.out
                  have f1 : takeS S D x = S' := TS.out yb
                  have f2 : takeD S D x = upd D t (goD (D t) x.ek x.ea x.er) := by unfold takeD; rw [if_pos yb, hN, if_neg k1, if_pos k2]
                  have f3 : takeV S D V x = upd V t (V t ++ [evX x]) := by unfold takeV; rw [if_pos yb, hN, if_pos k2]
                  have hlw : Lw w9 w.heap.size (.slice Ae ((V t).length + 1) ce) (V t ++ [evX x]) := by
                    refine own_low (own_chgB HE.out hc9 (fun k hk q => ?_)) LB.out
                    obtain ⟨cs, hbk⟩ := own_blk HE.out k hk
                    simp only [List.mem_singleton] at q
                    subst q
                    have := Blk.type hbk HR.out.a
                    revert this; decide
                  have h9 := HR.out.turn (by have := HNE.out; omega) hb9 hc9 (l := V t ++ [evX x]) (v := .slice Ae ((V t).length + 1) ce) hlw
                  refine ⟨j + 1, takeV S D V x, upd sl t (.slice Ae ((V t).length + 1) ce), by omega, by go_num, ?_, ?_, ?_, ?_, ?_, ?_, ?_⟩
                  · rw [HN1.out, f1, f2, f3]; exact h9
                  · rw [HN1.out]; exact JN.out
                  · intro i hi
                    by_cases e : i = j
                    · subst e; rw [HOK.out]; exact yb
                    · exact OKA.out i (by omega)
                  · intro t'
                    rw [f3]
                    unfold upd
                    split
                    · have := VL.out t; simp; try omega
                    · have := VL.out t'; omega
                  · exact B9.out.chg hc9 (by have := HNE.out; simp; omega)
                  · exact B10.out.chg hc9 (by have := HNE.out; simp; omega)
                  · exact HX.out.turn hc9 (by have := HNE.out; simp; omega)
                case measure => simp [intOf]; omega
              · skip
                -- <
                rw [if_pos (by rfl)]
                go_wp2
                have xb := Ext.alloc W1 (.cells #[Value.int .i64 x.ek, .int .i64 x.et, .int .i64 x.eo, .int .i64 x.ea, .int .i64 x.er] 29)
                have HR := hide (HR.out.ext xb)
                have HAA := hide (HAA.out.ext xb)
                have HBX := hide (HBX.out.ext xb)
                have HLW := hide (HLW.out.ext xb)
                have B9 := hide (B9.out.ext xb)
                have B10 := hide (B10.out.ext xb)
                have HX := hide (HX.out.trans xb)
                have HN := hide (Blk.new W1 #[Value.int .i64 x.ek, .int .i64 x.et, .int .i64 x.eo, .int .i64 x.ea, .int .i64 x.er] 29)
                (try have HD := hide (HD.out.ext xb))
                (try have DBD := hide (show ab < _ ∧ _ ≤ _ from ⟨DBD.out.1, Nat.le_trans DBD.out.2 xb.size⟩))
                clear xb
                generalize W1.alloc (.cells #[Value.int .i64 x.ek, .int .i64 x.et, .int .i64 x.eo, .int .i64 x.ea, .int .i64 x.er] 29) = W2 at *
                refine hK.out _ _ (ev_rng HBX.out) (fun hHeld => ?_)
                (try simp only [Act.put, List.setIfInBounds_toArray, List.set_cons_zero, List.set_cons_succ])
                refine wpAnyH_ready (rs := [2]) (by kernel_rfl) (by simp) (held_cons rfl (fun K hK => ?_) AllReadyH.nil)
                rw [if_pos (by rfl)]
                refine wp_dup _ _ rfl rfl rfl HLW.out (by have := VL.out t; omega) ?_
                intro Ad cd W3 hd hxd
                have HD := hide hd
                have DBD := hide (show ab < W2.heap.size ∧ W2.heap.size ≤ W3.heap.size from ⟨HAA.out.lt, hxd.size⟩)
                have HR := hide (HR.out.ext hxd)
                have HAA := hide (HAA.out.ext hxd)
                have HBX := hide (HBX.out.ext hxd)
                have HLW := hide (HLW.out.ext hxd)
                have B9 := hide (B9.out.ext hxd)
                have B10 := hide (B10.out.ext hxd)
                have HX := hide (HX.out.trans hxd)
                (try have HN := hide (HN.out.ext hxd))
                clear hd hxd
                refine hK.out _ _ (ev_rng HBX.out) (fun hHeld => ?_)
                (try simp only [Act.put, List.setIfInBounds_toArray, List.set_cons_zero, List.set_cons_succ])
                refine wpAnyH_ready (rs := [6]) (by kernel_rfl) (by simp) (held_cons rfl (fun K hK => ?_) AllReadyH.nil)
                rw [if_pos (by rfl)]
                have bxl : bx < ab := LTX.out.1
                have dl := DBD.out
                have LB := hide (show w.heap.size ≤ W2.heap.size by have := LTX.out; have := HNE.out; omega)
                refine wp_one _ _ rfl (B := W2.heap.size) (y := evX x) rfl rfl HD.out HN.out (by have := VL.out t; omega) dl.2 ?_
                rintro Ae ce W5 he ⟨T, hT, hcT⟩
                have HE := hide he
                have HR := hide (HR.out.up BEL.out hcT (fun i hi => by have := hT i hi; omega))
                have HAA := hide (HAA.out.chg hcT (fun q => by have := hT _ q; omega))
                have HBX := hide (HBX.out.chg hcT (fun q => by have := hT _ q; omega))
                have B9 := hide (B9.out.chg hcT (fun q => by have := hT _ q; have := LTX.out; have := HNE.out; omega))
                have B10 := hide (B10.out.chg hcT (fun q => by have := hT _ q; have := LTX.out; have := HNE.out; omega))
                have HX := hide (HX.out.turn hcT (fun i hi => by have := hT i hi; have := LTX.out; have := HNE.out; omega))
                clear he hcT
                refine hK.out _ _ (ev_rng HBX.out) (fun hHeld => ?_)
                (try simp only [Act.put, List.setIfInBounds_toArray, List.set_cons_zero, List.set_cons_succ])
                (refine held_take (i := 7) (v := ?_) rfl (by kernel_rfl) (by kernel_rfl) (by kernel_rfl) (fun _ _ _ h => h) (by rfl) ?_ (by assumption) ?_; rotate_left; (intro w hSw; (try dsimp only at hSw); (first | (go_simp; done) | (go_simp; with_reducible rfl))); (try simp only [Act.put, List.setIfInBounds_toArray, List.set_cons_zero, List.set_cons_succ]))
                refine wpAnyH_ready (rs := [8]) (by kernel_rfl) (by simp) (held_cons rfl (fun K hK => ?_) AllReadyH.nil)
                rw [if_pos (by rfl)]
                have g5 := HAA.out.cell 5
                simp only [List.getElem?_toArray, List.getElem?_cons_zero, List.getElem?_cons_succ] at g5
                have f5 := HAA.out.free 5
                go_wp2
                clear g5 f5
                have hb8 := HAA.out.set 5 (.slice Ae ((V t).length + 1) ce)
                have hc8 := (Chg.refl [ab] W5).set (p := ⟨ab, 5, none⟩) (.inl (by simp)) (.slice Ae ((V t).length + 1) ce)
                have HE := hide (own_chgB HE.out hc8 (fun k hk q => by
                  obtain ⟨cs, hbk⟩ := own_blk HE.out k hk
                  simp only [List.mem_singleton] at q
                  subst q
                  have := Blk.type hbk HAA.out
                  revert this; decide))
                simp only [List.setIfInBounds_toArray, List.set_cons_zero, List.set_cons_succ] at hb8
                have HBX8 := HBX.out.chg hc8 (by have := LTX.out; simp; omega)
                generalize W5.setCell ⟨ab, 5, none⟩ (.slice Ae ((V t).length + 1) ce) = w8 at *
                refine hK.out _ _ (ev_rng HBX8) (fun hHeld => ?_)
                (try simp only [Act.put, List.setIfInBounds_toArray, List.set_cons_zero, List.set_cons_succ])
                clear HBX8 bxl dl HAA HD HN DBD
                have HR := hide (HR.out.up BEL.out hc8 (by have := LTX.out; simp; omega))
                have HBX := hide (HBX.out.chg hc8 (by have := LTX.out; simp; omega))
                have B9 := hide (B9.out.chg hc8 (by have := LTX.out; have := HNE.out; simp; omega))
                have B10 := hide (B10.out.chg hc8 (by have := LTX.out; have := HNE.out; simp; omega))
                have HX := hide (HX.out.turn hc8 (by have := LTX.out; have := HNE.out; simp; omega))
                have x1 := HBX.out.cell 1
                change _ = some (Value.int .i64 x.th) at x1
                rw [hxt] at x1
                have qc0 := hb8.cell 0
                have qc1 := hb8.cell 1
                have qc2 := hb8.cell 2
                have qc3 := hb8.cell 3
                have qc4 := hb8.cell 4
                have qc5 := hb8.cell 5
                simp only [List.getElem?_toArray, List.getElem?_cons_zero, List.getElem?_cons_succ] at qc0 qc1 qc2 qc3 qc4 qc5
                clear hc8
                have hst : (D t).st ≠ 0 := by
                  intro s0
                  have := TKB.out
                  unfold tkB at this
                  split at this
                  · cases this
                  · rw [if_neg (by omega), if_neg (by omega)] at this; cases this
                have gs := go_st hst x.ek x.ea x.er
                have hq : (#[Value.int .i64 (clI (D t)), .bool ((D t).st != 0), .int .i64 (D t).kd, .int .i64 (D t).ob, .int .i64 (D t).ar, .slice Ae ((V t).length + 1) ce]) = (a6 (goD (D t) x.ek x.ea x.er) (.slice Ae ((V t).length + 1) ce)).toArray := by
                  have e : ((D t).st != 0) = true := by simpa using hst
                  unfold a6
                  rw [gs.1, gs.2.1, gs.2.2.1, gs.2.2.2.1, gs.2.2.2.2, e]
                have GS := hide gs
                clear gs hst
                refine wpAnyH_done (by kernel_rfl) ?_ _
                go_wp2_with (with_reducible refine wpList_rat rfl _ _ rfl ht8 (goD (D t) x.ek x.ea x.er) (.slice Ae ((V t).length + 1) ce) rfl _ rfl rfl rfl HR.out.a ?_; intro w9 hb9 hc9; go_frame)
                go_roundw
                case rel =>
                  have yb := YB.out
                  have f1 : takeS S D x = S' := TS.out yb
                  have f2 : takeD S D x = upd D t (goD (D t) x.ek x.ea x.er) := by unfold takeD; rw [if_pos yb, hN, if_neg k1, if_pos k2]
                  have f3 : takeV S D V x = upd V t (V t ++ [evX x]) := by unfold takeV; rw [if_pos yb, hN, if_pos k2]
                  have hlw : Lw w9 w.heap.size (.slice Ae ((V t).length + 1) ce) (V t ++ [evX x]) := by
                    refine own_low (own_chgB HE.out hc9 (fun k hk q => ?_)) LB.out
                    obtain ⟨cs, hbk⟩ := own_blk HE.out k hk
                    simp only [List.mem_singleton] at q
                    subst q
                    have := Blk.type hbk HR.out.a
                    revert this; decide
                  have h9 := HR.out.turn (by have := HNE.out; omega) hb9 hc9 (l := V t ++ [evX x]) (v := .slice Ae ((V t).length + 1) ce) hlw
                  refine ⟨j + 1, takeV S D V x, upd sl t (.slice Ae ((V t).length + 1) ce), by omega, by go_num, ?_, ?_, ?_, ?_, ?_, ?_, ?_⟩
                  · rw [HN1.out, f1, f2, f3]; exact h9
                  · rw [HN1.out]; exact JN.out
                  · intro i hi
                    by_cases e : i = j
                    · subst e; rw [HOK.out]; exact yb
                    · exact OKA.out i (by omega)
                  · intro t'
                    rw [f3]
                    unfold upd
                    split
                    · have := VL.out t; simp; try omega
                    · have := VL.out t'; omega
                  · exact B9.out.chg hc9 (by have := HNE.out; simp; omega)
                  · exact B10.out.chg hc9 (by have := HNE.out; simp; omega)
                  · exact HX.out.turn hc9 (by have := HNE.out; simp; omega)
                case measure => simp [intOf]; omega
                -- >
            · skip
              -- <
              rw [if_pos (by rfl)]
              go_wp2
              have xb := Ext.alloc W1 (.cells #[Value.int .i64 x.ek, .int .i64 x.et, .int .i64 x.eo, .int .i64 x.ea, .int .i64 x.er] 29)
              have HR := hide (HR.out.ext xb)
              have HAA := hide (HAA.out.ext xb)
              have HBX := hide (HBX.out.ext xb)
              have HLW := hide (HLW.out.ext xb)
              have B9 := hide (B9.out.ext xb)
              have B10 := hide (B10.out.ext xb)
              have HX := hide (HX.out.trans xb)
              have HN := hide (Blk.new W1 #[Value.int .i64 x.ek, .int .i64 x.et, .int .i64 x.eo, .int .i64 x.ea, .int .i64 x.er] 29)
              (try have HD := hide (HD.out.ext xb))
              (try have DBD := hide (show ab < _ ∧ _ ≤ _ from ⟨DBD.out.1, Nat.le_trans DBD.out.2 xb.size⟩))
              clear xb
              generalize W1.alloc (.cells #[Value.int .i64 x.ek, .int .i64 x.et, .int .i64 x.eo, .int .i64 x.ea, .int .i64 x.er] 29) = W2 at *
              refine hK.out _ _ (ev_rng HBX.out) (fun hHeld => ?_)
              (try simp only [Act.put, List.setIfInBounds_toArray, List.set_cons_zero, List.set_cons_succ])
              refine wpAnyH_ready (rs := [1]) (by kernel_rfl) (by simp) (held_cons rfl (fun K hK => ?_) AllReadyH.nil)
              rw [if_pos (by rfl)]
              have g5 := HAA.out.cell 5
              simp only [List.getElem?_toArray, List.getElem?_cons_zero, List.getElem?_cons_succ] at g5
              go_wp2
              clear g5
              refine hK.out _ _ (ev_rng HBX.out) (fun hHeld => ?_)
              (try simp only [Act.put, List.setIfInBounds_toArray, List.set_cons_zero, List.set_cons_succ])
              refine wpAnyH_ready (rs := [2]) (by kernel_rfl) (by simp) (held_cons rfl (fun K hK => ?_) AllReadyH.nil)
              rw [if_pos (by rfl)]
              refine wp_dup _ _ rfl rfl rfl HLW.out (by have := VL.out t; omega) ?_
              intro Ad cd W3 hd hxd
              have HD := hide hd
              have DBD := hide (show ab < W2.heap.size ∧ W2.heap.size ≤ W3.heap.size from ⟨HAA.out.lt, hxd.size⟩)
              have HR := hide (HR.out.ext hxd)
              have HAA := hide (HAA.out.ext hxd)
              have HBX := hide (HBX.out.ext hxd)
              have HLW := hide (HLW.out.ext hxd)
              have B9 := hide (B9.out.ext hxd)
              have B10 := hide (B10.out.ext hxd)
              have HX := hide (HX.out.trans hxd)
              (try have HN := hide (HN.out.ext hxd))
              clear hd hxd
              refine hK.out _ _ (ev_rng HBX.out) (fun hHeld => ?_)
              (try simp only [Act.put, List.setIfInBounds_toArray, List.set_cons_zero, List.set_cons_succ])
              refine wpAnyH_ready (rs := [6]) (by kernel_rfl) (by simp) (held_cons rfl (fun K hK => ?_) AllReadyH.nil)
              rw [if_pos (by rfl)]
              have bxl : bx < ab := LTX.out.1
              have dl := DBD.out
              have LB := hide (show w.heap.size ≤ W2.heap.size by have := LTX.out; have := HNE.out; omega)
              refine wp_one _ _ rfl (B := W2.heap.size) (y := evX x) rfl rfl HD.out HN.out (by have := VL.out t; omega) dl.2 ?_
              rintro Ae ce W5 he ⟨T, hT, hcT⟩
              have HE := hide he
              have HR := hide (HR.out.up BEL.out hcT (fun i hi => by have := hT i hi; omega))
              have HAA := hide (HAA.out.chg hcT (fun q => by have := hT _ q; omega))
              have HBX := hide (HBX.out.chg hcT (fun q => by have := hT _ q; omega))
              have B9 := hide (B9.out.chg hcT (fun q => by have := hT _ q; have := LTX.out; have := HNE.out; omega))
              have B10 := hide (B10.out.chg hcT (fun q => by have := hT _ q; have := LTX.out; have := HNE.out; omega))
              have HX := hide (HX.out.turn hcT (fun i hi => by have := hT i hi; have := LTX.out; have := HNE.out; omega))
              clear he hcT
              refine hK.out _ _ (ev_rng HBX.out) (fun hHeld => ?_)
              (try simp only [Act.put, List.setIfInBounds_toArray, List.set_cons_zero, List.set_cons_succ])
              (refine held_take (i := 7) (v := ?_) rfl (by kernel_rfl) (by kernel_rfl) (by kernel_rfl) (fun _ _ _ h => h) (by rfl) ?_ (by assumption) ?_; rotate_left; (intro w hSw; (try dsimp only at hSw); (first | (go_simp; done) | (go_simp; with_reducible rfl))); (try simp only [Act.put, List.setIfInBounds_toArray, List.set_cons_zero, List.set_cons_succ]))
              refine wpAnyH_ready (rs := [8]) (by kernel_rfl) (by simp) (held_cons rfl (fun K hK => ?_) AllReadyH.nil)
              rw [if_pos (by rfl)]
              have g5 := HAA.out.cell 5
              simp only [List.getElem?_toArray, List.getElem?_cons_zero, List.getElem?_cons_succ] at g5
              have f5 := HAA.out.free 5
              go_wp2
              clear g5 f5
              have hb8 := HAA.out.set 5 (.slice Ae ((V t).length + 1) ce)
              have hc8 := (Chg.refl [ab] W5).set (p := ⟨ab, 5, none⟩) (.inl (by simp)) (.slice Ae ((V t).length + 1) ce)
              have HE := hide (own_chgB HE.out hc8 (fun k hk q => by
                obtain ⟨cs, hbk⟩ := own_blk HE.out k hk
                simp only [List.mem_singleton] at q
                subst q
                have := Blk.type hbk HAA.out
                revert this; decide))
              simp only [List.setIfInBounds_toArray, List.set_cons_zero, List.set_cons_succ] at hb8
              have HBX8 := HBX.out.chg hc8 (by have := LTX.out; simp; omega)
              generalize W5.setCell ⟨ab, 5, none⟩ (.slice Ae ((V t).length + 1) ce) = w8 at *
              refine hK.out _ _ (ev_rng HBX8) (fun hHeld => ?_)
              (try simp only [Act.put, List.setIfInBounds_toArray, List.set_cons_zero, List.set_cons_succ])
              clear HBX8 bxl dl HAA HD HN DBD
              have HR := hide (HR.out.up BEL.out hc8 (by have := LTX.out; simp; omega))
              have HBX := hide (HBX.out.chg hc8 (by have := LTX.out; simp; omega))
              have B9 := hide (B9.out.chg hc8 (by have := LTX.out; have := HNE.out; simp; omega))
              have B10 := hide (B10.out.chg hc8 (by have := LTX.out; have := HNE.out; simp; omega))
              have HX := hide (HX.out.turn hc8 (by have := LTX.out; have := HNE.out; simp; omega))
              have x1 := HBX.out.cell 1
              change _ = some (Value.int .i64 x.th) at x1
              rw [hxt] at x1
              have qc0 := hb8.cell 0
              have qc1 := hb8.cell 1
              have qc2 := hb8.cell 2
              have qc3 := hb8.cell 3
              have qc4 := hb8.cell 4
              have qc5 := hb8.cell 5
              simp only [List.getElem?_toArray, List.getElem?_cons_zero, List.getElem?_cons_succ] at qc0 qc1 qc2 qc3 qc4 qc5
              clear hc8
              have hst : (D t).st ≠ 0 := by
                intro s0
                have := TKB.out
                unfold tkB at this
                split at this
                · cases this
                · rw [if_neg (by omega), if_neg (by omega)] at this; cases this
              have gs := go_st hst x.ek x.ea x.er
              have hq : (#[Value.int .i64 (clI (D t)), .bool ((D t).st != 0), .int .i64 (D t).kd, .int .i64 (D t).ob, .int .i64 (D t).ar, .slice Ae ((V t).length + 1) ce]) = (a6 (goD (D t) x.ek x.ea x.er) (.slice Ae ((V t).length + 1) ce)).toArray := by
                have e : ((D t).st != 0) = true := by simpa using hst
                unfold a6
                rw [gs.1, gs.2.1, gs.2.2.1, gs.2.2.2.1, gs.2.2.2.2, e]
              have GS := hide gs
              clear gs hst
              refine wpAnyH_done (by kernel_rfl) ?_ _
              go_wp2_with (with_reducible refine wpList_rat rfl _ _ rfl ht8 (goD (D t) x.ek x.ea x.er) (.slice Ae ((V t).length + 1) ce) rfl _ rfl rfl rfl HR.out.a ?_; intro w9 hb9 hc9; go_frame)
              go_roundw
              case rel =>
                have yb := YB.out
                have f1 : takeS S D x = S' := TS.out yb
                have f2 : takeD S D x = upd D t (goD (D t) x.ek x.ea x.er) := by unfold takeD; rw [if_pos yb, hN, if_neg k1, if_pos k2]
                have f3 : takeV S D V x = upd V t (V t ++ [evX x]) := by unfold takeV; rw [if_pos yb, hN, if_pos k2]
                have hlw : Lw w9 w.heap.size (.slice Ae ((V t).length + 1) ce) (V t ++ [evX x]) := by
                  refine own_low (own_chgB HE.out hc9 (fun k hk q => ?_)) LB.out
                  obtain ⟨cs, hbk⟩ := own_blk HE.out k hk
                  simp only [List.mem_singleton] at q
                  subst q
                  have := Blk.type hbk HR.out.a
                  revert this; decide
                have h9 := HR.out.turn (by have := HNE.out; omega) hb9 hc9 (l := V t ++ [evX x]) (v := .slice Ae ((V t).length + 1) ce) hlw
                refine ⟨j + 1, takeV S D V x, upd sl t (.slice Ae ((V t).length + 1) ce), by omega, by go_num, ?_, ?_, ?_, ?_, ?_, ?_, ?_⟩
                · rw [HN1.out, f1, f2, f3]; exact h9
                · rw [HN1.out]; exact JN.out
                · intro i hi
                  by_cases e : i = j
                  · subst e; rw [HOK.out]; exact yb
                  · exact OKA.out i (by omega)
                · intro t'
                  rw [f3]
                  unfold upd
                  split
                  · have := VL.out t; simp; try omega
                  · have := VL.out t'; omega
                · exact B9.out.chg hc9 (by have := HNE.out; simp; omega)
                · exact B10.out.chg hc9 (by have := HNE.out; simp; omega)
                · exact HX.out.turn hc9 (by have := HNE.out; simp; omega)
              case measure => simp [intOf]; omega
              -- >
          · skip
            -- <
            have CE := hide (CE0.out (by rw [HOK.out, RBH.out, yr]; have := bne_iff_ne.1 ye; simp [this]))
            go_upto_region 24 with fail
            generalize w9 = W6 at *
            have HM := hide (HR.out.m.ext (Ext.drew _))
            have BA := hide (HR.out.a.ext (Ext.drew _))
            have B9 := hide (B9.out.ext (Ext.drew _))
            have B10 := hide (B10.out.ext (Ext.drew _))
            have HX := hide (HX.out.trans (Ext.drew _))
            refine wp_region_held_drew (S := fun w' => w'.rangeAt bm 0 (rc S).toList ∧ w'.rangeAt ba 0 (atc D sl).toList) (by kernel_rfl) (by exact ⟨rc_rng HM.out, atc_rng BA.out⟩) (fun hHeld => ?_)
            generalize W6.drew = W4 at *
            (refine held_take (i := 0) (v := ?_) rfl (by kernel_rfl) (by kernel_rfl) (by kernel_rfl) (fun _ _ _ h => h) (by rfl) ?_ (by assumption) ?_; rotate_left; (intro w hSw; (try dsimp only at hSw); (first | (go_simp; done) | (go_simp; with_reducible rfl))); (try simp only [Act.put, List.setIfInBounds_toArray, List.set_cons_zero, List.set_cons_succ]))
            refine wpAnyH_take (i := 1) (at_drop rfl) (by kernel_rfl) (by kernel_rfl) (by kernel_rfl) (fun _ _ _ h => h) (yieldsIf_load_mid (by rfl) 47 _ rfl bm 0 rfl (rc S).toList _ (fun w h => h.1) Try.underlying47 rfl (inf_rm S)) (by assumption) ?_; rw [Array.toArray_toList]
            (try simp only [Act.put, List.setIfInBounds_toArray, List.set_cons_zero, List.set_cons_succ])
            refine wpAnyH_take (i := 2) (at_drop rfl) (by kernel_rfl) (by kernel_rfl) (by kernel_rfl) (fun _ _ _ h => h) (yieldsIf_load_mid (by rfl) 51 _ rfl ba 0 rfl (atc D sl).toList _ (fun w h => h.2) Try.underlying51 rfl inf_al) (by assumption) ?_; rw [Array.toArray_toList]
            (try simp only [Act.put, List.setIfInBounds_toArray, List.set_cons_zero, List.set_cons_succ])
            (refine held_take (i := 3) (v := ?_) rfl (by kernel_rfl) (by kernel_rfl) (by kernel_rfl) (fun _ _ _ h => h) (by rfl) ?_ (by assumption) ?_; rotate_left; (intro w hSw; (try dsimp only at hSw); (first | (go_simp; done) | (go_simp; with_reducible rfl))); (try simp only [Act.put, List.setIfInBounds_toArray, List.set_cons_zero, List.set_cons_succ]))
            refine wpAnyH_ready (rs := [4]) (by kernel_rfl) (by simp) (held_cons rfl (fun K hK => ?_) AllReadyH.nil)
            rw [if_pos (by rfl)]
            refine wp_store_row 47 _ _ rfl w.heap.size (rc S) rfl rfl 47 zz B9.out (by rw [rc_size]; exact inf_rz) (by rw [HZ.out, rc_size]) (all_rc _) ?_
            have c9 := Chg.row (cs := rc S) B9.out
            have B9 := hide (show Blk (W4.setRow w.heap.size (rc S)) w.heap.size (rc S) 47 from setRow_heap W4 w.heap.size zz (rc S) 47 _ B9.out)
            have HM := hide (HM.out.chg c9 (by have := HNE.out; simp; omega))
            have BA := hide (BA.out.chg c9 (by have := HNE.out; simp; omega))
            have B10 := hide (B10.out.chg c9 (by simp))
            have HX := hide (HX.out.turn c9 (by simp))
            clear c9
            generalize W4.setRow w.heap.size (rc S) = W4 at *
            refine hK.out _ _ (by exact ⟨rc_rng HM.out, atc_rng BA.out⟩) (fun hHeld => ?_)
            (try simp only [Act.put, List.setIfInBounds_toArray, List.set_cons_zero, List.set_cons_succ])
            refine wpAnyH_ready (rs := [5]) (by kernel_rfl) (by simp) (held_cons rfl (fun K hK => ?_) AllReadyH.nil)
            rw [if_pos (by rfl)]
            refine wp_store_row 51 _ _ rfl (w.heap.size + 1) (atc (D) (sl)) rfl rfl 51 za B10.out (by rw [atc_size]; exact inf_a) (by rw [HA.out, atc_size]) (all_atc HR.out.one) ?_
            have c10 := Chg.row (cs := atc (D) (sl)) B10.out
            have B10 := hide (show Blk (W4.setRow (w.heap.size + 1) (atc (D) (sl))) (w.heap.size + 1) (atc (D) (sl)) 51 from setRow_heap W4 (w.heap.size + 1) za (atc (D) (sl)) 51 _ B10.out)
            have HM := hide (HM.out.chg c10 (by have := HNE.out; simp; omega))
            have BA := hide (BA.out.chg c10 (by have := HNE.out; simp; omega))
            have B9 := hide (B9.out.chg c10 (by simp))
            have HX := hide (HX.out.turn c10 (by simp))
            clear c10
            generalize W4.setRow (w.heap.size + 1) (atc (D) (sl)) = W4 at *
            refine hK.out _ _ (by exact ⟨rc_rng HM.out, atc_rng BA.out⟩) (fun hHeld => ?_)
            (try simp only [Act.put, List.setIfInBounds_toArray, List.set_cons_zero, List.set_cons_succ])
            refine wpAnyH_done (by kernel_rfl) ?_ _
            go_wp2_with fail
            refine bodyPost_ret (rres_of Try.results9 _ _ rfl rfl rfl B9.out B10.out) rfl ?_
            exact ⟨⟨_, _, _, HR.out.one, by rw [CE.out]; rfl⟩, HX.out⟩
            -- >
        skip
        -- <
        have k3 : x.kd = 3 := by
          unfold bareB at qb
          rw [if_neg k1, if_neg k2] at qb
          split at qb
          · assumption
          · cases qb
        rw [if_neg k2] at RB0
        rw [k3] at x0
        have HLW := hide (HR.out.r t)
        rw [HSL.out] at HLW
        have vl := VL.out t
        have CT := rtold_any (clI (D t)) (D t) (V t) HLW.out (by omega)
        have cb : 0 ≤ clI (D t) ∧ clI (D t) ≤ 1000000 := by have := BD.out t; unfold clI; split <;> omega
        have TV : toB (D t) (V t) = true → tvI (D t) (V t) = toV (D t) (V t) ∧ teI (D t) (V t) = (lst (V t)).r := by
          intro e
          have : ¬ ((D t).st = 0 ∨ (V t).length = 0) := by
            intro q; unfold toB at e; rw [if_pos q] at e; cases e
          unfold tvI teI
          rw [if_neg this, if_neg this]; exact ⟨rfl, rfl⟩
        have TB := toB_eq (JJ.out t).1
        have TV := hide TV
        have TB := hide TB
        have ga := HAA.out.cell
        have g2 := ga 2
        have g3 := ga 3
        have g4 := ga 4
        have g5 := ga 5
        have x11 := HBX.out.cell 11
        have x12 := HBX.out.cell 12
        change _ = some (Value.int .i64 x.va) at x11
        change _ = some (Value.int .i64 x.rr) at x12
        simp only [List.getElem?_toArray, List.getElem?_cons_zero, List.getElem?_cons_succ] at g2 g3 g4 g5
        clear ga x3 x4 x5 vl
        cases yt : toB (D t) (V t)
        · skip
          rw [yt] at CT RB0
          have CE := hide (CE0.out (by rw [HOK.out, RB0]; rfl))
          go_wp2_with fail
          refine CT.mono ?_
          rintro e w7 ⟨rfl, hx7⟩
          have HR := hide (HR.out.ext hx7)
          have HAA := hide (HAA.out.ext hx7)
          have HBX := hide (HBX.out.ext hx7)
          have B9 := hide (B9.out.ext hx7)
          have B10 := hide (B10.out.ext hx7)
          have HX := hide (HX.out.trans hx7)
          have x1 := HBX.out.cell 1
          have x2 := HBX.out.cell 2
          have x11 := HBX.out.cell 11
          have x12 := HBX.out.cell 12
          change _ = some (Value.int .i64 x.th) at x1
          change _ = some (Value.int .i64 x.nu) at x2
          change _ = some (Value.int .i64 x.va) at x11
          change _ = some (Value.int .i64 x.rr) at x12
          rw [hxt] at x1
          have g0 := HAA.out.cell 0
          simp only [List.getElem?_toArray, List.getElem?_cons_zero, List.getElem?_cons_succ] at g0
          clear hx7
          go_upto_region 15 with fail
          generalize w7 = W6 at *
          have HM := hide (HR.out.m.ext (Ext.drew _))
          have BA := hide (HR.out.a.ext (Ext.drew _))
          have B9 := hide (B9.out.ext (Ext.drew _))
          have B10 := hide (B10.out.ext (Ext.drew _))
          have HX := hide (HX.out.trans (Ext.drew _))
          refine wp_region_held_drew (S := fun w' => w'.rangeAt bm 0 (rc S).toList ∧ w'.rangeAt ba 0 (atc D sl).toList) (by kernel_rfl) (by exact ⟨rc_rng HM.out, atc_rng BA.out⟩) (fun hHeld => ?_)
          generalize W6.drew = W4 at *
          (refine held_take (i := 0) (v := ?_) rfl (by kernel_rfl) (by kernel_rfl) (by kernel_rfl) (fun _ _ _ h => h) (by rfl) ?_ (by assumption) ?_; rotate_left; (intro w hSw; (try dsimp only at hSw); (first | (go_simp; done) | (go_simp; with_reducible rfl))); (try simp only [Act.put, List.setIfInBounds_toArray, List.set_cons_zero, List.set_cons_succ]))
          refine wpAnyH_take (i := 1) (at_drop rfl) (by kernel_rfl) (by kernel_rfl) (by kernel_rfl) (fun _ _ _ h => h) (yieldsIf_load_mid (by rfl) 47 _ rfl bm 0 rfl (rc S).toList _ (fun w h => h.1) Try.underlying47 rfl (inf_rm S)) (by assumption) ?_; rw [Array.toArray_toList]
          (try simp only [Act.put, List.setIfInBounds_toArray, List.set_cons_zero, List.set_cons_succ])
          refine wpAnyH_take (i := 2) (at_drop rfl) (by kernel_rfl) (by kernel_rfl) (by kernel_rfl) (fun _ _ _ h => h) (yieldsIf_load_mid (by rfl) 51 _ rfl ba 0 rfl (atc D sl).toList _ (fun w h => h.2) Try.underlying51 rfl inf_al) (by assumption) ?_; rw [Array.toArray_toList]
          (try simp only [Act.put, List.setIfInBounds_toArray, List.set_cons_zero, List.set_cons_succ])
          (refine held_take (i := 3) (v := ?_) rfl (by kernel_rfl) (by kernel_rfl) (by kernel_rfl) (fun _ _ _ h => h) (by rfl) ?_ (by assumption) ?_; rotate_left; (intro w hSw; (try dsimp only at hSw); (first | (go_simp; done) | (go_simp; with_reducible rfl))); (try simp only [Act.put, List.setIfInBounds_toArray, List.set_cons_zero, List.set_cons_succ]))
          refine wpAnyH_ready (rs := [4]) (by kernel_rfl) (by simp) (held_cons rfl (fun K hK => ?_) AllReadyH.nil)
          rw [if_pos (by rfl)]
          refine wp_store_row 47 _ _ rfl w.heap.size (rc S) rfl rfl 47 zz B9.out (by rw [rc_size]; exact inf_rz) (by rw [HZ.out, rc_size]) (all_rc _) ?_
          have c9 := Chg.row (cs := rc S) B9.out
          have B9 := hide (show Blk (W4.setRow w.heap.size (rc S)) w.heap.size (rc S) 47 from setRow_heap W4 w.heap.size zz (rc S) 47 _ B9.out)
          have HM := hide (HM.out.chg c9 (by have := HNE.out; simp; omega))
          have BA := hide (BA.out.chg c9 (by have := HNE.out; simp; omega))
          have B10 := hide (B10.out.chg c9 (by simp))
          have HX := hide (HX.out.turn c9 (by simp))
          clear c9
          generalize W4.setRow w.heap.size (rc S) = W4 at *
          refine hK.out _ _ (by exact ⟨rc_rng HM.out, atc_rng BA.out⟩) (fun hHeld => ?_)
          (try simp only [Act.put, List.setIfInBounds_toArray, List.set_cons_zero, List.set_cons_succ])
          refine wpAnyH_ready (rs := [5]) (by kernel_rfl) (by simp) (held_cons rfl (fun K hK => ?_) AllReadyH.nil)
          rw [if_pos (by rfl)]
          refine wp_store_row 51 _ _ rfl (w.heap.size + 1) (atc (D) (sl)) rfl rfl 51 za B10.out (by rw [atc_size]; exact inf_a) (by rw [HA.out, atc_size]) (all_atc HR.out.one) ?_
          have c10 := Chg.row (cs := atc (D) (sl)) B10.out
          have B10 := hide (show Blk (W4.setRow (w.heap.size + 1) (atc (D) (sl))) (w.heap.size + 1) (atc (D) (sl)) 51 from setRow_heap W4 (w.heap.size + 1) za (atc (D) (sl)) 51 _ B10.out)
          have HM := hide (HM.out.chg c10 (by have := HNE.out; simp; omega))
          have BA := hide (BA.out.chg c10 (by have := HNE.out; simp; omega))
          have B9 := hide (B9.out.chg c10 (by simp))
          have HX := hide (HX.out.turn c10 (by simp))
          clear c10
          generalize W4.setRow (w.heap.size + 1) (atc (D) (sl)) = W4 at *
          refine hK.out _ _ (by exact ⟨rc_rng HM.out, atc_rng BA.out⟩) (fun hHeld => ?_)
          (try simp only [Act.put, List.setIfInBounds_toArray, List.set_cons_zero, List.set_cons_succ])
          refine wpAnyH_done (by kernel_rfl) ?_ _
          go_wp2_with fail
          refine bodyPost_ret (rres_of Try.results9 _ _ rfl rfl rfl B9.out B10.out) rfl ?_
          exact ⟨⟨_, _, _, HR.out.one, by rw [CE.out]; rfl⟩, HX.out⟩
        · obtain ⟨tv1, tv2⟩ := TV.out yt
          rw [yt, tv1, tv2] at CT
          rw [yt, Bool.true_and] at RB0
          have S3 := hide (show (D t).st = 3 by have := TB.out; rw [yt] at this; simpa using this.symm)
          have RBH := hide RB0
          clear RB0
          clear tv1 tv2
          generalize htv : toV (D t) (V t) = tv at *
          generalize htr : (lst (V t)).r = tr at *
          cases y2 : (x.nu != clI (D t) - 1)
          · cases y3 : (x.va != tv)
            · cases y4 : (x.rr != tr)
              · have YB := hide (show takeB S D x = true by
                  rw [RBH.out]
                  simp only [bne_eq_false_iff_eq] at y2 y3 y4
                  simp [y2, y3, y4])
                go_wp2_with fail
                refine CT.mono ?_
                rintro e w7 ⟨rfl, hx7⟩
                have HR := hide (HR.out.ext hx7)
                have HAA := hide (HAA.out.ext hx7)
                have HBX := hide (HBX.out.ext hx7)
                have B9 := hide (B9.out.ext hx7)
                have B10 := hide (B10.out.ext hx7)
                have HX := hide (HX.out.trans hx7)
                have x1 := HBX.out.cell 1
                have x2 := HBX.out.cell 2
                have x11 := HBX.out.cell 11
                have x12 := HBX.out.cell 12
                change _ = some (Value.int .i64 x.th) at x1
                change _ = some (Value.int .i64 x.nu) at x2
                change _ = some (Value.int .i64 x.va) at x11
                change _ = some (Value.int .i64 x.rr) at x12
                rw [hxt] at x1
                have g0 := HAA.out.cell 0
                simp only [List.getElem?_toArray, List.getElem?_cons_zero, List.getElem?_cons_succ] at g0
                clear hx7
                have hq1 : (#[Value.int .i64 (clI (D t)), .bool false, .int .i64 0, .int .i64 0, .int .i64 0, .slice none 0 0]).all (·.oneCell') = true := by simp [Value.oneCell']
                go_upto_region 27 with (with_reducible refine wpList_box rfl _ _ rfl #[Value.int .i64 (clI (D t)), .bool false, .int .i64 0, .int .i64 0, .int .i64 0, .slice none 0 0] HAA.out rfl rfl hq1 rfl rfl ?_; intro w8 hb8 hc8; go_frame)
                have HR := hide (HR.out.up BEL.out hc8 (by have := LTX.out; simp; omega))
                have HBX := hide (HBX.out.chg hc8 (by have := LTX.out; simp; omega))
                have B9 := hide (B9.out.chg hc8 (by have := LTX.out; have := HNE.out; simp; omega))
                have B10 := hide (B10.out.chg hc8 (by have := LTX.out; have := HNE.out; simp; omega))
                have HX := hide (HX.out.turn hc8 (by have := LTX.out; have := HNE.out; simp; omega))
                have x1 := HBX.out.cell 1
                change _ = some (Value.int .i64 x.th) at x1
                rw [hxt] at x1
                have qc0 := hb8.cell 0
                have qc1 := hb8.cell 1
                have qc2 := hb8.cell 2
                have qc3 := hb8.cell 3
                have qc4 := hb8.cell 4
                have qc5 := hb8.cell 5
                simp only [List.getElem?_toArray, List.getElem?_cons_zero, List.getElem?_cons_succ] at qc0 qc1 qc2 qc3 qc4 qc5
                clear hc8
                have hq : (#[Value.int .i64 (clI (D t)), .bool false, .int .i64 0, .int .i64 0, .int .i64 0, .slice none 0 0]) = (a6 (endD (D t)) (.slice none 0 0)).toArray := by
                  simp [a6, endD, clI, S3.out]
                go_wp2_with (with_reducible refine wpList_rat rfl _ _ rfl ht8 (endD (D t)) (.slice none 0 0) rfl _ rfl rfl rfl HR.out.a ?_; intro w9 hb9 hc9; go_frame)
                go_roundw
                case rel =>
                  have yb := YB.out
                  have f1 : takeS S D x = S := by unfold takeS; rw [if_neg (by omega)]
                  have f2 : takeD S D x = upd D t (endD (D t)) := by unfold takeD; rw [if_pos yb, hN, if_neg k1, if_neg k2]
                  have f3 : takeV S D V x = upd V t [] := by unfold takeV; rw [if_pos yb, hN, if_neg k2]
                  have h9 := HR.out.turn (by have := HNE.out; omega) hb9 hc9 (l := []) (v := .slice none 0 0) (own_nil _ _ _ _)
                  refine ⟨j + 1, takeV S D V x, upd sl t (.slice none 0 0), by omega, by go_num, ?_, ?_, ?_, ?_, ?_, ?_, ?_⟩
                  · rw [HN1.out, f1, f2, f3]; exact h9
                  · rw [HN1.out]; exact JN.out
                  · intro i hi
                    by_cases e : i = j
                    · subst e; rw [HOK.out]; exact yb
                    · exact OKA.out i (by omega)
                  · intro t'
                    rw [f3]
                    unfold upd
                    split
                    · have := VL.out t; simp; try omega
                    · have := VL.out t'; omega
                  · exact B9.out.chg hc9 (by have := HNE.out; simp; omega)
                  · exact B10.out.chg hc9 (by have := HNE.out; simp; omega)
                  · exact HX.out.turn hc9 (by have := HNE.out; simp; omega)
                case measure => simp [intOf]; omega
              · skip
                have CE := hide (CE0.out (by rw [HOK.out, RBH.out]; have := bne_iff_ne.1 y4; simp [this]))
                go_wp2_with fail
                refine CT.mono ?_
                rintro e w7 ⟨rfl, hx7⟩
                have HR := hide (HR.out.ext hx7)
                have HAA := hide (HAA.out.ext hx7)
                have HBX := hide (HBX.out.ext hx7)
                have B9 := hide (B9.out.ext hx7)
                have B10 := hide (B10.out.ext hx7)
                have HX := hide (HX.out.trans hx7)
                have x1 := HBX.out.cell 1
                have x2 := HBX.out.cell 2
                have x11 := HBX.out.cell 11
                have x12 := HBX.out.cell 12
                change _ = some (Value.int .i64 x.th) at x1
                change _ = some (Value.int .i64 x.nu) at x2
                change _ = some (Value.int .i64 x.va) at x11
                change _ = some (Value.int .i64 x.rr) at x12
                rw [hxt] at x1
                have g0 := HAA.out.cell 0
                simp only [List.getElem?_toArray, List.getElem?_cons_zero, List.getElem?_cons_succ] at g0
                clear hx7
                go_upto_region 15 with fail
                generalize w7 = W6 at *
                have HM := hide (HR.out.m.ext (Ext.drew _))
                have BA := hide (HR.out.a.ext (Ext.drew _))
                have B9 := hide (B9.out.ext (Ext.drew _))
                have B10 := hide (B10.out.ext (Ext.drew _))
                have HX := hide (HX.out.trans (Ext.drew _))
                refine wp_region_held_drew (S := fun w' => w'.rangeAt bm 0 (rc S).toList ∧ w'.rangeAt ba 0 (atc D sl).toList) (by kernel_rfl) (by exact ⟨rc_rng HM.out, atc_rng BA.out⟩) (fun hHeld => ?_)
                generalize W6.drew = W4 at *
                (refine held_take (i := 0) (v := ?_) rfl (by kernel_rfl) (by kernel_rfl) (by kernel_rfl) (fun _ _ _ h => h) (by rfl) ?_ (by assumption) ?_; rotate_left; (intro w hSw; (try dsimp only at hSw); (first | (go_simp; done) | (go_simp; with_reducible rfl))); (try simp only [Act.put, List.setIfInBounds_toArray, List.set_cons_zero, List.set_cons_succ]))
                refine wpAnyH_take (i := 1) (at_drop rfl) (by kernel_rfl) (by kernel_rfl) (by kernel_rfl) (fun _ _ _ h => h) (yieldsIf_load_mid (by rfl) 47 _ rfl bm 0 rfl (rc S).toList _ (fun w h => h.1) Try.underlying47 rfl (inf_rm S)) (by assumption) ?_; rw [Array.toArray_toList]
                (try simp only [Act.put, List.setIfInBounds_toArray, List.set_cons_zero, List.set_cons_succ])
                refine wpAnyH_take (i := 2) (at_drop rfl) (by kernel_rfl) (by kernel_rfl) (by kernel_rfl) (fun _ _ _ h => h) (yieldsIf_load_mid (by rfl) 51 _ rfl ba 0 rfl (atc D sl).toList _ (fun w h => h.2) Try.underlying51 rfl inf_al) (by assumption) ?_; rw [Array.toArray_toList]
                (try simp only [Act.put, List.setIfInBounds_toArray, List.set_cons_zero, List.set_cons_succ])
                (refine held_take (i := 3) (v := ?_) rfl (by kernel_rfl) (by kernel_rfl) (by kernel_rfl) (fun _ _ _ h => h) (by rfl) ?_ (by assumption) ?_; rotate_left; (intro w hSw; (try dsimp only at hSw); (first | (go_simp; done) | (go_simp; with_reducible rfl))); (try simp only [Act.put, List.setIfInBounds_toArray, List.set_cons_zero, List.set_cons_succ]))
                refine wpAnyH_ready (rs := [4]) (by kernel_rfl) (by simp) (held_cons rfl (fun K hK => ?_) AllReadyH.nil)
                rw [if_pos (by rfl)]
                refine wp_store_row 47 _ _ rfl w.heap.size (rc S) rfl rfl 47 zz B9.out (by rw [rc_size]; exact inf_rz) (by rw [HZ.out, rc_size]) (all_rc _) ?_
                have c9 := Chg.row (cs := rc S) B9.out
                have B9 := hide (show Blk (W4.setRow w.heap.size (rc S)) w.heap.size (rc S) 47 from setRow_heap W4 w.heap.size zz (rc S) 47 _ B9.out)
                have HM := hide (HM.out.chg c9 (by have := HNE.out; simp; omega))
                have BA := hide (BA.out.chg c9 (by have := HNE.out; simp; omega))
                have B10 := hide (B10.out.chg c9 (by simp))
                have HX := hide (HX.out.turn c9 (by simp))
                clear c9
                generalize W4.setRow w.heap.size (rc S) = W4 at *
                refine hK.out _ _ (by exact ⟨rc_rng HM.out, atc_rng BA.out⟩) (fun hHeld => ?_)
                (try simp only [Act.put, List.setIfInBounds_toArray, List.set_cons_zero, List.set_cons_succ])
                refine wpAnyH_ready (rs := [5]) (by kernel_rfl) (by simp) (held_cons rfl (fun K hK => ?_) AllReadyH.nil)
                rw [if_pos (by rfl)]
                refine wp_store_row 51 _ _ rfl (w.heap.size + 1) (atc (D) (sl)) rfl rfl 51 za B10.out (by rw [atc_size]; exact inf_a) (by rw [HA.out, atc_size]) (all_atc HR.out.one) ?_
                have c10 := Chg.row (cs := atc (D) (sl)) B10.out
                have B10 := hide (show Blk (W4.setRow (w.heap.size + 1) (atc (D) (sl))) (w.heap.size + 1) (atc (D) (sl)) 51 from setRow_heap W4 (w.heap.size + 1) za (atc (D) (sl)) 51 _ B10.out)
                have HM := hide (HM.out.chg c10 (by have := HNE.out; simp; omega))
                have BA := hide (BA.out.chg c10 (by have := HNE.out; simp; omega))
                have B9 := hide (B9.out.chg c10 (by simp))
                have HX := hide (HX.out.turn c10 (by simp))
                clear c10
                generalize W4.setRow (w.heap.size + 1) (atc (D) (sl)) = W4 at *
                refine hK.out _ _ (by exact ⟨rc_rng HM.out, atc_rng BA.out⟩) (fun hHeld => ?_)
                (try simp only [Act.put, List.setIfInBounds_toArray, List.set_cons_zero, List.set_cons_succ])
                refine wpAnyH_done (by kernel_rfl) ?_ _
                go_wp2_with fail
                refine bodyPost_ret (rres_of Try.results9 _ _ rfl rfl rfl B9.out B10.out) rfl ?_
                exact ⟨⟨_, _, _, HR.out.one, by rw [CE.out]; rfl⟩, HX.out⟩
            · skip
              have CE := hide (CE0.out (by rw [HOK.out, RBH.out]; have := bne_iff_ne.1 y3; simp [this]))
              go_wp2_with fail
              refine CT.mono ?_
              rintro e w7 ⟨rfl, hx7⟩
              have HR := hide (HR.out.ext hx7)
              have HAA := hide (HAA.out.ext hx7)
              have HBX := hide (HBX.out.ext hx7)
              have B9 := hide (B9.out.ext hx7)
              have B10 := hide (B10.out.ext hx7)
              have HX := hide (HX.out.trans hx7)
              have x1 := HBX.out.cell 1
              have x2 := HBX.out.cell 2
              have x11 := HBX.out.cell 11
              have x12 := HBX.out.cell 12
              change _ = some (Value.int .i64 x.th) at x1
              change _ = some (Value.int .i64 x.nu) at x2
              change _ = some (Value.int .i64 x.va) at x11
              change _ = some (Value.int .i64 x.rr) at x12
              rw [hxt] at x1
              have g0 := HAA.out.cell 0
              simp only [List.getElem?_toArray, List.getElem?_cons_zero, List.getElem?_cons_succ] at g0
              clear hx7
              go_upto_region 15 with fail
              generalize w7 = W6 at *
              have HM := hide (HR.out.m.ext (Ext.drew _))
              have BA := hide (HR.out.a.ext (Ext.drew _))
              have B9 := hide (B9.out.ext (Ext.drew _))
              have B10 := hide (B10.out.ext (Ext.drew _))
              have HX := hide (HX.out.trans (Ext.drew _))
              refine wp_region_held_drew (S := fun w' => w'.rangeAt bm 0 (rc S).toList ∧ w'.rangeAt ba 0 (atc D sl).toList) (by kernel_rfl) (by exact ⟨rc_rng HM.out, atc_rng BA.out⟩) (fun hHeld => ?_)
              generalize W6.drew = W4 at *
              (refine held_take (i := 0) (v := ?_) rfl (by kernel_rfl) (by kernel_rfl) (by kernel_rfl) (fun _ _ _ h => h) (by rfl) ?_ (by assumption) ?_; rotate_left; (intro w hSw; (try dsimp only at hSw); (first | (go_simp; done) | (go_simp; with_reducible rfl))); (try simp only [Act.put, List.setIfInBounds_toArray, List.set_cons_zero, List.set_cons_succ]))
              refine wpAnyH_take (i := 1) (at_drop rfl) (by kernel_rfl) (by kernel_rfl) (by kernel_rfl) (fun _ _ _ h => h) (yieldsIf_load_mid (by rfl) 47 _ rfl bm 0 rfl (rc S).toList _ (fun w h => h.1) Try.underlying47 rfl (inf_rm S)) (by assumption) ?_; rw [Array.toArray_toList]
              (try simp only [Act.put, List.setIfInBounds_toArray, List.set_cons_zero, List.set_cons_succ])
              refine wpAnyH_take (i := 2) (at_drop rfl) (by kernel_rfl) (by kernel_rfl) (by kernel_rfl) (fun _ _ _ h => h) (yieldsIf_load_mid (by rfl) 51 _ rfl ba 0 rfl (atc D sl).toList _ (fun w h => h.2) Try.underlying51 rfl inf_al) (by assumption) ?_; rw [Array.toArray_toList]
              (try simp only [Act.put, List.setIfInBounds_toArray, List.set_cons_zero, List.set_cons_succ])
              (refine held_take (i := 3) (v := ?_) rfl (by kernel_rfl) (by kernel_rfl) (by kernel_rfl) (fun _ _ _ h => h) (by rfl) ?_ (by assumption) ?_; rotate_left; (intro w hSw; (try dsimp only at hSw); (first | (go_simp; done) | (go_simp; with_reducible rfl))); (try simp only [Act.put, List.setIfInBounds_toArray, List.set_cons_zero, List.set_cons_succ]))
              refine wpAnyH_ready (rs := [4]) (by kernel_rfl) (by simp) (held_cons rfl (fun K hK => ?_) AllReadyH.nil)
              rw [if_pos (by rfl)]
              refine wp_store_row 47 _ _ rfl w.heap.size (rc S) rfl rfl 47 zz B9.out (by rw [rc_size]; exact inf_rz) (by rw [HZ.out, rc_size]) (all_rc _) ?_
              have c9 := Chg.row (cs := rc S) B9.out
              have B9 := hide (show Blk (W4.setRow w.heap.size (rc S)) w.heap.size (rc S) 47 from setRow_heap W4 w.heap.size zz (rc S) 47 _ B9.out)
              have HM := hide (HM.out.chg c9 (by have := HNE.out; simp; omega))
              have BA := hide (BA.out.chg c9 (by have := HNE.out; simp; omega))
              have B10 := hide (B10.out.chg c9 (by simp))
              have HX := hide (HX.out.turn c9 (by simp))
              clear c9
              generalize W4.setRow w.heap.size (rc S) = W4 at *
              refine hK.out _ _ (by exact ⟨rc_rng HM.out, atc_rng BA.out⟩) (fun hHeld => ?_)
              (try simp only [Act.put, List.setIfInBounds_toArray, List.set_cons_zero, List.set_cons_succ])
              refine wpAnyH_ready (rs := [5]) (by kernel_rfl) (by simp) (held_cons rfl (fun K hK => ?_) AllReadyH.nil)
              rw [if_pos (by rfl)]
              refine wp_store_row 51 _ _ rfl (w.heap.size + 1) (atc (D) (sl)) rfl rfl 51 za B10.out (by rw [atc_size]; exact inf_a) (by rw [HA.out, atc_size]) (all_atc HR.out.one) ?_
              have c10 := Chg.row (cs := atc (D) (sl)) B10.out
              have B10 := hide (show Blk (W4.setRow (w.heap.size + 1) (atc (D) (sl))) (w.heap.size + 1) (atc (D) (sl)) 51 from setRow_heap W4 (w.heap.size + 1) za (atc (D) (sl)) 51 _ B10.out)
              have HM := hide (HM.out.chg c10 (by have := HNE.out; simp; omega))
              have BA := hide (BA.out.chg c10 (by have := HNE.out; simp; omega))
              have B9 := hide (B9.out.chg c10 (by simp))
              have HX := hide (HX.out.turn c10 (by simp))
              clear c10
              generalize W4.setRow (w.heap.size + 1) (atc (D) (sl)) = W4 at *
              refine hK.out _ _ (by exact ⟨rc_rng HM.out, atc_rng BA.out⟩) (fun hHeld => ?_)
              (try simp only [Act.put, List.setIfInBounds_toArray, List.set_cons_zero, List.set_cons_succ])
              refine wpAnyH_done (by kernel_rfl) ?_ _
              go_wp2_with fail
              refine bodyPost_ret (rres_of Try.results9 _ _ rfl rfl rfl B9.out B10.out) rfl ?_
              exact ⟨⟨_, _, _, HR.out.one, by rw [CE.out]; rfl⟩, HX.out⟩
          · skip
            have CE := hide (CE0.out (by rw [HOK.out, RBH.out]; have := bne_iff_ne.1 y2; simp [this]))
            go_wp2_with fail
            refine CT.mono ?_
            rintro e w7 ⟨rfl, hx7⟩
            have HR := hide (HR.out.ext hx7)
            have HAA := hide (HAA.out.ext hx7)
            have HBX := hide (HBX.out.ext hx7)
            have B9 := hide (B9.out.ext hx7)
            have B10 := hide (B10.out.ext hx7)
            have HX := hide (HX.out.trans hx7)
            have x1 := HBX.out.cell 1
            have x2 := HBX.out.cell 2
            have x11 := HBX.out.cell 11
            have x12 := HBX.out.cell 12
            change _ = some (Value.int .i64 x.th) at x1
            change _ = some (Value.int .i64 x.nu) at x2
            change _ = some (Value.int .i64 x.va) at x11
            change _ = some (Value.int .i64 x.rr) at x12
            rw [hxt] at x1
            have g0 := HAA.out.cell 0
            simp only [List.getElem?_toArray, List.getElem?_cons_zero, List.getElem?_cons_succ] at g0
            clear hx7
            go_upto_region 15 with fail
            generalize w7 = W6 at *
            have HM := hide (HR.out.m.ext (Ext.drew _))
            have BA := hide (HR.out.a.ext (Ext.drew _))
            have B9 := hide (B9.out.ext (Ext.drew _))
            have B10 := hide (B10.out.ext (Ext.drew _))
            have HX := hide (HX.out.trans (Ext.drew _))
            refine wp_region_held_drew (S := fun w' => w'.rangeAt bm 0 (rc S).toList ∧ w'.rangeAt ba 0 (atc D sl).toList) (by kernel_rfl) (by exact ⟨rc_rng HM.out, atc_rng BA.out⟩) (fun hHeld => ?_)
            generalize W6.drew = W4 at *
            (refine held_take (i := 0) (v := ?_) rfl (by kernel_rfl) (by kernel_rfl) (by kernel_rfl) (fun _ _ _ h => h) (by rfl) ?_ (by assumption) ?_; rotate_left; (intro w hSw; (try dsimp only at hSw); (first | (go_simp; done) | (go_simp; with_reducible rfl))); (try simp only [Act.put, List.setIfInBounds_toArray, List.set_cons_zero, List.set_cons_succ]))
            refine wpAnyH_take (i := 1) (at_drop rfl) (by kernel_rfl) (by kernel_rfl) (by kernel_rfl) (fun _ _ _ h => h) (yieldsIf_load_mid (by rfl) 47 _ rfl bm 0 rfl (rc S).toList _ (fun w h => h.1) Try.underlying47 rfl (inf_rm S)) (by assumption) ?_; rw [Array.toArray_toList]
            (try simp only [Act.put, List.setIfInBounds_toArray, List.set_cons_zero, List.set_cons_succ])
            refine wpAnyH_take (i := 2) (at_drop rfl) (by kernel_rfl) (by kernel_rfl) (by kernel_rfl) (fun _ _ _ h => h) (yieldsIf_load_mid (by rfl) 51 _ rfl ba 0 rfl (atc D sl).toList _ (fun w h => h.2) Try.underlying51 rfl inf_al) (by assumption) ?_; rw [Array.toArray_toList]
            (try simp only [Act.put, List.setIfInBounds_toArray, List.set_cons_zero, List.set_cons_succ])
            (refine held_take (i := 3) (v := ?_) rfl (by kernel_rfl) (by kernel_rfl) (by kernel_rfl) (fun _ _ _ h => h) (by rfl) ?_ (by assumption) ?_; rotate_left; (intro w hSw; (try dsimp only at hSw); (first | (go_simp; done) | (go_simp; with_reducible rfl))); (try simp only [Act.put, List.setIfInBounds_toArray, List.set_cons_zero, List.set_cons_succ]))
            refine wpAnyH_ready (rs := [4]) (by kernel_rfl) (by simp) (held_cons rfl (fun K hK => ?_) AllReadyH.nil)
            rw [if_pos (by rfl)]
            refine wp_store_row 47 _ _ rfl w.heap.size (rc S) rfl rfl 47 zz B9.out (by rw [rc_size]; exact inf_rz) (by rw [HZ.out, rc_size]) (all_rc _) ?_
            have c9 := Chg.row (cs := rc S) B9.out
            have B9 := hide (show Blk (W4.setRow w.heap.size (rc S)) w.heap.size (rc S) 47 from setRow_heap W4 w.heap.size zz (rc S) 47 _ B9.out)
            have HM := hide (HM.out.chg c9 (by have := HNE.out; simp; omega))
            have BA := hide (BA.out.chg c9 (by have := HNE.out; simp; omega))
            have B10 := hide (B10.out.chg c9 (by simp))
            have HX := hide (HX.out.turn c9 (by simp))
            clear c9
            generalize W4.setRow w.heap.size (rc S) = W4 at *
            refine hK.out _ _ (by exact ⟨rc_rng HM.out, atc_rng BA.out⟩) (fun hHeld => ?_)
            (try simp only [Act.put, List.setIfInBounds_toArray, List.set_cons_zero, List.set_cons_succ])
            refine wpAnyH_ready (rs := [5]) (by kernel_rfl) (by simp) (held_cons rfl (fun K hK => ?_) AllReadyH.nil)
            rw [if_pos (by rfl)]
            refine wp_store_row 51 _ _ rfl (w.heap.size + 1) (atc (D) (sl)) rfl rfl 51 za B10.out (by rw [atc_size]; exact inf_a) (by rw [HA.out, atc_size]) (all_atc HR.out.one) ?_
            have c10 := Chg.row (cs := atc (D) (sl)) B10.out
            have B10 := hide (show Blk (W4.setRow (w.heap.size + 1) (atc (D) (sl))) (w.heap.size + 1) (atc (D) (sl)) 51 from setRow_heap W4 (w.heap.size + 1) za (atc (D) (sl)) 51 _ B10.out)
            have HM := hide (HM.out.chg c10 (by have := HNE.out; simp; omega))
            have BA := hide (BA.out.chg c10 (by have := HNE.out; simp; omega))
            have B9 := hide (B9.out.chg c10 (by simp))
            have HX := hide (HX.out.turn c10 (by simp))
            clear c10
            generalize W4.setRow (w.heap.size + 1) (atc (D) (sl)) = W4 at *
            refine hK.out _ _ (by exact ⟨rc_rng HM.out, atc_rng BA.out⟩) (fun hHeld => ?_)
            (try simp only [Act.put, List.setIfInBounds_toArray, List.set_cons_zero, List.set_cons_succ])
            refine wpAnyH_done (by kernel_rfl) ?_ _
            go_wp2_with fail
            refine bodyPost_ret (rres_of Try.results9 _ _ rfl rfl rfl B9.out B10.out) rfl ?_
            exact ⟨⟨_, _, _, HR.out.one, by rw [CE.out]; rfl⟩, HX.out⟩
        -- >
    · skip
      -- <
      have CE := hide (cnt_eq hok hj (fun h => absurd h hlt))
      have jnn : j = nn := by omega
      subst jnn
      have HR := hide hr
      have B9 := hide h9
      have B10 := hide h10
      have HX := hide hX
      clear hr h9 h10 hX hjr hok hvl bd nm ok rt jn HN1 HOK
      go_upto_region 28 with fail
      generalize wr = W6 at *
      have HM := hide (HR.out.m.ext (Ext.drew _))
      have BA := hide (HR.out.a.ext (Ext.drew _))
      have B9 := hide (B9.out.ext (Ext.drew _))
      have B10 := hide (B10.out.ext (Ext.drew _))
      have HX := hide (HX.out.trans (Ext.drew _))
      refine wp_region_held_drew (S := fun w' => w'.rangeAt bm 0 (rc S).toList ∧ w'.rangeAt ba 0 (atc D sl).toList) (by kernel_rfl) (by exact ⟨rc_rng HM.out, atc_rng BA.out⟩) (fun hHeld => ?_)
      generalize W6.drew = W4 at *
      (refine held_take (i := 0) (v := ?_) rfl (by kernel_rfl) (by kernel_rfl) (by kernel_rfl) (fun _ _ _ h => h) (by rfl) ?_ (by assumption) ?_; rotate_left; (intro w hSw; (try dsimp only at hSw); (first | (go_simp; done) | (go_simp; with_reducible rfl))); (try simp only [Act.put, List.setIfInBounds_toArray, List.set_cons_zero, List.set_cons_succ]))
      (refine held_take (i := 1) (v := ?_) rfl (by kernel_rfl) (by kernel_rfl) (by kernel_rfl) (fun _ _ _ h => h) (by rfl) ?_ (by assumption) ?_; rotate_left; (intro w hSw; (try dsimp only at hSw); (first | (go_simp; done) | (go_simp; with_reducible rfl))); (try simp only [Act.put, List.setIfInBounds_toArray, List.set_cons_zero, List.set_cons_succ]))
      refine wpAnyH_take (i := 2) (at_drop rfl) (by kernel_rfl) (by kernel_rfl) (by kernel_rfl) (fun _ _ _ h => h) (yieldsIf_load_mid (by rfl) 47 _ rfl bm 0 rfl (rc S).toList _ (fun w h => h.1) Try.underlying47 rfl (inf_rm S)) (by assumption) ?_; rw [Array.toArray_toList]
      (try simp only [Act.put, List.setIfInBounds_toArray, List.set_cons_zero, List.set_cons_succ])
      refine wpAnyH_take (i := 3) (at_drop rfl) (by kernel_rfl) (by kernel_rfl) (by kernel_rfl) (fun _ _ _ h => h) (yieldsIf_load_mid (by rfl) 51 _ rfl ba 0 rfl (atc D sl).toList _ (fun w h => h.2) Try.underlying51 rfl inf_al) (by assumption) ?_; rw [Array.toArray_toList]
      (try simp only [Act.put, List.setIfInBounds_toArray, List.set_cons_zero, List.set_cons_succ])
      (refine held_take (i := 4) (v := ?_) rfl (by kernel_rfl) (by kernel_rfl) (by kernel_rfl) (fun _ _ _ h => h) (by rfl) ?_ (by assumption) ?_; rotate_left; (intro w hSw; (try dsimp only at hSw); (first | (go_simp; done) | (go_simp; with_reducible rfl))); (try simp only [Act.put, List.setIfInBounds_toArray, List.set_cons_zero, List.set_cons_succ]))
      refine wpAnyH_ready (rs := [5]) (by kernel_rfl) (by simp) (held_cons rfl (fun K hK => ?_) AllReadyH.nil)
      rw [if_pos (by rfl)]
      refine wp_store_row 47 _ _ rfl w.heap.size (rc S) rfl rfl 47 zz B9.out (by rw [rc_size]; exact inf_rz) (by rw [HZ.out, rc_size]) (all_rc _) ?_
      have c9 := Chg.row (cs := rc S) B9.out
      have B9 := hide (show Blk (W4.setRow w.heap.size (rc S)) w.heap.size (rc S) 47 from setRow_heap W4 w.heap.size zz (rc S) 47 _ B9.out)
      have HM := hide (HM.out.chg c9 (by have := HNE.out; simp; omega))
      have BA := hide (BA.out.chg c9 (by have := HNE.out; simp; omega))
      have B10 := hide (B10.out.chg c9 (by simp))
      have HX := hide (HX.out.turn c9 (by simp))
      clear c9
      generalize W4.setRow w.heap.size (rc S) = W4 at *
      refine hK.out _ _ (by exact ⟨rc_rng HM.out, atc_rng BA.out⟩) (fun hHeld => ?_)
      (try simp only [Act.put, List.setIfInBounds_toArray, List.set_cons_zero, List.set_cons_succ])
      refine wpAnyH_ready (rs := [6]) (by kernel_rfl) (by simp) (held_cons rfl (fun K hK => ?_) AllReadyH.nil)
      rw [if_pos (by rfl)]
      refine wp_store_row 51 _ _ rfl (w.heap.size + 1) (atc (D) (sl)) rfl rfl 51 za B10.out (by rw [atc_size]; exact inf_a) (by rw [HA.out, atc_size]) (all_atc HR.out.one) ?_
      have c10 := Chg.row (cs := atc (D) (sl)) B10.out
      have B10 := hide (show Blk (W4.setRow (w.heap.size + 1) (atc (D) (sl))) (w.heap.size + 1) (atc (D) (sl)) 51 from setRow_heap W4 (w.heap.size + 1) za (atc (D) (sl)) 51 _ B10.out)
      have HM := hide (HM.out.chg c10 (by have := HNE.out; simp; omega))
      have BA := hide (BA.out.chg c10 (by have := HNE.out; simp; omega))
      have B9 := hide (B9.out.chg c10 (by simp))
      have HX := hide (HX.out.turn c10 (by simp))
      clear c10
      generalize W4.setRow (w.heap.size + 1) (atc (D) (sl)) = W4 at *
      refine hK.out _ _ (by exact ⟨rc_rng HM.out, atc_rng BA.out⟩) (fun hHeld => ?_)
      (try simp only [Act.put, List.setIfInBounds_toArray, List.set_cons_zero, List.set_cons_succ])
      refine wpAnyH_done (by kernel_rfl) ?_ _
      go_wp2_with fail
      refine bodyPost_ret (rres_of Try.results9 _ _ rfl rfl rfl B9.out B10.out) rfl ?_
      exact ⟨⟨_, _, _, HR.out.one, by rw [CE.out]; rfl⟩, HX.out⟩
      -- >
end Go.Proofs.Ytacneghgimfklaa
