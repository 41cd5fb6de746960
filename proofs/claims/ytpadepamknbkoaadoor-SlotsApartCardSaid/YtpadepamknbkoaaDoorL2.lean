/-
  A law of layer 10 holds of every input: SlotsApart: the tied card stands.
  Conditions: the library's table math/bits.deBruijn64tab holds when the call begins what the program's text lays; the card ties that to the text of the seat's pruned copy by the wider look, and says nothing of code outside that copy. No condition on the input.
-/
import Derived.Test.YtpadepamknbkoaaDoorG1
import Derived.Test.YtpadepamknbkoaaDoorM1
import Derived.Deep.DeepCutAuto
import Derived.Deep.CutBlock
namespace Go.Proofs.YtpadepamknbkoaaDoor
open Go.ChangeShapes Go.WideShapes Go.ChangeAt Go.RowKit Go.Deep Go.Joins Go.Maps
set_option linter.unusedVariables false
set_option maxRecDepth 100000
set_option linter.unusedSimpArgs false


theorem Tk.len {S S' : TS} {z a g e : Int} (h : Tk S z a g e S') : S'.L.length = S.L.length := by
  cases h with
  | own r k h => exact TS.len_set _ _ _
  | com k hz h hk => exact TS.len_set _ _ _
  | grow hz h hc hl => rw [TS.len_set, len_grow]
  | out => rfl
  | arg => rfl
theorem frS_len (S : TS) (z y : Int) : (frS S z y).L.length = S.L.length := by
  unfold frS; split
  · exact TS.len_set _ _ _
  · rfl
/-- What the lists ahead of a thread's have told. -/
def apU (S : TS) (th : Int) (z : Int) : Prop := ∃ i : Nat, z = (i : Int) ∧ (((S.p i).a = 1 ∧ 0 ≤ th) ∨ ((S.p i).a = 3 ∧ (S.p i).t < th))
theorem apU_none {S : TS} (ok : Ok S) (z : Int) : ¬ apU S (-1) z := by
  rintro ⟨i, _, h | h⟩
  · omega
  · have := (ok.ow i h.1).1; omega
theorem apU_s {S : TS} {th z : Int} (h : apU S th z) : apU S (th + 1) z := by
  obtain ⟨i, e, h | h⟩ := h
  · exact ⟨i, e, .inl ⟨h.1, by omega⟩⟩
  · exact ⟨i, e, .inr ⟨h.1, by omega⟩⟩
theorem mem_inuse {S : TS} {i : Nat} : i ∈ S.inuse ↔ i < S.L.length ∧ (S.p i).a = 1 := by unfold TS.inuse; simp
theorem inuse_nodup (S : TS) : S.inuse.Nodup := List.Pairwise.filter _ List.nodup_range
structure LsA (S : TS) (th : Int) (l : List Nat) : Prop where
  nd : l.Nodup
  lt : ∀ i, i ∈ l → i < S.L.length
  no : ∀ i, i ∈ l → ¬ apU S th (i : Int)
  yes : ∀ i, i ∈ l → apU S (th + 1) (i : Int)
  us : ∀ i, i ∈ l → ((S.p i).a == 1) = decide (th < 0)
theorem ls_use (S : TS) : LsA S (-1) S.inuse :=
  ⟨inuse_nodup S, fun i h => (mem_inuse.1 h).1, fun i h => by
    rintro ⟨i', e, q | q⟩
    · omega
    · obtain rfl : i = i' := by omega
      have := (mem_inuse.1 h).2
      omega, fun i h => ⟨i, rfl, .inl ⟨(mem_inuse.1 h).2, by omega⟩⟩, fun i h => by rw [(mem_inuse.1 h).2]; rfl⟩
theorem ls_own {S : TS} (ok : Ok S) {th : Int} (h0 : 0 ≤ th) : LsA S th (S.mine th) :=
  ⟨mine_nodup S th, fun i h => (ok.mem.1 h).1, fun i h => by
    have hm := ok.mem.1 h
    rintro ⟨i', e, q | q⟩ <;> (obtain rfl : i = i' := by omega) <;> omega,
    fun i h => ⟨i, rfl, .inr ⟨(ok.mem.1 h).2.1, by have := (ok.mem.1 h).2.2; omega⟩⟩, fun i h => by
      rw [(ok.mem.1 h).2.1]
      have : decide (th < 0) = false := by simp; omega
      rw [this]; rfl⟩
theorem LsA.len {S : TS} {th : Int} {l : List Nat} (h : LsA S th l) : l.length ≤ S.L.length := nodup_range_le h.nd h.lt
/-- What the map holds within a list's round. -/
def inU (S : TS) (th : Int) (l : List Nat) (jj : Nat) (u : Int → Bool) : Prop := ∀ z, u z = true → apU S th z ∨ ∃ i, i ∈ l.take jj ∧ z = (i : Int)
theorem inU.fresh {S : TS} {th : Int} {l : List Nat} {jj : Nat} {u : Int → Bool} (h : inU S th l jj u) (hl : LsA S th l) (hj : jj < l.length) : u (l[jj] : Nat) = false := by
  apply Bool.eq_false_iff.2
  intro hu
  rcases h _ hu with q | ⟨i, hi, e⟩
  · exact hl.no _ (List.getElem_mem hj) q
  · obtain ⟨a, ha, e2⟩ := List.getElem_of_mem hi
    rw [List.getElem_take] at e2
    rw [List.length_take] at ha
    have e3 : l[a]'(by omega) = l[jj] := by omega
    have := (List.getElem_inj hl.nd).1 e3
    omega
theorem inU.step {S : TS} {th : Int} {l : List Nat} {jj : Nat} {u : Int → Bool} (h : inU S th l jj u) (hj : jj < l.length) : inU S th l (jj + 1) (updA u (l[jj] : Nat) true) := by
  intro z hz
  rw [List.take_succ_eq_append_getElem hj]
  unfold updA at hz
  by_cases e : z = ((l[jj] : Nat) : Int)
  · exact .inr ⟨l[jj], List.mem_append_right _ (List.mem_singleton.2 rfl), e⟩
  · rw [if_neg e] at hz
    rcases h z hz with q | ⟨i, hi, e2⟩
    · exact .inl q
    · exact .inr ⟨i, List.mem_append_left _ hi, e2⟩
theorem inU.fin {S : TS} {th : Int} {l : List Nat} {u : Int → Bool} (h : inU S th l l.length u) (hl : LsA S th l) : ∀ z, u z = true → apU S (th + 1) z := by
  intro z hz
  rcases h z hz with q | ⟨i, hi, e⟩
  · exact apU_s q
  · rw [List.take_length] at hi
    rw [e]; exact hl.yes i hi
set_option maxHeartbeats 8000000 in
theorem lapart_any (p q : Nat) (A : Option Addr) (n0 c : Nat) (f : Nat → Stp) (w : World) (hT : Tb w) (hp : p ≤ 255) (hq : q ≤ 255) (hn : n0 ≤ c) (hc : c ≤ maxLen) (hs : Stps w w.heap.size A n0 f) (hf : ∀ k, k < n0 → Okst (f k)) :
    Calls Tryd.prog 5 #[.int .u8 (p : Int), .int .u8 (q : Int), .slice A n0 c] w fun e w' => e = .returned (.bool true) ∧ Ext w w' := by
  have HF := hide hf
  clear hf
  obtain ⟨n, hn1⟩ : ∃ n : Nat, (p : Int) % 12 + 1 = (n : Int) := ⟨p % 12 + 1, by omega⟩
  obtain ⟨b, hb1⟩ : ∃ b : Nat, (q : Int) % 5 + 1 = (b : Int) := ⟨q % 5 + 1, by omega⟩
  have n1 : 1 ≤ n := by omega
  have n2 : n ≤ 12 := by omega
  have b1 : 1 ≤ b := by omega
  have b2 : b ≤ 5 := by omega
  go_enter Tryd.func5, Tryd.ntmps5
  go_wp2_with fail
  refine (new_in n b _ hT n1 (by omega) b1 (by omega)).mono ?_
  rintro e w1 ⟨M, rfl, hm, hX⟩
  go_wp2_with fail
  clear hn1 hb1
  refine (short_any A n0 c _ hn hc).mono ?_
  rintro e w4 ⟨rfl, rfl⟩
  go_wp2_with fail
  go_loopw [39] (fun i wr => ∃ (j : Nat) (S : TS), j ≤ min n0 120 ∧ i = .int .i64 j ∧ TabT wr w.heap.size M S ∧ Ok S ∧ S.L.length = n ∧ Ext w wr) (fun i _ => min n0 120 - (intOf i).toNat)
  case atStart => exact ⟨0, TS.new n b, by omega, rfl, hm, new_ok n1 (by omega) b1 (by omega), by unfold TS.new; simp, hX⟩
  case round =>
    clear hm hX
    obtain ⟨j, S, hj, rfl, hm, ok, hl, hX⟩ := hrel
    by_cases hlt : j < min n0 120
    · have hj2 : j < n0 := by omega
      obtain ⟨bb, off, rfl, hbb, r0, r1, r2⟩ := (hs.chg hX (Nat.le_refl _)).rules hj2
      have hok := HF.out j hj2
      have k0 := hok.k0
      have k1 := hok.k1
      have hz := Blk.new wr #[.int .u8 (f j).k, .int .i64 (f j).n, .int .i64 (f j).s] 35
      have hY := Ext.alloc wr (.cells #[.int .u8 (f j).k, .int .i64 (f j).n, .int .i64 (f j).s] 35)
      have hm := hm.ext hY
      have hX := hX.trans hY
      clear hY hok
      go_upto_block 2 with fail
      obtain ⟨Z, hZ⟩ : ∃ Z, Z = wr.heap.size := ⟨_, rfl⟩
      rw [← hZ] at hz ⊢
      clear hZ
      generalize wr.alloc (.cells #[.int .u8 (f j).k, .int .i64 (f j).n, .int .i64 (f j).s] 35) = w5 at *
      have hB := Nat.le_refl w.heap.size
      go_cut [45] (fun k5 wc => ∃ S', TabT wc w.heap.size M S' ∧ Ok S' ∧ S'.L.length = n ∧ Ext w wc)
      case first =>
        have r0 := hz.cell
        by_cases q1 : (f j).k % 4 = 1
        · go_wp2_with fail
          refine (free_any hm ok _ _).mono ?_
          rintro e w6 ⟨rfl, hm, hc⟩
          have ok2 := ok.fr
          have hX := hc.ext hX hB
          clear hc r0 hz
          go_wp2_with fail
          go_meet
          case rel => exact ⟨_, hm, ok2 _ _, by rw [frS_len]; exact hl, hX⟩
        · by_cases q2 : (f j).k % 4 = 2
          · go_wp2_with fail
            refine (flush_any hm ok _).mono ?_
            rintro e w6 ⟨rfl, hm, hc⟩
            have ok2 := ok.fl
            have hX := hc.ext hX hB
            clear hc r0 hz
            go_wp2_with fail
            go_meet
            case rel => exact ⟨_, hm, ok2 _, by rw [len_fl]; exact hl, hX⟩
          · go_wp2_with fail
            refine (take_any hm ok _).mono ?_
            rintro e w6 ⟨a, g, er, S', rfl, hk, hm, hc⟩
            have ok2 := hk.ok ok
            have hl2 := hk.len.trans hl
            have hX := hc.ext hX hB
            clear hc r0 hz hk
            go_wp2_with fail
            go_meet
            case rel => exact ⟨_, hm, ok2, hl2, hX⟩
      case rest =>
        clear hm hX hz r0 r1 r2 ok hl
        obtain ⟨S, hm, ok, hl, hX⟩ := hcut
        have hmm := @run_makeMap Tryd.prog
        have hmb := BM.made wc 3 ky (fun _ => True)
        have hY := Ext.alloc wc (.map #[] 0)
        have hm := hm.ext hY
        have hXs := hX.size
        have hX := hX.trans hY
        clear hY
        go_wp2_with fail
        obtain ⟨m, hZ⟩ : ∃ Z, Z = wc.heap.size := ⟨_, rfl⟩
        have hmB : w.heap.size ≤ m := by rw [hZ]; exact hXs
        have HB0 := hide (show 0 < w.heap.size from hT.1)
        clear hXs
        rw [← hZ] at hmb ⊢
        clear hZ
        generalize wc.alloc (.map #[] 0) = w5 at *
        go_loopw [13] (fun i wr => ∃ (th : Int) (N : Nat) (u : Int → Bool), -1 ≤ th ∧ th ≤ 4 ∧ i = .int .i64 th ∧ N ≤ 12 * (th + 1).toNat ∧ MI wr m N u ∧ (∀ z, u z = true → apU S th z) ∧ TabT wr w.heap.size M S ∧ Ext w wr) (fun i _ => (4 - intOf i).toNat)
        case atStart => exact ⟨-1, 0, fun _ => false, by omega, by omega, rfl, by omega, hmb, (fun z hz => by cases hz), hm, hX⟩
        case round =>
          clear hmb hm hX
          obtain ⟨th, N, u, t1, t2, rfl, hN, hmb, hu, hm, hX⟩ := hrel
          by_cases hlt2 : th < 4
          · have HM := hide hm
            by_cases h0 : th < 0
            · obtain rfl : th = -1 := by omega
              go_wp2_with fail
              refine (inuse_any hm ok).mono ?_
              rintro e w9 ⟨v9, rfl, hown, hx⟩
              obtain ⟨A9, c9, rfl⟩ := own_sl hown
              have HLs := hide (ls_use S)
              have hll := HLs.out.len
              have HO := hide hown
              have HM := hide (hm.ext hx)
              have HB := hide (hmb.ext hx)
              have HX := hide (hX.trans hx)
              have HU := hide hu
              clear hown hm hmb hX hu hx
              go_wp2_with fail
              go_loopw [82] (fun i wr => ∃ (jj : Nat) (u : Int → Bool), jj ≤ (S.inuse).length ∧ i = .int .i64 (jj : Int) ∧ MI wr m (N + jj) u ∧ inU S (-1) (S.inuse) jj u ∧ TabT wr w.heap.size M S ∧ Ext w wr ∧ wr.ownsRow 0 3 1 (.slice A9 (S.inuse).length c9) (S.inuse).length ((S.inuse).map enI)) (fun i _ => (S.inuse).length - (intOf i).toNat)
              case atStart => exact ⟨0, u, by omega, rfl, by rw [Nat.add_zero]; exact HB.out, fun z hz => .inl (HU.out z hz), HM.out, HX.out, own_low HO.out (Nat.zero_le _)⟩
              case round =>
                clear HO HM HB HX HU
                obtain ⟨jj, u, hjj, rfl, hmb, hin, hm, hX, hown⟩ := hrel
                by_cases hlt3 : jj < (S.inuse).length
                · obtain ⟨g9, c9', e9, rr⟩ := own_atN3 hown rfl (List.getElem?_eq_getElem hlt3)
                  cases e9
                  have hfr := hin.fresh HLs.out hlt3
                  have hst := hide (hin.step hlt3)
                  have hus := HLs.out.us _ (List.getElem_mem hlt3)
                  have hkl := HLs.out.lt _ (List.getElem_mem hlt3)
                  have hlk := hmb.look (t := 48) (key := .int .i64 (((S.inuse)[jj] : Nat) : Int)) (a := (((S.inuse)[jj] : Nat) : Int)) kI Tryd.underlying48 (kof (ky_wf (by omega) (by omega))) trivial
                  rw [hfr] at hlk
                  have HO := hide hown
                  have HB := hide hmb
                  have huse := used_any hm ok ((S.inuse)[jj])
                  rw [hus] at huse
                  have HM := hide hm
                  have HX := hide hX
                  have c4 := rr wr (Ext.refl wr)
                  clear hown hmb hm hX hin hfr hus rr
                  generalize hq : (S.inuse)[jj] = q at *
                  clear hq
                  go_wp2_with fail
                  refine huse.mono ?_
                  rintro e w11 ⟨rfl, rfl⟩
                  go_wp2_with (first
                    | (at_mapUpdate; refine wpList_put rfl _ _ _ 48 rfl kI Tryd.underlying48 rfl HB.out (by unfold maxLen; omega) _ (q : Int) true rfl rfl (kof (ky_wf (by omega) (by omega))) (ky_key _) (ky_inj _) ?_; intro w12 hmb hg12; go_frame)
                    | go_in)
                  have hno := HB.out.noC
                  have hm := HM.out.grown hg12 hno (by have := HB0.out; omega)
                  have hX := Ext.grown HX.out hg12 (fun k hk => by cases hk; exact hmB)
                  have hown := own_grownM HO.out hg12 hno
                  go_roundw
                  case rel => exact ⟨jj + 1, _, by omega, by go_num, hmb, hst.out, hm, hX, hown⟩
                  case measure => simp [intOf]; omega
                · obtain rfl : jj = (S.inuse).length := by omega
                  have hfin := hin.fin HLs.out
                  clear hin hown
                  go_wp2_with fail
                  go_roundw
                  case rel => exact ⟨0, _, u, by omega, by omega, rfl, by omega, hmb, hfin, hm, hX⟩
                  case measure => (simp [intOf]; try omega)
            · go_wp2_with fail
              refine (inuse_any hm ok).mono ?_
              rintro e w9 ⟨v9, rfl, _, hx⟩
              have hm := hm.ext hx
              have hmb := hmb.ext hx
              have hX := hX.trans hx
              clear hx
              go_wp2_with fail
              refine (own_any hm ok th).mono ?_
              rintro e w9 ⟨v9, rfl, hown, hx⟩
              obtain ⟨A9, c9, rfl⟩ := own_sl hown
              have hth : decide (th < 0) = false := by simp; omega
              have HLs := hide (ls_own ok (by omega : 0 ≤ th))
              have hll := HLs.out.len
              have HO := hide hown
              have HM := hide (hm.ext hx)
              have HB := hide (hmb.ext hx)
              have HX := hide (hX.trans hx)
              have HU := hide hu
              clear hown hm hmb hX hu hx
              go_wp2_with fail
              go_loopw [82] (fun i wr => ∃ (jj : Nat) (u : Int → Bool), jj ≤ (S.mine th).length ∧ i = .int .i64 (jj : Int) ∧ MI wr m (N + jj) u ∧ inU S th (S.mine th) jj u ∧ TabT wr w.heap.size M S ∧ Ext w wr ∧ wr.ownsRow 0 3 1 (.slice A9 (S.mine th).length c9) (S.mine th).length ((S.mine th).map enI)) (fun i _ => (S.mine th).length - (intOf i).toNat)
              case atStart => exact ⟨0, u, by omega, rfl, by rw [Nat.add_zero]; exact HB.out, fun z hz => .inl (HU.out z hz), HM.out, HX.out, own_low HO.out (Nat.zero_le _)⟩
              case round =>
                clear HO HM HB HX HU
                obtain ⟨jj, u, hjj, rfl, hmb, hin, hm, hX, hown⟩ := hrel
                by_cases hlt3 : jj < (S.mine th).length
                · obtain ⟨g9, c9', e9, rr⟩ := own_atN3 hown rfl (List.getElem?_eq_getElem hlt3)
                  cases e9
                  have hfr := hin.fresh HLs.out hlt3
                  have hst := hide (hin.step hlt3)
                  have hus := HLs.out.us _ (List.getElem_mem hlt3)
                  have hkl := HLs.out.lt _ (List.getElem_mem hlt3)
                  have hlk := hmb.look (t := 48) (key := .int .i64 (((S.mine th)[jj] : Nat) : Int)) (a := (((S.mine th)[jj] : Nat) : Int)) kI Tryd.underlying48 (kof (ky_wf (by omega) (by omega))) trivial
                  rw [hfr] at hlk
                  have HO := hide hown
                  have HB := hide hmb
                  have huse := used_any hm ok ((S.mine th)[jj])
                  rw [hus] at huse
                  have HM := hide hm
                  have HX := hide hX
                  have c4 := rr wr (Ext.refl wr)
                  clear hown hmb hm hX hin hfr hus rr
                  generalize hq : (S.mine th)[jj] = q at *
                  clear hq
                  go_wp2_with fail
                  refine huse.mono ?_
                  rintro e w11 ⟨rfl, rfl⟩
                  go_wp2_with (first
                    | (at_mapUpdate; refine wpList_put rfl _ _ _ 48 rfl kI Tryd.underlying48 rfl HB.out (by unfold maxLen; omega) _ (q : Int) true rfl rfl (kof (ky_wf (by omega) (by omega))) (ky_key _) (ky_inj _) ?_; intro w12 hmb hg12; go_frame)
                    | go_in)
                  have hno := HB.out.noC
                  have hm := HM.out.grown hg12 hno (by have := HB0.out; omega)
                  have hX := Ext.grown HX.out hg12 (fun k hk => by cases hk; exact hmB)
                  have hown := own_grownM HO.out hg12 hno
                  go_roundw
                  case rel => exact ⟨jj + 1, _, by omega, by go_num, hmb, hst.out, hm, hX, hown⟩
                  case measure => simp [intOf]; omega
                · obtain rfl : jj = (S.mine th).length := by omega
                  have hfin := hin.fin HLs.out
                  clear hin hown
                  go_wp2_with fail
                  go_roundw
                  case rel => exact ⟨th + 1, _, u, by omega, by omega, by go_num, by omega, hmb, hfin, hm, hX⟩
                  case measure => (simp [intOf]; try omega)
          · obtain rfl : th = 4 := by omega
            go_wp2_with fail
            go_roundw
            case rel => exact ⟨j + 1, S, by omega, by go_num, hm, ok, hl, hX⟩
            case measure => simp [intOf]; omega
    · obtain rfl : j = min n0 120 := by omega
      go_wp2_with fail
      refine (alive_any _ (hT.ext hX)).mono ?_
      rintro e w1 ⟨rfl, hx⟩
      go_wp2_with fail
      go_ret
      exact ⟨rfl, hX.trans hx⟩

theorem slotsApart_walk {H : Type} {enc : TypeId × Value → H} (W : World) (base : Nat) (args : Array Value) (ds : List (DataW H)) (p : List MemPlace) (hG : Tb W)
    (hval0 : ∀ (j : Nat) t v, Tryd.f5.params[j]? = some t → args[j]? = some v → Value.okWide Tryd.prog W .any base t v)
    (hA0 : DataW.TrodAll enc Tryd.prog W 0 (fun _ => true) true Tryd.f5.params.toList args.toList ds p) (_hlt : ∀ x ∈ p, x.block < W.heap.size) :
    Calls Tryd.prog 5 args W fun e W' => e = .returned (.bool true) ∧ Ext W W' := by
  have hval := hval0
  have hA := hA0
  rw [Tryd.params5] at hA hval
  clear hval0 hA0
  obtain ⟨v0, v1, v2, d0, d1, d2, p0, p1, p2, hargs, rfl, rfl, h0, h1, h2⟩ := trodAll_three hA
  obtain rfl : args = #[v0, v1, v2] := by cases args; simp_all
  obtain ⟨x, rfl, rfl, rfl, wx⟩ := open_int Tryd.underlying5 (hval 0 5 v0 rfl rfl) h0
  obtain ⟨y, rfl, rfl, rfl, wy⟩ := open_int Tryd.underlying5 (hval 1 5 v1 rfl rfl) h1
  obtain ⟨A, n, c, f, rfl, hn, hc, hs, hf⟩ := open_steps (hval 2 22 v2 rfl rfl) h2
  have bx := bounds_u8 wx
  have by_ := bounds_u8 wy
  obtain ⟨x, rfl⟩ := Int.eq_ofNat_of_zero_le bx.1
  obtain ⟨y, rfl⟩ := Int.eq_ofNat_of_zero_le by_.1
  exact lapart_any x y A n c f W hG (by omega) (by omega) hn hc hs hf
set_option maxRecDepth 100000 in
theorem slotsApart_lifted (os : Os) (started : os.Started) (H : Type) (enc : TypeId × Value → H) :
    ReturnsInHanded {} Tryd.checked os 5 .any (fun w args => (Rows.slotsApartSpec.pre enc Tryd.prog Tryd.f5 [] false w args ∧ laidMetH Tryd.prog laidL w) ∧ sizedMet enc Tryd.prog Tryd.f5 (OpenSpec.ofChange Rows.slotsApartSpec) false w args) (Rows.slotsApartSpec.post enc Tryd.prog Tryd.f5 false true false false) :=
  law_lifted_laid (fn := Tryd.f5) 4 os started (by kernel_rfl) Tryd.func5 rfl rfl Tryd.underlying4 (hread_of (by kernel_rfl))
    (fun l hl => by
      have hl2 : l.length = 3 := hl
      clear hl
      match l, hl2 with
      | [_, _, _], _ => rfl)
    (ChangeSpec.witness_shaped (enc := enc) (C := Tryd.checked) (os := os) (X := fun w _ => laidMetH Tryd.prog laidL w) false (World.doorLaid Tryd.prog 100 os) #[.int .u8 0, .int .u8 0, .slice none 0 0] 8 rfl (World.shaped_of_RefB (by kernel_rfl) (by kernel_rfl)) (by kernel_rfl) (by kernel_rfl) (by kernel_rfl) (door_met os _))
    (fun W base args ds p hG hval hA hlt => slotsApart_walk W base args ds p hG hval hA hlt)
theorem slotsApart_row : Rows.SlotsApartSaid :=
  OpenClaim.holds_of_wide 5 Tryd.f5 rfl rfl rfl rfl rfl rfl rfl ⟨rfl, rfl, rfl, rfl, rfl⟩ rfl rfl rfl rfl rfl (by kernel_rfl) Tryd.func5 (by kernel_rfl)
    (of_decide_eq_true (by kernel_rfl)) (by unfold Func.isWrapper; rw [if_neg (of_decide_eq_false (by kernel_rfl))]; exact ⟨rfl, rfl⟩)
    (fun os started H enc _ => slotsApart_lifted os started H enc)
theorem slotsApart_holds : Rows.SlotsApartCardSaid :=
  Claim7.holds_tied_plain_at .later [] Rows.slotsApartCard.laidKinds true Rows.slotsApartCard.stood.harness false
    slotsApart_row (fun _ h => by cases h) (by kernel_rfl) (fun _ h => by cases h) slotsApart_row_tie rfl ⟨rfl, rfl⟩ (by kernel_rfl) rfl
    (fun f fn hf hfn => by
      obtain rfl : f = 5 := Option.some.inj ((show Tryd.prog.funcNamed Tryd.f5.name = some 5 by kernel_rfl).symm.trans hf) |>.symm
      obtain rfl : fn = Tryd.f5 := (Option.some.inj (Tryd.func5.symm.trans hfn)).symm
      exact ⟨by kernel_rfl, fun j t ht => by
        rw [Tryd.params5] at ht
        have hm : t ∈ [5, 5, 22] := by simpa using Array.mem_of_getElem? ht
        have hall : ([5, 5, 22].all fun u => !Tryd.prog.wantsStandIn u) = true := by kernel_rfl
        exact (show Tryd.prog.wantsStandIn t = false by simpa using List.all_eq_true.1 hall t hm)⟩)
    (by kernel_rfl)
end Go.Proofs.YtpadepamknbkoaaDoor
