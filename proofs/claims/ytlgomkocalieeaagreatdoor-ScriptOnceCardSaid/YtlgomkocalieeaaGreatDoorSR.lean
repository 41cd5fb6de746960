/- The programs of bytes, one of each thread. -/
import Derived.Test.YtlgomkocalieeaaGreatDoorSC
import Derived.Test.YtlgomkocalieeaaGreatDoorSA
namespace Go.Proofs.YtlgomkocalieeaaGreatDoor
open Go.RowKit
set_option linter.unusedSimpArgs false
set_option linter.unusedVariables false
set_option maxRecDepth 100000
set_option maxHeartbeats 4000000

def preP (acc : List (List Op3)) : Except Int (List (List Op3) × List UInt8) → Except Int (List (List Op3) × List UInt8)
  | .error e => .error e
  | .ok (ps, q) => .ok (acc ++ ps, q)
def progsP (t o : Int) : Nat → List UInt8 → Except Int (List (List Op3) × List UInt8)
  | 0, r => .ok ([], r)
  | k + 1, r => match progP r with
    | none => .error 4
    | some (p, er, r') => if er ≠ 0 then .error er else if p.any (isNo t o) = true then .error 3 else preP [p] (progsP t o k r')
theorem preP_pre (a b : List (List Op3)) (x : Except Int (List (List Op3) × List UInt8)) : preP a (preP b x) = preP (a ++ b) x := by
  cases x with
  | error e => rfl
  | ok y => obtain ⟨ps, q⟩ := y; simp [preP]
theorem preP_nil (x : Except Int (List (List Op3) × List UInt8)) : preP [] x = x := by
  cases x with
  | error e => rfl
  | ok y => rfl
/-- A row of programs of one's own. -/
def RowP (w : World) (B : Nat) (v : Value) (acc : List (List Op3)) : Prop :=
  ∃ xs, w.ownsRow B 48 1 v acc.length xs ∧ ∀ i (h : i < acc.length), ∃ A c, xs[i]? = some (.slice A (acc[i]).length c) ∧ (acc[i]).length ≤ 1000000000000000 ∧ ChT w A acc[i]
theorem RowP.kp {ts : List TypeId} {B N : Nat} {w w' : World} {v : Value} {acc : List (List Op3)} (h : RowP w B v acc) (k : Kp ts N w w') (h1 : 53 ∉ ts) (h2 : 48 ∉ ts) : RowP w' B v acc := by
  obtain ⟨xs, q1, q2⟩ := h
  exact ⟨xs, k.own q1 h2, fun i hi => by obtain ⟨A, c, e1, e2, e3⟩ := q2 i hi; exact ⟨A, c, e1, e2, e3.kp k h1⟩⟩
theorem RowP.pr {B : Nat} {w : World} {v : Value} {acc : List (List Op3)} (h : RowP w B v acc) : ∃ A c, v = .slice A acc.length c ∧ Pr w A acc := by
  obtain ⟨xs, ⟨hl, hh⟩, q2⟩ := h
  rcases hh with ⟨rfl, h0⟩ | ⟨g, cap, cur, rfl, hb, hh, h3, h4, h5, h6⟩
  · exact ⟨none, 0, by rw [h0], .inl h0⟩
  · have hbk : Blk w g cur 48 := hh
    refine ⟨_, _, rfl, .inr ⟨g, 0, rfl, hbk.lt, fun j hj => ?_⟩⟩
    obtain ⟨A, c, e1, e2, e3⟩ := q2 j hj
    refine ⟨A, c, ?_, e2, e3.1⟩
    rw [Nat.zero_add, hbk.cell, ← e1, ← h6, List.getElem?_take_of_lt (by omega), Array.getElem?_toList]
theorem inf_ops : (Tryz.prog.info? 48).map (fun i => (i.zero, i.size, i.bytes)) = some (some (.slice none 0 0), 1, 24) := by kernel_rfl
theorem opsB_len : ∀ l : List UInt8, (opsB l).length * 3 ≤ l.length
  | [] => by simp [opsB]
  | [_] => by simp [opsB]
  | [_, _] => by simp [opsB]
  | _ :: _ :: _ :: r => by
    have := opsB_len r
    simp only [opsB, List.length_cons]
    omega
theorem prog_len {l : List UInt8} {p : List Op3} {er : Int} {r : List UInt8} (h : progP l = some (p, er, r)) : p.length ≤ 64 := by
  cases l with
  | nil => cases h
  | cons n q =>
    simp only [progP] at h
    split at h
    · cases h
    · simp only [Option.some.injEq, Prod.mk.injEq] at h
      obtain ⟨rfl, _, _⟩ := h
      unfold unpackO
      split
      · split
        · simp
        · split
          · have := opsB_len (q.take n.toNat)
            show (opsB (q.take n.toNat)).length ≤ 64
            omega
          · simp
      · simp
def ProgsR (R N B : Nat) (t o : Int) (k : Nat) (l : List UInt8) (e : Ending) (w' : World) : Prop :=
  (∃ er, progsP t o k l = .error er ∧ er ≠ 0 ∧ e = .returned (.tuple #[.slice none 0 0, .int .i64 er])) ∨
  (∃ ps r v, progsP t o k l = .ok (ps, r) ∧ e = .returned (.tuple #[v, .int .i64 0]) ∧ RowP w' B v ps ∧ Rd w' R N r)
theorem progs_any {w : World} {R N : Nat} (hNR : N ≤ R) {l : List UInt8} (x : Cf) (T : Nat) (hT : x.t = (T : Int)) (hT8 : T ≤ 8) (h : Rd w R N l) :
    Calls Tryz.prog 50 #[(Value.func (.func 33) #[.pointer (some ⟨R, 0, none⟩)] #[]), .agg #[.int .i64 x.t, .int .i64 x.o, .int .i64 x.c, .int .i64 x.s, .int .i64 x.p, .int .i64 x.n, .int .u8 x.b, .int .i64 x.r, .int .i64 x.v, .int .u64 x.d]] w fun e w' => ProgsR R N w.heap.size x.t x.o T l e w' ∧ Chg [R] w w' := by
  have hX0 := Ext.alloc w (.cells #[.int .i64 x.t, .int .i64 x.o, .int .i64 x.c, .int .i64 x.s, .int .i64 x.p, .int .i64 x.n, .int .u8 x.b, .int .i64 x.r, .int .i64 x.v, .int .u64 x.d] 24)
  have hb := Blk.new w #[.int .i64 x.t, .int .i64 x.o, .int .i64 x.c, .int .i64 x.s, .int .i64 x.p, .int .i64 x.n, .int .u8 x.b, .int .i64 x.r, .int .i64 x.v, .int .u64 x.d] 24
  have hRlt : R < w.heap.size := by obtain ⟨A, c, hbk⟩ := h.blk; exact hbk.lt
  have hrd0 := h.ext hX0
  have q0 := hb.cell 0
  rw [show (#[.int .i64 x.t, .int .i64 x.o, .int .i64 x.c, .int .i64 x.s, .int .i64 x.p, .int .i64 x.n, .int .u8 x.b, .int .i64 x.r, .int .i64 x.v, .int .u64 x.d] : Array Value)[0]? = some (.int .i64 x.t) from rfl, hT] at q0
  have HB := hide hb
  have HC := hide (hX0.chg [R])
  have HTX := hide hT
  clear h hb hT
  go_enter Tryz.func50, Tryz.ntmps50
  go_wp2_with fail
  clear q0
  generalize w.alloc (.cells #[.int .i64 x.t, .int .i64 x.o, .int .i64 x.c, .int .i64 x.s, .int .i64 x.p, .int .i64 x.n, .int .u8 x.b, .int .i64 x.r, .int .i64 x.v, .int .u64 x.d] 24) = w0 at *
  go_loopw [7, 13] (fun v i wr => ∃ (j : Nat) (acc : List (List Op3)) (r : List UInt8), j ≤ T ∧ i = .int .i64 (j : Int) ∧ acc.length = j ∧ progsP x.t x.o T l = preP acc (progsP x.t x.o (T - j) r) ∧ RowP wr w.heap.size v acc ∧ Rd wr R N r ∧ Chg [R] w wr ∧ Blk wr w.heap.size #[.int .i64 x.t, .int .i64 x.o, .int .i64 x.c, .int .i64 x.s, .int .i64 x.p, .int .i64 x.n, .int .u8 x.b, .int .i64 x.r, .int .i64 x.v, .int .u64 x.d] 24) (fun _ i _ => T - (intOf i).toNat)
  case atStart => exact ⟨0, [], l, by omega, rfl, rfl, by rw [preP_nil]; rfl, ⟨[], own_nil _ _ _ _, fun i hi => by simp at hi⟩, hrd0, HC.out, HB.out⟩
  case round =>
    obtain ⟨j, acc, r, hj, rfl, hacc, hp, hrow, hrd, hc, hbx⟩ := hrel
    subst hacc
    have HP := hide hp
    have HROW := hide hrow
    have HCH := hide hc
    have HBX := hide hbx
    obtain ⟨xs0, hown0, _⟩ := hrow
    obtain ⟨A1, c1, rfl⟩ := own_sl hown0
    clear hown0
    by_cases hlt : acc.length < T
    · have hltI : (acc.length : Int) < x.t := by have := HTX.out; omega
      have hpg := prog_any hNR hrd
      obtain ⟨Ar, cr, hRb⟩ := hrd.blk
      have HRB := hide hRb
      obtain ⟨k, hk⟩ : ∃ k, T - acc.length = k + 1 := ⟨T - acc.length - 1, by omega⟩
      have HK := hide hk
      clear hp hc hbx hrd hRb hk
      go_wp2_with fail
      refine hpg.mono ?_
      rintro e w2 ⟨hr, hc2⟩
      have hK2 := chg_kp hc2 HRB.out hNR
      have HROW2 := hide (HROW.out.kp hK2 (by decide) (by decide))
      have HBX2 := hide (hK2.blk HBX.out (by decide))
      have HCH2 := hide (HCH.out.trans hc2)
      clear hc2 hK2 hpg
      unfold ProgR at hr
      rcases hr with ⟨h1, rfl⟩ | ⟨p, er, r2, h1, ⟨A2, c2, rfl, hle2, hch2⟩, hrd2⟩
      · have hE : progsP x.t x.o T l = .error 4 := by rw [HP.out, HK.out]; simp only [progsP, h1]; rfl
        have HE := hide hE
        clear hE h1
        go_wp2_with fail
        go_ret2
        exact ⟨.inl ⟨4, HE.out, by decide, rfl⟩, HCH2.out⟩
      · by_cases he : er = 0
        · subst he
          have hmn : ∀ y, y ∈ p → ∀ w', Ext w2 w' → Calls Tryz.prog 76 #[.agg #[.int .i64 y.1, .int .i64 y.2.1, .int .i64 y.2.2], .pointer (some ⟨w.heap.size, 0, none⟩)] w' fun e w3 => e = .returned (.bool (isNo x.t x.o y)) ∧ Ext w' w3 :=
            fun y _ w' hx => mayNotP_any x y w.heap.size w' (HBX2.out.ext hx)
          have hcf := cfo_any 76 (fun _ _ => by kernel_rfl) (.pointer (some ⟨w.heap.size, 0, none⟩)) (isNo x.t x.o) c2 (by have := prog_len h1; omega) hch2.1 hmn
          have HCT := hide hch2
          have HPL := hide (prog_len h1)
          have HRD2 := hide hrd2
          cases hno : p.any (isNo x.t x.o) with
          | true =>
            have hE : progsP x.t x.o T l = .error 3 := by rw [HP.out, HK.out]; simp only [progsP, h1, hno]; rfl
            have HE := hide hE
            rw [hno] at hcf
            clear hE h1 hno hch2 hrd2 hmn
            go_wp2_with fail
            refine hcf.mono ?_
            rintro e w3 ⟨rfl, hx3⟩
            go_wp2_with fail
            go_ret2
            exact ⟨.inl ⟨3, HE.out, by decide, rfl⟩, HCH2.out.trans (hx3.chg _)⟩
          | false =>
            have hE : progsP x.t x.o T l = preP (acc ++ [p]) (progsP x.t x.o k r2) := by rw [HP.out, HK.out]; simp only [progsP, h1, hno]; rw [← preP_pre]; rfl
            have HE := hide hE
            rw [hno] at hcf
            clear hE h1 hno hch2 hrd2 hmn
            go_wp2_with fail
            refine hcf.mono ?_
            rintro e w3 ⟨rfl, hx3⟩
            have HX3 := hide hx3
            have HROW3 := hide (HROW2.out.kp (hx3.kp [] 0) (by simp) (by simp))
            obtain ⟨xs, hown, hel⟩ := HROW3.out
            have HOWN := hide hown
            have hs3 : w.heap.size ≤ w3.heap.size := Nat.le_trans HCH2.out.size hx3.size
            clear hx3 hcf hown
            go_wp2_with (at_builtin; refine wpList_app3 (base := w.heap.size) rfl rfl Tryz.underlying25 inf_ops rfl (by omega) rfl HOWN.out hs3 rfl rfl rfl (by simp [Value.oneCell']) (by unfold maxLen; omega) (by omega) ?_; intro v' w4 hown' hg4 hk4; go_frame)
            have hg5 : (w3.alloc (.cells #[.slice A2 p.length c2] 48)).grownBy w4 (Value.slice A1 acc.length c1).ownBlock := hg4
            have xa := Ext.alloc w3 (.cells #[.slice A2 p.length c2] 48)
            have k4 := Kp.grow (ts := [48]) hg5 (own_ext HOWN.out xa) (by simp)
            have HROW4 : RowP w4 w.heap.size v' (acc ++ [p]) := by
              refine ⟨xs ++ [.slice A2 p.length c2], by rw [List.length_append]; exact hown', fun i hi => ?_⟩
              have hxl : xs.length = acc.length := by have := HOWN.out.1; omega
              rcases Nat.lt_or_ge i acc.length with q | q
              · obtain ⟨A, c, e1, e2, e3⟩ := hel i q
                rw [List.getElem_append_left q]
                exact ⟨A, c, by rw [List.getElem?_append_left (by omega)]; exact e1, e2, (e3.kp (xa.kp [] 0) (by simp)).kp k4 (by decide)⟩
              · have hi2 : i = acc.length := by simp at hi; omega
                subst hi2
                rw [List.getElem_append_right (Nat.le_refl _)]
                simp only [Nat.sub_self, List.getElem_cons_zero]
                exact ⟨A2, c2, by rw [List.getElem?_append_right (by omega), hxl, Nat.sub_self]; rfl, by have := HPL.out; omega, ((HCT.out.kp (HX3.out.kp [] 0) (by simp)).kp (xa.kp [] 0) (by simp)).kp k4 (by decide)⟩
            have hrd4 := ((HRD2.out.ext HX3.out).ext xa).kp (k4.low (show N ≤ w.heap.size by omega)) (by decide)
            have hc4 : Chg [R] w w4 := Chg.of_row ((HCH2.out.trans (HX3.out.chg _)).trans (xa.chg _)) hg5 (fun k hk => own_row HOWN.out k hk)
            have hb4 := k4.blk ((HBX2.out.ext HX3.out).ext xa) (by decide)
            clear hg4 hg5 hk4 k4 xa
            go_roundw
            case rel => exact ⟨acc.length + 1, acc ++ [p], r2, by omega, by go_num, by simp, by rw [HE.out, show T - (acc.length + 1) = k by have := HK.out; omega], HROW4, hrd4, hc4, hb4⟩
            case measure => simp [intOf]; omega
        · have hE : progsP x.t x.o T l = .error er := by rw [HP.out, HK.out]; simp only [progsP, h1]; rw [if_pos he]; rfl
          have HE := hide hE
          clear hE h1
          go_wp2_with fail
          go_ret2
          exact ⟨.inl ⟨er, HE.out, he, rfl⟩, HCH2.out⟩
    · have hTe : acc.length = T := by omega
      have hE : progsP x.t x.o T l = .ok (acc, r) := by rw [HP.out, hTe, Nat.sub_self]; simp [progsP, preP]
      have HE := hide hE
      have HRD := hide hrd
      have h3 : ¬ (acc.length : Int) < x.t := by have := HTX.out; omega
      clear hp hE hrd hc hbx hTe
      go_wp2_with fail
      go_ret2
      exact ⟨.inr ⟨acc, r, _, HE.out, rfl, HROW.out, HRD.out⟩, HCH.out⟩
end Go.Proofs.YtlgomkocalieeaaGreatDoor

namespace Go.Proofs.YtlgomkocalieeaaGreatDoor
open Go.RowKit
set_option linter.unusedSimpArgs false
set_option linter.unusedVariables false
set_option maxRecDepth 100000
set_option maxHeartbeats 4000000

def turnP (b : UInt8) (r : List UInt8) : Except Int (Tr × List UInt8) :=
  if b.toNat < 8 then .ok ((1, (b.toNat : Int)), r) else if b = 100 then (match r with | [] => .error 4 | n :: r => .ok ((2, (n.toNat : Int)), r)) else if b = 101 then .ok ((3, 0), r) else .error 3
def turnsP (t : Int) : Nat → List UInt8 → Except Int (List Tr)
  | _, [] => .ok []
  | 0, _ :: _ => .error 5
  | m + 1, b :: r => match turnP b r with
    | .error e => .error e
    | .ok (x, r') => if isT t x = true then (match turnsP t m r' with | .error e => .error e | .ok ts => .ok (x :: ts)) else .error 1
def TurnR (R N : Nat) (b : UInt8) (l : List UInt8) (e : Ending) (w' : World) : Prop :=
  (∃ er, turnP b l = .error er ∧ er ≠ 0 ∧ e = .returned (.tuple #[.agg #[.int .i64 0, .int .i64 0], .int .i64 er])) ∨
  (∃ x r, turnP b l = .ok (x, r) ∧ e = .returned (.tuple #[.agg #[.int .i64 x.1, .int .i64 x.2], .int .i64 0]) ∧ Rd w' R N r)
theorem turn_any {w : World} {R N : Nat} (hNR : N ≤ R) (b : UInt8) {l : List UInt8} (h : Rd w R N l) :
    Calls Tryz.prog 78 #[.int .u8 (b.toNat : Int), (Value.func (.func 33) #[.pointer (some ⟨R, 0, none⟩)] #[])] w fun e w' => TurnR R N b l e w' ∧ Chg [R] w w' := by
  have hRlt : R < w.heap.size := by obtain ⟨A, c, hbk⟩ := h.blk; exact hbk.lt
  have hNw : N ≤ w.heap.size := by omega
  have hX0 := Ext.alloc w (.cells #[.int .i64 0, .int .i64 0] 55)
  have hbk := Blk.new w #[.int .i64 0, .int .i64 0] 55
  have hrd := h.ext hX0
  have HX := hide hX0
  have q0 := hbk.cell
  have f0 := hbk.free
  by_cases h8 : b.toNat < 8
  · have h8i : (b.toNat : Int) < 8 := by omega
    have hE := hide (show turnP b l = .ok ((1, (b.toNat : Int)), l) from if_pos h8)
    have hw : IntKind.i64.wrap (b.toNat : Int) = (b.toNat : Int) := by rw [IntKind.wrap_i64]; omega
    have hxr := Ext.alloc w (.cells #[.int .i64 1, .int .i64 (b.toNat : Int)] 55)
    have HRD := hide (h.ext hxr)
    have HXR := hide hxr
    have z := (Blk.new w #[.int .i64 1, .int .i64 (b.toNat : Int)] 55).cell
    have z0 := z 0
    have z1 := z 1
    clear hrd h hxr z
    go_enter Tryz.func78, Tryz.ntmps78
    go_wp2_with fail
    refine bodyPost_ret (v := .tuple #[.agg #[.int .i64 1, .int .i64 (b.toNat : Int)], .int .i64 0]) (by simp [results, Tryz.results78, go_sem, z0, z1]) rfl ?_
    exact ⟨.inr ⟨(1, (b.toNat : Int)), l, hE.out, rfl, HRD.out⟩, HXR.out.chg _⟩
  · have h8i : ¬ (b.toNat : Int) < 8 := by omega
    by_cases h100 : b = 100
    · subst h100
      cases l with
      | nil =>
        have hE := hide (show turnP 100 [] = .error 4 from rfl)
        have ht := take_nil hrd
        clear h
        go_enter Tryz.func78, Tryz.ntmps78
        go_wp2_with fail
        refine ht.mono ?_
        rintro e w1 ⟨rfl, rfl⟩
        go_wp2_with fail
        have z0 := q0 0
        have z1 := q0 1
        refine bodyPost_ret (v := .tuple #[.agg #[.int .i64 0, .int .i64 0], .int .i64 4]) (by simp [results, Tryz.results78, go_sem, z0, z1]) rfl ?_
        exact ⟨.inl ⟨4, hE.out, by decide, rfl⟩, HX.out.chg _⟩
      | cons n r =>
        have hE := hide (show turnP 100 (n :: r) = .ok ((2, (n.toNat : Int)), r) from rfl)
        have ht := take_cons hrd
        have hn := n.toNat_lt
        have hw : IntKind.i64.wrap (n.toNat : Int) = (n.toNat : Int) := by rw [IntKind.wrap_i64]; omega
        clear h
        go_enter Tryz.func78, Tryz.ntmps78
        go_wp2_with fail
        refine ht.mono ?_
        rintro e w1 ⟨rfl, hrd1, hc1⟩
        have hb1 := hbk.chg hc1 (by simp; omega)
        have q1 := hb1.cell
        have f1 := hb1.free
        have HRD := hide (hrd1.kp (ts := [55]) (((Kp.cell (j := 0) (u := .int .i64 2) hb1 hNw (by simp)).trans (Kp.cell (j := 1) (u := .int .i64 (n.toNat : Int)) (hb1.set 0 _) hNw (by simp))) : Kp [55] N _ _) (by decide))
        have HB2 := hide ((hb1.set 0 (.int .i64 2)).set 1 (.int .i64 (n.toNat : Int)))
        have HCC := hide (((HX.out.chg [R]).trans hc1).newB (((Chg.refl [w.heap.size] w1).set (p := ⟨w.heap.size, 0, none⟩) (.inl (by simp)) (.int .i64 2)).set (p := ⟨w.heap.size, 1, none⟩) (.inl (by simp)) (.int .i64 (n.toNat : Int))) (Nat.le_refl _))
        clear hrd1 hc1 hbk hrd ht q0 f0
        go_wp2_with fail
        have z0 := HB2.out.cell 0
        have z1 := HB2.out.cell 1
        refine bodyPost_ret (v := .tuple #[.agg #[.int .i64 2, .int .i64 (n.toNat : Int)], .int .i64 0]) (by simp [results, Tryz.results78, go_sem, z0, z1]) rfl ?_
        exact ⟨.inr ⟨(2, (n.toNat : Int)), r, hE.out, rfl, HRD.out⟩, HCC.out⟩
    · have h100i : ¬ (b.toNat : Int) = 100 := by
        intro e
        exact h100 (by rw [← UInt8.toNat_inj]; show b.toNat = 100; omega)
      by_cases h101 : b = 101
      · subst h101
        have hE := hide (show turnP 101 l = .ok ((3, 0), l) from rfl)
        have hxr := Ext.alloc w (.cells #[.int .i64 3, .int .i64 0] 55)
        have HRD := hide (h.ext hxr)
        have HXR := hide hxr
        have z := (Blk.new w #[.int .i64 3, .int .i64 0] 55).cell
        have z0 := z 0
        have z1 := z 1
        clear hrd h hxr z
        go_enter Tryz.func78, Tryz.ntmps78
        go_wp2_with fail
        refine bodyPost_ret (v := .tuple #[.agg #[.int .i64 3, .int .i64 0], .int .i64 0]) (by simp [results, Tryz.results78, go_sem, z0, z1]) rfl ?_
        exact ⟨.inr ⟨(3, 0), l, hE.out, rfl, HRD.out⟩, HXR.out.chg _⟩
      · have h101i : ¬ (b.toNat : Int) = 101 := by
          intro e
          exact h101 (by rw [← UInt8.toNat_inj]; show b.toNat = 101; omega)
        have hE := hide (show turnP b l = .error 3 by unfold turnP; rw [if_neg h8, if_neg h100, if_neg h101])
        clear h
        go_enter Tryz.func78, Tryz.ntmps78
        go_wp2_with fail
        have z0 := q0 0
        have z1 := q0 1
        refine bodyPost_ret (v := .tuple #[.agg #[.int .i64 0, .int .i64 0], .int .i64 3]) (by simp [results, Tryz.results78, go_sem, z0, z1]) rfl ?_
        exact ⟨.inl ⟨3, hE.out, by decide, rfl⟩, HX.out.chg _⟩
theorem inf_turn : (Tryz.prog.info? 55).map (fun i => (i.zero, i.size, i.bytes)) = some (some (.agg #[.int .i64 0, .int .i64 0]), 2, 16) := by kernel_rfl
def preT (acc : List Tr) : Except Int (List Tr) → Except Int (List Tr)
  | .error e => .error e
  | .ok ts => .ok (acc ++ ts)
theorem preT_nil (x : Except Int (List Tr)) : preT [] x = x := by cases x <;> rfl
theorem turns_cons {t : Int} {m : Nat} {b : UInt8} {r r' : List UInt8} {x : Tr} (h : turnP b r = .ok (x, r')) (hx : isT t x = true) : turnsP t (m + 1) (b :: r) = preT [x] (turnsP t m r') := by
  simp only [turnsP, h, hx, if_true]
  cases turnsP t m r' <;> rfl
theorem preT_pre (a b : List Tr) (x : Except Int (List Tr)) : preT a (preT b x) = preT (a ++ b) x := by cases x <;> simp [preT]
theorem turns_nil (t : Int) (m : Nat) : turnsP t m [] = .ok [] := by cases m <;> rfl
def TurnsR (B : Nat) (t : Int) (l : List UInt8) (e : Ending) (w' : World) : Prop :=
  (∃ er, turnsP t 4096 l = .error er ∧ er ≠ 0 ∧ e = .returned (.tuple #[.slice none 0 0, .int .i64 er])) ∨
  (∃ ts v, turnsP t 4096 l = .ok ts ∧ e = .returned (.tuple #[v, .int .i64 0]) ∧ w'.ownsRow B 55 2 v ts.length (tcells ts))
theorem turns_any {w : World} {R N : Nat} (hNR : N ≤ R) {l : List UInt8} (t : Int) (h : Rd w R N l) :
    Calls Tryz.prog 51 #[(Value.func (.func 33) #[.pointer (some ⟨R, 0, none⟩)] #[]), .int .i64 t] w fun e w' => TurnsR w.heap.size t l e w' ∧ Chg [R] w w' := by
  have hRlt : R < w.heap.size := by obtain ⟨A, c, hbk⟩ := h.blk; exact hbk.lt
  go_enter Tryz.func51, Tryz.ntmps51
  go_wp2_with fail
  go_loopw [6] (fun v wr => ∃ (acc : List Tr) (r : List UInt8), wr.ownsRow w.heap.size 55 2 v acc.length (tcells acc) ∧ acc.length ≤ 4096 ∧ turnsP t 4096 l = preT acc (turnsP t (4096 - acc.length) r) ∧ Rd wr R N r ∧ Chg [R] w wr) (fun v _ => 4097 - slLen v)
  case atStart => exact ⟨[], l, own_nil _ _ _ _, by simp, by rw [preT_nil]; rfl, h, Chg.refl _ _⟩
  case round =>
    obtain ⟨acc, r, hown, hacc, hp, hrd, hc⟩ := hrel
    obtain ⟨A1, c1, rfl⟩ := own_sl hown
    have HP := hide hp
    have HO := hide hown
    have HC := hide hc
    obtain ⟨Ar, cr, hRb⟩ := hrd.blk
    cases r with
    | nil =>
      have ht := take_nil hrd
      have hE := hide (show turnsP t 4096 l = .ok acc by rw [HP.out, turns_nil]; simp [preT])
      clear hp hown hc hrd hRb h
      go_wp2_with fail
      refine ht.mono ?_
      rintro e w1 ⟨rfl, rfl⟩
      go_wp2_with fail
      go_ret2
      exact ⟨.inr ⟨acc, _, hE.out, rfl, HO.out⟩, HC.out⟩
    | cons b r =>
      have ht := take_cons hrd
      have HRB := hide hRb
      clear hp hown hc hrd hRb h
      by_cases h4 : acc.length = 4096
      · have h4i : (acc.length : Int) = 4096 := by omega
        have hE := hide (show turnsP t 4096 l = .error 5 by rw [HP.out, h4]; rfl)
        have HC2 := HC
        clear h4
        go_wp2_with fail
        refine ht.mono ?_
        rintro e w1 ⟨rfl, hrd1, hc1⟩
        go_wp2_with fail
        go_ret2
        exact ⟨.inl ⟨5, hE.out, by decide, rfl⟩, HC2.out.trans hc1⟩
      · have h4i : ¬ (acc.length : Int) = 4096 := by omega
        obtain ⟨m, hm⟩ : ∃ m, 4096 - acc.length = m + 1 := ⟨4096 - acc.length - 1, by omega⟩
        have HM := hide hm
        clear hm h4
        go_wp2_with fail
        refine ht.mono ?_
        rintro e w1 ⟨rfl, hrd1, hc1⟩
        have HO1 := hide ((chg_kp hc1 HRB.out hNR).own HO.out (by decide))
        have HC1 := hide (HC.out.trans hc1)
        have htu := turn_any hNR b hrd1
        obtain ⟨Ar1, cr1, hRb1⟩ := hrd1.blk
        have HRB1 := hide hRb1
        clear hc1 hrd1 hRb1 ht
        go_wp2_with fail
        refine htu.mono ?_
        rintro e w2 ⟨hr, hc2⟩
        have HO2 := hide ((chg_kp hc2 HRB1.out hNR).own HO1.out (by decide))
        have HC2 := hide (HC1.out.trans hc2)
        clear hc2 htu
        unfold TurnR at hr
        rcases hr with ⟨er, h1, hne, rfl⟩ | ⟨⟨k, n⟩, r2, h1, rfl, hrd2⟩
        · have hE := hide (show turnsP t 4096 l = .error er by rw [HP.out, HM.out]; simp only [turnsP, h1]; rfl)
          clear h1
          go_wp2_with fail
          go_ret2
          exact ⟨.inl ⟨er, hE.out, hne, rfl⟩, HC2.out.trans ((Ext.alloc _ _).chg _)⟩
        · have hxt := Ext.alloc w2 (.cells #[.int .i64 k, .int .i64 n] 55)
          have HXT := hide hxt
          have HRD2 := hide (hrd2.ext hxt)
          have HO3 := hide (own_ext HO2.out hxt)
          have qt := (Blk.new w2 #[.int .i64 k, .int .i64 n] 55).cell
          have hit := isTurn_any (k, n) t (w2.alloc (.cells #[.int .i64 k, .int .i64 n] 55))
          have hbt := Blk.new w2 #[.int .i64 k, .int .i64 n] 55
          clear hrd2 hxt
          cases hi : isT t (k, n) with
          | false =>
            rw [hi] at hit
            have hE := hide (show turnsP t 4096 l = .error 1 by rw [HP.out, HM.out]; simp only [turnsP, h1, hi]; rfl)
            clear h1 hi
            go_wp2_with fail
            refine hit.mono ?_
            rintro e w3 ⟨rfl, hx3⟩
            go_wp2_with fail
            go_ret2
            exact ⟨.inl ⟨1, hE.out, by decide, rfl⟩, HC2.out.trans ((HXT.out.trans hx3).chg _)⟩
          | true =>
            rw [hi] at hit
            have hE := hide (show turnsP t 4096 l = preT (acc ++ [(k, n)]) (turnsP t m r2) by rw [HP.out, HM.out, turns_cons h1 hi, preT_pre])
            clear h1 hi
            go_wp2_with fail
            refine hit.mono ?_
            rintro e w3 ⟨rfl, hx3⟩
            have HO4 := hide (own_ext HO3.out hx3)
            have HRD3 := hide (HRD2.out.ext hx3)
            have HC3 := hide (HC2.out.trans ((HXT.out.trans hx3).chg _))
            have q3 := (hbt.ext hx3).cell
            have hs3 : w.heap.size ≤ w3.heap.size := HC3.out.size
            clear hx3 hit qt hbt
            go_wp2_with (at_builtin; refine wpList_app3 (base := w.heap.size) rfl rfl Tryz.underlying35 inf_turn rfl (by omega) rfl HO4.out hs3 rfl rfl rfl (by simp [Value.oneCell']) (by unfold maxLen; omega) (by omega) ?_; intro v' w4 hown' hg4 hk4; go_frame)
            have hg5 : (w3.alloc (.cells #[.int .i64 k, .int .i64 n] 55)).grownBy w4 (Value.slice A1 acc.length c1).ownBlock := hg4
            have xa := Ext.alloc w3 (.cells #[.int .i64 k, .int .i64 n] 55)
            have k4 := Kp.grow (ts := [55]) hg5 (own_ext HO4.out xa) (by simp)
            have hrd4 := (HRD3.out.ext xa).kp (k4.low (show N ≤ w.heap.size by omega)) (by decide)
            have hc4 : Chg [R] w w4 := Chg.of_row (HC3.out.trans (xa.chg _)) hg5 (fun k hk => own_row HO4.out k hk)
            obtain ⟨A5, c5, rfl⟩ := own_sl hown'
            clear hg4 hg5 hk4 k4 xa q3
            go_roundw
            case rel => exact ⟨acc ++ [(k, n)], r2, by rw [List.length_append, tcells_app]; exact hown', by simp; omega, by rw [hE.out, List.length_append, show 4096 - (acc.length + [(k, n)].length) = m by have := HM.out; simp; omega], hrd4, hc4⟩
            case measure => simp [slLen]; omega
end Go.Proofs.YtlgomkocalieeaaGreatDoor

namespace Go.Proofs.YtlgomkocalieeaaGreatDoor
open Go.RowKit
set_option linter.unusedSimpArgs false
set_option linter.unusedVariables false
set_option maxRecDepth 100000
set_option maxHeartbeats 8000000

def readS : List UInt8 → Except Int (Cf × List (List Op3) × List Tr)
  | [] => .error 4
  | b :: r => if b = 77 then (if r.length < 17 then .error 4 else if mayC (confC r) = true then
      (match progsP (confC r).t (confC r).o (confC r).t.toNat (r.drop 17) with
        | .error e => .error e
        | .ok (ps, q) => match turnsP (confC r).t 4096 q with
          | .error e => .error e
          | .ok ts => .ok (confC r, ps, ts)) else .error 1) else .error 3
/-- What Read answers. -/
def ReadR (l : List UInt8) (e : Ending) (w' : World) : Prop :=
  (∃ er, readS l = .error er ∧ er ≠ 0 ∧ e = .returned (.tuple #[.agg #[.int .i64 0, .int .i64 0, .int .i64 0, .int .i64 0, .int .i64 0, .int .i64 0, .int .u8 0, .int .i64 0, .int .i64 0, .int .u64 0, .slice none 0 0, .slice none 0 0], .int .i64 er])) ∨
  (∃ x ps ts A c B d, readS l = .ok (x, ps, ts) ∧ e = .returned (.tuple #[.agg #[.int .i64 x.t, .int .i64 x.o, .int .i64 x.c, .int .i64 x.s, .int .i64 x.p, .int .i64 x.n, .int .u8 x.b, .int .i64 x.r, .int .i64 x.v, .int .u64 x.d, .slice A ps.length c, .slice B ts.length d], .int .i64 0]) ∧ Pr w' A ps ∧ Tn w' B ts)
/-- .. with its rows in blocks of their own types. -/
def ReadT (B : Nat) (l : List UInt8) (e : Ending) (w' : World) : Prop :=
  (∃ er, readS l = .error er ∧ er ≠ 0 ∧ e = .returned (.tuple #[.agg #[.int .i64 0, .int .i64 0, .int .i64 0, .int .i64 0, .int .i64 0, .int .i64 0, .int .u8 0, .int .i64 0, .int .i64 0, .int .u64 0, .slice none 0 0, .slice none 0 0], .int .i64 er])) ∨
  (∃ x ps ts v1 v2, readS l = .ok (x, ps, ts) ∧ e = .returned (.tuple #[.agg #[.int .i64 x.t, .int .i64 x.o, .int .i64 x.c, .int .i64 x.s, .int .i64 x.p, .int .i64 x.n, .int .u8 x.b, .int .i64 x.r, .int .i64 x.v, .int .u64 x.d, v1, v2], .int .i64 0]) ∧ RowP w' B v1 ps ∧ w'.ownsRow B 55 2 v2 ts.length (tcells ts))
theorem RowP.low {w : World} {B N : Nat} {v : Value} {acc : List (List Op3)} (h : RowP w B v acc) (hN : N ≤ B) : RowP w N v acc := by
  obtain ⟨xs, q1, q2⟩ := h
  exact ⟨xs, own_low q1 hN, q2⟩
theorem inf_scr (cs : Array Value) (h : cs.size = 12) : (Tryz.prog.info? 37).map (·.size) = some cs.size := by rw [h]; kernel_rfl
theorem scr_res {cs : Array Value} (hs : cs.size = 12) {fn : Func} (h : fn.results = #[.cell 2 37, .tmp 3]) (tmps : Array Value) (w : World) {b : Nat} {u : Value} (e2 : tmps.getD 2 undef = .pointer (some ⟨b, 0, none⟩)) (e3 : tmps.getD 3 undef = u) (hb : Blk w b cs 37) :
    (results fn tmps).run Tryz.prog w = .ok (.tuple #[.agg cs, u]) w := by
  have l : (loadVar 37 ⟨b, 0, none⟩).run Tryz.prog w = .ok (.agg cs) w := by
    have := run_loadVar_mid w b 0 37 cs.toList _ (fun j v hv => by rw [Nat.zero_add]; exact (Blk.cell hb j).trans (by rw [← Array.getElem?_toList]; exact hv)) Tryz.underlying37 rfl (by rw [Array.length_toList]; exact inf_scr cs hs)
    rwa [Array.toArray_toList] at this
  rw [results_cell_tmp h, e2, e3]
  simp only [asAddr, Sem.run_pure, Result.andThen_ok, l]
theorem scrOf_any {w : World} {R N : Nat} (hNR : N ≤ R) {l : List UInt8} (h : Rd w R N l) :
    Calls Tryz.prog 32 #[(Value.func (.func 33) #[.pointer (some ⟨R, 0, none⟩)] #[])] w fun e w' => ReadT w.heap.size l e w' ∧ Chg [R] w w' := by
  have hRlt : R < w.heap.size := by obtain ⟨A, c, hbk⟩ := h.blk; exact hbk.lt
  have hX0 := Ext.alloc w (.cells #[.int .i64 0, .int .i64 0, .int .i64 0, .int .i64 0, .int .i64 0, .int .i64 0, .int .u8 0, .int .i64 0, .int .i64 0, .int .u64 0, .slice none 0 0, .slice none 0 0] 37)
  have hz := Blk.new w #[.int .i64 0, .int .i64 0, .int .i64 0, .int .i64 0, .int .i64 0, .int .i64 0, .int .u8 0, .int .i64 0, .int .i64 0, .int .u64 0, .slice none 0 0, .slice none 0 0] 37
  have hrd := h.ext hX0
  have HX := hide hX0
  clear h hX0
  cases l with
  | nil =>
    have ht := take_nil hrd
    go_enter Tryz.func32, Tryz.ntmps32
    go_wp2_with fail
    refine ht.mono ?_
    rintro e w1 ⟨rfl, rfl⟩
    have HBZ := hide (hz)
    go_wp2_with (with_reducible refine wpList_rput 37 rfl _ _ rfl w.heap.size #[.int .i64 0, .int .i64 0, .int .i64 0, .int .i64 0, .int .i64 0, .int .i64 0, .int .u8 0, .int .i64 0, .int .i64 0, .int .u64 0, .slice none 0 0, .slice none 0 0] rfl rfl _ HBZ.out (inf_scr _ rfl) rfl (by simp [Value.oneCell']) ?_; intro w9 hb9 hc9 hs9; go_frame)
    refine bodyPost_ret (scr_res rfl Tryz.results32 _ _ rfl rfl hb9) rfl ?_
    exact ⟨.inl ⟨4, rfl, by decide, rfl⟩, (HX.out.chg [R]).newB hc9 (Nat.le_refl _)⟩
  | cons b r =>
    have ht := take_cons hrd
    have hRN : N ≤ w.heap.size := by omega
    by_cases h77 : b = 77
    · subst h77
      go_enter Tryz.func32, Tryz.ntmps32
      go_wp2_with fail
      refine ht.mono ?_
      rintro e w1 ⟨rfl, hrd1, hc1⟩
      have hz1 := hz.chg hc1 (by simp; omega)
      have HC1 := hide ((HX.out.chg [R]).trans hc1)
      have hcf := conf_any (Nat.le_trans hRN HC1.out.size) hrd1
      clear hc1 hz ht hrd hrd1
      go_wp2_with fail
      refine hcf.mono ?_
      rintro e w2 ⟨hr, hc2⟩
      have hz2 := hz1.chg hc2 (by simp; omega)
      have HC2 := hide (HC1.out.trans hc2)
      clear hc2 hz1 hcf
      unfold ConfR at hr
      rcases hr with ⟨h17, rfl⟩ | ⟨h17, hm, rfl⟩ | ⟨h17, hm, rfl, hrd2⟩
      · have hE := hide (show readS (77 :: r) = .error 4 by simp only [readS, if_true]; rw [if_pos h17])
        have hxa := Ext.alloc w2 (.cells #[.int .i64 0, .int .i64 0, .int .i64 0, .int .i64 0, .int .i64 0, .int .i64 0, .int .u8 0, .int .i64 0, .int .i64 0, .int .u64 0] 24)
        have HBZ := hide (hz2.ext hxa)
        go_wp2_with (with_reducible refine wpList_rput 37 rfl _ _ rfl w.heap.size #[.int .i64 0, .int .i64 0, .int .i64 0, .int .i64 0, .int .i64 0, .int .i64 0, .int .u8 0, .int .i64 0, .int .i64 0, .int .u64 0, .slice none 0 0, .slice none 0 0] rfl rfl _ HBZ.out (inf_scr _ rfl) rfl (by simp [Value.oneCell']) ?_; intro w9 hb9 hc9 hs9; go_frame)
        refine bodyPost_ret (scr_res rfl Tryz.results32 _ _ rfl rfl hb9) rfl ?_
        exact ⟨.inl ⟨4, hE.out, by decide, rfl⟩, (HC2.out.trans (hxa.chg _)).newB hc9 (Nat.le_refl _)⟩
      · have hE := hide (show readS (77 :: r) = .error 1 by simp only [readS, if_true]; rw [if_neg (by omega), hm]; rfl)
        have hxa := Ext.alloc w2 (.cells #[.int .i64 0, .int .i64 0, .int .i64 0, .int .i64 0, .int .i64 0, .int .i64 0, .int .u8 0, .int .i64 0, .int .i64 0, .int .u64 0] 24)
        have HBZ := hide (hz2.ext hxa)
        go_wp2_with (with_reducible refine wpList_rput 37 rfl _ _ rfl w.heap.size #[.int .i64 0, .int .i64 0, .int .i64 0, .int .i64 0, .int .i64 0, .int .i64 0, .int .u8 0, .int .i64 0, .int .i64 0, .int .u64 0, .slice none 0 0, .slice none 0 0] rfl rfl _ HBZ.out (inf_scr _ rfl) rfl (by simp [Value.oneCell']) ?_; intro w9 hb9 hc9 hs9; go_frame)
        refine bodyPost_ret (scr_res rfl Tryz.results32 _ _ rfl rfl hb9) rfl ?_
        exact ⟨.inl ⟨1, hE.out, by decide, rfl⟩, (HC2.out.trans (hxa.chg _)).newB hc9 (Nat.le_refl _)⟩
      · have hE0 : readS (77 :: r) = (match progsP (confC r).t (confC r).o (confC r).t.toNat (r.drop 17) with
            | .error e => .error e
            | .ok (ps, q) => match turnsP (confC r).t 4096 q with
              | .error e => .error e
              | .ok ts => .ok (confC r, ps, ts)) := by simp only [readS, if_true]; rw [if_neg (by omega), if_pos hm]
        have HE0 := hide hE0
        have hmn := may_n hm
        clear hE0 hm
        generalize confC r = x at *
        obtain ⟨T, hT⟩ := Int.eq_ofNat_of_zero_le (show 0 ≤ x.t by omega)
        have HT := hide hT
        have hTn : x.t.toNat = T := by omega
        rw [hTn] at HE0
        have hxa := Ext.alloc w2 (.cells #[.int .i64 x.t, .int .i64 x.o, .int .i64 x.c, .int .i64 x.s, .int .i64 x.p, .int .i64 x.n, .int .u8 x.b, .int .i64 x.r, .int .i64 x.v, .int .u64 x.d] 24)
        have hz3 := hz2.ext hxa
        have hpa := progs_any hNR x T hT (by omega) (hrd2.ext hxa)
        have qx := (Blk.new w2 #[.int .i64 x.t, .int .i64 x.o, .int .i64 x.c, .int .i64 x.s, .int .i64 x.p, .int .i64 x.n, .int .u8 x.b, .int .i64 x.r, .int .i64 x.v, .int .u64 x.d] 24)
        have qc := qx.cell
        have HC3 := hide (HC2.out.trans (hxa.chg _))
        have hws : w.heap.size ≤ (w2.alloc (.cells #[.int .i64 x.t, .int .i64 x.o, .int .i64 x.c, .int .i64 x.s, .int .i64 x.p, .int .i64 x.n, .int .u8 x.b, .int .i64 x.r, .int .i64 x.v, .int .u64 x.d] 24)).heap.size := HC3.out.size
        clear hT hTn hmn hrd2 hz2 hxa
        generalize r.drop 17 = r17 at *
        go_wp2_with fail
        generalize w2.alloc (.cells #[.int .i64 x.t, .int .i64 x.o, .int .i64 x.c, .int .i64 x.s, .int .i64 x.p, .int .i64 x.n, .int .u8 x.b, .int .i64 x.r, .int .i64 x.v, .int .u64 x.d] 24) = wa at *
        refine hpa.mono ?_
        rintro e w3 ⟨hr, hc3⟩
        have hz4 := hz3.chg hc3 (by simp; omega)
        have HC4 := hide (HC3.out.trans hc3)
        have HC4s := hide hc3.size
        have hqx3 := qx.chg hc3 (by simp; have := HC2.out.size; omega)
        clear hz3 hpa qx qc
        unfold ProgsR at hr
        rcases hr with ⟨er, h1, hne, rfl⟩ | ⟨ps, r2, v, h1, rfl, hrow, hrd3⟩
        · have hE := hide (show readS (77 :: r) = .error er by rw [HE0.out, h1])
          clear hc3 h1
          have HBZ := hide (hz4)
          go_wp2_with (with_reducible refine wpList_rput 37 rfl _ _ rfl w.heap.size #[.int .i64 0, .int .i64 0, .int .i64 0, .int .i64 0, .int .i64 0, .int .i64 0, .int .u8 0, .int .i64 0, .int .i64 0, .int .u64 0, .slice none 0 0, .slice none 0 0] rfl rfl _ HBZ.out (inf_scr _ rfl) rfl (by simp [Value.oneCell']) ?_; intro w9 hb9 hc9 hs9; go_frame)
          refine bodyPost_ret (scr_res rfl Tryz.results32 _ _ rfl rfl hb9) rfl ?_
          exact ⟨.inl ⟨er, hE.out, hne, rfl⟩, HC4.out.newB hc9 (Nat.le_refl _)⟩
        · have hta := turns_any hNR x.t hrd3
          obtain ⟨Ar, cr, hRb⟩ := hrd3.blk
          have HRB := hide hRb
          have qc := hqx3.cell
          have HROW := hide hrow
          have H1 := hide h1
          obtain ⟨xs, hown, _⟩ := hrow
          obtain ⟨Ap, cp, rfl⟩ := own_sl hown
          clear hc3 hrd3 hRb hown h1
          go_wp2_with fail
          refine hta.mono ?_
          rintro e w4 ⟨hr, hc4⟩
          have hz5 := hz4.chg hc4 (by simp; omega)
          have HC5 := hide (HC4.out.trans hc4)
          have hqx4 := hqx3.chg hc4 (by simp; have := HC2.out.size; omega)
          have HROW4 := hide (HROW.out.kp (chg_kp hc4 HRB.out hNR) (by decide) (by decide))
          clear hc4 hta hz4 hqx3 qc
          unfold TurnsR at hr
          rcases hr with ⟨er, h2, hne, rfl⟩ | ⟨ts, v2, h2, rfl, hown2⟩
          · have hE := hide (show readS (77 :: r) = .error er by rw [HE0.out, H1.out]; simp only [h2])
            clear h2
            have HBZ := hide (hz5)
            go_wp2_with (with_reducible refine wpList_rput 37 rfl _ _ rfl w.heap.size #[.int .i64 0, .int .i64 0, .int .i64 0, .int .i64 0, .int .i64 0, .int .i64 0, .int .u8 0, .int .i64 0, .int .i64 0, .int .u64 0, .slice none 0 0, .slice none 0 0] rfl rfl _ HBZ.out (inf_scr _ rfl) rfl (by simp [Value.oneCell']) ?_; intro w9 hb9 hc9 hs9; go_frame)
            refine bodyPost_ret (scr_res rfl Tryz.results32 _ _ rfl rfl hb9) rfl ?_
            exact ⟨.inl ⟨er, hE.out, hne, rfl⟩, HC5.out.newB hc9 (Nat.le_refl _)⟩
          · have hE := hide (show readS (77 :: r) = .ok (x, ps, ts) by rw [HE0.out, H1.out]; simp only [h2])
            have qc := hqx4.cell
            have HBZ := hide hz5
            have HOW := hide hown2
            obtain ⟨Bt, ct, rfl⟩ := own_sl hown2
            clear h2 hown2
            go_wp2_with (with_reducible refine wpList_rput 37 rfl _ _ rfl w.heap.size #[.int .i64 x.t, .int .i64 x.o, .int .i64 x.c, .int .i64 x.s, .int .i64 x.p, .int .i64 x.n, .int .u8 x.b, .int .i64 x.r, .int .i64 x.v, .int .u64 x.d, .slice Ap ps.length cp, .slice Bt ts.length ct] rfl rfl _ HBZ.out (inf_scr _ rfl) rfl (by simp [Value.oneCell']) ?_; intro w9 hb9 hc9 hs9; go_frame)
            refine bodyPost_ret (scr_res rfl Tryz.results32 _ _ rfl rfl hb9) rfl ?_
            have hk9 : Kp [37] 0 w4 w9 := hc9.kp (fun k hk => by rw [List.mem_singleton.1 hk]; exact ⟨Nat.zero_le _, fun _ => ⟨_, _, HBZ.out, by simp⟩⟩)
            exact ⟨.inr ⟨x, ps, ts, _, _, hE.out, rfl, (HROW4.out.kp hk9 (by decide) (by decide)).low hws, own_low (hk9.own HOW.out (by decide)) (Nat.le_trans HC3.out.size HC4s.out)⟩, HC5.out.newB hc9 (Nat.le_refl _)⟩
    · have h77i : ¬ (b.toNat : Int) = 77 := by
        intro e
        exact h77 (by rw [← UInt8.toNat_inj]; show b.toNat = 77; omega)
      have hE := hide (show readS (b :: r) = .error 3 by simp only [readS]; rw [if_neg h77])
      go_enter Tryz.func32, Tryz.ntmps32
      go_wp2_with fail
      refine ht.mono ?_
      rintro e w1 ⟨rfl, hrd1, hc1⟩
      have hz1 := hz.chg hc1 (by simp; omega)
      have HC1 := hide ((HX.out.chg [R]).trans hc1)
      clear hc1 hz ht hrd hrd1
      have HBZ := hide (hz1)
      go_wp2_with (with_reducible refine wpList_rput 37 rfl _ _ rfl w.heap.size #[.int .i64 0, .int .i64 0, .int .i64 0, .int .i64 0, .int .i64 0, .int .i64 0, .int .u8 0, .int .i64 0, .int .i64 0, .int .u64 0, .slice none 0 0, .slice none 0 0] rfl rfl _ HBZ.out (inf_scr _ rfl) rfl (by simp [Value.oneCell']) ?_; intro w9 hb9 hc9 hs9; go_frame)
      refine bodyPost_ret (scr_res rfl Tryz.results32 _ _ rfl rfl hb9) rfl ?_
      exact ⟨.inl ⟨3, hE.out, by decide, rfl⟩, HC1.out.newB hc9 (Nat.le_refl _)⟩
theorem read_any {w : World} {A : Option Addr} {c : Nat} {l : List UInt8} (hc : l.length ≤ c) (hcm : c ≤ maxLen) (h : By w A l) (hA : l.length = 0 ∨ ∀ b, A = some b → b.block < w.heap.size) :
    Calls Tryz.prog 15 #[.slice A l.length c] w fun e w' => ReadR l e w' ∧ Ext w w' := by
  have hX0 := Ext.alloc w (.cells #[.int .i64 0, .int .i64 0, .int .i64 0, .int .i64 0, .int .i64 0, .int .i64 0, .int .u8 0, .int .i64 0, .int .i64 0, .int .u64 0, .slice none 0 0, .slice none 0 0] 37)
  have hz := Blk.new w #[.int .i64 0, .int .i64 0, .int .i64 0, .int .i64 0, .int .i64 0, .int .i64 0, .int .u8 0, .int .i64 0, .int .i64 0, .int .u64 0, .slice none 0 0, .slice none 0 0] 37
  have hxb := Ext.alloc (w.alloc (.cells #[.int .i64 0, .int .i64 0, .int .i64 0, .int .i64 0, .int .i64 0, .int .i64 0, .int .u8 0, .int .i64 0, .int .i64 0, .int .u64 0, .slice none 0 0, .slice none 0 0] 37)) (.cells #[.slice A l.length c] 75)
  have hrb := Blk.new (w.alloc (.cells #[.int .i64 0, .int .i64 0, .int .i64 0, .int .i64 0, .int .i64 0, .int .i64 0, .int .u8 0, .int .i64 0, .int .i64 0, .int .u64 0, .slice none 0 0, .slice none 0 0] 37)) #[.slice A l.length c] 75
  have hX := hX0.trans hxb
  simp only [World.size_alloc] at hrb
  have hrd : Rd ((w.alloc (.cells #[.int .i64 0, .int .i64 0, .int .i64 0, .int .i64 0, .int .i64 0, .int .i64 0, .int .u8 0, .int .i64 0, .int .i64 0, .int .u64 0, .slice none 0 0, .slice none 0 0] 37)).alloc (.cells #[.slice A l.length c] 75)) (w.heap.size + 1) w.heap.size l := ⟨A, c, hrb, hc, hcm, h.ext hX, hA⟩
  have hso := scrOf_any (show w.heap.size ≤ w.heap.size + 1 by omega) hrd
  have hz1 := hz.ext hxb
  have HX := hide hX
  clear hrd hrb hxb hX0 hX hz h
  go_enter Tryz.func15, Tryz.ntmps15
  go_wp2_with fail
  generalize (w.alloc (.cells #[.int .i64 0, .int .i64 0, .int .i64 0, .int .i64 0, .int .i64 0, .int .i64 0, .int .u8 0, .int .i64 0, .int .i64 0, .int .u64 0, .slice none 0 0, .slice none 0 0] 37)).alloc (.cells #[.slice A l.length c] 75) = w0 at *
  refine hso.mono ?_
  rintro e w1 ⟨hr, hc1⟩
  have hz2 := hz1.chg hc1 (by simp)
  have HX1 := hide (HX.out.turn hc1 (fun t ht => by rw [List.mem_singleton.1 ht]; omega))
  have h0s := HX.out.size
  clear hso hc1 hz1
  unfold ReadT at hr
  rcases hr with ⟨er, h1, hne, rfl⟩ | ⟨x, ps, ts, v1, v2, h1, rfl, hrow, hown⟩
  · have HBZ := hide hz2
    go_wp2_with (with_reducible refine wpList_rput 37 rfl _ _ rfl w.heap.size #[.int .i64 0, .int .i64 0, .int .i64 0, .int .i64 0, .int .i64 0, .int .i64 0, .int .u8 0, .int .i64 0, .int .i64 0, .int .u64 0, .slice none 0 0, .slice none 0 0] rfl rfl _ HBZ.out (inf_scr _ rfl) rfl (by simp [Value.oneCell']) ?_; intro w9 hb9 hc9 hs9; go_frame)
    refine bodyPost_ret (scr_res rfl Tryz.results15 _ _ rfl rfl hb9) rfl ?_
    exact ⟨.inl ⟨er, h1, hne, rfl⟩, HX1.out.turn hc9 (fun t ht => by rw [List.mem_singleton.1 ht]; exact Nat.le_refl _)⟩
  · have HBZ := hide hz2
    have HROW := hide hrow
    have HOW := hide hown
    have H1 := hide h1
    obtain ⟨xs, hown1, _⟩ := hrow
    obtain ⟨A1, c1, rfl⟩ := own_sl hown1
    obtain ⟨B1, d1, rfl⟩ := own_sl hown
    clear hown hown1 h1
    go_wp2_with (with_reducible refine wpList_rput 37 rfl _ _ rfl w.heap.size #[.int .i64 x.t, .int .i64 x.o, .int .i64 x.c, .int .i64 x.s, .int .i64 x.p, .int .i64 x.n, .int .u8 x.b, .int .i64 x.r, .int .i64 x.v, .int .u64 x.d, .slice A1 ps.length c1, .slice B1 ts.length d1] rfl rfl _ HBZ.out (inf_scr _ rfl) rfl (by simp [Value.oneCell']) ?_; intro w9 hb9 hc9 hs9; go_frame)
    refine bodyPost_ret (scr_res rfl Tryz.results15 _ _ rfl rfl hb9) rfl ?_
    have hk9 : Kp [37] 0 w1 w9 := hc9.kp (fun k hk => by rw [List.mem_singleton.1 hk]; exact ⟨Nat.zero_le _, fun _ => ⟨_, _, HBZ.out, by simp⟩⟩)
    obtain ⟨A2, c2, e1, hpr⟩ := (HROW.out.kp hk9 (by decide) (by decide)).pr
    cases e1
    obtain ⟨B2, d2, e2, htn⟩ := Tn.of_own (hk9.own HOW.out (by decide))
    cases e2
    exact ⟨.inr ⟨x, ps, ts, _, _, _, _, H1.out, rfl, hpr, htn⟩, HX1.out.turn hc9 (fun t ht => by rw [List.mem_singleton.1 ht]; exact Nat.le_refl _)⟩
end Go.Proofs.YtlgomkocalieeaaGreatDoor
