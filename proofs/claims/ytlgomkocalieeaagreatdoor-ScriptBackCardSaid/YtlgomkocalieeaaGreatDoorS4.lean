/- The reader of bytes: take, several. -/
import Derived.Test.YtlgomkocalieeaaGreatDoorC3
import Derived.Test.YtlgomkocalieeaaGreatDoorO6
import Derived.Test.YtlgomkocalieeaaGreatDoorGrow
import Derived.Test.YtlgomkocalieeaaGreatDoorKp
namespace Go.Proofs.YtlgomkocalieeaaGreatDoor
open Go.RowKit
set_option linter.unusedSimpArgs false
set_option linter.unusedVariables false
set_option maxRecDepth 100000
set_option maxHeartbeats 4000000

/-- A reader that has these bytes left. -/
def Rd (w : World) (R N : Nat) (l : List UInt8) : Prop := ∃ A c, Blk w R #[.slice A l.length c] 75 ∧ l.length ≤ c ∧ c ≤ maxLen ∧ By w A l ∧ (l.length = 0 ∨ ∀ b, A = some b → b.block < N)
/-- What is bytes is no reader. -/
theorem By.turn {w w' : World} {A A2 : Option Addr} {n c R : Nat} {l : List UInt8} (h : By w A l) (hR : Blk w R #[.slice A2 n c] 75) (k : Chg [R] w w') : By w' A l := by
  rcases h with h | ⟨b, off, rfl, h2, h3⟩
  · exact .inl h
  · by_cases h0 : l.length = 0
    · exact .inl h0
    · have hne : b ≠ R := by
        rintro rfl
        have e1 := h3 0 (by omega)
        rw [hR.cell] at e1
        match off, e1 with
        | 0, e1 => simp at e1
        | n + 1, e1 => simp at e1
      exact .inr ⟨b, off, rfl, Nat.lt_of_lt_of_le h2 k.size, fun j hj => (k.oldCell _ _ h2 (by simpa using hne)).trans (h3 j hj)⟩
theorem Ch.turn {w w' : World} {A A2 : Option Addr} {n c R : Nat} {l : List Op3} (h : Ch w A l) (hR : Blk w R #[.slice A2 n c] 75) (k : Chg [R] w w') : Ch w' A l := by
  rcases h with h | ⟨b, off, rfl, h2, h3⟩
  · exact .inl h
  · by_cases h0 : l.length = 0
    · exact .inl h0
    · have hne : b ≠ R := by
        rintro rfl
        have e1 := (h3 0 (by omega)).1
        rw [hR.cell] at e1
        match off, e1 with
        | 0, e1 => simp at e1
        | n + 1, e1 => simp at e1
      exact .inr ⟨b, off, rfl, Nat.lt_of_lt_of_le h2 k.size, fun j hj => ⟨(k.oldCell _ _ h2 (by simpa using hne)).trans (h3 j hj).1, (k.oldCell _ _ h2 (by simpa using hne)).trans (h3 j hj).2.1, (k.oldCell _ _ h2 (by simpa using hne)).trans (h3 j hj).2.2⟩⟩
theorem Rd.ext {w w' : World} {R N : Nat} {l : List UInt8} (h : Rd w R N l) (x : Ext w w') : Rd w' R N l := by
  obtain ⟨A, c, h1, h2, h3, h4, h5⟩ := h
  exact ⟨A, c, h1.ext x, h2, h3, h4.ext x, h5⟩
theorem Rd.blk {w : World} {R N : Nat} {l : List UInt8} (h : Rd w R N l) : ∃ A c, Blk w R #[.slice A l.length c] 75 := by
  obtain ⟨A, c, h1, _⟩ := h
  exact ⟨A, c, h1⟩
theorem take_nil {w : World} {R N : Nat} (h : Rd w R N []) : Calls Tryz.prog 33 #[(.pointer (some ⟨R, 0, none⟩))] w fun e w' => e = .returned (.tuple #[.int .u8 0, .bool false]) ∧ w = w' := by
  obtain ⟨A, c, h1, _⟩ := h
  have r := h1.cell 0
  clear h1
  go_enter Tryz.func33, Tryz.ntmps33
  go_wp2
  go_ret2
  exact ⟨rfl, rfl⟩
theorem take_cons {w : World} {R N : Nat} {b : UInt8} {l : List UInt8} (h : Rd w R N (b :: l)) : Calls Tryz.prog 33 #[(.pointer (some ⟨R, 0, none⟩))] w fun e w' => e = .returned (.tuple #[.int .u8 (b.toNat : Int), .bool true]) ∧ Rd w' R N l ∧ Chg [R] w w' := by
  obtain ⟨A, c, h1, h2, h3, h4, h5⟩ := h
  obtain ⟨B, off, rfl, hlt, hcell⟩ := h4.at_ (by simp)
  have hBN : B < N := by
    rcases h5 with h5 | h5
    · simp at h5
    · exact h5 _ rfl
  have k0 : w.cell? ⟨B, off, none⟩ = some (.int .u8 (b.toNat : Int)) := hcell 0 (by simp)
  have hl : (b :: l).length = l.length + 1 := rfl
  rw [hl] at h1 h2
  have r := h1.cell 0
  have f := h1.free 0
  have HN := hide (show By (w.setCell ⟨R, 0, none⟩ (.slice (if c = 1 then some ⟨B, off, none⟩ else some ⟨B, off + 1, none⟩) l.length (c - 1))) (if c = 1 then some ⟨B, off, none⟩ else some ⟨B, off + 1, none⟩) l by
    by_cases q : c = 1
    · exact .inl (by omega)
    · rw [if_neg q]
      have hb : By w (some ⟨B, off + 1, none⟩) l := .inr ⟨B, off + 1, rfl, hlt, fun j hj => by
        have := hcell (j + 1) (by simp; omega)
        rw [show off + 1 + j = off + (j + 1) by omega]
        exact this⟩
      exact hb.turn h1 ((Chg.refl [R] w).set (p := ⟨R, 0, none⟩) (.inl (by simp)) _))
  have HB := hide (h1.set 0 (.slice (if c = 1 then some ⟨B, off, none⟩ else some ⟨B, off + 1, none⟩) l.length (c - 1)))
  have HC := hide ((Chg.refl [R] w).set (p := ⟨R, 0, none⟩) (.inl (by simp)) (.slice (if c = 1 then some ⟨B, off, none⟩ else some ⟨B, off + 1, none⟩) l.length (c - 1)))
  have hc1 : 1 ≤ c := by omega
  clear h1 hcell h4
  by_cases q : c = 1
  · subst q
    obtain rfl : l = [] := List.eq_nil_of_length_eq_zero (by omega)
    simp only [if_true, Nat.sub_self, List.length_nil] at HN HB HC
    go_enter Tryz.func33, Tryz.ntmps33
    go_wp2_with fail
    all_goals
      go_ret2
      exact ⟨rfl, ⟨_, _, HB.out, by simp, by omega, HN.out, .inr (fun b e => by cases e; exact hBN)⟩, HC.out⟩
  · simp only [if_neg q] at HN HB HC
    go_enter Tryz.func33, Tryz.ntmps33
    go_wp2_with fail
    all_goals
      go_ret2
      exact ⟨rfl, ⟨_, _, HB.out, by omega, by omega, HN.out, .inr (fun b e => by cases e; exact hBN)⟩, HC.out⟩
theorem Rd.kp {ts : List TypeId} {w w' : World} {R N : Nat} {l : List UInt8} (h : Rd w R N l) (k : Kp ts N w w') (hn : 75 ∉ ts) : Rd w' R N l := by
  obtain ⟨A, c, h1, h2, h3, h4, h5⟩ := h
  refine ⟨A, c, k.blk h1 hn, h2, h3, ?_, h5⟩
  rcases h5 with h5 | h5
  · exact .inl h5
  rcases h4 with h4 | ⟨b, off, rfl, q2, q3⟩
  · exact .inl h4
  · exact .inr ⟨b, off, rfl, Nat.lt_of_lt_of_le q2 k.size, fun j hj => (World.cell?_of_block (a := ⟨b, off + j, none⟩) (k.block b q2 (.inl (h5 _ rfl)))).trans (q3 j hj)⟩
theorem Kp.low {ts : List TypeId} {B N : Nat} {w w' : World} (h : Kp ts B w w') (hN : N ≤ B) : Kp ts N w w' :=
  ⟨h.os, h.tape, h.output, h.size, fun k hk hq => h.block k hk (hq.elim (fun q => .inl (by omega)) .inr)⟩
theorem Kp.grow {ts : List TypeId} {B n size : Nat} {w w' : World} {e : TypeId} {v : Value} {xs : List Value} (h : w.grownBy w' v.ownBlock) (ho : w.ownsRow B e size v n xs) (ht : e ∈ ts) : Kp ts B w w' :=
  ⟨h.os, h.tape, h.output, h.size, fun k hk hq => h.block k hk (fun q => by
    obtain ⟨cs, hb⟩ := own_blk ho k q.symm
    rcases hq with hq | hq
    · have := own_row ho k q.symm
      omega
    · exact hq cs e hb ht)⟩
/-- What several answers: so many bytes, if there are. -/
def SevR (R N m : Nat) (l : List UInt8) (e : Ending) (w' : World) : Prop :=
  (m ≤ l.length ∧ (∃ A c, e = .returned (.tuple #[.slice A m c, .bool true]) ∧ m ≤ c ∧ c ≤ maxLen ∧ By w' A (l.take m)) ∧ Rd w' R N (l.drop m)) ∨
  (l.length < m ∧ e = .returned (.tuple #[.slice none 0 0, .bool false]))
theorem several_any {w : World} {R N : Nat} (m : Nat) (hm : m ≤ 1000) (hN : N ≤ w.heap.size) {l : List UInt8} (h : Rd w R N l) :
    Calls Tryz.prog 75 #[(Value.func (.func 33) #[.pointer (some ⟨R, 0, none⟩)] #[]), .int .i64 (m : Int)] w fun e w' => SevR R N m l e w' ∧ Chg [R] w w' := by
  obtain ⟨w2, hmk, hown, hx⟩ := make_own 31 5 Tryz.underlying31 inf_u8 w m (by omega) (by unfold maxLen; omega) w.heap.size (Nat.le_refl _)
  have HR := hide (h.ext hx)
  have hRlt : R < w.heap.size := by obtain ⟨A, c, h1, _⟩ := h; exact h1.lt
  have HX := hide hx
  clear hx h
  go_enter Tryz.func75, Tryz.ntmps75
  go_wp2_with fail
  clear hmk
  generalize some (⟨w.heap.size, 0, none⟩ : Addr) = A9 at *
  go_loopw [6, 12] (fun v i wr => ∃ j : Nat, j ≤ m ∧ j ≤ l.length ∧ i = .int .i64 (j : Int) ∧ wr.ownsRow w.heap.size 5 1 v j (bcells (l.take j)) ∧ Rd wr R N (l.drop j) ∧ Chg [R] w wr) (fun _ i _ => m - (intOf i).toNat)
  case atStart => exact ⟨0, by omega, by omega, rfl, by simpa [bcells] using hown, by simpa using HR.out, HX.out.chg _⟩
  case round =>
    clear hown
    obtain ⟨j, hj, hjl, rfl, hown, hrd, hc⟩ := hrel
    by_cases hlt : j < m
    · have hltI : (j : Int) < (m : Int) := by omega
      rcases Nat.lt_or_ge j l.length with hjl2 | hjl2
      · have hd : l.drop j = l[j] :: l.drop (j + 1) := (List.drop_eq_getElem_cons hjl2)
        rw [hd] at hrd
        have HT := hide (show bcells (l.take (j + 1)) = bcells (l.take j) ++ [.int .u8 (l[j].toNat : Int)] by rw [List.take_add_one, List.getElem?_eq_getElem hjl2, bcells_app]; rfl)
        have HO := hide hown
        have HC := hide hc
        have htk := take_cons hrd
        obtain ⟨A3, c3, rfl⟩ := own_sl hown
        generalize l[j] = b at *
        clear hown hc hrd
        go_wp2_with fail
        refine htk.mono ?_
        rintro e w3 ⟨rfl, hrd3, hc3⟩
        have HO3 := hide (own_chg HO.out hc3 (fun t ht => by rw [List.mem_singleton.1 ht]; exact hRlt))
        have hs3 : w.heap.size ≤ w3.heap.size := Nat.le_trans HC.out.size hc3.size
        have HC3 := hide (HC.out.trans hc3)
        clear hc3
        go_wp2_with (at_builtin; refine wpList_app3 (base := w.heap.size) rfl rfl Tryz.underlying31 inf_u8 rfl (by omega) rfl HO3.out hs3 rfl rfl rfl (by simp [Value.oneCell']) (by unfold maxLen; omega) (by omega) ?_; intro v' w4 hown' hg4 hk4; go_frame)
        have HO4 := hide (own_ext HO3.out (Ext.alloc w3 (.cells #[.int .u8 (b.toNat : Int)] 5)))
        have hg5 : (w3.alloc (.cells #[.int .u8 (b.toNat : Int)] 5)).grownBy w4 (Value.slice A3 j c3).ownBlock := hg4
        have k4 := (Kp.grow (ts := [5]) hg5 HO4.out (by simp)).low hN
        have hrd4 := (hrd3.ext (Ext.alloc w3 (.cells #[.int .u8 (b.toNat : Int)] 5))).kp k4 (by decide)
        have hc4 : Chg [R] w w4 := Chg.of_row (HC3.out.trans ((Ext.alloc w3 (.cells #[.int .u8 (b.toNat : Int)] 5)).chg _)) hg5 (fun k hk => own_row HO3.out k hk)
        clear hg4 hg5 hk4
        go_roundw
        case rel => exact ⟨j + 1, by omega, by omega, by go_num, by rw [HT.out]; exact hown', hrd4, hc4⟩
        case measure => simp [intOf]; omega
      · have hd : l.drop j = [] := List.drop_eq_nil_of_le hjl2
        rw [hd] at hrd
        have htk := take_nil hrd
        have HC := hide hc
        clear hown hc hrd
        go_wp2_with fail
        refine htk.mono ?_
        rintro e w3 ⟨rfl, rfl⟩
        go_wp2_with fail
        go_ret2
        exact ⟨.inr ⟨by omega, rfl⟩, HC.out⟩
    · obtain rfl : j = m := by omega
      have HC := hide hc
      have HRD := hide hrd
      have hlen : (l.take j).length = j := by rw [List.length_take]; omega
      obtain ⟨A4, c4, rfl, hle, hmx, hby⟩ := By.of_own (l := l.take j) hown
      rw [hlen] at hle
      have HBY := hide hby
      have HL := hide hlen
      rw [hlen]
      clear hc hrd hown hby
      have h3 : ¬ (j : Int) < (j : Int) := by omega
      go_wp2_with fail
      go_ret2
      exact ⟨.inl ⟨hjl, ⟨A4, c4, rfl, hle, hmx, HBY.out⟩, HRD.out⟩, HC.out⟩
end Go.Proofs.YtlgomkocalieeaaGreatDoor
