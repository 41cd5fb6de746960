/- The program's Right. -/
import Derived.Test.YtacneghgimfklaaK3
import Derived.Test.YtacneghgimfklaaG8
import Derived.Test.YtacneghgimfklaaG9
namespace Go.Proofs.Ytacneghgimfklaa
open Go.RowKit Go.Maps
set_option linter.unusedSimpArgs false
set_option linter.unusedVariables false
set_option maxRecDepth 100000
set_option maxHeartbeats 8000000



theorem kinf_g (x : Ent) : (Try.prog.info? 36).map (·.size) = some (ec x).toList.length := by kernel_rfl
theorem kinf_gs (x : Ent) : (Try.prog.info? 36).map (·.size) = some (ec x).size := by kernel_rfl
theorem kwpList_newg {ops : Array Oper} {rest : List Oper} {o : Oper} {a : Act} {w : World} {Q : Exit → Act → World → Prop} (hgd : o.guard = none) (p q : Operand) (ho : o.op = .store 36 p q) (x : Ent)
    (hx : a.eval p = .pointer (some ⟨w.heap.size, 0, none⟩)) (hy : a.eval q = .agg (ec x)) (h : wpList Try.prog ops Q rest (a.put o.dst undef) (w.alloc (.cells (ec x) 36))) : wpList Try.prog ops Q (o :: rest) a (w.alloc (.cells #[Value.int .i64 0, .int .i64 0, .int .i64 0, .int .i64 0, .int .i64 0, .int .i64 0, .int .i64 0, .int .i64 0, .int .i64 0, .int .i64 0, .int .i64 0, .int .i64 0, .int .i64 0] 36)) :=
  wpList_store_row hgd 36 p q ho w.heap.size (ec x) hx hy 36 #[Value.int .i64 0, .int .i64 0, .int .i64 0, .int .i64 0, .int .i64 0, .int .i64 0, .int .i64 0, .int .i64 0, .int .i64 0, .int .i64 0, .int .i64 0, .int .i64 0, .int .i64 0] (Blk.new w #[Value.int .i64 0, .int .i64 0, .int .i64 0, .int .i64 0, .int .i64 0, .int .i64 0, .int .i64 0, .int .i64 0, .int .i64 0, .int .i64 0, .int .i64 0, .int .i64 0, .int .i64 0] 36) (kinf_gs x) rfl (kall_ec x) (by rw [World.setRow_alloc_new]; exact h)
theorem gright_no {n m k : Int} (h : okN n m k = false) (A : Option Addr) (nn cc : Nat) (w : World) : Calls Try.prog 8 #[.int .i64 n, .int .i64 m, .int .i64 k, .slice A nn cc] w fun e w' => e = .returned (.tuple #[.int .i64 0, .bool (decide (nn = 0))]) ∧ Ext w w' := by
  have cn := fun w' => start_no h w'
  clear h
  have E : ((nn : Int) == 0) = decide (nn = 0) := by rw [Bool.eq_iff_iff]; simp
  obtain ⟨zz, hz1, hz2, hz3, hz4⟩ : ∃ zz : Array Value, (∀ w, (zeroValue 69).run Try.prog w = .ok (.agg zz) w) ∧ ¬ zz = #[] ∧ ¬ zz.size < 2 ∧ zz.size = 75 := ⟨gl 0 0 none D0 [], fun w => by kernel_rfl, by decide +kernel, by decide +kernel, by decide +kernel⟩
  have HZ := hide hz4
  clear hz4
  go_enter Try.func8, Try.ntmps8
  go_wp2_with fail
  refine (cn _).mono ?_
  rintro e w1 ⟨rfl, hX⟩
  have HX := hide hX
  clear hX cn
  go_wp2_with (with_reducible refine wpList_cput rfl _ _ rfl w1.heap.size _ _ _ _ rfl rfl zz (Blk.new w1 zz 69) HZ.out ?_; intro w' hb' hc' hs'; have hc2 := ((Ext.alloc w1 (.cells zz 69)).chg [w1.heap.size]).trans hc'; clear hc' hs'; have HB := hide hb'; clear hb'; go_frame)
  go_ret2
  exact ⟨by simp, HX.out.turn hc2 (by simpa using HX.out.size)⟩
theorem gright_ok {n m k : Nat} (h : okN n m k = true) (A : Option Addr) (nn cc : Nat) (f : Nat → Ent) (w : World) (hn : nn ≤ 1000) (hs : RgS w A nn f) (hf : ∀ i, i < nn → wfI (f i).ea) :
    Calls Try.prog 8 #[.int .i64 (n : Int), .int .i64 (m : Int), .int .i64 (k : Int), .slice A nn cc] w fun e w' => e = .returned (.tuple #[.int .i64 (cntR (st0 n m k) f nn : Int), .bool (decide (cntR (st0 n m k) f nn = nn))]) ∧ Ext w w' := by
  have cn := fun w' => start_ok h w'
  have NN := hide (show (st0 n m k).N = n ∧ (st0 n m k).M = m from ⟨rfl, rfl⟩)
  have HSS := hide hs
  have HF := hide hf
  clear h hs hf
  generalize st0 n m k = S0 at *
  obtain ⟨zz, hz1, hz2, hz3, hz4⟩ : ∃ zz : Array Value, (∀ w, (zeroValue 69).run Try.prog w = .ok (.agg zz) w) ∧ ¬ zz = #[] ∧ ¬ zz.size < 2 ∧ zz.size = 75 := ⟨gl 0 0 none D0 [], fun w => by kernel_rfl, by decide +kernel, by decide +kernel, by decide +kernel⟩
  have HZ := hide hz4
  clear hz4
  go_enter Try.func8, Try.ntmps8
  go_wp2_with fail
  refine (cn _).mono ?_
  rintro e w1 ⟨B, W, L, rfl, hm, hB, hW, hL, hX⟩
  have HM := hide hm
  have HX := hide hX
  have lt := hm.lt
  have LT := hide (And.intro hB (And.intro hW hL))
  clear hX hm cn hB hW hL
  go_wp2_with (with_reducible refine wpList_cput rfl _ _ rfl w1.heap.size _ _ _ _ rfl rfl zz (Blk.new w1 zz 69) HZ.out ?_; intro w' hb' hc' hs'; have hc2 := ((Ext.alloc w1 (.cells zz 69)).chg [w1.heap.size]).trans hc'; clear hc' hs'; have HB := hide hb'; clear hb'; go_frame)
  have HC := hide (show CT w' w1.heap.size 69 [] B W L S0 D0 from ⟨by rw [NN.out.1, NN.out.2]; exact HB.out, HM.out.chg hc2 (by simp; omega) (by simp; omega) (by simp; omega), by simp; omega⟩)
  have HX := hide (HX.out.turn hc2 (by simpa using HX.out.size))
  have CL := hide (show w.heap.size ≤ w1.heap.size by have := lt; have := LT.out; omega)
  clear hc2 HB HM lt hz1 hz2 hz3
  generalize w1.heap.size = C at *
  go_loopw [28] (fun v wr => ∃ (j : Nat), j ≤ nn ∧ v = .int .i64 (j : Int) ∧ CT wr C 69 [] B W L (stN S0 f j).1 (stN S0 f j).2 ∧ (∀ i, i < j → okJ S0 f i = true) ∧ Ext w wr) (fun v _ => nn - (intOf v).toNat)
  case atStart => exact ⟨0, by omega, rfl, HC.out, fun i hi => by omega, HX.out⟩
  case round =>
    clear HC HX
    obtain ⟨j, hj, rfl, hc, hok, hX⟩ := hrel
    by_cases hlt : j < nn
    · obtain ⟨b, off, rfl, hrg⟩ := HSS.out.at_ hX hlt
      have hwa := HF.out j hlt
      have bd := stN_bd S0 f j
      have j60 : j ≤ 1000000000 := by omega
      have CE := hide (fun e : okJ S0 f j = false => cnt_eq hok hj (fun _ => e))
      have HN1 := hide (show stN S0 f (j + 1) = (takeS (stN S0 f j).1 (stN S0 f j).2 (f j), takeD (stN S0 f j).1 (stN S0 f j).2 (f j)) from rfl)
      have OKA := hide hok
      have xx := Ext.alloc wr (.cells (ec (f j)) 36)
      have ct := take_any (hc.ext xx) (f j) hwa bd j60
      rw [show takeB (stN S0 f j).1 (stN S0 f j).2 (f j) = okJ S0 f j from rfl] at ct
      have RG := hide hrg
      have RG2 := hide (kblk_rng (Blk.new wr (ec (f j)) 36))
      have HX := hide (hX.trans xx)
      clear hrg hX hc hok bd xx
      generalize f j = x at *
      go_wp2_with (first | (with_reducible refine wpList_load_mid rfl 36 _ rfl b (off + j * 13) rfl (ec x).toList _ RG.out Try.underlying36 rfl (kinf_g _) ?_; rw [Array.toArray_toList]; go_frame) | (with_reducible refine kwpList_newg rfl _ _ rfl x rfl rfl ?_; go_frame) | (with_reducible refine wpList_load_mid rfl 36 _ rfl wr.heap.size 0 rfl (ec x).toList _ RG2.out Try.underlying36 rfl (kinf_g _) ?_; rw [Array.toArray_toList]; go_frame))
      cases qb : okJ S0 f j
      · rw [qb] at ct
        have CE := hide (CE.out qb)
        refine ct.mono ?_
        rintro e w5 ⟨rfl, hc5, cc5⟩
        have HX := hide (HX.out.turn cc5 (by have := LT.out; have := CL.out; simp; omega))
        clear hc5 cc5 ct
        go_wp2_with fail
        go_ret2
        exact ⟨by rw [CE.out]; simp; omega, HX.out⟩
      · rw [qb] at ct
        refine ct.mono ?_
        rintro e w5 ⟨rfl, hc5, cc5⟩
        have HX := hide (HX.out.turn cc5 (by have := LT.out; have := CL.out; simp; omega))
        have HC := hide hc5
        clear hc5 cc5 ct
        go_wp2_with fail
        go_roundw
        case rel =>
          refine ⟨j + 1, by omega, by go_num, ?_, ?_, HX.out⟩
          · rw [HN1.out]; exact HC.out
          · intro i hi
            by_cases e : i = j
            · subst e; exact qb
            · exact OKA.out i (by omega)
        case measure => simp [intOf]; omega
    · have CE := hide (cnt_eq hok hj (fun h => absurd h hlt))
      have jnn : j = nn := by omega
      subst jnn
      have HX := hide hX
      clear hc hok hX
      go_wp2_with fail
      go_ret2
      exact ⟨by rw [CE.out]; simp, HX.out⟩
end Go.Proofs.Ytacneghgimfklaa
