/- The document's numbers and parts. -/
import Derived.Test.YtapalbokfbobhaaDoorC2
namespace Go.Proofs.YtapalbokfbobhaaDoor
open Go.RowKit Go.Sort
set_option linter.unusedSimpArgs false
set_option linter.unusedVariables false
set_option maxRecDepth 100000

theorem rten_small (n : Nat) (hn : n < 10) (w : World) :
    Calls Tryd.prog 35 #[.int .i64 (n : Int)] w fun e w' => e = .returned (Value.string ⟨List.toArray (Lib.decDigits n)⟩) ∧ Ext w w' := by
  have hi : (n : Int) < 10 := by omega
  have hcv : (convert 33 9 (.slice (some ⟨w.heap.size, 0, none⟩) 1 1)).run Tryd.prog (w.alloc (.cells #[.int .u8 (48 + (n : Int))] 5)) = .ok (Value.string ⟨List.toArray ([UInt8.ofNat (48 + n)])⟩) (w.alloc (.cells #[.int .u8 (48 + (n : Int))] 5)) :=
    run_convert_bytes_back (P := Tryd.prog) _ 33 9 5 ⟨w.heap.size, 0, none⟩ 1 [UInt8.ofNat (48 + n)] Tryd.underlying33 Tryd.underlying5 Tryd.underlying9 (fun j hj => by
      obtain rfl : j = 0 := by simp at hj; omega
      rw [show (Addr.add ⟨w.heap.size, 0, none⟩ 0) = ⟨w.heap.size, 0, none⟩ from rfl, (Ext.refl _).boxCell]
      have : (48 + n) % 256 = 48 + n := by omega
      simp [this])
  have hd := hide (Lib.decDigits_one hn)
  go_enter Tryd.func35, Tryd.ntmps35
  go_wp2
  go_ret
  exact ⟨by rw [hd.out]; simp, Ext.alloc _ _⟩
theorem rten_big (n : Nat) (hn : ¬ n < 10) (hm : n ≤ 1000000) (w : World) (ih : ∀ (m : Nat) (w : World), m < n → Calls Tryd.prog 35 #[.int .i64 (m : Int)] w fun e w' => e = .returned (Value.string ⟨List.toArray (Lib.decDigits m)⟩) ∧ Ext w w') :
    Calls Tryd.prog 35 #[.int .i64 (n : Int)] w fun e w' => e = .returned (Value.string ⟨List.toArray (Lib.decDigits n)⟩) ∧ Ext w w' := by
  have hi : ¬ (n : Int) < 10 := by omega
  have q1 : (n : Int) / 10 = ((n / 10 : Nat) : Int) := by omega
  have q2 : (n : Int) % 10 = ((n % 10 : Nat) : Int) := by omega
  have hd : Lib.decDigits n = Lib.decDigits (n / 10) ++ Lib.decDigits (n % 10) := by
    rw [Lib.decDigits, dif_neg hn, Lib.decDigits_one (by omega : n % 10 < 10)]
  have hD := hide hd
  have l1 : (Lib.decDigits (n / 10)).length ≤ 7 := by rw [Lib.decDigits_length]; exact nDigits_le (by omega)
  have l2 : (Lib.decDigits (n % 10)).length ≤ 7 := by rw [Lib.decDigits_length]; exact nDigits_le (by omega)
  have e1 := fun w => add_lists w (Lib.decDigits (n / 10)) (Lib.decDigits (n % 10)) (by omega) (by omega)
  have i1 := fun w => ih (n / 10) w (by omega)
  have i2 := fun w => ih (n % 10) w (by omega)
  clear ih hd
  generalize n / 10 = a at *
  generalize n % 10 = b at *
  go_enter Tryd.func35, Tryd.ntmps35
  go_wp2_with fail
  refine (i1 _).mono ?_
  rintro e w1 ⟨rfl, h1⟩
  go_wp2_with fail
  refine (i2 _).mono ?_
  rintro e w2 ⟨rfl, h2⟩
  go_wp2_with fail
  go_ret
  exact ⟨by rw [hD.out]; rfl, h1.trans h2⟩
theorem rten_any (n : Nat) (hm : n ≤ 1000000) (w : World) :
    Calls Tryd.prog 35 #[.int .i64 (n : Int)] w fun e w' => e = .returned (Value.string ⟨List.toArray (Lib.decDigits n)⟩) ∧ Ext w w' := by
  induction n using Nat.strongRecOn generalizing w with
  | _ n ih =>
    by_cases h : n < 10
    · exact rten_small n h w
    · exact rten_big n h hm w fun m w hmn => ih m hmn (by omega) w
theorem rten_int (n : Int) (h0 : 0 ≤ n) (hm : n ≤ 1000000) (w : World) :
    Calls Tryd.prog 35 #[.int .i64 n] w fun e w' => e = .returned (Value.string ⟨List.toArray (Lib.itoa n)⟩) ∧ Ext w w' := by
  obtain ⟨m, rfl⟩ : ∃ m : Nat, n = m := ⟨n.toNat, by omega⟩
  rw [Lib.itoa_nonneg]
  exact rten_any m (by omega) w
end Go.Proofs.YtapalbokfbobhaaDoor
