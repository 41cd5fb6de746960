/- Bytes come back; a program that nests has no depth below 0. Of no program. -/
import Derived.Test.YtapalbokfbobhaaDoorF2
import Derived.Test.YtapalbokfbobhaaDoorG2
namespace Go.Proofs.YtapalbokfbobhaaDoor
set_option linter.unusedSimpArgs false
set_option linter.unusedVariables false
theorem opB_pb {x : Op3} (h : mayO x = true) (hf : fitO x = true) : opB (UInt8.ofNat (x.1 + 16 * x.2.1).toNat) (UInt8.ofNat (x.2.2 % 256).toNat) (UInt8.ofNat (x.2.2 / 256).toNat) = x := by
  obtain ⟨h1, h2, h3, h4, h5, _⟩ := may_out h
  have hf : x.2.2 ≤ 65535 := of_decide_eq_true hf
  obtain ⟨k, o, a⟩ := x
  simp only at h1 h2 h3 h4 h5 hf ⊢
  have e : ∀ n : Int, 0 ≤ n → n < 256 → ((UInt8.ofNat n.toNat).toNat : Int) = n := by
    intro n q1 q2
    rw [UInt8.toNat_ofNat']
    have : n.toNat % 2 ^ 8 = n.toNat := Nat.mod_eq_of_lt (by omega)
    rw [this]; omega
  unfold opB
  rw [e _ (by omega) (by omega), e _ (by omega) (by omega), e _ (by omega) (by omega)]
  refine Prod.ext (by simp only; omega) (Prod.ext (by simp only; omega) (by simp only; omega))
theorem ops_bytes {l : List Op3} (h : l.all mayO = true) (hf : fits l = true) : opsB (bytesO l) = l := by
  unfold fits at hf
  induction l with
  | nil => rfl
  | cons x l ih =>
    simp only [List.all_cons, Bool.and_eq_true] at h hf
    have : bytesO (x :: l) = UInt8.ofNat (x.1 + 16 * x.2.1).toNat :: UInt8.ofNat (x.2.2 % 256).toNat :: UInt8.ofNat (x.2.2 / 256).toNat :: bytesO l := rfl
    rw [this, opsB, opB_pb h.1 hf.1, ih h.2 hf.2]
/-- What is packed is unpacked. -/
theorem unpack_bytes {l : List Op3} (h : wrongO l = 0) (hf : fits l = true) : unpackO (bytesO l) = (l, 0) := by
  obtain ⟨h64, hall⟩ := wrong_out h
  have hl := bytesO_length l
  unfold unpackO
  rw [if_pos (by omega), if_neg (by omega), ops_bytes hall hf, if_pos hall]
theorem pb_opB (b0 b1 b2 : UInt8) : pbO (opB b0 b1 b2) = [b0, b1, b2] ∧ fitO (opB b0 b1 b2) = true := by
  have l0 := b0.toNat_lt
  have l1 := b1.toNat_lt
  have l2 := b2.toNat_lt
  have e : ∀ (b : UInt8) (n : Int), n.toNat = b.toNat → UInt8.ofNat n.toNat = b := fun b n q => by rw [q]; simp
  unfold pbO opB fitO
  simp only
  rw [e b0 _ (by omega), e b1 _ (by omega), e b2 _ (by omega)]
  exact ⟨rfl, decide_eq_true (by omega)⟩
theorem bytes_ops (n : Nat) : ∀ b : List UInt8, b.length ≤ n → b.length % 3 = 0 → bytesO (opsB b) = b ∧ fits (opsB b) = true ∧ (opsB b).length * 3 = b.length := by
  induction n with
  | zero =>
    intro b hb _
    obtain rfl : b = [] := List.eq_nil_of_length_eq_zero (by omega)
    exact ⟨rfl, rfl, rfl⟩
  | succ n ih =>
    intro b hb h3
    rcases b with _ | ⟨b0, _ | ⟨b1, _ | ⟨b2, r⟩⟩⟩
    · exact ⟨rfl, rfl, rfl⟩
    · simp at h3
    · simp at h3
    · obtain ⟨h1, h2, h4⟩ := ih r (by simp at hb; omega) (by simp at h3; omega)
      obtain ⟨e1, e2⟩ := pb_opB b0 b1 b2
      refine ⟨?_, ?_, ?_⟩
      · have : bytesO (opsB (b0 :: b1 :: b2 :: r)) = pbO (opB b0 b1 b2) ++ bytesO (opsB r) := rfl
        rw [this, e1, h1]; rfl
      · have : fits (opsB (b0 :: b1 :: b2 :: r)) = (fitO (opB b0 b1 b2) && fits (opsB r)) := rfl
        rw [this, e2, h2]; rfl
      · have : (opsB (b0 :: b1 :: b2 :: r)).length = (opsB r).length + 1 := rfl
        rw [this]; simp; omega
/-- What is unpacked is packed to the same bytes. -/
theorem bytes_unpack {b : List UInt8} {m : List Op3} (h : unpackO b = (m, 0)) : wrongO m = 0 ∧ fits m = true ∧ bytesO m = b := by
  unfold unpackO at h
  split at h
  · rename_i h3
    split at h
    · cases h
    · rename_i h64
      split at h
      · rename_i hall
        obtain rfl : opsB b = m := by simpa using h
        obtain ⟨h1, h2, h4⟩ := bytes_ops b.length b (Nat.le_refl _) h3
        refine ⟨?_, h2, h1⟩
        unfold wrongO; rw [if_neg (by omega), if_pos hall]
      · cases h
  · cases h
theorem unpack_err_nil {b : List UInt8} (h : (unpackO b).2 ≠ 0) : (unpackO b).1 = [] := by
  unfold unpackO at h ⊢
  repeat' split
  all_goals first | rfl | skip
  simp_all
theorem count_last {es : List Int} {o : Int} (h : es.getLast? = some o) (p : Int) : (es.count p : Int) = (es.dropLast.count p : Int) + (if o = p then 1 else 0) := by
  have hne : es ≠ [] := by rintro rfl; cases h
  have hl : es.getLast hne = o := by rw [List.getLast?_eq_some_getLast hne] at h; exact Option.some.inj h
  have e := List.dropLast_concat_getLast hne
  rw [hl] at e
  conv => lhs; rw [← e]
  rw [List.count_append]
  by_cases q : o = p
  · subst q; simp
  · rw [if_neg q, List.count_singleton]; simp [q]
theorem nest_depth (l : List Op3) : ∀ es, nestO l es = true → ∀ (i : Nat) (p : Int), 0 ≤ (es.count p : Int) + depO (l.take i) p := by
  induction l with
  | nil => intro es _ i p; simp [depO]
  | cons x l ih =>
    intro es h i p
    cases i with
    | zero => simp [depO]
    | succ i =>
      rw [List.take_succ_cons, depO]
      rw [nestO] at h
      split at h
      · rename_i h1
        have := ih _ h i p
        rw [List.count_append] at this
        unfold kd
        by_cases q : x.2.1 = p
        · rw [if_pos q, if_pos h1]; subst q; simp at this; omega
        · rw [if_neg q]; rw [List.count_singleton] at this; simp [q] at this; omega
      · rename_i h1
        split at h
        · rename_i h3
          split at h
          · rename_i hl
            have := ih _ h i p
            have hc := count_last hl p
            unfold kd
            by_cases q : x.2.1 = p
            · rw [if_pos q, if_neg h1, if_pos h3]; rw [if_pos q] at hc; omega
            · rw [if_neg q]; rw [if_neg q] at hc; omega
          · cases h
        · rename_i h3
          have := ih _ h i p
          unfold kd
          rw [if_neg h1, if_neg h3]
          split <;> omega
/-- A program that nests has no depth below 0. -/
theorem nests_depth {l : List Op3} (h : nestO l [] = true) (i : Nat) (p : Int) : 0 ≤ depO (l.take i) p := by
  have := nest_depth l [] h i p
  simpa using this
end Go.Proofs.YtapalbokfbobhaaDoor
