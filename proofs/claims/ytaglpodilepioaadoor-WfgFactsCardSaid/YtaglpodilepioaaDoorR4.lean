/- The document's Reach. -/
import Derived.Test.YtaglpodilepioaaDoorR3
namespace Go.Proofs.YtaglpodilepioaaDoor
open Go.RowKit
set_option linter.unusedSimpArgs false
set_option linter.unusedVariables false
set_option maxRecDepth 100000
set_option maxHeartbeats 4000000


noncomputable def fR (L : EL) (i : Int) : NS := if isN i then wayS (eg L) i.toNat else non
def Cl (L : EL) (i : Int) (m : NS) : Prop := ∀ p, p ∈ L → ((p.1 : Int) = i ∨ m p.1 = true) → m p.2 = true
structure Mt (L : EL) (i : Int) (m0 m : NS) (q : Nat) : Prop where
  sub : ∀ k, m0 k = true → m k = true
  snd : ∀ k, k < 64 → m k = true → fR L i k = true
  done : ∀ k, k < q → ∀ p, L[k]? = some p → ((p.1 : Int) = i ∨ m0 p.1 = true) → m p.2 = true
  ch : (∀ k, m k = m0 k) ∨ cn m0 64 < cn m 64
  cl : Cl L i m0 → ∀ k, m k = m0 k
theorem fR_edge {L : EL} (hL : LOk L) {i : Int} {p : Nat × Nat} (hp : p ∈ L) (h : (p.1 : Int) = i ∨ fR L i p.1 = true) : fR L i p.2 = true := by
  have he : eg L p.1 p.2 = true := by simp [eg, hp]
  have hp2 := (hL.2 p hp).2
  rcases h with rfl | h
  · unfold fR
    rw [if_pos (isN_nat (hL.2 p hp).1), Int.toNat_natCast]
    exact wayS_iff.2 ⟨0, wk_one hp2 he⟩
  · unfold fR at h ⊢
    split at h
    · rw [if_pos (by assumption)]
      obtain ⟨n, hw⟩ := wayS_iff.1 h
      exact wayS_iff.2 ⟨n + 1, wk_snoc hw hp2 he⟩
    · simp [non] at h
theorem Mt.at0 {L : EL} {i : Int} {m0 : NS} (h : ∀ k, k < 64 → m0 k = true → fR L i k = true) : Mt L i m0 m0 0 :=
  ⟨fun _ h => h, h, fun k hk => by omega, .inl fun _ => rfl, fun _ _ => rfl⟩
theorem Mt.skip {L : EL} {i : Int} {m0 m : NS} {q : Nat} (h : Mt L i m0 m q) {p : Nat × Nat} (hp : L[q]? = some p) (hn : ¬ ((p.1 : Int) = i ∨ m p.1 = true)) : Mt L i m0 m (q + 1) :=
  ⟨h.sub, h.snd, fun k hk p' hp' hh => by
    by_cases e : k = q
    · subst e
      rw [hp] at hp'
      obtain rfl := Option.some.inj hp'
      exact absurd (hh.imp id (h.sub _)) hn
    · exact h.done k (by omega) p' hp' hh, h.ch, h.cl⟩
def setB (m : NS) (a : Nat) : NS := fun k => if k = a then true else m k
theorem Mt.put {L : EL} (hL : LOk L) {i : Int} {m0 m : NS} {q : Nat} (h : Mt L i m0 m q) {p : Nat × Nat} (hp : L[q]? = some p) (hh : (p.1 : Int) = i ∨ m p.1 = true) : Mt L i m0 (setB m p.2) (q + 1) := by
  have hm := List.mem_of_getElem? hp
  have hlt := hL.2 p hm
  have hf : fR L i p.2 = true := fR_edge hL hm (hh.imp id (h.snd _ hlt.1))
  refine ⟨fun k hk => ?_, fun k hk hq => ?_, fun k hk p' hp' hq => ?_, ?_, fun hc => ?_⟩
  · unfold setB; split
    · rfl
    · exact h.sub k hk
  · unfold setB at hq
    by_cases e : k = p.2
    · rw [e]; exact hf
    · rw [if_neg e] at hq; exact h.snd k hk hq
  · unfold setB
    by_cases e : k = q
    · subst e
      rw [hp] at hp'
      obtain rfl := Option.some.inj hp'
      simp
    · split
      · rfl
      · exact h.done k (by omega) p' hp' hq
  · by_cases e : m p.2 = true
    · have : setB m p.2 = m := by
        funext k
        unfold setB
        split
        · rename_i q; rw [q, e]
        · rfl
      rw [this]; exact h.ch
    · right
      have h1 := cn_lt (f := m) (g := setB m p.2) (m := 64) (q := p.2) (fun j _ hj => by unfold setB; split <;> simp [hj]) hlt.2 (by simpa using e) (by simp [setB])
      rcases h.ch with q | q
      · have : cn m 64 = cn m0 64 := cn_congr fun j _ => q j
        omega
      · omega
  · have hm0 := h.cl hc
    intro k
    unfold setB
    split
    · rename_i e
      rw [e]
      exact (hc p hm (hh.imp id (fun q => by rw [hm0] at q; exact q))).symm
    · exact hm0 k
theorem Mt.fin {L : EL} {i : Int} {m0 m : NS} {r : Nat} (h : Mt L i m0 m L.length) (hr : r ≤ cn m0 64 ∨ Cl L i m0) : r + 1 ≤ cn m 64 ∨ Cl L i m := by
  have hcl : (∀ k, m k = m0 k) → Cl L i m := fun he p hp hh => by
    obtain ⟨k, hk⟩ := List.getElem?_of_mem hp
    exact h.done k (List.getElem?_eq_some_iff.1 hk).1 p hk (hh.imp id (fun q => by rw [he] at q; exact q))
  rcases hr with q | q
  · rcases h.ch with e | e
    · exact .inr (hcl e)
    · left; omega
  · exact .inr (hcl (h.cl q))
theorem Mt.all {L : EL} (hL : LOk L) {i : Int} {m : NS} (hs : ∀ k, k < 64 → m k = true → fR L i k = true) (hr : 64 ≤ cn m 64 ∨ Cl L i m) : ∀ k, k < 64 → m k = fR L i k := by
  have hcl : Cl L i m := by
    rcases hr with q | q
    · have := cn_le m 64
      have := cn_all (f := m) (m := 64) (by omega)
      exact fun p hp _ => this _ (hL.2 p hp).2
    · exact q
  intro k hk
  rw [Bool.eq_iff_iff]
  refine ⟨hs k hk, fun hf => ?_⟩
  unfold fR at hf
  split at hf
  · rename_i hi
    obtain ⟨t, rfl, ht⟩ := isN_ex hi
    rw [Int.toNat_natCast] at hf
    obtain ⟨n, hw⟩ := wayS_iff.1 hf
    have key : ∀ n x, (x = t ∨ m x = true) → wk (eg L) (n + 1) x k → m k = true := by
      intro n
      induction n with
      | zero =>
        rintro x hx ⟨y, hy, he, hyk⟩
        obtain rfl : y = k := hyk
        exact hcl (x, y) (by simpa [eg] using he) (hx.imp (fun q => by simp [q]) id)
      | succ n ih =>
        rintro x hx ⟨y, hy, he, hw⟩
        exact ih y (.inr (hcl (x, y) (by simpa [eg] using he) (hx.imp (fun q => by simp [q]) id))) hw
    exact key n t (.inl rfl) hw
  · simp [non] at hf
def bw (m : NS) (k : Nat) : Value := .bool (m k)
def bc (m : NS) : Array Value := r64 (bw m)
theorem bc_at {m : NS} {i : Nat} (h : i < 64) : (bc m)[i]? = some (.bool (m i)) := r64_at h
theorem bc_set {m : NS} {a : Nat} (h : a < 64) : (bc m).setIfInBounds a (.bool true) = bc (setB m a) :=
  r64_set h (by simp [bw, setB]) (fun k hk => by simp [bw, setB, hk])
def zrb : Array Value := ((List.range 64).map fun _ => Value.bool false).toArray
theorem bc_zero : bc non = zrb := rfl
theorem rreach_any {R : Nat} {L : EL} (i : Int) (w : World) (h : RG w R 0 L) (hL : LOk L) (hl : L.length < 1000) : Calls Tryd.prog 15 #[.pointer (some ⟨R, 0, none⟩), .int .i64 i] w fun e w' =>
    ∃ v, e = .returned v ∧ Row w' w.heap.size v (setL (fR L i)) ∧ Ext w w' := by
  obtain ⟨zi, hz1, hz2, hz3, hz5, hz4⟩ : ∃ zz : Array Value, (∀ w, (zeroValue 52).run Tryd.prog w = .ok (.agg zz) w) ∧ ¬ zz = #[] ∧ ¬ zz.size < 2 ∧ zz.size = 64 ∧ zz = zrb := ⟨_, fun w => by kernel_rfl, by decide +kernel, by decide +kernel, by decide +kernel, rfl⟩
  rw [← bc_zero] at hz4
  have HZ := hide hz4
  clear hz4
  obtain ⟨A, c, hb, ho, hrow⟩ := h.open
  have hRl := hb.lt
  obtain ⟨n, hn⟩ : ∃ n, L.length = n := ⟨_, rfl⟩
  have HN := hide hn
  rw [hn] at hb hl
  have HR := hide hrow
  have hc : ∀ wx, Ext w wx → wx.cell? ⟨R, 0, none⟩ = some (.slice A n c) := fun wx hx => (hb.ext hx).cell 0
  have HC := hide hc
  have HLO := hide hL
  clear hrow h hb hn ho hc hL
  go_enter Tryd.func15, Tryd.ntmps15
  go_upto_region 2 with fail
  have HM := hide (Blk.new w zi 52)
  have HX := hide (Ext.alloc w (.cells zi 52))
  generalize (w.alloc (.cells zi 52)) = W0 at *
  clear hz1 hz2 hz3
  go_wp2_with fail
  go_loopw [6] (fun y wr => ∃ (r : Nat) (m : NS), r ≤ 64 ∧ y = .int .i64 (r : Int) ∧ (∀ k, k < 64 → m k = true → fR L i k = true) ∧ (r ≤ cn m 64 ∨ Cl L i m) ∧ Blk wr w.heap.size (bc m) 52 ∧ Ext w wr) (fun y _ => 64 - (intOf y).toNat)
  case atStart => exact ⟨0, non, by omega, rfl, fun k _ h => by simp [non] at h, .inl (Nat.zero_le _), by rw [← HZ.out]; exact HM.out, HX.out⟩
  case round =>
    clear HM HX
    obtain ⟨r, m0, hr, rfl, hs0, hcn, hM, hX⟩ := hrel
    have HM := hide hM
    have HX := hide hX
    have HS := hide hs0
    have HK := hide hcn
    clear hM hX hs0 hcn
    by_cases hlt : r < 64
    · go_wp2_with fail
      go_loopw [7] (fun y wr => ∃ (q : Nat) (m : NS), q ≤ n ∧ y = .int .i64 (q : Int) ∧ Mt L i m0 m q ∧ Blk wr w.heap.size (bc m) 52 ∧ Ext w wr) (fun y _ => n - (intOf y).toNat)
      case atStart => exact ⟨0, m0, by omega, rfl, Mt.at0 HS.out, HM.out, HX.out⟩
      case round =>
        clear HM HX
        obtain ⟨q, m, hq, rfl, hmt, hM, hX⟩ := hrel
        have HM := hide hM
        have HX := hide hX
        have HT := hide hmt
        have c0 := HC.out _ hX
        clear hM hX hmt
        by_cases hlq : q < n
        · obtain ⟨p, hp⟩ : ∃ p, L[q]? = some p := ⟨_, List.getElem?_eq_getElem (by rw [HN.out]; exact hlq)⟩
          obtain ⟨b, off, rfl, hcc⟩ := HR.out q p hp
          obtain ⟨d1, d2⟩ := hcc _ HX.out
          obtain ⟨hp1, hp2⟩ := HLO.out.2 p (List.mem_of_getElem? hp)
          have m1 := (HM.out.cell p.1).trans (bc_at hp1)
          have f1 := HM.out.free p.2
          have g1 : (p.1 : Int) < 64 := by omega
          have g2 : (p.2 : Int) < 64 := by omega
          have HP := hide hp
          clear hcc hp
          have x1 := fun o => ((HM.out.ext (Ext.alloc wr o)).cell p.1).trans (bc_at hp1)
          have x2 := fun o => ((HM.out.ext (Ext.alloc wr o)).cell p.2).trans (bc_at hp2)
          have x3 := fun o => (HM.out.ext (Ext.alloc wr o)).free p.2
          have hM2 := (HM.out.ext (Ext.alloc wr (.cells #[.int .i64 (p.1 : Int), .int .i64 (p.2 : Int)] 31))).set p.2 (.bool true)
          rw [bc_set hp2] at hM2
          have HM2 := hide hM2
          have HX2 := hide ((HX.out.trans (Ext.alloc wr (.cells #[.int .i64 (p.1 : Int), .int .i64 (p.2 : Int)] 31))).set (p := ⟨w.heap.size, p.2, none⟩) (by simp) (.bool true))
          have HM3 := hide (HM.out.ext (Ext.alloc wr (.cells #[.int .i64 (p.1 : Int), .int .i64 (p.2 : Int)] 31)))
          have HX3 := hide (HX.out.trans (Ext.alloc wr (.cells #[.int .i64 (p.1 : Int), .int .i64 (p.2 : Int)] 31)))
          clear hM2 m1 f1
          by_cases h1 : (p.1 : Int) = i
          · have E1 : ((p.1 : Int) == i) = true := by simp [h1]
            have HT2 := hide (HT.out.put HLO.out HP.out (.inl h1))
            clear h1
            go_wp2_with fail
            go_roundw
            case rel => exact ⟨q + 1, _, by omega, by go_num, HT2.out, HM2.out, HX2.out⟩
            case measure => simp [intOf]; omega
          · have E1 : ((p.1 : Int) == i) = false := by simp [h1]
            by_cases h2 : m p.1 = true
            · have HT2 := hide (HT.out.put HLO.out HP.out (.inr h2))
              rw [h2] at x1
              clear h1 h2
              go_wp2_with fail
              go_roundw
              case rel => exact ⟨q + 1, _, by omega, by go_num, HT2.out, HM2.out, HX2.out⟩
              case measure => simp [intOf]; omega
            · have HT2 := hide (HT.out.skip HP.out (fun q => q.elim h1 h2))
              have h2 : m p.1 = false := by simpa using h2
              rw [h2] at x1
              clear h1 h2
              go_wp2_with fail
              go_roundw
              case rel => exact ⟨q + 1, _, by omega, by go_num, HT2.out, HM3.out, HX3.out⟩
              case measure => simp [intOf]; omega
        · obtain rfl : q = n := by omega
          have HF := hide (Mt.fin (r := r) (by rw [HN.out]; exact HT.out) HK.out)
          have HS2 := hide HT.out.snd
          go_wp2_with fail
          go_roundw
          case rel => exact ⟨r + 1, m, by omega, by go_num, HS2.out, HF.out, HM.out, HX.out⟩
          case measure => simp [intOf]; omega
    · obtain rfl : r = 64 := by omega
      have HF := hide (Mt.all HLO.out HS.out HK.out)
      have HQ := hide (show setL m0 = setL (fR L i) from List.filter_congr fun k hk => HF.out k (List.mem_range.1 hk))
      clear HF
      go_wp2_with fail
      go_loopw [9, 10] (fun v y wr => ∃ k : Nat, k ≤ 64 ∧ y = .int .i64 (k : Int) ∧ Row wr w.heap.size v (low m0 k) ∧ Blk wr w.heap.size (bc m0) 52 ∧ Ext w wr) (fun _ y _ => 64 - (intOf y).toNat)
      case atStart => exact ⟨0, by omega, rfl, own_nil _ _ _ _, HM.out, HX.out⟩
      case round =>
        clear HM HX
        obtain ⟨k, hk, rfl, hO, hM, hX⟩ := hrel
        have HO := hide hO
        have HM := hide hM
        have HX := hide hX
        have hll := low_len m0 k
        clear hO hM hX
        by_cases hlt : k < 64
        · have m1 := (HM.out.cell k).trans (bc_at hlt)
          by_cases hf : m0 k = true
          · rw [hf] at m1
            have HY := hide (low_yes hf)
            clear hf
            generalize low m0 k = l at *
            go_wp2_with (at_builtin; refine wpList_app2 (base := w.heap.size) (n := l.length) (xs := l.map enN) rfl rfl Tryd.underlying38 inf_int rfl (by omega) rfl HO.out HX.out.size rfl rfl rfl (by simp [Value.oneCell']) (by unfold maxLen; omega) (by omega) ?_; intro v' w3 hown' hg3; go_frame)
            have HM2 := hide (blk_kept HM.out HO.out (by decide) hg3)
            have HX2 := hide (Ext.grown (HX.out.trans (Ext.alloc _ _)) hg3 (own_row HO.out))
            go_roundw
            case rel => exact ⟨k + 1, by omega, by go_num, by rw [HY.out]; exact row_snoc hown', HM2.out, HX2.out⟩
            case measure => simp [intOf]; omega
          · have hf : m0 k = false := by simpa using hf
            rw [hf] at m1
            have HY := hide (low_no hf)
            clear hf
            go_wp2_with fail
            go_roundw
            case rel => exact ⟨k + 1, by omega, by go_num, by rw [HY.out]; exact HO.out, HM.out, HX.out⟩
            case measure => simp [intOf]; omega
        · obtain rfl : k = 64 := by omega
          go_wp2_with fail
          go_ret
          exact ⟨_, rfl, by rw [← HQ.out]; exact HO.out, HX.out⟩
end Go.Proofs.YtaglpodilepioaaDoor
