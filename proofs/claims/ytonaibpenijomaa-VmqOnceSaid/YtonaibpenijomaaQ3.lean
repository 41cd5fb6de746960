/- Ask. -/
import Derived.Test.YtonaibpenijomaaQ2
import Derived.Deep.RegionHeld3
import Derived.Laws.OwnMore
namespace Go.Proofs.Ytonaibpenijomaa
open Go.RowKit Go.Maps
set_option linter.unusedSimpArgs false
set_option linter.unusedVariables false
set_option maxRecDepth 100000


/-- 'append(v, x..)': the row stays where it lay, or is a new block. -/
theorem app_run {P : Program} {w : World} {base n size bytes : Nat} {t e : TypeId} (ty : TypeId) {z : Value} (ht : P.underlying t = some (.slice e)) (hinf : (P.info? e).map (fun i => (i.zero, i.size, i.bytes)) = some (some z, size, bytes))
    (hzs : z.cells.size = size) (hsz : 0 < size) {v : Value} {xs : List Value} (hown : w.ownsRow base e size v n xs) (hbase : base ≤ w.heap.size)
    {ad : Addr} {m c : Nat} {news : List Value} (hl : news.length = m * size) (hnews : ∀ j u, news[j]? = some u → w.cell? (ad.add j) = some u) (h1 : ∀ u ∈ news, u.oneCell' = true)
    (hn : n + m ≤ maxLen) (hby : (n + m) * bytes ≤ 140737488355328) :
    ∃ v' w', (Builtin.append_ #[t, t] ty #[v, .slice (some ad) m c]).run P w = .ok v' w' ∧ w'.ownsRow base e size v' (n + m) (xs ++ news) ∧ w.grownBy w' v.ownBlock ∧ (∀ k, v'.ownBlock = some k → v.ownBlock = some k ∨ w.heap.size ≤ k) := by
  obtain ⟨i, hi, hz, hsize, hb⟩ := info_parts hinf
  rcases hown.2 with ⟨rfl, rfl⟩ | ⟨g, cap, cur, rfl, hbg, hh, hnc, hcm, hcs2, htake⟩
  · have e0 : xs = [] := List.eq_nil_of_length_eq_zero (by simpa using hown.1)
    subst e0
    obtain ⟨v', w', k1, k2, k3, _⟩ := run_append_own (P := P) w w.heap.size t ty e i z size bytes ht hi hz hsize hb hzs hsz (.slice none 0 0) 0 [] (own_nil _ _ _ _) ad m c news hl hnews h1 hn hby (Nat.le_refl _)
    exact ⟨v', w', k1, own_low k2 hbase, k3, fun k hk => .inr (own_row k2 k hk)⟩
  · by_cases hr : n + m ≤ cap
    · obtain ⟨w', k1, k2, k3⟩ := run_append_fits (P := P) w base t ty e i size ht hi hsize g n cap xs hown ad m c news hl hnews h1 hr
      exact ⟨_, w', k1, k2, k3, fun k hk => .inl hk⟩
    · obtain ⟨v', w', k1, k2, k3⟩ := run_append_arg_grows (P := P) w t ty e i z size bytes ht hi hz hsize hb hzs hsz ⟨g, 0, none⟩ n cap xs hown.1 (hown.cells rfl) ad m c news hl hnews (by omega) hn hby
      exact ⟨v', w', k1, own_low k2 hbase, ⟨k3.os, k3.tape, k3.output, k3.size, fun k hk _ => k3.block k hk (by simp)⟩, fun k hk => .inr (own_row k2 k hk)⟩
theorem given_ext {w : World} {p : Value} {b : Bool} {S : List En} (h : Any w p b S) : Calls Try.prog 22 #[p] w fun e w' => e = .returned (.bool b) ∧ Ext w w' :=
  (given_any h).mono fun e w' ⟨h1, h2⟩ => ⟨h1, h2 ▸ Ext.refl _⟩
theorem ask_nob {w : World} {p : Value} {k o t : Int} (h : Any w p false []) (hr : wfR (k, o)) : Calls Try.prog 12 #[p, (Value.agg #[.int .i64 k, .int .i64 o]), .int .i64 t] w fun e w' => e = .returned (.tuple #[.bool false, .int .i64 2]) ∧ Ext w w' := by
  have HA := hide (fun w' (x : Ext w w') => h.ext x)
  clear h
  have e0 : hasR [] (k, o) = false := rfl
  go_enter Try.func12, Try.ntmps12
  go_wp2_with fail
  have hX := fun w' (h : Ext (w.alloc (Obj.cells #[.int .i64 k, .int .i64 o] 33)) w') => h.boxCell
  have hXf := fun w' (h : Ext (w.alloc (Obj.cells #[.int .i64 k, .int .i64 o] 33)) w') => h.boxFree
  have hX0 : Ext w (w.alloc (Obj.cells #[.int .i64 k, .int .i64 o] 33)) := Ext.alloc _ _
  generalize w.alloc (Obj.cells #[.int .i64 k, .int .i64 o] 33) = W0 at *
  have hW := Ext.refl W0
  have HAS : Hid (∀ w', Ext w w' → _) := hide fun w' x => e0 ▸ has_any (HA.out w' x) hr
  go_wp2_with (first | (go_at_call 21; (with_reducible refine (HAS.out _ (hX0.trans hW)).mono ?_); rintro e w' ⟨rfl, hb⟩; have hW := Ext.trans2 hW (by repeat (first | exact Ext.refl _ | exact Ext.alloc _ _ | exact Ext.drewN _ _ | assumption | refine Ext.trans ?_ (Ext.alloc _ _) | refine Ext.trans ?_ (Ext.drew _) | refine Ext.trans ?_ (by assumption))) hb; (try have hV := Ext.trans2 hV (by repeat (first | exact Ext.refl _ | exact Ext.alloc _ _ | exact Ext.drewN _ _ | assumption | refine Ext.trans ?_ (Ext.alloc _ _) | refine Ext.trans ?_ (Ext.drew _) | refine Ext.trans ?_ (by assumption))) hb); clear hb) | (go_at_call 22; (with_reducible refine (given_ext (HA.out _ (hX0.trans hW))).mono ?_); rintro e w' ⟨rfl, hb⟩; have hW := Ext.trans2 hW (by repeat (first | exact Ext.refl _ | exact Ext.alloc _ _ | exact Ext.drewN _ _ | assumption | refine Ext.trans ?_ (Ext.alloc _ _) | refine Ext.trans ?_ (Ext.drew _) | refine Ext.trans ?_ (by assumption))) hb; (try have hV := Ext.trans2 hV (by repeat (first | exact Ext.refl _ | exact Ext.alloc _ _ | exact Ext.drewN _ _ | assumption | refine Ext.trans ?_ (Ext.alloc _ _) | refine Ext.trans ?_ (Ext.drew _) | refine Ext.trans ?_ (by assumption))) hb); clear hb))
  go_ret2
  exact ⟨rfl, (hX0.trans (hW.trans (by repeat (first | exact Ext.refl _ | exact Ext.alloc _ _ | exact Ext.drewN _ _ | assumption | refine Ext.trans ?_ (Ext.alloc _ _) | refine Ext.trans ?_ (Ext.drew _) | refine Ext.trans ?_ (by assumption)))))⟩
theorem ask_out {w : World} {O : List Nat} {C : Nat} {S : List En} {k o t z : Int} (h : QT w O C S) (hr : wfR (k, o)) (hz : askE S (k, o) t = z) (h0 : z ≠ 0) :
    Calls Try.prog 12 #[.pointer (some ⟨C, 0, none⟩), (Value.agg #[.int .i64 k, .int .i64 o]), .int .i64 t] w fun e w' => e = .returned (.tuple #[.bool false, .int .i64 z]) ∧ Ext w w' := by
  have HAS : Hid (∀ w', Ext w w' → Calls Try.prog 21 #[.pointer (some ⟨C, 0, none⟩), (Value.agg #[.int .i64 k, .int .i64 o])] w' fun e w2 => e = .returned (.bool (hasR S (k, o))) ∧ Ext w' w2) := hide fun w' x => has_any (h.ext x).any hr
  have GIV : Hid (∀ w', Ext w w' → Calls Try.prog 22 #[.pointer (some ⟨C, 0, none⟩)] w' fun e w2 => e = .returned (.bool true) ∧ Ext w' w2) := hide fun w' x => given_ext (h.ext x).any
  have MAY : Hid (∀ w', Ext w w' → Calls Try.prog 23 #[(Value.agg #[.int .i64 k, .int .i64 o])] w' fun e w2 => e = .returned (.bool (mayR (k, o))) ∧ Ext w' w2) := hide fun w' x => may_any (k, o) w'
  have WAI : Hid (∀ w', Ext w w' → Calls Try.prog 15 #[.pointer (some ⟨C, 0, none⟩), .int .i64 t] w' fun e w2 => e = .returned (.bool (waitsB S t)) ∧ Ext w' w2) := hide fun w' x => waits_in t (h.ext x).any
  have LEN : Hid (∀ w', Ext w w' → Calls Try.prog 17 #[.pointer (some ⟨C, 0, none⟩)] w' fun e w2 => e = .returned (.int .i64 (S.length : Int)) ∧ Ext w' w2) := hide fun w' x => len_any (h.ext x).any
  clear h
  cases em : mayR (k, o) with
  | false =>
    rw [em] at MAY
    obtain rfl : z = 1 := by rw [← hz, askE_bad (by unfold okA; rw [em]; rfl)]
    generalize hasR S (k, o) = hb at *
    clear hz em
    cases hb
    · go_enter Try.func12, Try.ntmps12
      go_wp2_with fail
      have hX := fun w' (h : Ext (w.alloc (Obj.cells #[.int .i64 k, .int .i64 o] 33)) w') => h.boxCell
      have hXf := fun w' (h : Ext (w.alloc (Obj.cells #[.int .i64 k, .int .i64 o] 33)) w') => h.boxFree
      have hX0 : Ext w (w.alloc (Obj.cells #[.int .i64 k, .int .i64 o] 33)) := Ext.alloc _ _
      generalize w.alloc (Obj.cells #[.int .i64 k, .int .i64 o] 33) = W0 at *
      have hW := Ext.refl W0
      go_wp2_with (first | (go_at_call 21; (with_reducible refine (HAS.out _ (hX0.trans hW)).mono ?_); rintro e w' ⟨rfl, hb⟩; have hW := Ext.trans2 hW (by repeat (first | exact Ext.refl _ | exact Ext.alloc _ _ | exact Ext.drewN _ _ | assumption | refine Ext.trans ?_ (Ext.alloc _ _) | refine Ext.trans ?_ (Ext.drew _) | refine Ext.trans ?_ (by assumption))) hb; (try have hV := Ext.trans2 hV (by repeat (first | exact Ext.refl _ | exact Ext.alloc _ _ | exact Ext.drewN _ _ | assumption | refine Ext.trans ?_ (Ext.alloc _ _) | refine Ext.trans ?_ (Ext.drew _) | refine Ext.trans ?_ (by assumption))) hb); clear hb) | (go_at_call 22; (with_reducible refine (GIV.out _ (hX0.trans hW)).mono ?_); rintro e w' ⟨rfl, hb⟩; have hW := Ext.trans2 hW (by repeat (first | exact Ext.refl _ | exact Ext.alloc _ _ | exact Ext.drewN _ _ | assumption | refine Ext.trans ?_ (Ext.alloc _ _) | refine Ext.trans ?_ (Ext.drew _) | refine Ext.trans ?_ (by assumption))) hb; (try have hV := Ext.trans2 hV (by repeat (first | exact Ext.refl _ | exact Ext.alloc _ _ | exact Ext.drewN _ _ | assumption | refine Ext.trans ?_ (Ext.alloc _ _) | refine Ext.trans ?_ (Ext.drew _) | refine Ext.trans ?_ (by assumption))) hb); clear hb) | (go_at_call 23; (with_reducible refine (MAY.out _ (hX0.trans hW)).mono ?_); rintro e w' ⟨rfl, hb⟩; have hW := Ext.trans2 hW (by repeat (first | exact Ext.refl _ | exact Ext.alloc _ _ | exact Ext.drewN _ _ | assumption | refine Ext.trans ?_ (Ext.alloc _ _) | refine Ext.trans ?_ (Ext.drew _) | refine Ext.trans ?_ (by assumption))) hb; (try have hV := Ext.trans2 hV (by repeat (first | exact Ext.refl _ | exact Ext.alloc _ _ | exact Ext.drewN _ _ | assumption | refine Ext.trans ?_ (Ext.alloc _ _) | refine Ext.trans ?_ (Ext.drew _) | refine Ext.trans ?_ (by assumption))) hb); clear hb) | (go_at_call 15; (with_reducible refine (WAI.out _ (hX0.trans hW)).mono ?_); rintro e w' ⟨rfl, hb⟩; have hW := Ext.trans2 hW (by repeat (first | exact Ext.refl _ | exact Ext.alloc _ _ | exact Ext.drewN _ _ | assumption | refine Ext.trans ?_ (Ext.alloc _ _) | refine Ext.trans ?_ (Ext.drew _) | refine Ext.trans ?_ (by assumption))) hb; (try have hV := Ext.trans2 hV (by repeat (first | exact Ext.refl _ | exact Ext.alloc _ _ | exact Ext.drewN _ _ | assumption | refine Ext.trans ?_ (Ext.alloc _ _) | refine Ext.trans ?_ (Ext.drew _) | refine Ext.trans ?_ (by assumption))) hb); clear hb) | (go_at_call 17; (with_reducible refine (LEN.out _ (hX0.trans hW)).mono ?_); rintro e w' ⟨rfl, hb⟩; have hW := Ext.trans2 hW (by repeat (first | exact Ext.refl _ | exact Ext.alloc _ _ | exact Ext.drewN _ _ | assumption | refine Ext.trans ?_ (Ext.alloc _ _) | refine Ext.trans ?_ (Ext.drew _) | refine Ext.trans ?_ (by assumption))) hb; (try have hV := Ext.trans2 hV (by repeat (first | exact Ext.refl _ | exact Ext.alloc _ _ | exact Ext.drewN _ _ | assumption | refine Ext.trans ?_ (Ext.alloc _ _) | refine Ext.trans ?_ (Ext.drew _) | refine Ext.trans ?_ (by assumption))) hb); clear hb))
      go_ret2
      exact ⟨rfl, (hX0.trans (hW.trans (by repeat (first | exact Ext.refl _ | exact Ext.alloc _ _ | exact Ext.drewN _ _ | assumption | refine Ext.trans ?_ (Ext.alloc _ _) | refine Ext.trans ?_ (Ext.drew _) | refine Ext.trans ?_ (by assumption)))))⟩
    · go_enter Try.func12, Try.ntmps12
      go_wp2_with fail
      have hX := fun w' (h : Ext (w.alloc (Obj.cells #[.int .i64 k, .int .i64 o] 33)) w') => h.boxCell
      have hXf := fun w' (h : Ext (w.alloc (Obj.cells #[.int .i64 k, .int .i64 o] 33)) w') => h.boxFree
      have hX0 : Ext w (w.alloc (Obj.cells #[.int .i64 k, .int .i64 o] 33)) := Ext.alloc _ _
      generalize w.alloc (Obj.cells #[.int .i64 k, .int .i64 o] 33) = W0 at *
      have hW := Ext.refl W0
      go_wp2_with (first | (go_at_call 21; (with_reducible refine (HAS.out _ (hX0.trans hW)).mono ?_); rintro e w' ⟨rfl, hb⟩; have hW := Ext.trans2 hW (by repeat (first | exact Ext.refl _ | exact Ext.alloc _ _ | exact Ext.drewN _ _ | assumption | refine Ext.trans ?_ (Ext.alloc _ _) | refine Ext.trans ?_ (Ext.drew _) | refine Ext.trans ?_ (by assumption))) hb; (try have hV := Ext.trans2 hV (by repeat (first | exact Ext.refl _ | exact Ext.alloc _ _ | exact Ext.drewN _ _ | assumption | refine Ext.trans ?_ (Ext.alloc _ _) | refine Ext.trans ?_ (Ext.drew _) | refine Ext.trans ?_ (by assumption))) hb); clear hb) | (go_at_call 22; (with_reducible refine (GIV.out _ (hX0.trans hW)).mono ?_); rintro e w' ⟨rfl, hb⟩; have hW := Ext.trans2 hW (by repeat (first | exact Ext.refl _ | exact Ext.alloc _ _ | exact Ext.drewN _ _ | assumption | refine Ext.trans ?_ (Ext.alloc _ _) | refine Ext.trans ?_ (Ext.drew _) | refine Ext.trans ?_ (by assumption))) hb; (try have hV := Ext.trans2 hV (by repeat (first | exact Ext.refl _ | exact Ext.alloc _ _ | exact Ext.drewN _ _ | assumption | refine Ext.trans ?_ (Ext.alloc _ _) | refine Ext.trans ?_ (Ext.drew _) | refine Ext.trans ?_ (by assumption))) hb); clear hb) | (go_at_call 23; (with_reducible refine (MAY.out _ (hX0.trans hW)).mono ?_); rintro e w' ⟨rfl, hb⟩; have hW := Ext.trans2 hW (by repeat (first | exact Ext.refl _ | exact Ext.alloc _ _ | exact Ext.drewN _ _ | assumption | refine Ext.trans ?_ (Ext.alloc _ _) | refine Ext.trans ?_ (Ext.drew _) | refine Ext.trans ?_ (by assumption))) hb; (try have hV := Ext.trans2 hV (by repeat (first | exact Ext.refl _ | exact Ext.alloc _ _ | exact Ext.drewN _ _ | assumption | refine Ext.trans ?_ (Ext.alloc _ _) | refine Ext.trans ?_ (Ext.drew _) | refine Ext.trans ?_ (by assumption))) hb); clear hb) | (go_at_call 15; (with_reducible refine (WAI.out _ (hX0.trans hW)).mono ?_); rintro e w' ⟨rfl, hb⟩; have hW := Ext.trans2 hW (by repeat (first | exact Ext.refl _ | exact Ext.alloc _ _ | exact Ext.drewN _ _ | assumption | refine Ext.trans ?_ (Ext.alloc _ _) | refine Ext.trans ?_ (Ext.drew _) | refine Ext.trans ?_ (by assumption))) hb; (try have hV := Ext.trans2 hV (by repeat (first | exact Ext.refl _ | exact Ext.alloc _ _ | exact Ext.drewN _ _ | assumption | refine Ext.trans ?_ (Ext.alloc _ _) | refine Ext.trans ?_ (Ext.drew _) | refine Ext.trans ?_ (by assumption))) hb); clear hb) | (go_at_call 17; (with_reducible refine (LEN.out _ (hX0.trans hW)).mono ?_); rintro e w' ⟨rfl, hb⟩; have hW := Ext.trans2 hW (by repeat (first | exact Ext.refl _ | exact Ext.alloc _ _ | exact Ext.drewN _ _ | assumption | refine Ext.trans ?_ (Ext.alloc _ _) | refine Ext.trans ?_ (Ext.drew _) | refine Ext.trans ?_ (by assumption))) hb; (try have hV := Ext.trans2 hV (by repeat (first | exact Ext.refl _ | exact Ext.alloc _ _ | exact Ext.drewN _ _ | assumption | refine Ext.trans ?_ (Ext.alloc _ _) | refine Ext.trans ?_ (Ext.drew _) | refine Ext.trans ?_ (by assumption))) hb); clear hb))
      go_ret2
      exact ⟨rfl, (hX0.trans (hW.trans (by repeat (first | exact Ext.refl _ | exact Ext.alloc _ _ | exact Ext.drewN _ _ | assumption | refine Ext.trans ?_ (Ext.alloc _ _) | refine Ext.trans ?_ (Ext.drew _) | refine Ext.trans ?_ (by assumption)))))⟩
  | true =>
    rw [em] at MAY
    by_cases t0 : t < -1
    · obtain rfl : z = 1 := by rw [← hz, askE_bad (by unfold okA okT; rw [em]; simp; omega)]
      generalize hasR S (k, o) = hb at *
      clear hz em
      cases hb
      · go_enter Try.func12, Try.ntmps12
        go_wp2_with fail
        have hX := fun w' (h : Ext (w.alloc (Obj.cells #[.int .i64 k, .int .i64 o] 33)) w') => h.boxCell
        have hXf := fun w' (h : Ext (w.alloc (Obj.cells #[.int .i64 k, .int .i64 o] 33)) w') => h.boxFree
        have hX0 : Ext w (w.alloc (Obj.cells #[.int .i64 k, .int .i64 o] 33)) := Ext.alloc _ _
        generalize w.alloc (Obj.cells #[.int .i64 k, .int .i64 o] 33) = W0 at *
        have hW := Ext.refl W0
        go_wp2_with (first | (go_at_call 21; (with_reducible refine (HAS.out _ (hX0.trans hW)).mono ?_); rintro e w' ⟨rfl, hb⟩; have hW := Ext.trans2 hW (by repeat (first | exact Ext.refl _ | exact Ext.alloc _ _ | exact Ext.drewN _ _ | assumption | refine Ext.trans ?_ (Ext.alloc _ _) | refine Ext.trans ?_ (Ext.drew _) | refine Ext.trans ?_ (by assumption))) hb; (try have hV := Ext.trans2 hV (by repeat (first | exact Ext.refl _ | exact Ext.alloc _ _ | exact Ext.drewN _ _ | assumption | refine Ext.trans ?_ (Ext.alloc _ _) | refine Ext.trans ?_ (Ext.drew _) | refine Ext.trans ?_ (by assumption))) hb); clear hb) | (go_at_call 22; (with_reducible refine (GIV.out _ (hX0.trans hW)).mono ?_); rintro e w' ⟨rfl, hb⟩; have hW := Ext.trans2 hW (by repeat (first | exact Ext.refl _ | exact Ext.alloc _ _ | exact Ext.drewN _ _ | assumption | refine Ext.trans ?_ (Ext.alloc _ _) | refine Ext.trans ?_ (Ext.drew _) | refine Ext.trans ?_ (by assumption))) hb; (try have hV := Ext.trans2 hV (by repeat (first | exact Ext.refl _ | exact Ext.alloc _ _ | exact Ext.drewN _ _ | assumption | refine Ext.trans ?_ (Ext.alloc _ _) | refine Ext.trans ?_ (Ext.drew _) | refine Ext.trans ?_ (by assumption))) hb); clear hb) | (go_at_call 23; (with_reducible refine (MAY.out _ (hX0.trans hW)).mono ?_); rintro e w' ⟨rfl, hb⟩; have hW := Ext.trans2 hW (by repeat (first | exact Ext.refl _ | exact Ext.alloc _ _ | exact Ext.drewN _ _ | assumption | refine Ext.trans ?_ (Ext.alloc _ _) | refine Ext.trans ?_ (Ext.drew _) | refine Ext.trans ?_ (by assumption))) hb; (try have hV := Ext.trans2 hV (by repeat (first | exact Ext.refl _ | exact Ext.alloc _ _ | exact Ext.drewN _ _ | assumption | refine Ext.trans ?_ (Ext.alloc _ _) | refine Ext.trans ?_ (Ext.drew _) | refine Ext.trans ?_ (by assumption))) hb); clear hb) | (go_at_call 15; (with_reducible refine (WAI.out _ (hX0.trans hW)).mono ?_); rintro e w' ⟨rfl, hb⟩; have hW := Ext.trans2 hW (by repeat (first | exact Ext.refl _ | exact Ext.alloc _ _ | exact Ext.drewN _ _ | assumption | refine Ext.trans ?_ (Ext.alloc _ _) | refine Ext.trans ?_ (Ext.drew _) | refine Ext.trans ?_ (by assumption))) hb; (try have hV := Ext.trans2 hV (by repeat (first | exact Ext.refl _ | exact Ext.alloc _ _ | exact Ext.drewN _ _ | assumption | refine Ext.trans ?_ (Ext.alloc _ _) | refine Ext.trans ?_ (Ext.drew _) | refine Ext.trans ?_ (by assumption))) hb); clear hb) | (go_at_call 17; (with_reducible refine (LEN.out _ (hX0.trans hW)).mono ?_); rintro e w' ⟨rfl, hb⟩; have hW := Ext.trans2 hW (by repeat (first | exact Ext.refl _ | exact Ext.alloc _ _ | exact Ext.drewN _ _ | assumption | refine Ext.trans ?_ (Ext.alloc _ _) | refine Ext.trans ?_ (Ext.drew _) | refine Ext.trans ?_ (by assumption))) hb; (try have hV := Ext.trans2 hV (by repeat (first | exact Ext.refl _ | exact Ext.alloc _ _ | exact Ext.drewN _ _ | assumption | refine Ext.trans ?_ (Ext.alloc _ _) | refine Ext.trans ?_ (Ext.drew _) | refine Ext.trans ?_ (by assumption))) hb); clear hb))
        go_ret2
        exact ⟨rfl, (hX0.trans (hW.trans (by repeat (first | exact Ext.refl _ | exact Ext.alloc _ _ | exact Ext.drewN _ _ | assumption | refine Ext.trans ?_ (Ext.alloc _ _) | refine Ext.trans ?_ (Ext.drew _) | refine Ext.trans ?_ (by assumption)))))⟩
      · go_enter Try.func12, Try.ntmps12
        go_wp2_with fail
        have hX := fun w' (h : Ext (w.alloc (Obj.cells #[.int .i64 k, .int .i64 o] 33)) w') => h.boxCell
        have hXf := fun w' (h : Ext (w.alloc (Obj.cells #[.int .i64 k, .int .i64 o] 33)) w') => h.boxFree
        have hX0 : Ext w (w.alloc (Obj.cells #[.int .i64 k, .int .i64 o] 33)) := Ext.alloc _ _
        generalize w.alloc (Obj.cells #[.int .i64 k, .int .i64 o] 33) = W0 at *
        have hW := Ext.refl W0
        go_wp2_with (first | (go_at_call 21; (with_reducible refine (HAS.out _ (hX0.trans hW)).mono ?_); rintro e w' ⟨rfl, hb⟩; have hW := Ext.trans2 hW (by repeat (first | exact Ext.refl _ | exact Ext.alloc _ _ | exact Ext.drewN _ _ | assumption | refine Ext.trans ?_ (Ext.alloc _ _) | refine Ext.trans ?_ (Ext.drew _) | refine Ext.trans ?_ (by assumption))) hb; (try have hV := Ext.trans2 hV (by repeat (first | exact Ext.refl _ | exact Ext.alloc _ _ | exact Ext.drewN _ _ | assumption | refine Ext.trans ?_ (Ext.alloc _ _) | refine Ext.trans ?_ (Ext.drew _) | refine Ext.trans ?_ (by assumption))) hb); clear hb) | (go_at_call 22; (with_reducible refine (GIV.out _ (hX0.trans hW)).mono ?_); rintro e w' ⟨rfl, hb⟩; have hW := Ext.trans2 hW (by repeat (first | exact Ext.refl _ | exact Ext.alloc _ _ | exact Ext.drewN _ _ | assumption | refine Ext.trans ?_ (Ext.alloc _ _) | refine Ext.trans ?_ (Ext.drew _) | refine Ext.trans ?_ (by assumption))) hb; (try have hV := Ext.trans2 hV (by repeat (first | exact Ext.refl _ | exact Ext.alloc _ _ | exact Ext.drewN _ _ | assumption | refine Ext.trans ?_ (Ext.alloc _ _) | refine Ext.trans ?_ (Ext.drew _) | refine Ext.trans ?_ (by assumption))) hb); clear hb) | (go_at_call 23; (with_reducible refine (MAY.out _ (hX0.trans hW)).mono ?_); rintro e w' ⟨rfl, hb⟩; have hW := Ext.trans2 hW (by repeat (first | exact Ext.refl _ | exact Ext.alloc _ _ | exact Ext.drewN _ _ | assumption | refine Ext.trans ?_ (Ext.alloc _ _) | refine Ext.trans ?_ (Ext.drew _) | refine Ext.trans ?_ (by assumption))) hb; (try have hV := Ext.trans2 hV (by repeat (first | exact Ext.refl _ | exact Ext.alloc _ _ | exact Ext.drewN _ _ | assumption | refine Ext.trans ?_ (Ext.alloc _ _) | refine Ext.trans ?_ (Ext.drew _) | refine Ext.trans ?_ (by assumption))) hb); clear hb) | (go_at_call 15; (with_reducible refine (WAI.out _ (hX0.trans hW)).mono ?_); rintro e w' ⟨rfl, hb⟩; have hW := Ext.trans2 hW (by repeat (first | exact Ext.refl _ | exact Ext.alloc _ _ | exact Ext.drewN _ _ | assumption | refine Ext.trans ?_ (Ext.alloc _ _) | refine Ext.trans ?_ (Ext.drew _) | refine Ext.trans ?_ (by assumption))) hb; (try have hV := Ext.trans2 hV (by repeat (first | exact Ext.refl _ | exact Ext.alloc _ _ | exact Ext.drewN _ _ | assumption | refine Ext.trans ?_ (Ext.alloc _ _) | refine Ext.trans ?_ (Ext.drew _) | refine Ext.trans ?_ (by assumption))) hb); clear hb) | (go_at_call 17; (with_reducible refine (LEN.out _ (hX0.trans hW)).mono ?_); rintro e w' ⟨rfl, hb⟩; have hW := Ext.trans2 hW (by repeat (first | exact Ext.refl _ | exact Ext.alloc _ _ | exact Ext.drewN _ _ | assumption | refine Ext.trans ?_ (Ext.alloc _ _) | refine Ext.trans ?_ (Ext.drew _) | refine Ext.trans ?_ (by assumption))) hb; (try have hV := Ext.trans2 hV (by repeat (first | exact Ext.refl _ | exact Ext.alloc _ _ | exact Ext.drewN _ _ | assumption | refine Ext.trans ?_ (Ext.alloc _ _) | refine Ext.trans ?_ (Ext.drew _) | refine Ext.trans ?_ (by assumption))) hb); clear hb))
        go_ret2
        exact ⟨rfl, (hX0.trans (hW.trans (by repeat (first | exact Ext.refl _ | exact Ext.alloc _ _ | exact Ext.drewN _ _ | assumption | refine Ext.trans ?_ (Ext.alloc _ _) | refine Ext.trans ?_ (Ext.drew _) | refine Ext.trans ?_ (by assumption)))))⟩
    · by_cases t1 : 255 < t
      · obtain rfl : z = 1 := by rw [← hz, askE_bad (by unfold okA okT; rw [em]; simp; omega)]
        generalize hasR S (k, o) = hb at *
        clear hz em
        cases hb
        · go_enter Try.func12, Try.ntmps12
          go_wp2_with fail
          have hX := fun w' (h : Ext (w.alloc (Obj.cells #[.int .i64 k, .int .i64 o] 33)) w') => h.boxCell
          have hXf := fun w' (h : Ext (w.alloc (Obj.cells #[.int .i64 k, .int .i64 o] 33)) w') => h.boxFree
          have hX0 : Ext w (w.alloc (Obj.cells #[.int .i64 k, .int .i64 o] 33)) := Ext.alloc _ _
          generalize w.alloc (Obj.cells #[.int .i64 k, .int .i64 o] 33) = W0 at *
          have hW := Ext.refl W0
          go_wp2_with (first | (go_at_call 21; (with_reducible refine (HAS.out _ (hX0.trans hW)).mono ?_); rintro e w' ⟨rfl, hb⟩; have hW := Ext.trans2 hW (by repeat (first | exact Ext.refl _ | exact Ext.alloc _ _ | exact Ext.drewN _ _ | assumption | refine Ext.trans ?_ (Ext.alloc _ _) | refine Ext.trans ?_ (Ext.drew _) | refine Ext.trans ?_ (by assumption))) hb; (try have hV := Ext.trans2 hV (by repeat (first | exact Ext.refl _ | exact Ext.alloc _ _ | exact Ext.drewN _ _ | assumption | refine Ext.trans ?_ (Ext.alloc _ _) | refine Ext.trans ?_ (Ext.drew _) | refine Ext.trans ?_ (by assumption))) hb); clear hb) | (go_at_call 22; (with_reducible refine (GIV.out _ (hX0.trans hW)).mono ?_); rintro e w' ⟨rfl, hb⟩; have hW := Ext.trans2 hW (by repeat (first | exact Ext.refl _ | exact Ext.alloc _ _ | exact Ext.drewN _ _ | assumption | refine Ext.trans ?_ (Ext.alloc _ _) | refine Ext.trans ?_ (Ext.drew _) | refine Ext.trans ?_ (by assumption))) hb; (try have hV := Ext.trans2 hV (by repeat (first | exact Ext.refl _ | exact Ext.alloc _ _ | exact Ext.drewN _ _ | assumption | refine Ext.trans ?_ (Ext.alloc _ _) | refine Ext.trans ?_ (Ext.drew _) | refine Ext.trans ?_ (by assumption))) hb); clear hb) | (go_at_call 23; (with_reducible refine (MAY.out _ (hX0.trans hW)).mono ?_); rintro e w' ⟨rfl, hb⟩; have hW := Ext.trans2 hW (by repeat (first | exact Ext.refl _ | exact Ext.alloc _ _ | exact Ext.drewN _ _ | assumption | refine Ext.trans ?_ (Ext.alloc _ _) | refine Ext.trans ?_ (Ext.drew _) | refine Ext.trans ?_ (by assumption))) hb; (try have hV := Ext.trans2 hV (by repeat (first | exact Ext.refl _ | exact Ext.alloc _ _ | exact Ext.drewN _ _ | assumption | refine Ext.trans ?_ (Ext.alloc _ _) | refine Ext.trans ?_ (Ext.drew _) | refine Ext.trans ?_ (by assumption))) hb); clear hb) | (go_at_call 15; (with_reducible refine (WAI.out _ (hX0.trans hW)).mono ?_); rintro e w' ⟨rfl, hb⟩; have hW := Ext.trans2 hW (by repeat (first | exact Ext.refl _ | exact Ext.alloc _ _ | exact Ext.drewN _ _ | assumption | refine Ext.trans ?_ (Ext.alloc _ _) | refine Ext.trans ?_ (Ext.drew _) | refine Ext.trans ?_ (by assumption))) hb; (try have hV := Ext.trans2 hV (by repeat (first | exact Ext.refl _ | exact Ext.alloc _ _ | exact Ext.drewN _ _ | assumption | refine Ext.trans ?_ (Ext.alloc _ _) | refine Ext.trans ?_ (Ext.drew _) | refine Ext.trans ?_ (by assumption))) hb); clear hb) | (go_at_call 17; (with_reducible refine (LEN.out _ (hX0.trans hW)).mono ?_); rintro e w' ⟨rfl, hb⟩; have hW := Ext.trans2 hW (by repeat (first | exact Ext.refl _ | exact Ext.alloc _ _ | exact Ext.drewN _ _ | assumption | refine Ext.trans ?_ (Ext.alloc _ _) | refine Ext.trans ?_ (Ext.drew _) | refine Ext.trans ?_ (by assumption))) hb; (try have hV := Ext.trans2 hV (by repeat (first | exact Ext.refl _ | exact Ext.alloc _ _ | exact Ext.drewN _ _ | assumption | refine Ext.trans ?_ (Ext.alloc _ _) | refine Ext.trans ?_ (Ext.drew _) | refine Ext.trans ?_ (by assumption))) hb); clear hb))
          go_ret2
          exact ⟨rfl, (hX0.trans (hW.trans (by repeat (first | exact Ext.refl _ | exact Ext.alloc _ _ | exact Ext.drewN _ _ | assumption | refine Ext.trans ?_ (Ext.alloc _ _) | refine Ext.trans ?_ (Ext.drew _) | refine Ext.trans ?_ (by assumption)))))⟩
        · go_enter Try.func12, Try.ntmps12
          go_wp2_with fail
          have hX := fun w' (h : Ext (w.alloc (Obj.cells #[.int .i64 k, .int .i64 o] 33)) w') => h.boxCell
          have hXf := fun w' (h : Ext (w.alloc (Obj.cells #[.int .i64 k, .int .i64 o] 33)) w') => h.boxFree
          have hX0 : Ext w (w.alloc (Obj.cells #[.int .i64 k, .int .i64 o] 33)) := Ext.alloc _ _
          generalize w.alloc (Obj.cells #[.int .i64 k, .int .i64 o] 33) = W0 at *
          have hW := Ext.refl W0
          go_wp2_with (first | (go_at_call 21; (with_reducible refine (HAS.out _ (hX0.trans hW)).mono ?_); rintro e w' ⟨rfl, hb⟩; have hW := Ext.trans2 hW (by repeat (first | exact Ext.refl _ | exact Ext.alloc _ _ | exact Ext.drewN _ _ | assumption | refine Ext.trans ?_ (Ext.alloc _ _) | refine Ext.trans ?_ (Ext.drew _) | refine Ext.trans ?_ (by assumption))) hb; (try have hV := Ext.trans2 hV (by repeat (first | exact Ext.refl _ | exact Ext.alloc _ _ | exact Ext.drewN _ _ | assumption | refine Ext.trans ?_ (Ext.alloc _ _) | refine Ext.trans ?_ (Ext.drew _) | refine Ext.trans ?_ (by assumption))) hb); clear hb) | (go_at_call 22; (with_reducible refine (GIV.out _ (hX0.trans hW)).mono ?_); rintro e w' ⟨rfl, hb⟩; have hW := Ext.trans2 hW (by repeat (first | exact Ext.refl _ | exact Ext.alloc _ _ | exact Ext.drewN _ _ | assumption | refine Ext.trans ?_ (Ext.alloc _ _) | refine Ext.trans ?_ (Ext.drew _) | refine Ext.trans ?_ (by assumption))) hb; (try have hV := Ext.trans2 hV (by repeat (first | exact Ext.refl _ | exact Ext.alloc _ _ | exact Ext.drewN _ _ | assumption | refine Ext.trans ?_ (Ext.alloc _ _) | refine Ext.trans ?_ (Ext.drew _) | refine Ext.trans ?_ (by assumption))) hb); clear hb) | (go_at_call 23; (with_reducible refine (MAY.out _ (hX0.trans hW)).mono ?_); rintro e w' ⟨rfl, hb⟩; have hW := Ext.trans2 hW (by repeat (first | exact Ext.refl _ | exact Ext.alloc _ _ | exact Ext.drewN _ _ | assumption | refine Ext.trans ?_ (Ext.alloc _ _) | refine Ext.trans ?_ (Ext.drew _) | refine Ext.trans ?_ (by assumption))) hb; (try have hV := Ext.trans2 hV (by repeat (first | exact Ext.refl _ | exact Ext.alloc _ _ | exact Ext.drewN _ _ | assumption | refine Ext.trans ?_ (Ext.alloc _ _) | refine Ext.trans ?_ (Ext.drew _) | refine Ext.trans ?_ (by assumption))) hb); clear hb) | (go_at_call 15; (with_reducible refine (WAI.out _ (hX0.trans hW)).mono ?_); rintro e w' ⟨rfl, hb⟩; have hW := Ext.trans2 hW (by repeat (first | exact Ext.refl _ | exact Ext.alloc _ _ | exact Ext.drewN _ _ | assumption | refine Ext.trans ?_ (Ext.alloc _ _) | refine Ext.trans ?_ (Ext.drew _) | refine Ext.trans ?_ (by assumption))) hb; (try have hV := Ext.trans2 hV (by repeat (first | exact Ext.refl _ | exact Ext.alloc _ _ | exact Ext.drewN _ _ | assumption | refine Ext.trans ?_ (Ext.alloc _ _) | refine Ext.trans ?_ (Ext.drew _) | refine Ext.trans ?_ (by assumption))) hb); clear hb) | (go_at_call 17; (with_reducible refine (LEN.out _ (hX0.trans hW)).mono ?_); rintro e w' ⟨rfl, hb⟩; have hW := Ext.trans2 hW (by repeat (first | exact Ext.refl _ | exact Ext.alloc _ _ | exact Ext.drewN _ _ | assumption | refine Ext.trans ?_ (Ext.alloc _ _) | refine Ext.trans ?_ (Ext.drew _) | refine Ext.trans ?_ (by assumption))) hb; (try have hV := Ext.trans2 hV (by repeat (first | exact Ext.refl _ | exact Ext.alloc _ _ | exact Ext.drewN _ _ | assumption | refine Ext.trans ?_ (Ext.alloc _ _) | refine Ext.trans ?_ (Ext.drew _) | refine Ext.trans ?_ (by assumption))) hb); clear hb))
          go_ret2
          exact ⟨rfl, (hX0.trans (hW.trans (by repeat (first | exact Ext.refl _ | exact Ext.alloc _ _ | exact Ext.drewN _ _ | assumption | refine Ext.trans ?_ (Ext.alloc _ _) | refine Ext.trans ?_ (Ext.drew _) | refine Ext.trans ?_ (by assumption)))))⟩
      · have ok : okA (k, o) t = true := by unfold okA okT; rw [em]; simp; omega
        cases ew : waitsB S t with
        | true =>
          rw [ew] at WAI
          obtain rfl : z = 7 := by rw [← hz, askE_there ok ew]
          generalize hasR S (k, o) = hb at *
          clear hz em ok ew
          cases hb
          · go_enter Try.func12, Try.ntmps12
            go_wp2_with fail
            have hX := fun w' (h : Ext (w.alloc (Obj.cells #[.int .i64 k, .int .i64 o] 33)) w') => h.boxCell
            have hXf := fun w' (h : Ext (w.alloc (Obj.cells #[.int .i64 k, .int .i64 o] 33)) w') => h.boxFree
            have hX0 : Ext w (w.alloc (Obj.cells #[.int .i64 k, .int .i64 o] 33)) := Ext.alloc _ _
            generalize w.alloc (Obj.cells #[.int .i64 k, .int .i64 o] 33) = W0 at *
            have hW := Ext.refl W0
            go_wp2_with (first | (go_at_call 21; (with_reducible refine (HAS.out _ (hX0.trans hW)).mono ?_); rintro e w' ⟨rfl, hb⟩; have hW := Ext.trans2 hW (by repeat (first | exact Ext.refl _ | exact Ext.alloc _ _ | exact Ext.drewN _ _ | assumption | refine Ext.trans ?_ (Ext.alloc _ _) | refine Ext.trans ?_ (Ext.drew _) | refine Ext.trans ?_ (by assumption))) hb; (try have hV := Ext.trans2 hV (by repeat (first | exact Ext.refl _ | exact Ext.alloc _ _ | exact Ext.drewN _ _ | assumption | refine Ext.trans ?_ (Ext.alloc _ _) | refine Ext.trans ?_ (Ext.drew _) | refine Ext.trans ?_ (by assumption))) hb); clear hb) | (go_at_call 22; (with_reducible refine (GIV.out _ (hX0.trans hW)).mono ?_); rintro e w' ⟨rfl, hb⟩; have hW := Ext.trans2 hW (by repeat (first | exact Ext.refl _ | exact Ext.alloc _ _ | exact Ext.drewN _ _ | assumption | refine Ext.trans ?_ (Ext.alloc _ _) | refine Ext.trans ?_ (Ext.drew _) | refine Ext.trans ?_ (by assumption))) hb; (try have hV := Ext.trans2 hV (by repeat (first | exact Ext.refl _ | exact Ext.alloc _ _ | exact Ext.drewN _ _ | assumption | refine Ext.trans ?_ (Ext.alloc _ _) | refine Ext.trans ?_ (Ext.drew _) | refine Ext.trans ?_ (by assumption))) hb); clear hb) | (go_at_call 23; (with_reducible refine (MAY.out _ (hX0.trans hW)).mono ?_); rintro e w' ⟨rfl, hb⟩; have hW := Ext.trans2 hW (by repeat (first | exact Ext.refl _ | exact Ext.alloc _ _ | exact Ext.drewN _ _ | assumption | refine Ext.trans ?_ (Ext.alloc _ _) | refine Ext.trans ?_ (Ext.drew _) | refine Ext.trans ?_ (by assumption))) hb; (try have hV := Ext.trans2 hV (by repeat (first | exact Ext.refl _ | exact Ext.alloc _ _ | exact Ext.drewN _ _ | assumption | refine Ext.trans ?_ (Ext.alloc _ _) | refine Ext.trans ?_ (Ext.drew _) | refine Ext.trans ?_ (by assumption))) hb); clear hb) | (go_at_call 15; (with_reducible refine (WAI.out _ (hX0.trans hW)).mono ?_); rintro e w' ⟨rfl, hb⟩; have hW := Ext.trans2 hW (by repeat (first | exact Ext.refl _ | exact Ext.alloc _ _ | exact Ext.drewN _ _ | assumption | refine Ext.trans ?_ (Ext.alloc _ _) | refine Ext.trans ?_ (Ext.drew _) | refine Ext.trans ?_ (by assumption))) hb; (try have hV := Ext.trans2 hV (by repeat (first | exact Ext.refl _ | exact Ext.alloc _ _ | exact Ext.drewN _ _ | assumption | refine Ext.trans ?_ (Ext.alloc _ _) | refine Ext.trans ?_ (Ext.drew _) | refine Ext.trans ?_ (by assumption))) hb); clear hb) | (go_at_call 17; (with_reducible refine (LEN.out _ (hX0.trans hW)).mono ?_); rintro e w' ⟨rfl, hb⟩; have hW := Ext.trans2 hW (by repeat (first | exact Ext.refl _ | exact Ext.alloc _ _ | exact Ext.drewN _ _ | assumption | refine Ext.trans ?_ (Ext.alloc _ _) | refine Ext.trans ?_ (Ext.drew _) | refine Ext.trans ?_ (by assumption))) hb; (try have hV := Ext.trans2 hV (by repeat (first | exact Ext.refl _ | exact Ext.alloc _ _ | exact Ext.drewN _ _ | assumption | refine Ext.trans ?_ (Ext.alloc _ _) | refine Ext.trans ?_ (Ext.drew _) | refine Ext.trans ?_ (by assumption))) hb); clear hb))
            go_ret2
            exact ⟨rfl, (hX0.trans (hW.trans (by repeat (first | exact Ext.refl _ | exact Ext.alloc _ _ | exact Ext.drewN _ _ | assumption | refine Ext.trans ?_ (Ext.alloc _ _) | refine Ext.trans ?_ (Ext.drew _) | refine Ext.trans ?_ (by assumption)))))⟩
          · go_enter Try.func12, Try.ntmps12
            go_wp2_with fail
            have hX := fun w' (h : Ext (w.alloc (Obj.cells #[.int .i64 k, .int .i64 o] 33)) w') => h.boxCell
            have hXf := fun w' (h : Ext (w.alloc (Obj.cells #[.int .i64 k, .int .i64 o] 33)) w') => h.boxFree
            have hX0 : Ext w (w.alloc (Obj.cells #[.int .i64 k, .int .i64 o] 33)) := Ext.alloc _ _
            generalize w.alloc (Obj.cells #[.int .i64 k, .int .i64 o] 33) = W0 at *
            have hW := Ext.refl W0
            go_wp2_with (first | (go_at_call 21; (with_reducible refine (HAS.out _ (hX0.trans hW)).mono ?_); rintro e w' ⟨rfl, hb⟩; have hW := Ext.trans2 hW (by repeat (first | exact Ext.refl _ | exact Ext.alloc _ _ | exact Ext.drewN _ _ | assumption | refine Ext.trans ?_ (Ext.alloc _ _) | refine Ext.trans ?_ (Ext.drew _) | refine Ext.trans ?_ (by assumption))) hb; (try have hV := Ext.trans2 hV (by repeat (first | exact Ext.refl _ | exact Ext.alloc _ _ | exact Ext.drewN _ _ | assumption | refine Ext.trans ?_ (Ext.alloc _ _) | refine Ext.trans ?_ (Ext.drew _) | refine Ext.trans ?_ (by assumption))) hb); clear hb) | (go_at_call 22; (with_reducible refine (GIV.out _ (hX0.trans hW)).mono ?_); rintro e w' ⟨rfl, hb⟩; have hW := Ext.trans2 hW (by repeat (first | exact Ext.refl _ | exact Ext.alloc _ _ | exact Ext.drewN _ _ | assumption | refine Ext.trans ?_ (Ext.alloc _ _) | refine Ext.trans ?_ (Ext.drew _) | refine Ext.trans ?_ (by assumption))) hb; (try have hV := Ext.trans2 hV (by repeat (first | exact Ext.refl _ | exact Ext.alloc _ _ | exact Ext.drewN _ _ | assumption | refine Ext.trans ?_ (Ext.alloc _ _) | refine Ext.trans ?_ (Ext.drew _) | refine Ext.trans ?_ (by assumption))) hb); clear hb) | (go_at_call 23; (with_reducible refine (MAY.out _ (hX0.trans hW)).mono ?_); rintro e w' ⟨rfl, hb⟩; have hW := Ext.trans2 hW (by repeat (first | exact Ext.refl _ | exact Ext.alloc _ _ | exact Ext.drewN _ _ | assumption | refine Ext.trans ?_ (Ext.alloc _ _) | refine Ext.trans ?_ (Ext.drew _) | refine Ext.trans ?_ (by assumption))) hb; (try have hV := Ext.trans2 hV (by repeat (first | exact Ext.refl _ | exact Ext.alloc _ _ | exact Ext.drewN _ _ | assumption | refine Ext.trans ?_ (Ext.alloc _ _) | refine Ext.trans ?_ (Ext.drew _) | refine Ext.trans ?_ (by assumption))) hb); clear hb) | (go_at_call 15; (with_reducible refine (WAI.out _ (hX0.trans hW)).mono ?_); rintro e w' ⟨rfl, hb⟩; have hW := Ext.trans2 hW (by repeat (first | exact Ext.refl _ | exact Ext.alloc _ _ | exact Ext.drewN _ _ | assumption | refine Ext.trans ?_ (Ext.alloc _ _) | refine Ext.trans ?_ (Ext.drew _) | refine Ext.trans ?_ (by assumption))) hb; (try have hV := Ext.trans2 hV (by repeat (first | exact Ext.refl _ | exact Ext.alloc _ _ | exact Ext.drewN _ _ | assumption | refine Ext.trans ?_ (Ext.alloc _ _) | refine Ext.trans ?_ (Ext.drew _) | refine Ext.trans ?_ (by assumption))) hb); clear hb) | (go_at_call 17; (with_reducible refine (LEN.out _ (hX0.trans hW)).mono ?_); rintro e w' ⟨rfl, hb⟩; have hW := Ext.trans2 hW (by repeat (first | exact Ext.refl _ | exact Ext.alloc _ _ | exact Ext.drewN _ _ | assumption | refine Ext.trans ?_ (Ext.alloc _ _) | refine Ext.trans ?_ (Ext.drew _) | refine Ext.trans ?_ (by assumption))) hb; (try have hV := Ext.trans2 hV (by repeat (first | exact Ext.refl _ | exact Ext.alloc _ _ | exact Ext.drewN _ _ | assumption | refine Ext.trans ?_ (Ext.alloc _ _) | refine Ext.trans ?_ (Ext.drew _) | refine Ext.trans ?_ (by assumption))) hb); clear hb))
            go_ret2
            exact ⟨rfl, (hX0.trans (hW.trans (by repeat (first | exact Ext.refl _ | exact Ext.alloc _ _ | exact Ext.drewN _ _ | assumption | refine Ext.trans ?_ (Ext.alloc _ _) | refine Ext.trans ?_ (Ext.drew _) | refine Ext.trans ?_ (by assumption)))))⟩
        | false =>
          rw [ew] at WAI
          cases eh : hasR S (k, o) with
          | true => rw [askE_has ok ew eh] at hz; exact absurd hz.symm h0
          | false =>
            rw [eh] at HAS
            by_cases el : S.length = 256
            · obtain rfl : z = 8 := by rw [← hz, askE_full ok ew eh el]
              have l1 : ((S.length : Int) == 256) = true := by rw [el]; rfl
              clear hz em ok ew eh el
              go_enter Try.func12, Try.ntmps12
              go_wp2_with fail
              have hX := fun w' (h : Ext (w.alloc (Obj.cells #[.int .i64 k, .int .i64 o] 33)) w') => h.boxCell
              have hXf := fun w' (h : Ext (w.alloc (Obj.cells #[.int .i64 k, .int .i64 o] 33)) w') => h.boxFree
              have hX0 : Ext w (w.alloc (Obj.cells #[.int .i64 k, .int .i64 o] 33)) := Ext.alloc _ _
              generalize w.alloc (Obj.cells #[.int .i64 k, .int .i64 o] 33) = W0 at *
              have hW := Ext.refl W0
              go_wp2_with (first | (go_at_call 21; (with_reducible refine (HAS.out _ (hX0.trans hW)).mono ?_); rintro e w' ⟨rfl, hb⟩; have hW := Ext.trans2 hW (by repeat (first | exact Ext.refl _ | exact Ext.alloc _ _ | exact Ext.drewN _ _ | assumption | refine Ext.trans ?_ (Ext.alloc _ _) | refine Ext.trans ?_ (Ext.drew _) | refine Ext.trans ?_ (by assumption))) hb; (try have hV := Ext.trans2 hV (by repeat (first | exact Ext.refl _ | exact Ext.alloc _ _ | exact Ext.drewN _ _ | assumption | refine Ext.trans ?_ (Ext.alloc _ _) | refine Ext.trans ?_ (Ext.drew _) | refine Ext.trans ?_ (by assumption))) hb); clear hb) | (go_at_call 22; (with_reducible refine (GIV.out _ (hX0.trans hW)).mono ?_); rintro e w' ⟨rfl, hb⟩; have hW := Ext.trans2 hW (by repeat (first | exact Ext.refl _ | exact Ext.alloc _ _ | exact Ext.drewN _ _ | assumption | refine Ext.trans ?_ (Ext.alloc _ _) | refine Ext.trans ?_ (Ext.drew _) | refine Ext.trans ?_ (by assumption))) hb; (try have hV := Ext.trans2 hV (by repeat (first | exact Ext.refl _ | exact Ext.alloc _ _ | exact Ext.drewN _ _ | assumption | refine Ext.trans ?_ (Ext.alloc _ _) | refine Ext.trans ?_ (Ext.drew _) | refine Ext.trans ?_ (by assumption))) hb); clear hb) | (go_at_call 23; (with_reducible refine (MAY.out _ (hX0.trans hW)).mono ?_); rintro e w' ⟨rfl, hb⟩; have hW := Ext.trans2 hW (by repeat (first | exact Ext.refl _ | exact Ext.alloc _ _ | exact Ext.drewN _ _ | assumption | refine Ext.trans ?_ (Ext.alloc _ _) | refine Ext.trans ?_ (Ext.drew _) | refine Ext.trans ?_ (by assumption))) hb; (try have hV := Ext.trans2 hV (by repeat (first | exact Ext.refl _ | exact Ext.alloc _ _ | exact Ext.drewN _ _ | assumption | refine Ext.trans ?_ (Ext.alloc _ _) | refine Ext.trans ?_ (Ext.drew _) | refine Ext.trans ?_ (by assumption))) hb); clear hb) | (go_at_call 15; (with_reducible refine (WAI.out _ (hX0.trans hW)).mono ?_); rintro e w' ⟨rfl, hb⟩; have hW := Ext.trans2 hW (by repeat (first | exact Ext.refl _ | exact Ext.alloc _ _ | exact Ext.drewN _ _ | assumption | refine Ext.trans ?_ (Ext.alloc _ _) | refine Ext.trans ?_ (Ext.drew _) | refine Ext.trans ?_ (by assumption))) hb; (try have hV := Ext.trans2 hV (by repeat (first | exact Ext.refl _ | exact Ext.alloc _ _ | exact Ext.drewN _ _ | assumption | refine Ext.trans ?_ (Ext.alloc _ _) | refine Ext.trans ?_ (Ext.drew _) | refine Ext.trans ?_ (by assumption))) hb); clear hb) | (go_at_call 17; (with_reducible refine (LEN.out _ (hX0.trans hW)).mono ?_); rintro e w' ⟨rfl, hb⟩; have hW := Ext.trans2 hW (by repeat (first | exact Ext.refl _ | exact Ext.alloc _ _ | exact Ext.drewN _ _ | assumption | refine Ext.trans ?_ (Ext.alloc _ _) | refine Ext.trans ?_ (Ext.drew _) | refine Ext.trans ?_ (by assumption))) hb; (try have hV := Ext.trans2 hV (by repeat (first | exact Ext.refl _ | exact Ext.alloc _ _ | exact Ext.drewN _ _ | assumption | refine Ext.trans ?_ (Ext.alloc _ _) | refine Ext.trans ?_ (Ext.drew _) | refine Ext.trans ?_ (by assumption))) hb); clear hb))
              go_ret2
              exact ⟨rfl, (hX0.trans (hW.trans (by repeat (first | exact Ext.refl _ | exact Ext.alloc _ _ | exact Ext.drewN _ _ | assumption | refine Ext.trans ?_ (Ext.alloc _ _) | refine Ext.trans ?_ (Ext.drew _) | refine Ext.trans ?_ (by assumption)))))⟩
            · rw [askE_new ok ew eh el] at hz; exact absurd hz.symm h0
theorem rows_at {w : World} {O : List Nat} {C m : Nat} {ov : Value} {g : Rq → Sl3} {S : List En} {r : Rq} (h : QI w O C m ov g S) (hr : hasR S r = true) : ∃ l, (r, l) ∈ S ∧ RowI w (slV (g r)) l := by
  obtain ⟨⟨q, l⟩, he, rfl⟩ := has_of hr
  exact ⟨l, he, h.rows _ he⟩
/-- Those who wait for one request are one more. -/
theorem QI.add {w w' : World} {O : List Nat} {C m : Nat} {ov : Value} {g : Rq → Sl3} {S : List En} {r : Rq} {t : Int} {s : Sl3} {l : List Int} (h : QI w O C m ov g S) (hl : (r, l) ∈ S) (ok : Ok (addT S r t))
    (hm : MpT w' m (updR (fS g S) r (some s)) S.length) (hrow : RowI w' (slV s) (l ++ who t)) (hc : Chg (m :: blkL (slV (g r))) w w') (hf : ∀ k, (slV s).ownBlock = some k → (slV (g r)).ownBlock = some k ∨ w.heap.size ≤ k) :
    QI w' (blkL (slV s) ++ O) C m ov (updR g r s) (addT S r t) := by
  have hrl := h.rows _ hl
  have hk : ∀ k, k ∈ m :: blkL (slV (g r)) → k = m ∨ ∃ cs, Blk w k cs 3 := fun k hk => by
    rcases List.mem_cons.1 hk with e | e
    · exact .inl e
    · exact .inr (own_blk hrl k (of_blkL e))
  have hsz := hc.size
  have hkey : ∀ e, e ∈ S → e.1 = r → e = (r, l) := fun e he q => h.ok.uniq he hl q
  have hold : ∀ e, e ∈ S → e.1 ≠ r → updR g r s e.1 = g e.1 := fun e he q => updR_other _ _ q
  refine ⟨h.c.chg hc (fun q => ?_), ?_, ?_, fun x hx => ?_, fun x hx y hy k hk1 hk2 => ?_, List.mem_append_right _ h.oc, List.mem_append_right _ h.om, fun k hk => List.mem_append_right _ (h.orow k hk), fun x hx k hk1 => ?_, fun k hk1 => ?_, ok⟩
  · rcases hk _ q with e | ⟨cs, hb⟩
    · exact h.cm e
    · exact absurd (h.c.type hb) (by decide)
  · rw [add_len, ks_add]
    refine own_chgB h.row hc (fun k hk1 q => ?_)
    obtain ⟨cs, hb⟩ := own_blk h.row k hk1
    rcases hk _ q with e | ⟨cs2, hb2⟩
    · exact h.map.noC _ _ (e ▸ hb)
    · exact absurd (hb.type hb2) (by decide)
  · rw [add_len]
    refine hm.eqF fun q _ => ?_
    unfold fS updR
    rw [has_add]
    by_cases e : q = r
    · rw [if_pos e, if_pos e, e, has_mem hl]; rfl
    · rw [if_neg e, if_neg e]
  · obtain ⟨e, he, rfl⟩ := add_mem.1 hx
    rw [addE_fst]
    by_cases q : e.1 = r
    · have := hkey e he q
      subst this
      unfold addE
      rw [if_pos rfl, updR_same]
      exact hrow
    · rw [hold e he q]
      unfold addE
      rw [if_neg q]
      refine own_chgB (h.rows e he) hc (fun k hk1 hk2 => ?_)
      rcases List.mem_cons.1 hk2 with e2 | e2
      · obtain ⟨cs, hb⟩ := own_blk (h.rows e he) k hk1
        exact h.map.noC _ _ (e2 ▸ hb)
      · exact q (h.apart e he (r, l) hl k hk1 (of_blkL e2))
  · obtain ⟨e, he, rfl⟩ := add_mem.1 hx
    obtain ⟨e', he', rfl⟩ := add_mem.1 hy
    rw [addE_fst] at hk1 ⊢
    rw [addE_fst] at hk2 ⊢
    by_cases q : e.1 = r <;> by_cases q' : e'.1 = r
    · rw [q, q']
    · rw [q, updR_same] at hk1
      rw [hold e' he' q'] at hk2
      rcases hf k hk1 with h1 | h1
      · rw [q]; exact h.apart (r, l) hl e' he' k h1 hk2
      · have := h.lt k (h.owait e' he' k hk2); omega
    · rw [q', updR_same] at hk2
      rw [hold e he q] at hk1
      rcases hf k hk2 with h1 | h1
      · rw [q']; exact h.apart e he (r, l) hl k hk1 h1
      · have := h.lt k (h.owait e he k hk1); omega
    · rw [hold e he q] at hk1
      rw [hold e' he' q'] at hk2
      exact h.apart e he e' he' k hk1 hk2
  · obtain ⟨e, he, rfl⟩ := add_mem.1 hx
    rw [addE_fst] at hk1
    by_cases q : e.1 = r
    · rw [q, updR_same] at hk1; exact List.mem_append_left _ (blkL_of hk1)
    · rw [hold e he q] at hk1; exact List.mem_append_right _ (h.owait e he k hk1)
  · rcases List.mem_append.1 hk1 with h1 | h1
    · exact own_lt hrow k (of_blkL h1)
    · have := h.lt k h1; omega
theorem two2 {w : World} {g : Nat} {t : TypeId} {a b : Value} (h : Blk w g #[a, b] t) : w.cell? ⟨g, 0, none⟩ = some a ∧ w.cell? ⟨g, 1, none⟩ = some b := ⟨h.cell 0, h.cell 1⟩
theorem four2 {w : World} {g b : Nat} {t u : TypeId} {a1 a2 b1 b2 : Value} (h : Blk w g #[a1, a2] t) (k : Blk w b #[b1, b2] u) : (w.cell? ⟨g, 0, none⟩ = some a1 ∧ w.cell? ⟨g, 1, none⟩ = some a2) ∧ (w.cell? ⟨b, 0, none⟩ = some b1 ∧ w.cell? ⟨b, 1, none⟩ = some b2) := ⟨two2 h, two2 k⟩
/-- Behind the row that has grown: the map's update. -/
theorem more_mid {w w6 : World} {O : List Nat} {C m b : Nat} {ov : Value} {g : Rq → Sl3} {S : List En} {r : Rq} {l l' : List Int} {s : Sl3} (h : QI w O C m ov g S) (hb : Blk w b #[.int .i64 r.1, .int .i64 r.2] 33) (hl : (r, l) ∈ S)
    (hrow : RowI w (slV (g r)) l) (hr : wfR r) (eh : hasR S r = true) (hr6 : RowI w6 (slV s) l') (hc : Chg (blkL (slV (g r))) w w6) :
    Hid (Blk w6 C #[ov, .map (some m)] 57) ∧ Hid (Blk w6 b #[.int .i64 r.1, .int .i64 r.2] 33) ∧ ∃ w7, (Instr.mapUpdate 55 (.map (some m)) ((Value.agg #[.int .i64 r.1, .int .i64 r.2])) (slV s)).run Try.prog w6 = .ok () w7 ∧ MpT w7 m (updR (fS g S) r (some s)) S.length ∧ Chg (m :: blkL (slV (g r))) w w7 ∧ RowI w7 (slV s) l' ∧ Hid (Blk w7 C #[ov, .map (some m)] 57) ∧ Hid (Blk w7 b #[.int .i64 r.1, .int .i64 r.2] 33) := by
  have hk : ∀ k, k ∈ blkL (slV (g r)) → ∃ cs, Blk w k cs 3 := fun k hk => own_blk hrow k (of_blkL hk)
  have n1 : C ∉ blkL (slV (g r)) := fun q => by obtain ⟨cs, hb⟩ := hk _ q; exact absurd (h.c.type hb) (by decide)
  have n2 : b ∉ blkL (slV (g r)) := fun q => by obtain ⟨cs, hb2⟩ := hk _ q; exact absurd (hb.type hb2) (by decide)
  have n3 : m ∉ blkL (slV (g r)) := fun q => by obtain ⟨cs, hb2⟩ := hk _ q; exact h.map.noC _ _ hb2
  have hm6 := h.map.chg hc n3
  obtain ⟨w7, hrun, hm7, hg⟩ := hm6.update hr s (by have := h.ok.len; unfold maxLen; omega)
  rw [fS_isSome, eh] at hm7
  refine ⟨h.c.chg hc n1, hb.chg hc n2, w7, hrun, hm7, (hc.mono fun k hk => List.mem_cons_of_mem _ hk).trans (Chg.of_grown hg (by simp)), own_chgB hr6 (Chg.of_grown hg (T := [m]) (by simp)) (fun k hk q => ?_), (h.c.chg hc n1).chg (Chg.of_grown hg (T := [m]) (by simp)) (by simp; exact h.cm), (hb.chg hc n2).chg (Chg.of_grown hg (T := [m]) (by simp)) (by simp; rintro rfl; exact h.map.noC _ _ hb)⟩
  obtain ⟨cs, hb2⟩ := own_blk hr6 k hk
  simp at q
  exact hm6.noC _ _ (q ▸ hb2)
theorem ask_more {w : World} {O : List Nat} {C : Nat} {S : List En} {k o t : Int} (h : QT w O C S) (ok : okA (k, o) t = true) (ew : waitsB S t = false) (eh : hasR S (k, o) = true) :
    Calls Try.prog 12 #[.pointer (some ⟨C, 0, none⟩), (Value.agg #[.int .i64 k, .int .i64 o]), .int .i64 t] w fun e w' => e = .returned (.tuple #[.bool false, .int .i64 0]) ∧ ∃ O', QT w' O' C (addT S (k, o) t) ∧ Chg O w w' ∧ Fr O O' w := by
  obtain ⟨em, et⟩ := okA_of ok
  have hr := mayR_wf em
  have hb := okT_of et
  have HAS : Hid (∀ w', Ext w w' → Calls Try.prog 21 #[.pointer (some ⟨C, 0, none⟩), (Value.agg #[.int .i64 k, .int .i64 o])] w' fun e w2 => e = .returned (.bool (hasR S (k, o))) ∧ Ext w' w2) := hide fun w' x => has_any (h.ext x).any hr
  have GIV : Hid (∀ w', Ext w w' → Calls Try.prog 22 #[.pointer (some ⟨C, 0, none⟩)] w' fun e w2 => e = .returned (.bool true) ∧ Ext w' w2) := hide fun w' x => given_ext (h.ext x).any
  have MAY : Hid (∀ w', Ext w w' → Calls Try.prog 23 #[(Value.agg #[.int .i64 k, .int .i64 o])] w' fun e w2 => e = .returned (.bool (mayR (k, o))) ∧ Ext w' w2) := hide fun w' x => may_any (k, o) w'
  have WAI : Hid (∀ w', Ext w w' → Calls Try.prog 15 #[.pointer (some ⟨C, 0, none⟩), .int .i64 t] w' fun e w2 => e = .returned (.bool (waitsB S t)) ∧ Ext w' w2) := hide fun w' x => waits_in t (h.ext x).any
  have LEN : Hid (∀ w', Ext w w' → Calls Try.prog 17 #[.pointer (some ⟨C, 0, none⟩)] w' fun e w2 => e = .returned (.int .i64 (S.length : Int)) ∧ Ext w' w2) := hide fun w' x => len_any (h.ext x).any
  rw [em] at MAY
  rw [ew] at WAI
  rw [eh] at HAS
  have OKA := hide (h.ok.add (r := (k, o)) et ew)
  have HQ := hide h
  have EH := hide eh
  have HR := hide hr
  have ET := hide et
  have t0 : ¬ t < -1 := by omega
  have t1 : ¬ 255 < t := by omega
  clear h em ok ew eh hr et hb
  go_enter Try.func12, Try.ntmps12
  go_wp2_with fail
  have HBK := hide (Blk.new w #[.int .i64 k, .int .i64 o] 33)
  have hX := fun w' (h : Ext (w.alloc (Obj.cells #[.int .i64 k, .int .i64 o] 33)) w') => h.boxCell
  have hXf := fun w' (h : Ext (w.alloc (Obj.cells #[.int .i64 k, .int .i64 o] 33)) w') => h.boxFree
  have hX0 : Ext w (w.alloc (Obj.cells #[.int .i64 k, .int .i64 o] 33)) := Ext.alloc _ _
  generalize w.alloc (Obj.cells #[.int .i64 k, .int .i64 o] 33) = W0 at *
  have hW := Ext.refl W0
  go_wp2_with (first | (go_at_call 21; (with_reducible refine (HAS.out _ (hX0.trans hW)).mono ?_); rintro e w' ⟨rfl, hb⟩; have hW := Ext.trans2 hW (by repeat (first | exact Ext.refl _ | exact Ext.alloc _ _ | exact Ext.drewN _ _ | assumption | refine Ext.trans ?_ (Ext.alloc _ _) | refine Ext.trans ?_ (Ext.drew _) | refine Ext.trans ?_ (by assumption))) hb; (try have hV := Ext.trans2 hV (by repeat (first | exact Ext.refl _ | exact Ext.alloc _ _ | exact Ext.drewN _ _ | assumption | refine Ext.trans ?_ (Ext.alloc _ _) | refine Ext.trans ?_ (Ext.drew _) | refine Ext.trans ?_ (by assumption))) hb); clear hb) | (go_at_call 22; (with_reducible refine (GIV.out _ (hX0.trans hW)).mono ?_); rintro e w' ⟨rfl, hb⟩; have hW := Ext.trans2 hW (by repeat (first | exact Ext.refl _ | exact Ext.alloc _ _ | exact Ext.drewN _ _ | assumption | refine Ext.trans ?_ (Ext.alloc _ _) | refine Ext.trans ?_ (Ext.drew _) | refine Ext.trans ?_ (by assumption))) hb; (try have hV := Ext.trans2 hV (by repeat (first | exact Ext.refl _ | exact Ext.alloc _ _ | exact Ext.drewN _ _ | assumption | refine Ext.trans ?_ (Ext.alloc _ _) | refine Ext.trans ?_ (Ext.drew _) | refine Ext.trans ?_ (by assumption))) hb); clear hb) | (go_at_call 23; (with_reducible refine (MAY.out _ (hX0.trans hW)).mono ?_); rintro e w' ⟨rfl, hb⟩; have hW := Ext.trans2 hW (by repeat (first | exact Ext.refl _ | exact Ext.alloc _ _ | exact Ext.drewN _ _ | assumption | refine Ext.trans ?_ (Ext.alloc _ _) | refine Ext.trans ?_ (Ext.drew _) | refine Ext.trans ?_ (by assumption))) hb; (try have hV := Ext.trans2 hV (by repeat (first | exact Ext.refl _ | exact Ext.alloc _ _ | exact Ext.drewN _ _ | assumption | refine Ext.trans ?_ (Ext.alloc _ _) | refine Ext.trans ?_ (Ext.drew _) | refine Ext.trans ?_ (by assumption))) hb); clear hb) | (go_at_call 15; (with_reducible refine (WAI.out _ (hX0.trans hW)).mono ?_); rintro e w' ⟨rfl, hb⟩; have hW := Ext.trans2 hW (by repeat (first | exact Ext.refl _ | exact Ext.alloc _ _ | exact Ext.drewN _ _ | assumption | refine Ext.trans ?_ (Ext.alloc _ _) | refine Ext.trans ?_ (Ext.drew _) | refine Ext.trans ?_ (by assumption))) hb; (try have hV := Ext.trans2 hV (by repeat (first | exact Ext.refl _ | exact Ext.alloc _ _ | exact Ext.drewN _ _ | assumption | refine Ext.trans ?_ (Ext.alloc _ _) | refine Ext.trans ?_ (Ext.drew _) | refine Ext.trans ?_ (by assumption))) hb); clear hb) | (go_at_call 17; (with_reducible refine (LEN.out _ (hX0.trans hW)).mono ?_); rintro e w' ⟨rfl, hb⟩; have hW := Ext.trans2 hW (by repeat (first | exact Ext.refl _ | exact Ext.alloc _ _ | exact Ext.drewN _ _ | assumption | refine Ext.trans ?_ (Ext.alloc _ _) | refine Ext.trans ?_ (Ext.drew _) | refine Ext.trans ?_ (by assumption))) hb; (try have hV := Ext.trans2 hV (by repeat (first | exact Ext.refl _ | exact Ext.alloc _ _ | exact Ext.drewN _ _ | assumption | refine Ext.trans ?_ (Ext.alloc _ _) | refine Ext.trans ?_ (Ext.drew _) | refine Ext.trans ?_ (by assumption))) hb); clear hb))
  obtain ⟨m, ov, g, hq⟩ := HQ.out.ext ((hX0.trans hW).trans (Ext.drew w'))
  have HB := hide (HBK.out.ext (hW.trans (Ext.drew w')))
  obtain ⟨l, hl, hrow⟩ := rows_at hq EH.out
  have hlook := hq.map.look1 HR.out
  have e1 : (fS g S (k, o)).getD ⟨none, 0, 0⟩ = g (k, o) := by unfold fS; rw [if_pos EH.out]; rfl
  rw [e1] at hlook
  have hj := joined_any hrow (by have := hq.ok.wlen hl; simp at this; omega) ET.out
  obtain ⟨A, c, es⟩ := own_sl hrow
  have ES := hide es
  rw [es] at hlook hj
  have HJ := hide hj
  have HC := hide hq.c
  have HI := hide hq
  have HL := hide hl
  have HROW := hide hrow
  have nC : C ≠ w.heap.size := fun e => by have := HB.out; rw [← e] at this; exact absurd (hq.c.type this) (by decide)
  have HX := hide ((hX0.trans hW).trans (Ext.drew w'))
  have hsl := hq.ok.len
  clear hj hq hl hrow es e1 hX hXf hX0 hW
  go_region_held3 (fun wx => (wx.cell? ⟨C, 0, none⟩ = some ov ∧ wx.cell? ⟨C, 1, none⟩ = some (.map (some m))) ∧ (wx.cell? ⟨w.heap.size, 0, none⟩ = some (.int .i64 k) ∧ wx.cell? ⟨w.heap.size, 1, none⟩ = some (.int .i64 o)))
    (with_reducible first | exact four2 HC7.out HB7.out | exact four2 HC6.out HB6.out | exact four2 HC.out HB.out)
    ((go_at_call 24; with_reducible refine HJ.out.mono ?_; rintro e w6 ⟨s6, rfl, hr6, hc6, hf6⟩; rw [← ES.out] at hc6 hf6; obtain ⟨HC6, HB6, w7, hrun, hm7, hc7, hr7, HC7, HB7⟩ := more_mid HI.out HB.out HL.out HROW.out HR.out EH.out hr6 hc6; obtain ⟨A6, c6, es6⟩ := own_sl hr6; obtain ⟨n6, hn6⟩ : ∃ n, n = (l ++ who t).length := ⟨_, rfl⟩; rw [← hn6] at es6; clear hn6; have ES6 := hide es6; rw [es6] at hrun ⊢; have HM7 := hide hm7; have HG7 := hide hc7; have HR7 := hide hr7; have HF6 := hide hf6; clear hm7 hc7 hr7 hf6 hc6 hr6 es6))
  go_wp2_with fail
  go_ret2
  refine ⟨by simp, blkL (slV s6) ++ O, ⟨m, ov, updR g (k, o) s6, HI.out.add HL.out OKA.out HM7.out HR7.out HG7.out HF6.out⟩, (HX.out.chg O).trans (HG7.out.mono fun q hq => ?_), fun q hq => ?_⟩
  · rcases List.mem_cons.1 hq with e | e
    · rw [e]; exact HI.out.om
    · exact HI.out.owait _ HL.out q (of_blkL e)
  · rcases List.mem_append.1 hq with e | e
    · rcases HF6.out q (of_blkL e) with e2 | e2
      · exact .inl (HI.out.owait _ HL.out q e2)
      · exact .inr (Nat.le_trans HX.out.size e2)
    · exact .inl e
end Go.Proofs.Ytonaibpenijomaa
