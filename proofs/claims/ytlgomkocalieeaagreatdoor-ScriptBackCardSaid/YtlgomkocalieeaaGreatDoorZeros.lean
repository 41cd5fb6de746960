/- 'append(out, make([]T, m)...)', for every seat: the row grows by m zero elements; it stays where it lay, or is a new block. -/
import Derived.Test.YtlgomkocalieeaaGreatDoorGrow
namespace Go.Proofs.YtlgomkocalieeaaGreatDoor
open Go.RowKit
set_option linter.unusedSimpArgs false
set_option linter.unusedVariables false

theorem cells_length_aux (z : Value) (m : Nat) : (Builtin.zeroCells z.cells m).toList.length = m * z.cells.size := by rw [Array.length_toList, size_zeroCells]
/-- A row that has just been made, whose first cells are xs. -/
theorem own_fresh {w : World} {base size n cap : Nat} {e : TypeId} {xs : List Value} (cs : Array Value) (hb : base ≤ w.heap.size) (hx : xs.length = n * size) (hc : n ≤ cap) (hm : cap ≤ maxLen) (hs : cs.size = cap * size) (hp : ∃ r, cs.toList = xs ++ r) :
    (w.drew.alloc (.cells cs e)).ownsRow base e size (.slice (some ⟨w.heap.size, 0, none⟩) n cap) n xs := by
  obtain ⟨r, hr⟩ := hp
  refine ⟨hx, .inr ⟨_, cap, cs, rfl, hb, Blk.new w.drew cs e, hc, hm, hs, ?_⟩⟩
  rw [hr, ← hx, List.take_left]
theorem drew_grown (w : World) (o : Obj) (row : Option Nat) : w.grownBy (w.drew.alloc o) row :=
  let h := World.grownBy_alloc w.drew o row
  ⟨h.os, h.tape, h.output, h.size, h.block⟩
section
variable {P : Program} (w : World) (m base : Nat) (t u ty e : TypeId) (i : TypeInfo) (z : Value) (size bytes : Nat)
/-- What the operation does where the row has to be made anew. -/
theorem zeros_anew (ht : P.underlying t = some (.slice e)) (hu : P.underlying u = some (.int .i64)) (hi : P.info? e = some i) (hz : i.zero = some z) (hsz : 0 < i.size) (hzs : z.cells.size = i.size)
    (A : Option Addr) (n cap : Nat) (xs : List Value) (hl : xs.length = n * i.size) (hold : (Builtin.firstCells i.size n (.slice A n cap)).run P w.drew = .ok xs.toArray w.drew)
    (h0 : 0 < m) (hr : ¬ n + m ≤ cap) (h63 : n + m ≤ maxLen) (hbytes : (n + m) * i.bytes ≤ 140737488355328) (hbase : base ≤ w.heap.size) :
    ∃ v' w', (Builtin.append_ #[t, u] ty #[.slice A n cap, .int .i64 (m : Int)]).run P w = .ok v' w' ∧ w'.ownsRow base e i.size v' (n + m) (xs ++ (Builtin.zeroCells z.cells m).toList) ∧ (∀ row, w.grownBy w' row) ∧ (∀ k, v'.ownBlock = some k → w.heap.size ≤ k) := by
  unfold maxLen at h63
  have hm : ¬ m = 0 := by omega
  have hwr : IntKind.i64.wrap (m : Int) = (m : Int) := by rw [IntKind.wrap_i64]; omega
  have hneg : ¬ ((m : Int) < 0) := by omega
  have hms : ¬ m * i.size = 0 := Nat.mul_ne_zero (by omega) (by omega)
  have hbig : ¬ (281474976710656 < (m : Int) * (i.bytes : Int)) := by
    have q : m * i.bytes ≤ (n + m) * i.bytes := Nat.mul_le_mul_right _ (Nat.le_add_left _ _)
    rw [← Int.natCast_mul]; omega
  have hcap : Builtin.nextslicecap (n + m) cap * i.bytes ≤ 281474976710656 := growslice_fits (by omega) hbytes
  have hcap2 : ¬ (281474976710656 < Builtin.nextslicecap (n + m) cap * i.bytes) := by omega
  have hlen : ¬ (9223372036854775807 < (n : Int) + (m : Int)) := by omega
  have hge := grownCap_ge w (n + m) cap e
  have hle := grownCap_le_maxLen w (n + m) cap e (by unfold maxLen; omega)
  have hzl := cells_length_aux z m
  refine ⟨.slice (some ⟨w.heap.size, 0, none⟩) (n + m) (grownCap w (n + m) cap e), w.drew.alloc (.cells (xs.toArray ++ Builtin.zeroCells z.cells m ++ Builtin.zeroCells z.cells (grownCap w (n + m) cap e - (n + m))) e), ?_, own_fresh _ hbase ?_ hge hle ?_ ⟨_, by rw [Array.toList_append, Array.toList_append]⟩, drew_grown w _, fun k hk => by simp [Value.ownBlock] at hk; omega⟩
  · simp [Builtin.append_, run_underlying ht, run_underlying hu, sizeOf, typeInfo, zeroValue, hi, hz, asInt, asIntOf, hwr, hneg, hbig, hm, hms, hr, hlen, hcap2, Question.forced, hold, newRow, grownCap]
  · rw [List.length_append, hl, hzl, hzs, Nat.add_mul]
  · rw [Array.size_append, Array.size_append, size_zeroCells, size_zeroCells, hzs, List.size_toArray, hl, ← Nat.add_mul, ← Nat.add_mul]
    congr 1; omega
theorem run_append_zeros (ht : P.underlying t = some (.slice e)) (hu : P.underlying u = some (.int .i64)) (hi : P.info? e = some i) (hz : i.zero = some z)
    (hsize : i.size = size) (hby : i.bytes = bytes) (hzs : z.cells.size = size) (hsz : 0 < size) (h1c : ∀ x ∈ (Builtin.zeroCells z.cells m).toList, x.oneCell' = true)
    (v : Value) (n : Nat) (xs : List Value) (hown : w.ownsRow base e size v n xs) (h0 : 0 < m) (h63 : n + m ≤ maxLen) (hbytes : (n + m) * bytes ≤ 140737488355328) (hbase : base ≤ w.heap.size) :
    ∃ v' w', (Builtin.append_ #[t, u] ty #[v, .int .i64 (m : Int)]).run P w = .ok v' w' ∧ w'.ownsRow base e size v' (n + m) (xs ++ (Builtin.zeroCells z.cells m).toList) ∧ w.grownBy w' v.ownBlock ∧
      (∀ k, v'.ownBlock = some k → v.ownBlock = some k ∨ w.heap.size ≤ k) := by
  subst hsize hby
  have hcells := fun k => hown.cells (g := k)
  rcases hown with ⟨hl, ⟨rfl, rfl⟩ | ⟨g, cap, cur, rfl, hbg, hg, hnc, hcm, hcs, htake⟩⟩
  · obtain rfl : xs = [] := List.eq_nil_of_length_eq_zero (by simpa using hl)
    obtain ⟨v', w', q1, q2, q3, q4⟩ := zeros_anew w m base t u ty e i z ht hu hi hz hsz hzs none 0 0 [] hl (by simp [run_firstCells_none]) h0 (by omega) h63 hbytes hbase
    exact ⟨v', w', q1, q2, q3 _, fun k hk => .inr (q4 k hk)⟩
  · by_cases hr : n + m ≤ cap
    · have h64 := h63
      unfold maxLen at h64
      have hwr : IntKind.i64.wrap (m : Int) = (m : Int) := by rw [IntKind.wrap_i64]; omega
      have hneg : ¬ ((m : Int) < 0) := by omega
      have hm : ¬ m = 0 := by omega
      have hms : ¬ m * i.size = 0 := Nat.mul_ne_zero (by omega) (by omega)
      have hbig : ¬ (281474976710656 < (m : Int) * (i.bytes : Int)) := by
        have q : m * i.bytes ≤ (n + m) * i.bytes := Nat.mul_le_mul_right _ (Nat.le_add_left _ _)
        rw [← Int.natCast_mul]; omega
      have hzl := cells_length_aux z m
      have hroom : (n + m) * i.size ≤ cap * i.size := Nat.mul_le_mul_right _ hr
      rw [Nat.add_mul] at hroom
      have hst := run_storeCells_at P g (n * i.size) e (Builtin.zeroCells z.cells m).toList 0 cur w hg (by rw [hzl, hzs]; omega) h1c
      rw [Nat.add_zero] at hst
      have hlen2 : (xs ++ (Builtin.zeroCells z.cells m).toList).length = (n + m) * i.size := by rw [List.length_append, hl, hzl, hzs, Nat.add_mul]
      obtain ⟨row, hrow⟩ : ∃ row : Array Value, row = (cur.toList.take (n * i.size) ++ (Builtin.zeroCells z.cells m).toList ++ cur.toList.drop (n * i.size + (Builtin.zeroCells z.cells m).toList.length)).toArray := ⟨_, rfl⟩
      refine ⟨.slice (some ⟨g, 0, none⟩) (n + m) cap, w.setRow g row, ?_, ⟨hlen2, .inr ⟨g, cap, row, rfl, hbg, setRow_heap w g cur row e _ hg, hr, hcm, ?_, ?_⟩⟩, ⟨rfl, rfl, rfl, by simp, fun k _ hk => setRow_other w g k row (by rintro rfl; exact hk rfl)⟩, fun k hk => .inl hk⟩
      · rw [hrow]
        simp [Builtin.append_, run_underlying ht, run_underlying hu, sizeOf, typeInfo, zeroValue, hi, hz, asInt, asIntOf, hwr, hneg, hbig, hm, hms, hr, Addr.add_lit]
        simp [hst]
      · rw [hrow, List.size_toArray, List.length_append, List.length_append, List.length_take, List.length_drop, Array.length_toList, hzl, hzs, hcs]; omega
      · rw [hrow, htake, ← hlen2]; exact List.take_left
    · obtain ⟨v', w', q1, q2, q3, q4⟩ := zeros_anew w m base t u ty e i z ht hu hi hz hsz hzs (some ⟨g, 0, none⟩) n cap xs hl (run_firstCells_some (P := P) w.drew i.size n ⟨g, 0, none⟩ n cap xs hl (by simpa using hcells g rfl)) h0 hr h63 hbytes hbase
      exact ⟨v', w', q1, q2, q3 _, fun k hk => .inr (q4 k hk)⟩
end
theorem wpList_zeros {P : Program} {w : World} {base m : Nat} {ops : Array Oper} {rest : List Oper} {o : Oper} {a : Act} {Q : Exit → Act → World → Prop} {s x : Operand} {t u : TypeId} (hgd : o.guard = none)
    (ho : o.op = .call { callee := .builtin .append, args := #[s, x], argTypes := #[t, u] })
    {e : TypeId} {z : Value} {size bytes : Nat} (ht : P.underlying t = some (.slice e)) (hu : P.underlying u = some (.int .i64)) (hinf : (P.info? e).map (fun i => (i.zero, i.size, i.bytes)) = some (some z, size, bytes))
    (hzs : z.cells.size = size) (hsz : 0 < size) (h1c : ∀ y ∈ (Builtin.zeroCells z.cells m).toList, y.oneCell' = true)
    {v : Value} {n : Nat} {xs : List Value} (hs : a.eval s = v) (hown : w.ownsRow base e size v n xs) (hbase : base ≤ w.heap.size)
    (hx : a.eval x = .int .i64 (m : Int)) (h0 : 0 < m) (hn : n + m ≤ maxLen) (hby : (n + m) * bytes ≤ 140737488355328)
    (h : ∀ v' w', w'.ownsRow base e size v' (n + m) (xs ++ (Builtin.zeroCells z.cells m).toList) → w.grownBy w' v.ownBlock → (∀ k, v'.ownBlock = some k → v.ownBlock = some k ∨ w.heap.size ≤ k) → wpList P ops Q rest (a.put o.dst v') w') :
    wpList P ops Q (o :: rest) a w := by
  refine wpList_plain hgd fun K hK => ?_
  obtain ⟨i, hi, hz, hsize, hb⟩ := info_parts hinf
  obtain ⟨v', w', hr, h2, h3, h4⟩ := run_append_zeros (P := P) w m base t u o.type e i z size bytes ht hu hi hz hsize hb hzs hsz h1c v n xs hown h0 hn hby hbase
  unfold Oper.wp execOp
  simp only [ho, resolve, invoke, builtin, Sem.run_bind, Sem.run_pure, Result.andThen_ok, List.map_toArray, List.map_cons, List.map_nil, hs, hx, hr]
  exact hK _ _ (h v' w' h2 h3 h4)

/-- 'append(v, x..)': the row stays where it lay, or is a new block. -/
theorem run_app3 {P : Program} (w : World) (base : Nat) (t ty e : TypeId) (i : TypeInfo) (z : Value) (size bytes : Nat) (ht : P.underlying t = some (.slice e)) (hi : P.info? e = some i) (hz : i.zero = some z)
    (hsize : i.size = size) (hby : i.bytes = bytes) (hzs : z.cells.size = size) (hsz : 0 < size)
    (v : Value) (n : Nat) (xs : List Value) (hown : w.ownsRow base e size v n xs)
    (a : Addr) (m c : Nat) (news : List Value) (hl : news.length = m * size) (hnews : ∀ j u, news[j]? = some u → w.cell? (a.add j) = some u) (h1 : ∀ u ∈ news, u.oneCell' = true)
    (h63 : n + m ≤ maxLen) (hbytes : (n + m) * bytes ≤ 140737488355328) (hbase : base ≤ w.heap.size) :
    ∃ v' w', (Builtin.append_ #[t, t] ty #[v, .slice (some a) m c]).run P w = .ok v' w' ∧ w'.ownsRow base e size v' (n + m) (xs ++ news) ∧ w.grownBy w' v.ownBlock ∧
      (∀ k, v'.ownBlock = some k → v.ownBlock = some k ∨ w.heap.size ≤ k) := by
  have hnew : ∀ (v' : Value) (w' : World) (row : Option Nat), w'.ownsRow w.heap.size e size v' (n + m) (xs ++ news) → w.grownBy w' none → w'.ownsRow base e size v' (n + m) (xs ++ news) ∧ w.grownBy w' row ∧ (∀ k, v'.ownBlock = some k → v.ownBlock = some k ∨ w.heap.size ≤ k) :=
    fun v' w' row h2 h3 => ⟨own_low h2 hbase, ⟨h3.os, h3.tape, h3.output, h3.size, fun k hk _ => h3.block k hk (by simp)⟩, fun k hk => .inr (own_row h2 k hk)⟩
  rcases hown.2 with ⟨rfl, rfl⟩ | ⟨g, cap, cur, rfl, hbg, hh, hnc, hcm, hcs, htake⟩
  · have e0 : xs = [] := List.eq_nil_of_length_eq_zero (by simpa using hown.1)
    subst e0
    obtain ⟨v', w', hr, h2, h3, _⟩ := run_append_own (P := P) w w.heap.size t ty e i z size bytes ht hi hz hsize hby hzs hsz (.slice none 0 0) 0 [] (own_nil _ _ _ _) a m c news hl hnews h1 h63 hbytes (Nat.le_refl _)
    exact ⟨v', w', hr, hnew v' w' _ h2 ⟨h3.os, h3.tape, h3.output, h3.size, fun k hk _ => h3.block k hk (by simp [Value.ownBlock])⟩⟩
  · by_cases hr : n + m ≤ cap
    · obtain ⟨w', hrun, h2, h3⟩ := run_append_fits (P := P) w base t ty e i size ht hi hsize g n cap xs hown a m c news hl hnews h1 hr
      exact ⟨_, w', hrun, h2, h3, fun k hk => .inl hk⟩
    · obtain ⟨v', w', hrun, h2, h3⟩ := run_append_arg_grows (P := P) w t ty e i z size bytes ht hi hz hsize hby hzs hsz ⟨g, 0, none⟩ n cap xs hown.1 (hown.cells rfl) a m c news hl hnews (by omega) h63 hbytes
      exact ⟨v', w', hrun, hnew v' w' _ h2 h3⟩
theorem step_app3 {P : Program} {ops : Array Oper} {o : Oper} {a : Act} {w : World} {base : Nat} {K : Act → World → Prop} {Q : Exit → Act → World → Prop} {E : Prop}
    (hg : o.guard = none) (s x : Operand) (t : TypeId) (ho : o.op = .call { callee := .builtin .append, args := #[s, x], argTypes := #[t, t] })
    {e : TypeId} {z : Value} {size bytes : Nat} (ht : P.underlying t = some (.slice e)) (hinf : (P.info? e).map (fun i => (i.zero, i.size, i.bytes)) = some (some z, size, bytes))
    (hzs : z.cells.size = size) (hsz : 0 < size)
    {v : Value} {n : Nat} {xs : List Value} (hs : a.eval s = v) (hown : w.ownsRow base e size v n xs) (hbase : base ≤ w.heap.size)
    {ad : Addr} {m c : Nat} {news : List Value} (hx : a.eval x = .slice (some ad) m c) (hl : news.length = m * size) (hnews : ∀ j u, news[j]? = some u → w.cell? (ad.add j) = some u) (h1 : ∀ u ∈ news, u.oneCell' = true)
    (hn : n + m ≤ maxLen) (hby : (n + m) * bytes ≤ 140737488355328)
    (h : ∀ A' c' w', w'.ownsRow base e size (.slice A' (n + m) c') (n + m) (xs ++ news) → w.grownBy w' v.ownBlock → (∀ k, (Value.slice A' (n + m) c').ownBlock = some k → v.ownBlock = some k ∨ w.heap.size ≤ k) → K (a.put o.dst (.slice A' (n + m) c')) w') :
    if Region.wanted o (yielded ops a.tmps) = true then Oper.wp P o a w K Q else E := by
  have hw : Region.wanted o (yielded ops a.tmps) = true := by simp [Region.wanted, hg]
  rw [if_pos hw]
  obtain ⟨i, hi, hz, hsize, hb⟩ := info_parts hinf
  obtain ⟨v', w', hr, h2, h3, h4⟩ := run_app3 (P := P) w base t o.type e i z size bytes ht hi hz hsize hb hzs hsz v n xs hown ad m c news hl hnews h1 hn hby hbase
  obtain ⟨A', c', rfl⟩ := own_sl h2
  unfold Oper.wp execOp
  simp only [ho, resolve, invoke, builtin, Sem.run_bind, Sem.run_pure, Result.andThen_ok, List.map_toArray, List.map_cons, List.map_nil, hs, hx, hr]
  exact h A' c' w' h2 h3 h4
end Go.Proofs.YtlgomkocalieeaaGreatDoor
