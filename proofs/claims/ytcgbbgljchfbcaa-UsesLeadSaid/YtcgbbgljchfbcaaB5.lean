/- What a range over the map collects; what a sort leaves of it. -/
import Derived.Test.YtcgbbgljchfbcaaB4
import Derived.Test.YtcgbbgljchfbcaaGrow
namespace Go.Proofs.Ytcgbbgljchfbcaa
open Go.RowKit Go.Maps
set_option linter.unusedSimpArgs false
set_option linter.unusedVariables false

/-- What a round of the range has collected. -/
structure Coll (S : List Pr) (f : Pr → Bool) (left : Lit → Bool) (ss : List Pr) : Prop where
  nd : (ss.map Pr.s).Nodup
  mem : ∀ x, x ∈ ss ↔ (x ∈ S ∧ f x = true ∧ left (ky x.s) = false)
theorem Coll.start {S : List Pr} {f : Pr → Bool} {D : DataW Unit} {n : Nat} (ok : OkS S) (h : Rep D (bySlot S) n) : Coll S f (Maps.has D) [] := by
  refine ⟨List.nodup_nil, fun x => ⟨fun h => by simp at h, fun ⟨h1, _, h3⟩ => ?_⟩⟩
  rw [h.has, (bySlot_some ok).2 ⟨h1, rfl⟩] at h3
  cases h3
theorem left_iff (left : Lit → Bool) (t s : Int) : (left (ky s) && !(ky s).sameKey (ky t)) = false ↔ left (ky s) = false ∨ s = t := by
  simp only [Bool.and_eq_false_iff, Bool.not_eq_false', sameKy, decide_eq_true_iff]
theorem Coll.took {S : List Pr} {f : Pr → Bool} {left : Lit → Bool} {ss : List Pr} {p : Pr} (ok : OkS S) (h : Coll S f left ss) (hl : left (ky p.s) = true) (hp : p ∈ S) (hf : f p = true) : Coll S f (fun z => left z && !z.sameKey (ky p.s)) (ss ++ [p]) := by
  refine ⟨?_, fun x => ?_⟩
  · rw [List.map_append, List.nodup_append]
    refine ⟨h.nd, by simp, fun a ha b hb e => ?_⟩
    simp at hb
    subst hb e
    obtain ⟨q, hq, e⟩ := List.mem_map.1 ha
    obtain ⟨_, _, h3⟩ := (h.mem q).1 hq
    rw [e, hl] at h3
    cases h3
  · rw [List.mem_append, h.mem, List.mem_singleton, left_iff]
    constructor
    · rintro (⟨h1, h2, h3⟩ | rfl)
      · exact ⟨h1, h2, .inl h3⟩
      · exact ⟨hp, hf, .inr rfl⟩
    · rintro ⟨h1, h2, h3 | h3⟩
      · exact .inl ⟨h1, h2, h3⟩
      · exact .inr (ok.sOne x h1 p hp h3)
theorem Coll.skip {S : List Pr} {f : Pr → Bool} {left : Lit → Bool} {ss : List Pr} {p : Pr} (ok : OkS S) (h : Coll S f left ss) (hp : p ∈ S) (hf : f p = false) : Coll S f (fun z => left z && !z.sameKey (ky p.s)) ss := by
  refine ⟨h.nd, fun x => ?_⟩
  rw [h.mem, left_iff]
  constructor
  · rintro ⟨h1, h2, h3⟩; exact ⟨h1, h2, .inl h3⟩
  · rintro ⟨h1, h2, h3 | h3⟩
    · exact ⟨h1, h2, h3⟩
    · rw [ok.sOne x h1 p hp h3, hf] at h2
      cases h2
theorem Coll.fin {S : List Pr} {f : Pr → Bool} {left : Lit → Bool} {ss : List Pr} (h : Coll S f left ss) (hl : ∀ kl, left kl = false) : ∀ x, x ∈ ss ↔ x ∈ S.filter f := fun x => by
  rw [h.mem, hl, List.mem_filter]; simp
theorem asc_one {α : Type} {r : α → α → Prop} (ha : ∀ x y, r x y → ¬ r y x) : ∀ l l' : List α, l.Pairwise r → l'.Pairwise r → (∀ x, x ∈ l ↔ x ∈ l') → l = l'
  | [], [], _, _, _ => rfl
  | [], b :: l', _, _, h => absurd ((h b).2 (by simp)) (by simp)
  | a :: l, [], _, _, h => absurd ((h a).1 (by simp)) (by simp)
  | a :: l, b :: l', h1, h2, h => by
    obtain ⟨p1, p2⟩ := List.pairwise_cons.1 h1
    obtain ⟨q1, q2⟩ := List.pairwise_cons.1 h2
    have e : a = b := by
      rcases List.mem_cons.1 ((h a).1 (by simp)) with e | e
      · exact e
      · rcases List.mem_cons.1 ((h b).2 (by simp)) with e2 | e2
        · exact e2.symm
        · exact absurd (q1 a e) (ha _ _ (p1 b e2))
    subst e
    rw [asc_one ha l l' p2 q2 fun x => ?_]
    constructor
    · intro hx
      rcases List.mem_cons.1 ((h x).1 (List.mem_cons_of_mem _ hx)) with e | e
      · subst e; exact absurd (p1 x hx) (ha _ _ (p1 x hx))
      · exact e
    · intro hx
      rcases List.mem_cons.1 ((h x).2 (List.mem_cons_of_mem _ hx)) with e | e
      · subst e; exact absurd (q1 x hx) (ha _ _ (q1 x hx))
      · exact e
theorem cfP_lt (x y : Pr) : cfP x y < 0 ↔ x.s < y.s := by
  unfold cfP cmpZ
  repeat' split
  all_goals omega
theorem ltP (x y : Pr) : Proofs.ltOf cfP x y = true ↔ x.s < y.s := by
  unfold Proofs.ltOf
  rw [decide_eq_true_iff]; exact cfP_lt x y
theorem ltP' (x y : Pr) : Proofs.ltOf cfP x y = false ↔ ¬ x.s < y.s := by
  rw [← ltP]; simp
theorem swoP : Sort.SWO (Proofs.ltOf cfP) where
  irrefl x := by rw [ltP']; omega
  trans x y z := by rw [ltP, ltP, ltP]; omega
  ntrans x y z := by rw [ltP', ltP', ltP']; omega
theorem perm_of {d d' : Array Pr} (h : Sort.PermIn 0 d.size d d') : d'.toList.Perm d.toList := by
  have h3 := h.2.2
  have e1 : d'.extract 0 d.size = d' := by rw [← h.1]; simp
  have e2 : d.extract 0 d.size = d := by simp
  rwa [e1, e2] at h3
theorem those_sorted {S : List Pr} {f : Pr → Bool} {ss : List Pr} (ok : OkS S) (nd : (ss.map Pr.s).Nodup) (hm : ∀ x, x ∈ ss ↔ x ∈ S.filter f) {d' : Array Pr} (hp : Sort.PermIn 0 ss.toArray.size ss.toArray d') (hs : Sort.SortedIn (Proofs.ltOf cfP) 0 ss.toArray.size d') : d'.toList = S.filter f := by
  have p := perm_of hp
  refine asc_one (r := fun a b : Pr => a.s < b.s) (fun x y h => by omega) _ _ ?_ (ok.asc.filter _) (fun x => by rw [p.mem_iff]; exact hm x)
  have nd' : (d'.toList.map Pr.s).Nodup := (p.map Pr.s).nodup_iff.2 nd
  refine List.pairwise_iff_getElem.2 fun i j hi hj hij => ?_
  have hi' : i < d'.size := by simpa using hi
  have hj' : j < d'.size := by simpa using hj
  have hsz := hp.1
  have h1 := hs i j (Nat.zero_le _) hij (by omega)
  rw [ltP', getElem!_pos d' i hi', getElem!_pos d' j hj'] at h1
  have hne := List.pairwise_iff_getElem.1 nd' i j (by simpa using hi) (by simpa using hj) hij
  simp only [List.getElem_map, Array.getElem_toList] at hne ⊢
  omega
theorem pcells_enP (l : List Pr) : pcells l = l.flatMap enP := rfl
theorem flat_pcells (d : Array Pr) : (Sort.flatK enP 3 d).toList = pcells d.toList := by
  apply List.ext_getElem?
  intro t
  by_cases ht : t < d.size * 3
  · have h1 := Sort.get_flatK enP 3 d t ht
    have hs : t < (Sort.flatK enP 3 d).size := by rw [Sort.size_flatK]; exact ht
    have hq : t / 3 < d.size := by omega
    rw [getElem!_pos _ t hs, getElem!_pos d _ hq] at h1
    rw [Array.getElem?_toList, Array.getElem?_eq_getElem hs, h1]
    obtain ⟨e0, e1, e2⟩ := pcells_at d.toList (t / 3) (by simpa using hq)
    simp only [Array.getElem_toList] at e0 e1 e2
    have hr : t % 3 = 0 ∨ t % 3 = 1 ∨ t % 3 = 2 := by omega
    rcases hr with hr | hr | hr
    · rw [show t / 3 * 3 = t by omega] at e0
      rw [e0, hr]; rfl
    · rw [show t / 3 * 3 + 1 = t by omega] at e1
      rw [e1, hr]; rfl
    · rw [show t / 3 * 3 + 2 = t by omega] at e2
      rw [e2, hr]; rfl
  · rw [List.getElem?_eq_none (by rw [Array.length_toList, Sort.size_flatK]; omega), List.getElem?_eq_none (by rw [pcells_length, Array.length_toList]; omega)]
theorem holds_row {w : World} {g : Nat} {cur : Array Value} {ss : List Pr} (hb : w.heap[g]? = some (.cells cur 33 (0, 0))) (ht : cur.toList.take (ss.length * 3) = pcells ss) : Sort.HoldsK enP 3 w g 0 ss.toArray := by
  intro j hj
  have hj0 := hj
  rw [Sort.size_flatK] at hj
  have hj' : j < ss.length * 3 := by simpa using hj
  refine ⟨?_, by simp [World.frozen?, hb]⟩
  have h1 : (cur.toList.take (ss.length * 3))[j]? = (pcells ss)[j]? := by rw [ht]
  have e1 := flat_pcells ss.toArray
  rw [List.getElem?_take_of_lt hj'] at h1
  rw [Nat.zero_add, cell_of_row w g j cur 33 (0, 0) hb, ← Array.getElem?_toList, h1, ← (show ss.toArray.toList = ss by simp), ← e1, Array.getElem?_toList, Array.getElem?_eq_getElem hj0, getElem!_pos _ j hj0]
  rfl
theorem sortK_eq (w : World) (blk m : Nat) (dk : Array Pr) (os : Array Obj) : Proofs.sortWorldK enP 3 w blk 0 m dk os = Proofs.sortWorld id w blk 0 m (Sort.flatK enP 3 dk) os := rfl
/-- Where two blocks of a sort's world are as they were. -/
theorem sort_chg (w : World) (blk m : Nat) (dk : Array Pr) (os : Array Obj) : Chg [blk] w (Proofs.sortWorldK enP 3 w blk 0 m dk os) := by
  rw [sortK_eq]
  refine ⟨rfl, rfl, rfl, ?_, fun k hk hT => ?_⟩
  · show w.heap.size ≤ ((w.heap.modify blk (Sort.onCells (Sort.putCells id 0 (Sort.flatK enP 3 dk)))) ++ os).size
    simp
  · show ((w.heap.modify blk (Sort.onCells (Sort.putCells id 0 (Sort.flatK enP 3 dk)))) ++ os)[k]? = w.heap[k]?
    rw [Array.getElem?_append_left (by simpa using hk), Array.getElem?_modify, if_neg (by rintro rfl; simp at hT)]
theorem own_sorted {w : World} {base g cap n : Nat} {os : Array Obj} {cur : Array Value} {d : Array Pr} {k : Nat} (hl : d.size = k) (hbase : base ≤ g) (hb : w.heap[g]? = some (.cells cur 33 (0, 0)))
    (h1 : k ≤ cap) (h2 : cap ≤ maxLen) (h3 : cur.size = cap * 3) :
    (Proofs.sortWorldK enP 3 w g 0 n d os).ownsRow base 33 3 (.slice (some ⟨g, 0, none⟩) k cap) k (pcells d.toList) := by
  subst hl
  rw [sortK_eq]
  have hg : g < w.heap.size := (Array.getElem?_eq_some_iff.1 hb).1
  refine ⟨by rw [pcells_length]; simp, .inr ⟨g, cap, Sort.putCells id 0 (Sort.flatK enP 3 d) cur, rfl, hbase, ?_, h1, h2, by simp [Sort.putCells, h3], ?_⟩⟩
  · unfold Proofs.sortWorld
    rw [Sort.heap_grow_old _ _ (by simpa [Sort.putRow, Sort.mapBlock, Sort.ahead] using hg)]
    simp [Sort.putRow, Sort.mapBlock, Sort.ahead, Array.getElem?_modify, hb, Sort.onCells]
  · rw [← flat_pcells]
    apply List.ext_getElem?
    intro j
    by_cases hj : j < d.size * 3
    · have hs : j < (Sort.flatK enP 3 d).size := by rw [Sort.size_flatK]; exact hj
      have hc : j < cur.size := by omega
      rw [List.getElem?_take_of_lt hj, Array.getElem?_toList, Array.getElem?_toList, Array.getElem?_eq_getElem hs]
      simp [Sort.putCells, hj, hc, hs]
    · rw [List.getElem?_take_eq_none (by omega), List.getElem?_eq_none (by rw [Array.length_toList, Sort.size_flatK]; omega)]
theorem egC : ∀ args w, (callFunc 31 args).run Try.prog w = .ok (.enter 31 args) w := Proofs.enters_of Try.func31 (by kernel_rfl) rfl
theorem inf_pair : (Try.prog.info? 33).map (fun i => (i.zero, i.size, i.bytes)) = some (some ((Value.agg #[.int .i64 pz.s, .int .i64 pz.o, .int .i64 pz.t])), 3, 24) := by kernel_rfl
theorem rg_ext {H : Type} {P : Program} {k : TypeId} {R : Value → Option (DataW H × List MemPlace)} {w w' : World} {b r n : Nat} {D : DataW H} {left : Lit → Bool} {cnt : Nat} (h : w.ranges P k R b r n D left cnt) (x : Ext w w') : w'.ranges P k R b r n D left cnt :=
  h.kept (row := none) ⟨x.os, x.tape, x.output, x.size, fun k hk _ => x.block k hk⟩ (by simp) (by simp)
/-- The step of a range over a map from ints to pairs. -/
theorem wpList_next_ip (w : World) {ops : Array Oper} {rest : List Oper} {o : Oper} {a : Act} {Q : Exit → Act → World → Prop} (hg : o.guard = none) (it : Operand) (hop : o.op = Op.next it false) (b r n : Nat) (D : DataW Unit) (left : Lit → Bool) (cnt : Nat)
    (hit : a.eval it = .pointer (some ⟨r, 0, none⟩)) (h : w.ranges Try.prog 3 rdP b r n D left cnt)
    (hDone : cnt = 0 → (∀ kl, left kl = false) → wpList Try.prog ops Q rest (a.put o.dst (.tuple #[.bool false])) w)
    (hMore : ∀ (x : Int) (c : Pr) (w' : World) (cnt' : Nat), left (ky x) = true → (∀ zd, D.atKey (ky x) zd = datP c) → w'.ranges Try.prog 3 rdP b r n D (fun z => left z && !z.sameKey (ky x)) cnt' → cnt' < cnt →
      w.grownBy w' (some r) → w'.heap.size = w.heap.size → (Instr.entry (.pointer (some ⟨r, 0, none⟩))).run Try.prog w' = .ok (.tuple #[.int .i64 x, (Value.agg #[.int .i64 c.s, .int .i64 c.o, .int .i64 c.t])]) w' → wpList Try.prog ops Q rest (a.put o.dst (.tuple #[.bool true, .int .i64 x, (Value.agg #[.int .i64 c.s, .int .i64 c.o, .int .i64 c.t])])) w') :
    wpList Try.prog ops Q (o :: rest) a w :=
  wpList_next_ranges w hg it hop 3 kI rdP (Value.int .i64) (fun c : Pr => (Value.agg #[.int .i64 c.s, .int .i64 c.o, .int .i64 c.t])) (fun key kl hkey => by obtain ⟨x, rfl, _⟩ := kof_inv hkey; exact ⟨x, rfl⟩) (fun v y hv => by obtain ⟨c, rfl, _⟩ := rdP_inv hv; exact ⟨c, rfl⟩)
    b r n D left cnt hit h hDone (fun x c kl y w' cnt' hkey hlk hv hat hrg hlt hgr hsz hen => by
      obtain ⟨x', ex, rfl⟩ := kof_inv hkey
      cases ex
      rw [rdP_mk] at hv
      cases hv
      exact hMore x c w' cnt' hlk hat hrg hlt hgr hsz hen)
end Go.Proofs.Ytcgbbgljchfbcaa
