/- The document's model in the world: whole loads and stores, what a store makes of it. -/
import Derived.Test.YtpielknodjppgaaR1
import Derived.Deep.WholeRow
import Derived.Laws.ResultCell
import Derived.Deep.RegionHeld3
import Derived.Test.YtpielknodjppgaaHeld
namespace Go.Proofs.Ytpielknodjppgaa
open Go.RowKit Go.Maps
set_option linter.unusedSimpArgs false
set_option linter.unusedVariables false
set_option maxRecDepth 100000
set_option maxHeartbeats 8000000



theorem all_rc (S : St) : ((rc S).all fun x => x.oneCell') = true := by
  refine Array.all_eq_true_iff_forall_mem.2 fun v hv => ?_
  unfold rc at hv
  simp only [List.mem_toArray, List.mem_map] at hv
  obtain ⟨j, _, rfl⟩ := hv
  unfold rv
  repeat' split
  all_goals rfl
theorem inf_rz : (Try.prog.info? 56).map (·.size) = some 227 := by kernel_rfl
theorem Chg.row {w : World} {b : Nat} {old cs : Array Value} {t : TypeId} (h : Blk w b old t) : Chg [b] w (w.setRow b cs) :=
  ⟨rfl, rfl, rfl, by simp [World.setRow], fun k hk hT => setRow_other w b k cs (by simpa using hT)⟩
theorem ld_run (w : World) {b : Nat} {S : St} (hb : Blk w b (rc S) 56) : (loadVar 56 ⟨b, 0, none⟩).run Try.prog w = .ok (.agg (rc S)) w := by
  rw [run_loadVar_mid w b 0 56 (rc S).toList _ (rc_rng hb) Try.underlying56 rfl (inf_rm S), Array.toArray_toList]
theorem la_run (w : World) {b : Nat} {S : St} (hb : Blk w b (rc S) 56) : (Instr.loadAt 56 (.pointer (some ⟨b, 0, none⟩))).run Try.prog w = .ok (.agg (rc S)) w := by
  rw [run_loadAt_mid w b 0 56 (rc S).toList _ (rc_rng hb) Try.underlying56 rfl (inf_rm S), Array.toArray_toList]
theorem st_run (w : World) {b : Nat} {old : Array Value} (S : St) (hb : Blk w b old 56) (hs : old.size = 227) : (Instr.storeAt 56 (.pointer (some ⟨b, 0, none⟩)) (.agg (rc S))).run Try.prog w = .ok () (w.setRow b (rc S)) := by
  simp only [Instr.storeAt, Instr.sureAddr, Sem.run_bind, Sem.run_pure, Result.andThen_ok, run_storeVar_row w b 56 56 old (rc S) hb (by rw [rc_size]; exact inf_rz) (by rw [hs, rc_size]) (all_rc S)]
theorem sv_run (w : World) {b : Nat} {old : Array Value} (S : St) (hb : Blk w b old 56) (hs : old.size = 227) : (storeVar 56 ⟨b, 0, none⟩ (.agg (rc S))).run Try.prog w = .ok () (w.setRow b (rc S)) :=
  run_storeVar_row w b 56 56 old (rc S) hb (by rw [rc_size]; exact inf_rz) (by rw [hs, rc_size]) (all_rc S)
theorem wpList_put {ops : Array Oper} {rest : List Oper} {o : Oper} {a : Act} {w : World} {Q : Exit → Act → World → Prop} (hgd : o.guard = none) (x y : Operand) (ho : o.op = .store 56 x y)
    (b : Nat) (S : St) (hx : a.eval x = .pointer (some ⟨b, 0, none⟩)) (hy : a.eval y = .agg (rc S)) (old : Array Value) (hb : Blk w b old 56) (hs : old.size = 227)
    (h : ∀ w', Blk w' b (rc S) 56 → Chg [b] w w' → w'.heap.size = w.heap.size → wpList Try.prog ops Q rest (a.put o.dst undef) w') : wpList Try.prog ops Q (o :: rest) a w :=
  wpList_store_row hgd 56 x y ho b (rc S) hx hy 56 old hb (by rw [rc_size]; exact inf_rz) (by rw [hs, rc_size]) (all_rc S) (h _ (setRow_heap w b old _ _ _ hb) (Chg.row hb) (by simp [World.setRow]))
theorem wpList_get {ops : Array Oper} {rest : List Oper} {o : Oper} {a : Act} {w : World} {Q : Exit → Act → World → Prop} (hgd : o.guard = none) (x : Operand) (ho : o.op = .load 56 x)
    (b : Nat) (S : St) (hx : a.eval x = .pointer (some ⟨b, 0, none⟩)) (hb : Blk w b (rc S) 56)
    (h : wpList Try.prog ops Q rest (a.put o.dst (.agg (rc S))) w) : wpList Try.prog ops Q (o :: rest) a w :=
  wpList_load_mid hgd 56 x ho b 0 hx (rc S).toList _ (rc_rng hb) Try.underlying56 rfl (inf_rm S) (by rw [Array.toArray_toList]; exact h)
theorem res_of {fn : Func} (h : fn.results = #[.cell 4 56, .tmp 5]) (tmps : Array Value) (w : World) {b : Nat} {S : St} {u : Value} (e4 : tmps.getD 4 undef = .pointer (some ⟨b, 0, none⟩)) (e5 : tmps.getD 5 undef = u) (hb : Blk w b (rc S) 56) :
    (results fn tmps).run Try.prog w = .ok (.tuple #[.agg (rc S), u]) w := by
  rw [results_cell_tmp h, e4, e5]
  simp only [asAddr, Sem.run_pure, Result.andThen_ok, ld_run w hb]
def zr : Array Value := ((List.range 227).map fun i => if 27 ≤ i ∧ i < 35 then Value.bool false else .int .i64 0).toArray
section
variable {S : St}
def rcf (f : Nat → Value) : Array Value := ((List.range 227).map f).toArray
theorem rcf_set (f : Nat → Value) {i : Nat} (h : i < 227) (v : Value) : (rcf f).setIfInBounds i v = rcf (fun j => if j = i then v else f j) := by
  unfold rcf
  rw [List.setIfInBounds_toArray, map_set_aux f (fun j => if j = i then v else f j) 227 i v (if_pos rfl) (fun j _ e => if_neg e) h]
theorem rcf_eq {f : Nat → Value} {S' : St} (h : ∀ j, j < 227 → f j = rv S' j) : rcf f = rc S' := by
  unfold rcf rc
  congr 1
  exact List.map_congr_left fun j hj => h j (List.mem_range.1 hj)
theorem rset_own {o : Nat} (h : o < 8) (x : Int) : (rc S).setIfInBounds (3 + o) (.int .i64 (x + 1)) = rc { S with own := upd S.own o x } := by
  show (rcf (rv S)).setIfInBounds _ _ = _
  rw [rcf_set _ (by omega)]
  refine rcf_eq fun j hj => ?_
  try dsimp only
  split
  · rename_i e
    subst e
    unfold rv upd
    try dsimp only
    repeat' split
    all_goals first | rfl | (exfalso; omega)
  · unfold rv upd
    try dsimp only
    repeat' split
    all_goals first | rfl | (exfalso; omega)
theorem rset_cnt {o : Nat} (h : o < 8) (x : Int) : (rc S).setIfInBounds (11 + o) (.int .i64 x) = rc { S with cnt := upd S.cnt o x } := by
  show (rcf (rv S)).setIfInBounds _ _ = _
  rw [rcf_set _ (by omega)]
  refine rcf_eq fun j hj => ?_
  try dsimp only
  split
  · rename_i e
    subst e
    unfold rv upd
    try dsimp only
    repeat' split
    all_goals first | rfl | (exfalso; omega)
  · unfold rv upd
    try dsimp only
    repeat' split
    all_goals first | rfl | (exfalso; omega)
theorem rset_hsh {o : Nat} (h : o < 8) (x : Int) : (rc S).setIfInBounds (19 + o) (.int .i64 x) = rc { S with hsh := upd S.hsh o x } := by
  show (rcf (rv S)).setIfInBounds _ _ = _
  rw [rcf_set _ (by omega)]
  refine rcf_eq fun j hj => ?_
  try dsimp only
  split
  · rename_i e
    subst e
    unfold rv upd
    try dsimp only
    repeat' split
    all_goals first | rfl | (exfalso; omega)
  · unfold rv upd
    try dsimp only
    repeat' split
    all_goals first | rfl | (exfalso; omega)
theorem rset_flg {o : Nat} (h : o < 8) (x : Bool) : (rc S).setIfInBounds (27 + o) (.bool x) = rc { S with flg := upd S.flg o x } := by
  show (rcf (rv S)).setIfInBounds _ _ = _
  rw [rcf_set _ (by omega)]
  refine rcf_eq fun j hj => ?_
  try dsimp only
  split
  · rename_i e
    subst e
    unfold rv upd
    try dsimp only
    repeat' split
    all_goals first | rfl | (exfalso; omega)
  · unfold rv upd
    try dsimp only
    repeat' split
    all_goals first | rfl | (exfalso; omega)
theorem rset_wt {o t : Nat} (h : o < 8) (h2 : t < 8) (c : Int) : (rc S).setIfInBounds (35 + o * 24 + t * 3) (.int .i64 c) = rc { S with wt := upd2 S.wt o t (some c) } := by
  show (rcf (rv S)).setIfInBounds _ _ = _
  rw [rcf_set _ (by omega)]
  refine rcf_eq fun j hj => ?_
  try dsimp only
  split
  · rename_i e
    subst e
    unfold rv
    rw [if_neg (by omega), if_neg (by omega), if_neg (by omega), if_neg (by omega), if_neg (by omega), if_neg (by omega), if_neg (by omega), show (35 + o * 24 + t * 3 - 35) / 24 = o by omega, show (35 + o * 24 + t * 3 - 35) / 3 % 8 = t by omega, show (35 + o * 24 + t * 3 - 35) % 3 = 0 by omega]
    unfold plA
    try dsimp only
    rw [if_pos rfl, upd2_same]; rfl
  · rename_i e
    unfold rv
    by_cases q : j < 35
    · repeat' split
      all_goals first | rfl | (exfalso; omega)
    · rw [if_neg (by omega), if_neg (by omega), if_neg (by omega), if_neg (by omega), if_neg (by omega), if_neg (by omega), if_neg q, if_neg (by omega), if_neg (by omega), if_neg (by omega), if_neg (by omega), if_neg (by omega), if_neg (by omega), if_neg q]
      unfold plA
      try dsimp only
      by_cases q0 : (j - 35) % 3 = 0
      · rw [if_pos q0, if_pos q0, upd2_other _ _ (by omega)]
      · rw [if_neg q0, if_neg q0]
theorem rset_pl {o t : Nat} (h : o < 8) (h2 : t < 8) (wv : Option Int) (lv : Option (Int × Int)) {x y z : Int} (hx : wv.getD 0 = x) (hy : (lv.getD (0, 0)).1 = y) (hz : (lv.getD (0, 0)).2 = z) :
    (((rc S).setIfInBounds (35 + o * 24 + t * 3) (.int .i64 x)).setIfInBounds (35 + o * 24 + t * 3 + 1) (.int .i64 y)).setIfInBounds (35 + o * 24 + t * 3 + 2) (.int .i64 z) = rc { S with wt := upd2 S.wt o t wv, lf := upd2 S.lf o t lv } := by
  show (((rcf (rv S)).setIfInBounds _ _).setIfInBounds _ _).setIfInBounds _ _ = _
  rw [rcf_set _ (by omega), rcf_set _ (by omega), rcf_set _ (by omega)]
  refine rcf_eq fun j hj => ?_
  try dsimp only
  by_cases q : j < 35
  · rw [if_neg (by omega), if_neg (by omega), if_neg (by omega)]
    unfold rv
    repeat' split
    all_goals first | rfl | (exfalso; omega)
  · unfold rv
    rw [if_neg (show ¬ j = 0 by omega), if_neg (show ¬ j = 1 by omega), if_neg (show ¬ j = 2 by omega), if_neg (show ¬ j < 11 by omega), if_neg (show ¬ j < 19 by omega), if_neg (show ¬ j < 27 by omega), if_neg q, if_neg (show ¬ j = 0 by omega), if_neg (show ¬ j = 1 by omega), if_neg (show ¬ j = 2 by omega), if_neg (show ¬ j < 11 by omega), if_neg (show ¬ j < 19 by omega), if_neg (show ¬ j < 27 by omega), if_neg q]
    by_cases e : (j - 35) / 24 = o ∧ (j - 35) / 3 % 8 = t
    · obtain ⟨e1, e2⟩ := e
      rw [e1, e2]
      have : j = 35 + o * 24 + t * 3 ∨ j = 35 + o * 24 + t * 3 + 1 ∨ j = 35 + o * 24 + t * 3 + 2 := by omega
      rcases this with rfl | rfl | rfl
      · rw [if_neg (by omega), if_neg (by omega), if_pos rfl, show (35 + o * 24 + t * 3 - 35) % 3 = 0 by omega]
        unfold plA
        try dsimp only
        rw [if_pos rfl, upd2_same, hx]
      · rw [if_neg (by omega), if_pos rfl, show (35 + o * 24 + t * 3 + 1 - 35) % 3 = 1 by omega]
        unfold plA
        try dsimp only
        rw [if_neg (by omega), if_pos rfl, upd2_same, hy]
      · rw [if_pos rfl, show (35 + o * 24 + t * 3 + 2 - 35) % 3 = 2 by omega]
        unfold plA
        try dsimp only
        rw [if_neg (by omega), if_neg (by omega), upd2_same, hz]
    · rw [if_neg (by omega), if_neg (by omega), if_neg (by omega)]
      unfold plA
      try dsimp only
      try dsimp only
      rw [upd2_other _ _ (by omega), upd2_other _ _ (by omega)]
end
end Go.Proofs.Ytpielknodjppgaa
