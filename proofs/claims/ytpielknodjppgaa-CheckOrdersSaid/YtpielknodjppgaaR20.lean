/- The document's New; a model held against the document's. -/
import Derived.Test.YtpielknodjppgaaR2
import Derived.Test.YtpielknodjppgaaP3
namespace Go.Proofs.Ytpielknodjppgaa
open Go.RowKit Go.Maps
set_option linter.unusedSimpArgs false
set_option linter.unusedVariables false
set_option maxRecDepth 100000
set_option maxHeartbeats 8000000



theorem zr_eq : zr = rc (st0 0 0 0) := by rfl
theorem built_0 : Try.prog.built 56 [] = some (rc (st0 0 0 0)) := by kernel_rfl
theorem built_n (n m k : Nat) : Try.prog.built 56 [(0, .int .i64 (n : Int)), (1, .int .i64 (m : Int)), (2, .int .i64 (k : Int))] = some (rc (st0 n m k)) := by kernel_rfl
theorem res_of6 {fn : Func} (h : fn.results = #[.cell 6 56, .tmp 7]) (tmps : Array Value) (w : World) {b : Nat} {S : St} {u : Value} (e4 : tmps.getD 6 undef = .pointer (some ⟨b, 0, none⟩)) (e5 : tmps.getD 7 undef = u) (hb : Blk w b (rc S) 56) :
    (results fn tmps).run Try.prog w = .ok (.tuple #[.agg (rc S), u]) w := by
  rw [results_cell_tmp h, e4, e5]
  simp only [asAddr, Sem.run_pure, Result.andThen_ok, ld_run w hb]
theorem rnew_no {n m k : Int} (h : okN n m k = false) (w : World) : Calls Try.prog 15 #[.int .i64 n, .int .i64 m, .int .i64 k] w fun e w' => e = .returned (.tuple #[.agg (rc (st0 0 0 0)), .int .i64 1]) ∧ Ext w w' := by
  have BU := built_0
  obtain ⟨z0, hz0⟩ : ∃ z0, rc (st0 0 0 0) = z0 := ⟨_, rfl⟩
  have H := hide h
  clear h hz0
  clear z0
  generalize st0 0 0 0 = S0 at *
  obtain ⟨zz, hz1, hz2, hz3, hz4, -⟩ : ∃ zz : Array Value, (∀ w, (zeroValue 56).run Try.prog w = .ok (.agg zz) w) ∧ ¬ zz = #[] ∧ ¬ zz.size < 2 ∧ zz.size = 227 ∧ zz = zr := ⟨_, fun w => by kernel_rfl, by decide +kernel, by decide +kernel, by decide +kernel, rfl⟩
  have HZ := hide hz4
  clear hz4
  go_enter Try.func15, Try.ntmps15
  go_upto_region 1 with fail
  have HR := hide (Blk.new w zz 56)
  have HX := hide (Ext.alloc w (.cells zz 56))
  generalize w.alloc (.cells zz 56) = W0 at *
  clear hz1 hz2 hz3
  cases a1 : decide (n < 1)
  · cases a2 : decide (8 < n)
    · cases a3 : decide (m < 1)
      · cases a4 : decide (8 < m)
        · cases a5 : decide (k < 1)
          · have a6 : decide (60 < k) = true := by
              have := H.out
              unfold okN at this
              simp at *
              omega
            go_wp2_with first | (with_reducible refine wpList_build rfl 56 _ rfl ?_ ?_; (simp [Act.eval, BU]); (simp [Act.eval, BU]; go_frame)) | (with_reducible refine wpList_put rfl _ _ rfl w.heap.size _ rfl rfl zz HR.out HZ.out ?_; intro w' hb' hc' hs'; have HX' := hide (HX.out.turn hc' (by simp)); clear hc' hs'; go_frame)
            refine bodyPost_ret (res_of6 Try.results15 _ _ rfl rfl hb') rfl ?_
            exact ⟨rfl, HX'.out⟩
          · go_wp2_with first | (with_reducible refine wpList_build rfl 56 _ rfl ?_ ?_; (simp [Act.eval, BU]); (simp [Act.eval, BU]; go_frame)) | (with_reducible refine wpList_put rfl _ _ rfl w.heap.size _ rfl rfl zz HR.out HZ.out ?_; intro w' hb' hc' hs'; have HX' := hide (HX.out.turn hc' (by simp)); clear hc' hs'; go_frame)
            refine bodyPost_ret (res_of6 Try.results15 _ _ rfl rfl hb') rfl ?_
            exact ⟨rfl, HX'.out⟩
        · go_wp2_with first | (with_reducible refine wpList_build rfl 56 _ rfl ?_ ?_; (simp [Act.eval, BU]); (simp [Act.eval, BU]; go_frame)) | (with_reducible refine wpList_put rfl _ _ rfl w.heap.size _ rfl rfl zz HR.out HZ.out ?_; intro w' hb' hc' hs'; have HX' := hide (HX.out.turn hc' (by simp)); clear hc' hs'; go_frame)
          refine bodyPost_ret (res_of6 Try.results15 _ _ rfl rfl hb') rfl ?_
          exact ⟨rfl, HX'.out⟩
      · go_wp2_with first | (with_reducible refine wpList_build rfl 56 _ rfl ?_ ?_; (simp [Act.eval, BU]); (simp [Act.eval, BU]; go_frame)) | (with_reducible refine wpList_put rfl _ _ rfl w.heap.size _ rfl rfl zz HR.out HZ.out ?_; intro w' hb' hc' hs'; have HX' := hide (HX.out.turn hc' (by simp)); clear hc' hs'; go_frame)
        refine bodyPost_ret (res_of6 Try.results15 _ _ rfl rfl hb') rfl ?_
        exact ⟨rfl, HX'.out⟩
    · go_wp2_with first | (with_reducible refine wpList_build rfl 56 _ rfl ?_ ?_; (simp [Act.eval, BU]); (simp [Act.eval, BU]; go_frame)) | (with_reducible refine wpList_put rfl _ _ rfl w.heap.size _ rfl rfl zz HR.out HZ.out ?_; intro w' hb' hc' hs'; have HX' := hide (HX.out.turn hc' (by simp)); clear hc' hs'; go_frame)
      refine bodyPost_ret (res_of6 Try.results15 _ _ rfl rfl hb') rfl ?_
      exact ⟨rfl, HX'.out⟩
  · go_wp2_with first | (with_reducible refine wpList_build rfl 56 _ rfl ?_ ?_; (simp [Act.eval, BU]); (simp [Act.eval, BU]; go_frame)) | (with_reducible refine wpList_put rfl _ _ rfl w.heap.size _ rfl rfl zz HR.out HZ.out ?_; intro w' hb' hc' hs'; have HX' := hide (HX.out.turn hc' (by simp)); clear hc' hs'; go_frame)
    refine bodyPost_ret (res_of6 Try.results15 _ _ rfl rfl hb') rfl ?_
    exact ⟨rfl, HX'.out⟩
theorem rnew_ok {n m k : Nat} (h : okN n m k = true) (w : World) : Calls Try.prog 15 #[.int .i64 (n : Int), .int .i64 (m : Int), .int .i64 (k : Int)] w fun e w' => e = .returned (.tuple #[.agg (rc (st0 n m k)), .int .i64 0]) ∧ Ext w w' := by
  have BU := built_n n m k
  obtain ⟨h1, h2, h3, h4, h5, h6⟩ := (okN_iff n m k).1 h
  have a1 : decide ((n : Int) < 1) = false := decide_eq_false (by omega)
  have a2 : decide (8 < (n : Int)) = false := decide_eq_false (by omega)
  have a3 : decide ((m : Int) < 1) = false := decide_eq_false (by omega)
  have a4 : decide (8 < (m : Int)) = false := decide_eq_false (by omega)
  have a5 : decide ((k : Int) < 1) = false := decide_eq_false (by omega)
  have a6 : decide (60 < (k : Int)) = false := decide_eq_false (by omega)
  clear h1 h2 h3 h4 h5 h6 h
  generalize st0 n m k = S0 at *
  generalize (n : Int) = n at *
  generalize (m : Int) = m at *
  generalize (k : Int) = k at *
  obtain ⟨zz, hz1, hz2, hz3, hz4, -⟩ : ∃ zz : Array Value, (∀ w, (zeroValue 56).run Try.prog w = .ok (.agg zz) w) ∧ ¬ zz = #[] ∧ ¬ zz.size < 2 ∧ zz.size = 227 ∧ zz = zr := ⟨_, fun w => by kernel_rfl, by decide +kernel, by decide +kernel, by decide +kernel, rfl⟩
  have HZ := hide hz4
  clear hz4
  go_enter Try.func15, Try.ntmps15
  go_upto_region 1 with fail
  have HR := hide (Blk.new w zz 56)
  have HX := hide (Ext.alloc w (.cells zz 56))
  generalize w.alloc (.cells zz 56) = W0 at *
  clear hz1 hz2 hz3
  go_wp2_with first | (with_reducible refine wpList_build rfl 56 _ rfl ?_ ?_; (simp [Act.eval, BU]); (simp [Act.eval, BU]; go_frame)) | (with_reducible refine wpList_put rfl _ _ rfl w.heap.size _ rfl rfl zz HR.out HZ.out ?_; intro w' hb' hc' hs'; have HX' := hide (HX.out.turn hc' (by simp)); clear hc' hs'; go_frame)
  refine bodyPost_ret (res_of6 Try.results15 _ _ rfl rfl hb') rfl ?_
  exact ⟨rfl, HX'.out⟩
end Go.Proofs.Ytpielknodjppgaa
