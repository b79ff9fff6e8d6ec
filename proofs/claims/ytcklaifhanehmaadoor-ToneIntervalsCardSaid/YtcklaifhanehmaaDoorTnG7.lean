/-
  ToneIntervals returns true for all pitches, intervals, keys and texts. No condition.
-/
import Derived.Test.YtcklaifhanehmaaDoorAmBF
set_option linter.unusedSimpArgs false
set_option linter.unusedVariables false
set_option maxRecDepth 100000
set_option maxHeartbeats 4000000
namespace Go.Proofs.YtcklaifhanehmaaDoor.ToneIntervals
open Go.ChangeShapes Go.WideShapes Go.ChangeAt Go.RowKit Go.Am Go.Proofs.YtcklaifhanehmaaDoor.Laid

theorem shapeW_pair {P : Program} {H : AHeap} {n : Nat} {t ti : TypeId} {cs : List AVal} {fs : Array Field} (hu : P.underlying t = some (.struct fs)) (hf : (fs.toList.map fun f => f.type) = [ti, ti]) (hi : P.underlying ti = some (.int .i64))
    (h : ShapeW P H (n + 2) t cs) : ∃ x y, cs = [.int .i64 x, .int .i64 y] ∧ (Lit.int .i64 x).wf = true ∧ (Lit.int .i64 y).wf = true := by
  have h1 := shapeW_struct hu h
  rw [hf] at h1
  obtain ⟨a, r1, rfl, h2, b, r2, rfl, h3, rfl⟩ := h1
  obtain ⟨x, rfl, wx⟩ := shapeW_int hi h2
  obtain ⟨y, rfl, wy⟩ := shapeW_int hi h3
  exact ⟨x, y, rfl, wx, wy⟩

theorem con (H : AHeap) (avs : List AVal) (ht : tablesIn aroundT H = true) (hp : PtrsIn [1, 2] H) (h : ArgSW Tryd.prog H 3 [38, 38, 47, 3, 9] avs) : Con ext prog 9 7 avs H fun v H' => v = .bool true ∧ Ext H H' := by
  obtain ⟨a0, r0, rfl, h0, a1, r1, rfl, h1, a2, r2, rfl, h2, a3, r3, rfl, h3, a4, r4, rfl, h4, rfl⟩ := h
  haveI : ErrsI H := ⟨hp⟩
  obtain ⟨x0, y0, rfl, wx0, wy0⟩ := shapeW_pair (ti := 3) Tryd.underlying38 (by kernel_rfl) Tryd.underlying3 h0
  obtain ⟨x1, y1, rfl, wx1, wy1⟩ := shapeW_pair (ti := 3) Tryd.underlying38 (by kernel_rfl) Tryd.underlying3 h1
  obtain ⟨x2, y2, rfl, wx2, wy2⟩ := shapeW_pair (ti := 3) Tryd.underlying47 (by kernel_rfl) Tryd.underlying3 h2
  obtain ⟨i3, rfl, wf3⟩ := shapeW_int Tryd.underlying3 h3
  haveI := i64_of wf3
  obtain ⟨z4, rfl, lz4⟩ := shapeW_str Tryd.underlying9 h4
  obtain ⟨s4, hs4⟩ : ∃ l : Bs, AVal.str z4 = strV l ∧ l.length = z4.size := ⟨z4.data.toList, rfl, Array.length_toList⟩
  obtain ⟨hs4, hn4⟩ := hs4
  haveI : Len47 s4 := ⟨by have e : reachBytes = 140737488351232 := rfl; omega⟩
  have e0 : argV Tryd.prog 38 [.int .i64 x0, .int .i64 y0] = .agg [.int .i64 x0, .int .i64 y0] := by simp only [argV, show aggTy Tryd.prog 38 = true by kernel_rfl, cond_true]
  have e1 : argV Tryd.prog 38 [.int .i64 x1, .int .i64 y1] = .agg [.int .i64 x1, .int .i64 y1] := by simp only [argV, show aggTy Tryd.prog 38 = true by kernel_rfl, cond_true]
  have e2 : argV Tryd.prog 47 [.int .i64 x2, .int .i64 y2] = .agg [.int .i64 x2, .int .i64 y2] := by simp only [argV, show aggTy Tryd.prog 47 = true by kernel_rfl, cond_true]
  have e3 : argV Tryd.prog 3 [.int .i64 i3] = .int .i64 i3 := by simp only [argV, show aggTy Tryd.prog 3 = false by kernel_rfl, cond_false, List.headD_cons]
  have e4 : argV Tryd.prog 9 [.str z4] = strV s4 := by simp only [argV, show aggTy Tryd.prog 9 = false by kernel_rfl, cond_false, List.headD_cons, hs4]
  rw [e0, e1, e2, e3, e4]
  exact K_ToneIntervals

theorem contract (H : Type) (enc : TypeId × Value → H) (W : World) (base : Nat) (args : Array Value) (ds gs : List (DataW H)) (before : List MemPlace)
    (hval : ∀ (j : Nat) t v, Tryd.f7.params[j]? = some t → args[j]? = some v → Value.okWide Tryd.prog W .any base t v)
    (hW : DataW.Whole enc Tryd.prog Tryd.f7.params.toList Rows.toneIntervalsSpec.vars false W args.toList ds gs before) (hz : (DataW.weightsEach Tryd.prog (Tryd.f7.params.toList ++ (OpenSpec.ofChange Rows.toneIntervalsSpec).bare.plain.varTypes Tryd.prog) (ds ++ gs)).all (· ≤ reachBytes) = true) (hL : laidMetH Tryd.prog Rows.toneIntervalsRow.laid W) :
    Calls Tryd.prog 7 args W fun e W' => ∃ v, e = .returned v ∧ Rows.toneIntervalsSpec.post enc Tryd.prog Tryd.f7 false true false false W args v W' := by
  have hW' := hW
  obtain ⟨p, q, hA, _⟩ := hW'
  rw [Tryd.params7] at hA
  obtain ⟨v0, vs0, d0, ds0, p0, q0, _, rfl, _, _, r0⟩ := trodAll_cons hA
  obtain ⟨v1, vs1, d1, ds1, p1, q1, _, rfl, _, _, r1⟩ := trodAll_cons r0
  obtain ⟨v2, vs2, d2, ds2, p2, q2, _, rfl, _, _, r2⟩ := trodAll_cons r1
  obtain ⟨v3, vs3, d3, ds3, p3, q3, _, rfl, _, _, r3⟩ := trodAll_cons r2
  obtain ⟨v4, vs4, d4, ds4, p4, q4, _, rfl, _, _, r4⟩ := trodAll_cons r3
  obtain ⟨_, rfl, _⟩ := trodAll_nil r4
  exact law_callsWP (tb := 4) (n := 3) (d := 9) (tabs := aroundT) (ptrs := [1, 2]) mixed progOk Tryd.func7 rfl (by decide +kernel) laidOut rowed full (by kernel_rfl) rfl (by kernel_rfl) Tryd.underlying4 (by kernel_rfl) (by kernel_rfl) (by kernel_rfl) (by decide)
    (fun H avs ht hp h => con H avs ht hp (by rw [Tryd.params7] at h; exact h)) H enc W base args _ gs before rfl hval hW (slim_app hz) around_cells (ptr_cells hL)

theorem laid_met (os : Os) : laidMet Tryd.prog Rows.toneIntervalsRow.laid ((errWorld os).forCall (fun _ _ => 0) ⟨#[], #[.agg #[.int .i64 0, .int .i64 0], .agg #[.int .i64 0, .int .i64 0], .agg #[.int .i64 0, .int .i64 0], .int .i64 0, .string .empty], []⟩).memory :=
  laidMet_of_run' 8 (by kernel_rfl) (by kernel_rfl)
theorem reads (os : Os) {H : Type} (enc : TypeId × Value → H) : ∃ places, DataW.whole enc Tryd.prog ((errWorld os).forCall (fun _ _ => 0) ⟨#[], #[.agg #[.int .i64 0, .int .i64 0], .agg #[.int .i64 0, .int .i64 0], .agg #[.int .i64 0, .int .i64 0], .int .i64 0, .string .empty], []⟩).memory Tryd.f7.params.toList Rows.toneIntervalsSpec.vars false #[Value.agg #[.int .i64 0, .int .i64 0], .agg #[.int .i64 0, .int .i64 0], .agg #[.int .i64 0, .int .i64 0], .int .i64 0, .string .empty].toList 8 = some ([.agg [.lit (.int .i64 0), .lit (.int .i64 0)], .agg [.lit (.int .i64 0), .lit (.int .i64 0)], .agg [.lit (.int .i64 0), .lit (.int .i64 0)], .lit (.int .i64 0), .lit (.string [])], [], places) :=
  ⟨[], by kernel_rfl⟩

theorem lifted (os : Os) (started : os.Started) (H : Type) (enc : TypeId × Value → H) (F : Stop.Interp) :
    ReturnsInHanded {} Tryd.checked os 7 .any ((OpenSpec.ofChange Rows.toneIntervalsSpec).preRow enc Tryd.prog Tryd.f7 Rows.toneIntervalsRow.domain false Rows.toneIntervalsRow.laid) (((OpenSpec.ofChange Rows.toneIntervalsSpec).at F).post enc Tryd.prog Tryd.f7 false true false false) := by
  obtain ⟨places, hx⟩ := reads os enc
  refine returnsInHanded_of_row (C := Tryd.checked) (s := OpenSpec.ofChange Rows.toneIntervalsSpec) own started (by kernel_rfl) Tryd.func7
    (witness_row_at (enc := enc) (C := Tryd.checked) false (errWorld os) #[.agg #[.int .i64 0, .int .i64 0], .agg #[.int .i64 0, .int .i64 0], .agg #[.int .i64 0, .int .i64 0], .int .i64 0, .string .empty] rfl (by kernel_rfl) (by kernel_rfl) (by kernel_rfl)
      (OpenSpec.preRow_of_cond 8 hx (by kernel_rfl) (fun k hk => by cases hk) (by kernel_rfl) (laid_met os))) ?_
  intro W base args ds gs before hval hW _ _ hz hL _ _
  exact contract H enc W base args ds gs before hval hW hz hL

theorem said : Rows.ToneIntervalsSaid :=
  OpenClaim.holds_of_cond 7 Tryd.f7 rfl rfl rfl rfl rfl rfl rfl ⟨rfl, rfl, rfl, rfl, rfl⟩ rfl rfl rfl rfl rfl (by kernel_rfl) Tryd.func7 (by kernel_rfl)
    (of_decide_eq_true (by kernel_rfl)) (by unfold Func.isWrapper; first | (rw [if_pos (by decide +kernel)]; kernel_rfl) | (rw [if_neg (by decide +kernel)]; exact ⟨rfl, rfl⟩))
    (fun os started H enc _ F => by rw [OpenClaim.pre_eq_preRow]; exact lifted os started H enc F)

theorem plain (f : FuncId) (fn : Func) (hf : Tryd.pinned.checked.prog.funcNamed "custos/custoslaw05.ToneIntervals" = some f) (hfn : Tryd.pinned.checked.prog.funcs[f]? = some fn) :
    true = Tryd.pinned.checked.prog.looks [] ∧ ∀ (j : Nat) t, fn.params[j]? = some t → Tryd.pinned.checked.prog.wantsStandIn t = false := by
  obtain rfl : f = 7 := Option.some.inj ((show Tryd.prog.funcNamed "custos/custoslaw05.ToneIntervals" = some 7 by kernel_rfl).symm.trans hf) |>.symm
  obtain rfl : fn = Tryd.f7 := (Option.some.inj (Tryd.func7.symm.trans hfn)).symm
  refine ⟨by kernel_rfl, fun j t ht => ?_⟩
  have h := List.all_eq_true.1 (show (Tryd.f7.params.toList.all fun t => !(Tryd.prog.wantsStandIn t)) = true by kernel_rfl) t (by simpa using Array.mem_of_getElem? ht)
  have h2 : Tryd.prog.wantsStandIn t = false := by simpa using h
  exact h2

/-- The card. -/
theorem card : Rows.ToneIntervalsCardSaid :=
  Claim7.holds_tied_plain_at .later [] _ _ _ _ said (fun _ h => by cases h) (by kernel_rfl) (fun _ h => by cases h) toneIntervals_row_tie rfl ⟨rfl, rfl⟩ (by kernel_rfl) rfl plain (by kernel_rfl)
end Go.Proofs.YtcklaifhanehmaaDoor.ToneIntervals
