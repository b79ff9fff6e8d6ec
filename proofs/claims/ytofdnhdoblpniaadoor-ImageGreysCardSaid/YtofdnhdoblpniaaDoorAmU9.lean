import Derived.Test.YtofdnhdoblpniaaDoorAmU8
set_option linter.unusedSimpArgs false
set_option linter.unusedVariables false
set_option maxHeartbeats 4000000
set_option maxRecDepth 100000
namespace Go.Am
open Go

/-- The package-level table. -/
abbrev aroundCs : List AVal := [.int .i64 0, .int .i64 (-1), .int .i64 1, .int .i64 (-1), .int .i64 1, .int .i64 0, .int .i64 1, .int .i64 1, .int .i64 0, .int .i64 1, .int .i64 (-1), .int .i64 1, .int .i64 (-1), .int .i64 0, .int .i64 (-1), .int .i64 (-1)]
/-- It is there. -/
class Tabs (H : AHeap) : Prop where
  it : tablesIn aroundT H = true
theorem tabs_iff {H : AHeap} : tablesIn aroundT H = true ↔ 0 < H.n ∧ ∃ rw e, H.get 0 = .row aroundCs rw e := by
  simp only [tablesIn, aroundT, List.all_cons, List.all_nil, Bool.and_true, Bool.and_eq_true]
  constructor
  · rintro ⟨h1, h2⟩
    refine ⟨by simpa using h1, ?_⟩
    cases hg : H.get 0 with
    | row cs rw e => rw [hg] at h2; exact ⟨rw, e, by rw [abeqL_eq h2]⟩
    | _ => rw [hg] at h2; cases h2
  · rintro ⟨h1, rw, e, hg⟩
    exact ⟨by simpa using h1, by rw [hg]; exact abeqL_refl _⟩
theorem Tabs.keep {H H' : AHeap} (h : Tabs H) (hn : H.n ≤ H'.n) (hg : H'.get 0 = H.get 0) : Tabs H' := by
  obtain ⟨h1, rw, e, h2⟩ := tabs_iff.1 h.it
  exact ⟨tabs_iff.2 ⟨by omega, rw, e, by rw [hg]; exact h2⟩⟩
theorem Tabs.lt {H : AHeap} (h : Tabs H) : 0 < H.n := (tabs_iff.1 h.it).1
theorem Tabs.ext {H H' : AHeap} (h : Tabs H) (x : Ext H H') : Tabs H' := h.keep x.n (x.get 0 h.lt)
class NeZ (s : Nat) : Prop where
  ne : s ≠ 0
instance {K : AHeap} [h : Tabs K] : NeZ K.n := ⟨by have := h.lt; omega⟩
instance {K : AHeap} {s : Nat} [g : GeN K s] [h : Tabs K] : NeZ s := ⟨by have := h.lt; have := g.ge; omega⟩
instance {H H' : AHeap} [x : ExtI H H'] [h : Tabs H] : Tabs H' := h.ext x.ext
instance {H : AHeap} {o : AObj} [h : Tabs H] : Tabs (H.push o) := h.ext ((Ext.refl H).push o)
instance {H : AHeap} {s : Nat} {o : AObj} [h : Tabs H] [z : NeZ s] : Tabs (H.set s o) := h.keep (Nat.le_refl _) (set_get_ne (fun e => z.ne e.symm))
instance {K H H' : AHeap} {p : AVal} [x : ExtP H H' p] [h : Tabs H] [f : FreshS K p] [k : Tabs K] : Tabs H' := h.keep x.n (x.get 0 h.lt ⟨fun r _ _ _ _ e => by have := f.ge _ _ _ _ _ e; have := k.lt; omega⟩)
theorem aClosed_nil {T : List (Nat × List AVal)} {v : AVal} {H : AHeap} (h : tablesIn T H = true) : aClosed T v [] H = some (v, H) := by
  show (match tablesIn T H with | true => some (v, H) | false => none) = some (v, H)
  rw [h]
theorem call_ext {ext : Exts} {prog : FuncId → Option RFunc} {k f nt e : Nat} {args : List AVal} {res : List RRes} (h : prog f = some ⟨nt, .ext e, res⟩) : callN ext prog (k + 1) f args = ext e args := by
  simp only [callN, h, RFunc.run]
instance K_awake {H : AHeap} [h : Tabs H] : PureCon ext prog 15 [] H 0 (.bool true) := ⟨fun n hn => by
  obtain ⟨k, rfl⟩ : ∃ k, n = k + 1 := ⟨n - 1, by unfold fuel0 at hn; omega⟩
  have e1 : prog 15 = some ⟨0, .ext 3, []⟩ := rfl
  refine ⟨.bool true, H, ?_, rfl, Ext.refl H⟩
  rw [call_ext e1]
  exact aClosed_nil h.it⟩

theorem thrSpec_len (g : Img) (level : Int) : (thrSpec g level).1.px.length ≤ g.px.length := by
  unfold thrSpec
  split
  · simp [Img.zero]
  · split
    · simp [Img.zero]
    · simp

theorem K_ImageGreys {w h level : Int} {p : AVal} {H : AHeap} {l : List UInt8} [hp : BytesI H p l] [ht : Tabs H] : Con ext prog 6 5 [.agg [.int .i64 w, .int .i64 h, p], .int .i64 level] H fun v H' => v = .bool true ∧ Ext H H' := by
  refine con_of (show prog 5 = some c5 from rfl) rfl rfl fun n hn => ?_
  haveI := hp.one
  cases h1 : decide (((l.length : Nat) : Int) > 4000)
  · have hlen : l.length ≤ 4000 := by have := of_decide_eq_false h1; omega
    haveI : Short l := ⟨by omega⟩
    haveI : Short (lv l) := ⟨by rw [lv_length]; omega⟩
    have hrl := thrSpec_len ⟨w, h, l⟩ level
    repeat (first
      | (refine WpO.do (WpX.ld rfl rfl ?_); try simp only [nrm, Nat.reduceEqDiff, reduceIte, Nat.reduceAdd, h1])
      | (refine WpO.do (WpX.ldN rfl rfl rfl ?_); try simp only [nrm, Nat.reduceEqDiff, reduceIte, Nat.reduceAdd, h1])
      | (refine WpO.do (WpX.lenP (by (try simp only [nrm, Nat.reduceEqDiff, reduceIte, Nat.reduceAdd, h1]); rfl) ?_); try simp only [nrm, Nat.reduceEqDiff, reduceIte, Nat.reduceAdd, h1])
      | (refine WpO.now rfl rfl ?_; try simp only [nrm, Nat.reduceEqDiff, reduceIte, Nat.reduceAdd, h1])
      | (refine WpO.do' (WpX.st rfl (by (try simp only [nrm, Nat.reduceEqDiff, reduceIte, Nat.reduceAdd, h1]); rfl) rfl rfl rfl (by repeat (first | rfl | refine allOne_cons ?_)) rfl ?_); try simp only [nrm, Nat.reduceEqDiff, reduceIte, Nat.reduceAdd, h1])
      | (refine WpO.do (WpX.pcall hn rfl (by simp only [nrm, Nat.reduceEqDiff, reduceIte, Nat.reduceAdd, h1, List.map]; rfl) rfl fun _ _ => ?_); try simp only [nrm, Nat.reduceEqDiff, reduceIte, Nat.reduceAdd, h1])
      | (refine WpO.do (WpX.idxP (by (try simp only [nrm, Nat.reduceEqDiff, reduceIte, Nat.reduceAdd, h1]); rfl) rfl ?_ ?_); (focus omega); try simp only [nrm, Nat.reduceEqDiff, reduceIte, Nat.reduceAdd, h1])
      | (refine WpO.do (WpX.ldB rfl ?_ ?_); (focus omega); try simp only [nrm, Nat.reduceEqDiff, reduceIte, Nat.reduceAdd, h1])
      | (refine WpO.do (WpX.ldI rfl ?_ ?_); (focus omega); try simp only [nrm, Nat.reduceEqDiff, reduceIte, Nat.reduceAdd, h1])
      | (refine WpO.do (WpX.build (by repeat (first | refine aFill1 (by (try simp only [nrm, Nat.reduceEqDiff, reduceIte, Nat.reduceAdd, h1]); rfl) rfl ?_ | rfl)) ?_); try simp only [nrm, Nat.reduceEqDiff, reduceIte, Nat.reduceAdd, h1])
      | (refine WpO.guard rfl (fun _ => ?_) (fun h => absurd rfl h))
      | (refine WpO.guard rfl (fun h => absurd h (by decide)) (fun _ => ?_); try simp only [nrm, Nat.reduceEqDiff, reduceIte, Nat.reduceAdd, h1])
      | refine WpO.nil ?_
      | refine Wp.seq ?_
      | refine Wp.region ?_
      | refine Wp.dquiet rfl rfl ?_
      | refine Wp.cond (b := true) rfl ?_
      | refine Wp.cond (b := false) rfl ?_
      | refine Wp.skip ?_
      | refine Wp.ret ?_
      | refine Wp.block ?_
      | refine Wp.exit ?_
      | dsimp only [cond_true, cond_false])
    refine WpO.do (WpX.conD hn rfl rfl (by simp only [nrm, Nat.reduceEqDiff, reduceIte, Nat.reduceAdd, List.map] <;> rfl) (K_CopyGrey (l := l) (by omega)) fun v H1 h5 => ?_)
    obtain ⟨a, e1, ha, hfa, hwa, hxa⟩ := h5
    subst e1
    have ha : BytesI H1 a l := ha
    haveI : ExtI _ H1 := ⟨hxa⟩
    haveI := ha.one
    repeat (first
      | (refine WpO.do (WpX.ld rfl rfl ?_); try simp only [nrm, Nat.reduceEqDiff, reduceIte, Nat.reduceAdd])
      | (refine WpO.do (WpX.ldN rfl rfl rfl ?_); try simp only [nrm, Nat.reduceEqDiff, reduceIte, Nat.reduceAdd])
      | (refine WpO.do (WpX.lenP (by (try simp only [nrm, Nat.reduceEqDiff, reduceIte, Nat.reduceAdd]); rfl) ?_); try simp only [nrm, Nat.reduceEqDiff, reduceIte, Nat.reduceAdd])
      | (refine WpO.now rfl rfl ?_; try simp only [nrm, Nat.reduceEqDiff, reduceIte, Nat.reduceAdd])
      | (refine WpO.do' (WpX.st rfl (by (try simp only [nrm, Nat.reduceEqDiff, reduceIte, Nat.reduceAdd]); rfl) rfl rfl rfl (by repeat (first | rfl | refine allOne_cons ?_)) rfl ?_); try simp only [nrm, Nat.reduceEqDiff, reduceIte, Nat.reduceAdd])
      | (refine WpO.do (WpX.pcall hn rfl (by simp only [nrm, Nat.reduceEqDiff, reduceIte, Nat.reduceAdd, List.map]; rfl) rfl fun _ _ => ?_); try simp only [nrm, Nat.reduceEqDiff, reduceIte, Nat.reduceAdd])
      | (refine WpO.do (WpX.idxP (by (try simp only [nrm, Nat.reduceEqDiff, reduceIte, Nat.reduceAdd]); rfl) rfl ?_ ?_); (focus omega); try simp only [nrm, Nat.reduceEqDiff, reduceIte, Nat.reduceAdd])
      | (refine WpO.do (WpX.ldB rfl ?_ ?_); (focus omega); try simp only [nrm, Nat.reduceEqDiff, reduceIte, Nat.reduceAdd])
      | (refine WpO.do (WpX.ldI rfl ?_ ?_); (focus omega); try simp only [nrm, Nat.reduceEqDiff, reduceIte, Nat.reduceAdd])
      | (refine WpO.do (WpX.build (by repeat (first | refine aFill1 (by (try simp only [nrm, Nat.reduceEqDiff, reduceIte, Nat.reduceAdd]); rfl) rfl ?_ | rfl)) ?_); try simp only [nrm, Nat.reduceEqDiff, reduceIte, Nat.reduceAdd])
      | (refine WpO.guard rfl (fun _ => ?_) (fun h => absurd rfl h))
      | (refine WpO.guard rfl (fun h => absurd h (by decide)) (fun _ => ?_); try simp only [nrm, Nat.reduceEqDiff, reduceIte, Nat.reduceAdd])
      | refine WpO.nil ?_
      | refine Wp.seq ?_
      | refine Wp.region ?_
      | refine Wp.dquiet rfl rfl ?_
      | refine Wp.cond (b := true) rfl ?_
      | refine Wp.cond (b := false) rfl ?_
      | refine Wp.skip ?_
      | refine Wp.ret ?_
      | refine Wp.block ?_
      | refine Wp.exit ?_
      | dsimp only [cond_true, cond_false])
    refine WpO.do (WpX.conD hn rfl rfl (by simp only [nrm, Nat.reduceEqDiff, reduceIte, Nat.reduceAdd, List.map] <;> rfl) (K_Threshold (l := l)) fun v H2 h5 => ?_)
    obtain ⟨q, e1, b, e2, hb, hfb, hwb, hxb⟩ := h5
    subst e1 e2
    haveI : ExtI _ H2 := ⟨hxb⟩
    haveI := hb.one
    repeat (first
      | (refine WpO.do (WpX.ld rfl rfl ?_); try simp only [nrm, Nat.reduceEqDiff, reduceIte, Nat.reduceAdd])
      | (refine WpO.do (WpX.ldN rfl rfl rfl ?_); try simp only [nrm, Nat.reduceEqDiff, reduceIte, Nat.reduceAdd])
      | (refine WpO.do (WpX.lenP (by (try simp only [nrm, Nat.reduceEqDiff, reduceIte, Nat.reduceAdd]); rfl) ?_); try simp only [nrm, Nat.reduceEqDiff, reduceIte, Nat.reduceAdd])
      | (refine WpO.now rfl rfl ?_; try simp only [nrm, Nat.reduceEqDiff, reduceIte, Nat.reduceAdd])
      | (refine WpO.do' (WpX.st rfl (by (try simp only [nrm, Nat.reduceEqDiff, reduceIte, Nat.reduceAdd]); rfl) rfl rfl rfl (by repeat (first | rfl | refine allOne_cons ?_)) rfl ?_); try simp only [nrm, Nat.reduceEqDiff, reduceIte, Nat.reduceAdd])
      | (refine WpO.do (WpX.pcall hn rfl (by simp only [nrm, Nat.reduceEqDiff, reduceIte, Nat.reduceAdd, List.map]; rfl) rfl fun _ _ => ?_); try simp only [nrm, Nat.reduceEqDiff, reduceIte, Nat.reduceAdd])
      | (refine WpO.do (WpX.idxP (by (try simp only [nrm, Nat.reduceEqDiff, reduceIte, Nat.reduceAdd]); rfl) rfl ?_ ?_); (focus omega); try simp only [nrm, Nat.reduceEqDiff, reduceIte, Nat.reduceAdd])
      | (refine WpO.do (WpX.ldB rfl ?_ ?_); (focus omega); try simp only [nrm, Nat.reduceEqDiff, reduceIte, Nat.reduceAdd])
      | (refine WpO.do (WpX.ldI rfl ?_ ?_); (focus omega); try simp only [nrm, Nat.reduceEqDiff, reduceIte, Nat.reduceAdd])
      | (refine WpO.do (WpX.build (by repeat (first | refine aFill1 (by (try simp only [nrm, Nat.reduceEqDiff, reduceIte, Nat.reduceAdd]); rfl) rfl ?_ | rfl)) ?_); try simp only [nrm, Nat.reduceEqDiff, reduceIte, Nat.reduceAdd])
      | (refine WpO.guard rfl (fun _ => ?_) (fun h => absurd rfl h))
      | (refine WpO.guard rfl (fun h => absurd h (by decide)) (fun _ => ?_); try simp only [nrm, Nat.reduceEqDiff, reduceIte, Nat.reduceAdd])
      | refine WpO.nil ?_
      | refine Wp.seq ?_
      | refine Wp.region ?_
      | refine Wp.dquiet rfl rfl ?_
      | refine Wp.cond (b := true) rfl ?_
      | refine Wp.cond (b := false) rfl ?_
      | refine Wp.skip ?_
      | refine Wp.ret ?_
      | refine Wp.block ?_
      | refine Wp.exit ?_
      | dsimp only [cond_true, cond_false])
    refine WpO.do (WpX.conD hn rfl rfl (by simp only [nrm, Nat.reduceEqDiff, reduceIte, Nat.reduceAdd, List.map] <;> rfl) (K_refThreshold (l := l)) fun v H3 h5 => ?_)
    obtain ⟨q, e1, c, e2, hc, hfc, hwc, hxc⟩ := h5
    subst e1 e2
    haveI : ExtI _ H3 := ⟨hxc⟩
    haveI := hc.one
    generalize thrSpec ⟨w, h, l⟩ level = r at *
    haveI : Short r.1.px := ⟨by simp only at hrl; omega⟩
    repeat (first
      | (refine WpO.do (WpX.ld rfl rfl ?_); try simp only [nrm, Nat.reduceEqDiff, reduceIte, Nat.reduceAdd])
      | (refine WpO.do (WpX.ldN rfl rfl rfl ?_); try simp only [nrm, Nat.reduceEqDiff, reduceIte, Nat.reduceAdd])
      | (refine WpO.do (WpX.lenP (by (try simp only [nrm, Nat.reduceEqDiff, reduceIte, Nat.reduceAdd]); rfl) ?_); try simp only [nrm, Nat.reduceEqDiff, reduceIte, Nat.reduceAdd])
      | (refine WpO.now rfl rfl ?_; try simp only [nrm, Nat.reduceEqDiff, reduceIte, Nat.reduceAdd])
      | (refine WpO.do' (WpX.st rfl (by (try simp only [nrm, Nat.reduceEqDiff, reduceIte, Nat.reduceAdd]); rfl) rfl rfl rfl (by repeat (first | rfl | refine allOne_cons ?_)) rfl ?_); try simp only [nrm, Nat.reduceEqDiff, reduceIte, Nat.reduceAdd])
      | (refine WpO.do (WpX.pcall hn rfl (by simp only [nrm, Nat.reduceEqDiff, reduceIte, Nat.reduceAdd, List.map]; rfl) rfl fun _ _ => ?_); try simp only [nrm, Nat.reduceEqDiff, reduceIte, Nat.reduceAdd])
      | (refine WpO.do (WpX.idxP (by (try simp only [nrm, Nat.reduceEqDiff, reduceIte, Nat.reduceAdd]); rfl) rfl ?_ ?_); (focus omega); try simp only [nrm, Nat.reduceEqDiff, reduceIte, Nat.reduceAdd])
      | (refine WpO.do (WpX.ldB rfl ?_ ?_); (focus omega); try simp only [nrm, Nat.reduceEqDiff, reduceIte, Nat.reduceAdd])
      | (refine WpO.do (WpX.ldI rfl ?_ ?_); (focus omega); try simp only [nrm, Nat.reduceEqDiff, reduceIte, Nat.reduceAdd])
      | (refine WpO.do (WpX.build (by repeat (first | refine aFill1 (by (try simp only [nrm, Nat.reduceEqDiff, reduceIte, Nat.reduceAdd]); rfl) rfl ?_ | rfl)) ?_); try simp only [nrm, Nat.reduceEqDiff, reduceIte, Nat.reduceAdd])
      | (refine WpO.guard rfl (fun _ => ?_) (fun h => absurd rfl h))
      | (refine WpO.guard rfl (fun h => absurd h (by decide)) (fun _ => ?_); try simp only [nrm, Nat.reduceEqDiff, reduceIte, Nat.reduceAdd])
      | refine WpO.nil ?_
      | refine Wp.seq ?_
      | refine Wp.region ?_
      | refine Wp.dquiet rfl rfl ?_
      | refine Wp.cond (b := true) rfl ?_
      | refine Wp.cond (b := false) rfl ?_
      | refine Wp.skip ?_
      | refine Wp.ret ?_
      | refine Wp.block ?_
      | refine Wp.exit ?_
      | dsimp only [cond_true, cond_false])
    refine WpO.do (WpX.conD hn rfl rfl (by simp only [nrm, Nat.reduceEqDiff, reduceIte, Nat.reduceAdd, List.map] <;> rfl) (K_Levels (l := l)) fun v H4 h5 => ?_)
    obtain ⟨d, e1, hd, hfd, hwd, hxd⟩ := h5
    subst e1
    haveI : ExtI _ H4 := ⟨hxd⟩
    haveI := hd.one
    cases hs : sizedB w h l.length
    · have e1 : lvSpec ⟨w, h, l⟩ = ([], 2) := by simp [lvSpec, Img.sized, hs]
      simp only [e1] at *
      repeat (first
        | (refine WpO.do (WpX.ld rfl rfl ?_); try simp only [nrm, Nat.reduceEqDiff, reduceIte, Nat.reduceAdd, hs, sizeErr, decide_true, beq_self_eq_true, Bool.and_true])
        | (refine WpO.do (WpX.ldN rfl rfl rfl ?_); try simp only [nrm, Nat.reduceEqDiff, reduceIte, Nat.reduceAdd, hs, sizeErr, decide_true, beq_self_eq_true, Bool.and_true])
        | (refine WpO.do (WpX.lenP (by (try simp only [nrm, Nat.reduceEqDiff, reduceIte, Nat.reduceAdd, hs, sizeErr, decide_true, beq_self_eq_true, Bool.and_true]); rfl) ?_); try simp only [nrm, Nat.reduceEqDiff, reduceIte, Nat.reduceAdd, hs, sizeErr, decide_true, beq_self_eq_true, Bool.and_true])
        | (refine WpO.now rfl rfl ?_; try simp only [nrm, Nat.reduceEqDiff, reduceIte, Nat.reduceAdd, hs, sizeErr, decide_true, beq_self_eq_true, Bool.and_true])
        | (refine WpO.do' (WpX.st rfl (by (try simp only [nrm, Nat.reduceEqDiff, reduceIte, Nat.reduceAdd, hs, sizeErr, decide_true, beq_self_eq_true, Bool.and_true]); rfl) rfl rfl rfl (by repeat (first | rfl | refine allOne_cons ?_)) rfl ?_); try simp only [nrm, Nat.reduceEqDiff, reduceIte, Nat.reduceAdd, hs, sizeErr, decide_true, beq_self_eq_true, Bool.and_true])
        | (refine WpO.do (WpX.pcall hn rfl (by simp only [nrm, Nat.reduceEqDiff, reduceIte, Nat.reduceAdd, hs, sizeErr, decide_true, beq_self_eq_true, Bool.and_true, List.map]; rfl) rfl fun _ _ => ?_); try simp only [nrm, Nat.reduceEqDiff, reduceIte, Nat.reduceAdd, hs, sizeErr, decide_true, beq_self_eq_true, Bool.and_true])
        | (refine WpO.do (WpX.idxP (by (try simp only [nrm, Nat.reduceEqDiff, reduceIte, Nat.reduceAdd, hs, sizeErr, decide_true, beq_self_eq_true, Bool.and_true]); rfl) rfl ?_ ?_); (focus omega); try simp only [nrm, Nat.reduceEqDiff, reduceIte, Nat.reduceAdd, hs, sizeErr, decide_true, beq_self_eq_true, Bool.and_true])
        | (refine WpO.do (WpX.ldB rfl ?_ ?_); (focus omega); try simp only [nrm, Nat.reduceEqDiff, reduceIte, Nat.reduceAdd, hs, sizeErr, decide_true, beq_self_eq_true, Bool.and_true])
        | (refine WpO.do (WpX.ldI rfl ?_ ?_); (focus omega); try simp only [nrm, Nat.reduceEqDiff, reduceIte, Nat.reduceAdd, hs, sizeErr, decide_true, beq_self_eq_true, Bool.and_true])
        | (refine WpO.do (WpX.build (by repeat (first | refine aFill1 (by (try simp only [nrm, Nat.reduceEqDiff, reduceIte, Nat.reduceAdd, hs, sizeErr, decide_true, beq_self_eq_true, Bool.and_true]); rfl) rfl ?_ | rfl)) ?_); try simp only [nrm, Nat.reduceEqDiff, reduceIte, Nat.reduceAdd, hs, sizeErr, decide_true, beq_self_eq_true, Bool.and_true])
        | (refine WpO.guard rfl (fun _ => ?_) (fun h => absurd rfl h))
        | (refine WpO.guard rfl (fun h => absurd h (by decide)) (fun _ => ?_); try simp only [nrm, Nat.reduceEqDiff, reduceIte, Nat.reduceAdd, hs, sizeErr, decide_true, beq_self_eq_true, Bool.and_true])
        | refine WpO.nil ?_
        | refine Wp.seq ?_
        | refine Wp.region ?_
        | refine Wp.dquiet rfl rfl ?_
        | refine Wp.cond (b := true) rfl ?_
        | refine Wp.cond (b := false) rfl ?_
        | refine Wp.skip ?_
        | refine Wp.ret ?_
        | refine Wp.block ?_
        | refine Wp.exit ?_
        | dsimp only [cond_true, cond_false])
      refine ⟨trivial, _, (by first | rfl | exact getAllC rfl rfl rfl rfl | exact getAllT rfl (getAllC rfl rfl rfl rfl) | exact getAllC rfl rfl rfl (getAllC rfl rfl rfl rfl) | exact getAllC1 rfl rfl rfl), ?_⟩
      exact ⟨rfl, Ext0.ext⟩
    · have e1 : lvSpec ⟨w, h, l⟩ = (lv l, 0) := by simp [lvSpec, Img.sized, hs]
      simp only [e1] at *
      repeat (first
        | (refine WpO.do (WpX.ld rfl rfl ?_); try simp only [nrm, Nat.reduceEqDiff, reduceIte, Nat.reduceAdd, hs, sizeErr])
        | (refine WpO.do (WpX.ldN rfl rfl rfl ?_); try simp only [nrm, Nat.reduceEqDiff, reduceIte, Nat.reduceAdd, hs, sizeErr])
        | (refine WpO.do (WpX.lenP (by (try simp only [nrm, Nat.reduceEqDiff, reduceIte, Nat.reduceAdd, hs, sizeErr]); rfl) ?_); try simp only [nrm, Nat.reduceEqDiff, reduceIte, Nat.reduceAdd, hs, sizeErr])
        | (refine WpO.now rfl rfl ?_; try simp only [nrm, Nat.reduceEqDiff, reduceIte, Nat.reduceAdd, hs, sizeErr])
        | (refine WpO.do' (WpX.st rfl (by (try simp only [nrm, Nat.reduceEqDiff, reduceIte, Nat.reduceAdd, hs, sizeErr]); rfl) rfl rfl rfl (by repeat (first | rfl | refine allOne_cons ?_)) rfl ?_); try simp only [nrm, Nat.reduceEqDiff, reduceIte, Nat.reduceAdd, hs, sizeErr])
        | (refine WpO.do (WpX.pcall hn rfl (by simp only [nrm, Nat.reduceEqDiff, reduceIte, Nat.reduceAdd, hs, sizeErr, List.map]; rfl) rfl fun _ _ => ?_); try simp only [nrm, Nat.reduceEqDiff, reduceIte, Nat.reduceAdd, hs, sizeErr])
        | (refine WpO.do (WpX.idxP (by (try simp only [nrm, Nat.reduceEqDiff, reduceIte, Nat.reduceAdd, hs, sizeErr]); rfl) rfl ?_ ?_); (focus omega); try simp only [nrm, Nat.reduceEqDiff, reduceIte, Nat.reduceAdd, hs, sizeErr])
        | (refine WpO.do (WpX.ldB rfl ?_ ?_); (focus omega); try simp only [nrm, Nat.reduceEqDiff, reduceIte, Nat.reduceAdd, hs, sizeErr])
        | (refine WpO.do (WpX.ldI rfl ?_ ?_); (focus omega); try simp only [nrm, Nat.reduceEqDiff, reduceIte, Nat.reduceAdd, hs, sizeErr])
        | (refine WpO.do (WpX.build (by repeat (first | refine aFill1 (by (try simp only [nrm, Nat.reduceEqDiff, reduceIte, Nat.reduceAdd, hs, sizeErr]); rfl) rfl ?_ | rfl)) ?_); try simp only [nrm, Nat.reduceEqDiff, reduceIte, Nat.reduceAdd, hs, sizeErr])
        | (refine WpO.guard rfl (fun _ => ?_) (fun h => absurd rfl h))
        | (refine WpO.guard rfl (fun h => absurd h (by decide)) (fun _ => ?_); try simp only [nrm, Nat.reduceEqDiff, reduceIte, Nat.reduceAdd, hs, sizeErr])
        | refine WpO.nil ?_
        | refine Wp.seq ?_
        | refine Wp.region ?_
        | refine Wp.dquiet rfl rfl ?_
        | refine Wp.cond (b := true) rfl ?_
        | refine Wp.cond (b := false) rfl ?_
        | refine Wp.skip ?_
        | refine Wp.ret ?_
        | refine Wp.block ?_
        | refine Wp.exit ?_
        | dsimp only [cond_true, cond_false])
      refine WpO.do (WpX.conD hn rfl rfl (by simp only [nrm, Nat.reduceEqDiff, reduceIte, Nat.reduceAdd, List.map] <;> rfl) (K_refLevels (l := l) (by omega)) fun v H5 h5 => ?_)
      obtain ⟨hg, hfg, hwg, hxg⟩ := h5
      haveI : ExtI _ H5 := ⟨hxg⟩
      haveI := hg.one
      repeat (first
        | (refine WpO.do (WpX.ld rfl rfl ?_); try simp only [nrm, Nat.reduceEqDiff, reduceIte, Nat.reduceAdd, hs, sizeErr, decide_true, beq_self_eq_true, Bool.and_true])
        | (refine WpO.do (WpX.ldN rfl rfl rfl ?_); try simp only [nrm, Nat.reduceEqDiff, reduceIte, Nat.reduceAdd, hs, sizeErr, decide_true, beq_self_eq_true, Bool.and_true])
        | (refine WpO.do (WpX.lenP (by (try simp only [nrm, Nat.reduceEqDiff, reduceIte, Nat.reduceAdd, hs, sizeErr, decide_true, beq_self_eq_true, Bool.and_true]); rfl) ?_); try simp only [nrm, Nat.reduceEqDiff, reduceIte, Nat.reduceAdd, hs, sizeErr, decide_true, beq_self_eq_true, Bool.and_true])
        | (refine WpO.now rfl rfl ?_; try simp only [nrm, Nat.reduceEqDiff, reduceIte, Nat.reduceAdd, hs, sizeErr, decide_true, beq_self_eq_true, Bool.and_true])
        | (refine WpO.do' (WpX.st rfl (by (try simp only [nrm, Nat.reduceEqDiff, reduceIte, Nat.reduceAdd, hs, sizeErr, decide_true, beq_self_eq_true, Bool.and_true]); rfl) rfl rfl rfl (by repeat (first | rfl | refine allOne_cons ?_)) rfl ?_); try simp only [nrm, Nat.reduceEqDiff, reduceIte, Nat.reduceAdd, hs, sizeErr, decide_true, beq_self_eq_true, Bool.and_true])
        | (refine WpO.do (WpX.pcall hn rfl (by simp only [nrm, Nat.reduceEqDiff, reduceIte, Nat.reduceAdd, hs, sizeErr, decide_true, beq_self_eq_true, Bool.and_true, List.map]; rfl) rfl fun _ _ => ?_); try simp only [nrm, Nat.reduceEqDiff, reduceIte, Nat.reduceAdd, hs, sizeErr, decide_true, beq_self_eq_true, Bool.and_true])
        | (refine WpO.do (WpX.idxP (by (try simp only [nrm, Nat.reduceEqDiff, reduceIte, Nat.reduceAdd, hs, sizeErr, decide_true, beq_self_eq_true, Bool.and_true]); rfl) rfl ?_ ?_); (focus omega); try simp only [nrm, Nat.reduceEqDiff, reduceIte, Nat.reduceAdd, hs, sizeErr, decide_true, beq_self_eq_true, Bool.and_true])
        | (refine WpO.do (WpX.ldB rfl ?_ ?_); (focus omega); try simp only [nrm, Nat.reduceEqDiff, reduceIte, Nat.reduceAdd, hs, sizeErr, decide_true, beq_self_eq_true, Bool.and_true])
        | (refine WpO.do (WpX.ldI rfl ?_ ?_); (focus omega); try simp only [nrm, Nat.reduceEqDiff, reduceIte, Nat.reduceAdd, hs, sizeErr, decide_true, beq_self_eq_true, Bool.and_true])
        | (refine WpO.do (WpX.build (by repeat (first | refine aFill1 (by (try simp only [nrm, Nat.reduceEqDiff, reduceIte, Nat.reduceAdd, hs, sizeErr, decide_true, beq_self_eq_true, Bool.and_true]); rfl) rfl ?_ | rfl)) ?_); try simp only [nrm, Nat.reduceEqDiff, reduceIte, Nat.reduceAdd, hs, sizeErr, decide_true, beq_self_eq_true, Bool.and_true])
        | (refine WpO.guard rfl (fun _ => ?_) (fun h => absurd rfl h))
        | (refine WpO.guard rfl (fun h => absurd h (by decide)) (fun _ => ?_); try simp only [nrm, Nat.reduceEqDiff, reduceIte, Nat.reduceAdd, hs, sizeErr, decide_true, beq_self_eq_true, Bool.and_true])
        | refine WpO.nil ?_
        | refine Wp.seq ?_
        | refine Wp.region ?_
        | refine Wp.dquiet rfl rfl ?_
        | refine Wp.cond (b := true) rfl ?_
        | refine Wp.cond (b := false) rfl ?_
        | refine Wp.skip ?_
        | refine Wp.ret ?_
        | refine Wp.block ?_
        | refine Wp.exit ?_
        | dsimp only [cond_true, cond_false])
      refine ⟨trivial, _, (by first | rfl | exact getAllC rfl rfl rfl rfl | exact getAllT rfl (getAllC rfl rfl rfl rfl) | exact getAllC rfl rfl rfl (getAllC rfl rfl rfl rfl) | exact getAllC1 rfl rfl rfl), ?_⟩
      exact ⟨rfl, Ext0.ext⟩
  · skip
    repeat (first
      | (refine WpO.do (WpX.ld rfl rfl ?_); try simp only [nrm, Nat.reduceEqDiff, reduceIte, Nat.reduceAdd, h1])
      | (refine WpO.do (WpX.ldN rfl rfl rfl ?_); try simp only [nrm, Nat.reduceEqDiff, reduceIte, Nat.reduceAdd, h1])
      | (refine WpO.do (WpX.lenP (by (try simp only [nrm, Nat.reduceEqDiff, reduceIte, Nat.reduceAdd, h1]); rfl) ?_); try simp only [nrm, Nat.reduceEqDiff, reduceIte, Nat.reduceAdd, h1])
      | (refine WpO.now rfl rfl ?_; try simp only [nrm, Nat.reduceEqDiff, reduceIte, Nat.reduceAdd, h1])
      | (refine WpO.do' (WpX.st rfl (by (try simp only [nrm, Nat.reduceEqDiff, reduceIte, Nat.reduceAdd, h1]); rfl) rfl rfl rfl (by repeat (first | rfl | refine allOne_cons ?_)) rfl ?_); try simp only [nrm, Nat.reduceEqDiff, reduceIte, Nat.reduceAdd, h1])
      | (refine WpO.do (WpX.pcall hn rfl (by simp only [nrm, Nat.reduceEqDiff, reduceIte, Nat.reduceAdd, h1, List.map]; rfl) rfl fun _ _ => ?_); try simp only [nrm, Nat.reduceEqDiff, reduceIte, Nat.reduceAdd, h1])
      | (refine WpO.do (WpX.idxP (by (try simp only [nrm, Nat.reduceEqDiff, reduceIte, Nat.reduceAdd, h1]); rfl) rfl ?_ ?_); (focus omega); try simp only [nrm, Nat.reduceEqDiff, reduceIte, Nat.reduceAdd, h1])
      | (refine WpO.do (WpX.ldB rfl ?_ ?_); (focus omega); try simp only [nrm, Nat.reduceEqDiff, reduceIte, Nat.reduceAdd, h1])
      | (refine WpO.do (WpX.ldI rfl ?_ ?_); (focus omega); try simp only [nrm, Nat.reduceEqDiff, reduceIte, Nat.reduceAdd, h1])
      | (refine WpO.do (WpX.build (by repeat (first | refine aFill1 (by (try simp only [nrm, Nat.reduceEqDiff, reduceIte, Nat.reduceAdd, h1]); rfl) rfl ?_ | rfl)) ?_); try simp only [nrm, Nat.reduceEqDiff, reduceIte, Nat.reduceAdd, h1])
      | (refine WpO.guard rfl (fun _ => ?_) (fun h => absurd rfl h))
      | (refine WpO.guard rfl (fun h => absurd h (by decide)) (fun _ => ?_); try simp only [nrm, Nat.reduceEqDiff, reduceIte, Nat.reduceAdd, h1])
      | refine WpO.nil ?_
      | refine Wp.seq ?_
      | refine Wp.region ?_
      | refine Wp.dquiet rfl rfl ?_
      | refine Wp.cond (b := true) rfl ?_
      | refine Wp.cond (b := false) rfl ?_
      | refine Wp.skip ?_
      | refine Wp.ret ?_
      | refine Wp.block ?_
      | refine Wp.exit ?_
      | dsimp only [cond_true, cond_false])
    refine ⟨trivial, _, (by first | rfl | exact getAllC rfl rfl rfl rfl | exact getAllT rfl (getAllC rfl rfl rfl rfl) | exact getAllC rfl rfl rfl (getAllC rfl rfl rfl rfl) | exact getAllC1 rfl rfl rfl), ?_⟩
    exact ⟨rfl, Ext0.ext⟩
end Go.Am
