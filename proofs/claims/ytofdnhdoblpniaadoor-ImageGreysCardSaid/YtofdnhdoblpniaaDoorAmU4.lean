import Derived.Test.YtofdnhdoblpniaaDoorAmU3
import Derived.Test.YtofdnhdoblpniaaDoorAmKit4
set_option linter.unusedSimpArgs false
set_option linter.unusedVariables false
set_option maxHeartbeats 4000000
set_option maxRecDepth 100000
namespace Go.Am
open Go

/-- A copy as a result. -/
def NewBytes (H H' : AHeap) (v : AVal) (l : List UInt8) : Prop := BytesI H' v l ∧ FreshS H v ∧ WrS H' v ∧ Ext H H'
theorem K_CopyBytes {H : AHeap} {p : AVal} {l : List UInt8} [hp : BytesI H p l] (hl : l.length < 2 ^ 40) : Con ext prog 1 88 [p] H fun v H' => NewBytes H H' v l := by
  refine con_of (show prog 88 = some c88 from rfl) rfl rfl fun n hn => ?_
  repeat (first
    | (refine WpO.do (WpX.ld rfl rfl ?_); try simp only [nrm, Nat.reduceEqDiff, reduceIte, Nat.reduceAdd])
    | (refine WpO.do (WpX.ldN rfl rfl rfl ?_); try simp only [nrm, Nat.reduceEqDiff, reduceIte, Nat.reduceAdd])
    | (refine WpO.do (WpX.lenP (by (try simp only [nrm, Nat.reduceEqDiff, reduceIte, Nat.reduceAdd]); rfl) ?_); try simp only [nrm, Nat.reduceEqDiff, reduceIte, Nat.reduceAdd])
    | (refine WpO.now rfl rfl ?_; try simp only [nrm, Nat.reduceEqDiff, reduceIte, Nat.reduceAdd])
    | (refine WpO.do' (WpX.st rfl (by (try simp only [nrm, Nat.reduceEqDiff, reduceIte, Nat.reduceAdd]); rfl) rfl rfl rfl (by repeat (first | rfl | refine allOne_cons ?_)) rfl ?_); try simp only [nrm, Nat.reduceEqDiff, reduceIte, Nat.reduceAdd])
    | (refine WpO.do (WpX.pcall hn rfl (by simp only [nrm, Nat.reduceEqDiff, reduceIte, Nat.reduceAdd, List.map]; rfl) rfl fun _ _ => ?_); try simp only [nrm, Nat.reduceEqDiff, reduceIte, Nat.reduceAdd])
    | (refine WpO.do (WpX.idxP (by (try simp only [nrm, Nat.reduceEqDiff, reduceIte, Nat.reduceAdd]); rfl) rfl ?_ ?_); (focus omega); try simp only [nrm, Nat.reduceEqDiff, reduceIte, Nat.reduceAdd])
    | (refine WpO.do (WpX.ldB rfl ?_ ?_); (focus omega); try simp only [nrm, Nat.reduceEqDiff, reduceIte, Nat.reduceAdd])
    | (refine WpO.do (WpX.ldI rfl ?_ ?_); (focus omega); try simp only [nrm, Nat.reduceEqDiff, reduceIte, Nat.reduceAdd])
    | (refine WpO.do (WpX.build (by repeat (first | refine aFill1 (by (try simp only [nrm, Nat.reduceEqDiff, reduceIte, Nat.reduceAdd]); rfl) rfl ?_ | rfl)) ?_); try simp only [nrm, Nat.reduceEqDiff, reduceIte, Nat.reduceAdd])
    | (refine WpO.guard rfl (fun _ => ?_) (fun h => absurd rfl h))
    | (refine WpO.guard rfl (fun h => absurd h (by decide)) (fun _ => ?_); try simp only [nrm, Nat.reduceEqDiff, reduceIte, Nat.reduceAdd])
    | refine WpO.nil ?_
    | refine Wp.seq ?_
    | refine Wp.region ?_
    | refine Wp.dquiet rfl rfl ?_
    | refine Wp.cond (b := true) rfl ?_
    | refine Wp.cond (b := false) rfl ?_
    | refine Wp.skip ?_
    | refine Wp.ret ?_
    | refine Wp.block ?_
    | refine Wp.exit ?_
    | dsimp only [cond_true, cond_false])
  refine WpO.do (WpX.appendNil rfl (by simp only [nrm, Nat.reduceEqDiff, reduceIte, Nat.reduceAdd, List.map] <;> rfl) hl fun v H1 h1 h2 h3 h4 => ?_)
  repeat (first
    | (refine WpO.do (WpX.ld rfl rfl ?_); try simp only [nrm, Nat.reduceEqDiff, reduceIte, Nat.reduceAdd])
    | (refine WpO.do (WpX.ldN rfl rfl rfl ?_); try simp only [nrm, Nat.reduceEqDiff, reduceIte, Nat.reduceAdd])
    | (refine WpO.do (WpX.lenP (by (try simp only [nrm, Nat.reduceEqDiff, reduceIte, Nat.reduceAdd]); rfl) ?_); try simp only [nrm, Nat.reduceEqDiff, reduceIte, Nat.reduceAdd])
    | (refine WpO.now rfl rfl ?_; try simp only [nrm, Nat.reduceEqDiff, reduceIte, Nat.reduceAdd])
    | (refine WpO.do' (WpX.st rfl (by (try simp only [nrm, Nat.reduceEqDiff, reduceIte, Nat.reduceAdd]); rfl) rfl rfl rfl (by repeat (first | rfl | refine allOne_cons ?_)) rfl ?_); try simp only [nrm, Nat.reduceEqDiff, reduceIte, Nat.reduceAdd])
    | (refine WpO.do (WpX.pcall hn rfl (by simp only [nrm, Nat.reduceEqDiff, reduceIte, Nat.reduceAdd, List.map]; rfl) rfl fun _ _ => ?_); try simp only [nrm, Nat.reduceEqDiff, reduceIte, Nat.reduceAdd])
    | (refine WpO.do (WpX.idxP (by (try simp only [nrm, Nat.reduceEqDiff, reduceIte, Nat.reduceAdd]); rfl) rfl ?_ ?_); (focus omega); try simp only [nrm, Nat.reduceEqDiff, reduceIte, Nat.reduceAdd])
    | (refine WpO.do (WpX.ldB rfl ?_ ?_); (focus omega); try simp only [nrm, Nat.reduceEqDiff, reduceIte, Nat.reduceAdd])
    | (refine WpO.do (WpX.ldI rfl ?_ ?_); (focus omega); try simp only [nrm, Nat.reduceEqDiff, reduceIte, Nat.reduceAdd])
    | (refine WpO.do (WpX.build (by repeat (first | refine aFill1 (by (try simp only [nrm, Nat.reduceEqDiff, reduceIte, Nat.reduceAdd]); rfl) rfl ?_ | rfl)) ?_); try simp only [nrm, Nat.reduceEqDiff, reduceIte, Nat.reduceAdd])
    | (refine WpO.guard rfl (fun _ => ?_) (fun h => absurd rfl h))
    | (refine WpO.guard rfl (fun h => absurd h (by decide)) (fun _ => ?_); try simp only [nrm, Nat.reduceEqDiff, reduceIte, Nat.reduceAdd])
    | refine WpO.nil ?_
    | refine Wp.seq ?_
    | refine Wp.region ?_
    | refine Wp.dquiet rfl rfl ?_
    | refine Wp.cond (b := true) rfl ?_
    | refine Wp.cond (b := false) rfl ?_
    | refine Wp.skip ?_
    | refine Wp.ret ?_
    | refine Wp.block ?_
    | refine Wp.exit ?_
    | dsimp only [cond_true, cond_false])
  refine ⟨trivial, _, (by first | rfl | exact getAllC rfl rfl rfl rfl | exact getAllT rfl (getAllC rfl rfl rfl rfl) | exact getAllC rfl rfl rfl (getAllC rfl rfl rfl rfl) | exact getAllC1 rfl rfl rfl), ?_⟩
  exact ⟨h1, h2, h3, Ext0.ext⟩
theorem K_CopyGrey {H : AHeap} {a b : Int} {p : AVal} {l : List UInt8} [hp : BytesI H p l] (hl : l.length < 2 ^ 40) : Con ext prog 2 34 [.agg [.int .i64 a, .int .i64 b, p]] H fun v H' => NewInk H H' v ⟨a, b, l⟩ := by
  refine con_of (show prog 34 = some c34 from rfl) rfl rfl fun n hn => ?_
  haveI := hp.one
  repeat (first
    | (refine WpO.do (WpX.ld rfl rfl ?_); try simp only [nrm, Nat.reduceEqDiff, reduceIte, Nat.reduceAdd])
    | (refine WpO.do (WpX.ldN rfl rfl rfl ?_); try simp only [nrm, Nat.reduceEqDiff, reduceIte, Nat.reduceAdd])
    | (refine WpO.do (WpX.lenP (by (try simp only [nrm, Nat.reduceEqDiff, reduceIte, Nat.reduceAdd]); rfl) ?_); try simp only [nrm, Nat.reduceEqDiff, reduceIte, Nat.reduceAdd])
    | (refine WpO.now rfl rfl ?_; try simp only [nrm, Nat.reduceEqDiff, reduceIte, Nat.reduceAdd])
    | (refine WpO.do' (WpX.st rfl (by (try simp only [nrm, Nat.reduceEqDiff, reduceIte, Nat.reduceAdd]); rfl) rfl rfl rfl (by repeat (first | rfl | refine allOne_cons ?_)) rfl ?_); try simp only [nrm, Nat.reduceEqDiff, reduceIte, Nat.reduceAdd])
    | (refine WpO.do (WpX.pcall hn rfl (by simp only [nrm, Nat.reduceEqDiff, reduceIte, Nat.reduceAdd, List.map]; rfl) rfl fun _ _ => ?_); try simp only [nrm, Nat.reduceEqDiff, reduceIte, Nat.reduceAdd])
    | (refine WpO.do (WpX.idxP (by (try simp only [nrm, Nat.reduceEqDiff, reduceIte, Nat.reduceAdd]); rfl) rfl ?_ ?_); (focus omega); try simp only [nrm, Nat.reduceEqDiff, reduceIte, Nat.reduceAdd])
    | (refine WpO.do (WpX.ldB rfl ?_ ?_); (focus omega); try simp only [nrm, Nat.reduceEqDiff, reduceIte, Nat.reduceAdd])
    | (refine WpO.do (WpX.ldI rfl ?_ ?_); (focus omega); try simp only [nrm, Nat.reduceEqDiff, reduceIte, Nat.reduceAdd])
    | (refine WpO.do (WpX.build (by repeat (first | refine aFill1 (by (try simp only [nrm, Nat.reduceEqDiff, reduceIte, Nat.reduceAdd]); rfl) rfl ?_ | rfl)) ?_); try simp only [nrm, Nat.reduceEqDiff, reduceIte, Nat.reduceAdd])
    | (refine WpO.guard rfl (fun _ => ?_) (fun h => absurd rfl h))
    | (refine WpO.guard rfl (fun h => absurd h (by decide)) (fun _ => ?_); try simp only [nrm, Nat.reduceEqDiff, reduceIte, Nat.reduceAdd])
    | refine WpO.nil ?_
    | refine Wp.seq ?_
    | refine Wp.region ?_
    | refine Wp.dquiet rfl rfl ?_
    | refine Wp.cond (b := true) rfl ?_
    | refine Wp.cond (b := false) rfl ?_
    | refine Wp.skip ?_
    | refine Wp.ret ?_
    | refine Wp.block ?_
    | refine Wp.exit ?_
    | dsimp only [cond_true, cond_false])
  refine Wp.dregion0 rfl ?_
  repeat (first
    | (refine WpE.read rfl (exec_ld rfl rfl) (by repeat (first | exact trivial | refine ⟨(by first | exact Or.inl (by decide) | exact Or.inr (exec_ld rfl rfl) | exact Or.inr (exec_ldN rfl rfl rfl) | exact Or.inr ghost_of), ?_⟩)) ?_; try simp only [nrm, Nat.reduceEqDiff, reduceIte, Nat.reduceAdd])
    | (refine WpE.read rfl (exec_ldN rfl rfl rfl) (by repeat (first | exact trivial | refine ⟨(by first | exact Or.inl (by decide) | exact Or.inr (exec_ld rfl rfl) | exact Or.inr (exec_ldN rfl rfl rfl) | exact Or.inr ghost_of), ?_⟩)) ?_; try simp only [nrm, Nat.reduceEqDiff, reduceIte, Nat.reduceAdd])
    | (refine WpE.pure rfl (exec_lenP (by (try simp only [nrm, Nat.reduceEqDiff, reduceIte, Nat.reduceAdd]); rfl)) ?_; try simp only [nrm, Nat.reduceEqDiff, reduceIte, Nat.reduceAdd])
    | (refine WpE.pure rfl rfl ?_; try simp only [nrm, Nat.reduceEqDiff, reduceIte, Nat.reduceAdd])
    | (refine WpE.made rfl rfl ghost_of (by repeat (first | exact trivial | refine ⟨(by first | exact Or.inl (by decide) | exact Or.inr (exec_ld rfl rfl) | exact Or.inr (exec_ldN rfl rfl rfl) | exact Or.inr ghost_of), ?_⟩)) ?_; try simp only [nrm, Nat.reduceEqDiff, reduceIte, Nat.reduceAdd])
    | (refine WpE.effect rfl (exec_st rfl (by (try simp only [nrm, Nat.reduceEqDiff, reduceIte, Nat.reduceAdd]); rfl) rfl rfl rfl (by repeat (first | rfl | refine allOne_cons ?_)) rfl) (by repeat (first | exact trivial | refine ⟨(by first | exact Or.inl (by decide) | exact Or.inr (readOk_of (exec_ld rfl rfl)) | exact Or.inr (readOk_of (exec_ldN rfl rfl rfl)) | exact Or.inr (made_of rfl)), ?_⟩)) ?_; try simp only [nrm, Nat.reduceEqDiff, reduceIte, Nat.reduceAdd])
    | (refine WpE.pcall rfl hn rfl (by simp only [nrm, Nat.reduceEqDiff, reduceIte, Nat.reduceAdd, List.map]; rfl) rfl fun _ _ => ⟨(by repeat (first | exact trivial | refine ⟨(by first | exact Or.inl (by decide) | exact Or.inr (readOk_of (exec_ld rfl rfl)) | exact Or.inr (readOk_of (exec_ldN rfl rfl rfl)) | exact Or.inr (made_of rfl)), ?_⟩)), ?_⟩; try simp only [nrm, Nat.reduceEqDiff, reduceIte, Nat.reduceAdd])
    | (refine WpE.pure rfl (exec_build (by repeat (first | refine aFill1 (by (try simp only [nrm, Nat.reduceEqDiff, reduceIte, Nat.reduceAdd]); rfl) rfl ?_ | rfl))) ?_; try simp only [nrm, Nat.reduceEqDiff, reduceIte, Nat.reduceAdd])
    | (refine WpE.skip rfl ?_; try simp only [nrm, Nat.reduceEqDiff, reduceIte, Nat.reduceAdd])
    | refine WpE.nil ?_)
  refine WpE.con rfl hn rfl rfl (by simp only [nrm, Nat.reduceEqDiff, reduceIte, Nat.reduceAdd, List.map] <;> rfl) (K_CopyBytes hl) fun v H1 ⟨h1, h2, h3, h4⟩ => ?_
  haveI : ExtI _ H1 := ⟨h4⟩
  haveI := h1.one
  refine ⟨(by repeat (first | exact trivial | refine ⟨(by first | exact Or.inl (by decide) | exact Or.inr (readOk_of (exec_ld rfl rfl)) | exact Or.inr (readOk_of (exec_ldN rfl rfl rfl)) | exact Or.inr (made_of rfl)), ?_⟩)), ?_⟩
  repeat (first
    | (refine WpE.read rfl (exec_ld rfl rfl) (by repeat (first | exact trivial | refine ⟨(by first | exact Or.inl (by decide) | exact Or.inr (exec_ld rfl rfl) | exact Or.inr (exec_ldN rfl rfl rfl) | exact Or.inr ghost_of), ?_⟩)) ?_; try simp only [nrm, Nat.reduceEqDiff, reduceIte, Nat.reduceAdd])
    | (refine WpE.read rfl (exec_ldN rfl rfl rfl) (by repeat (first | exact trivial | refine ⟨(by first | exact Or.inl (by decide) | exact Or.inr (exec_ld rfl rfl) | exact Or.inr (exec_ldN rfl rfl rfl) | exact Or.inr ghost_of), ?_⟩)) ?_; try simp only [nrm, Nat.reduceEqDiff, reduceIte, Nat.reduceAdd])
    | (refine WpE.pure rfl (exec_lenP (by (try simp only [nrm, Nat.reduceEqDiff, reduceIte, Nat.reduceAdd]); rfl)) ?_; try simp only [nrm, Nat.reduceEqDiff, reduceIte, Nat.reduceAdd])
    | (refine WpE.pure rfl rfl ?_; try simp only [nrm, Nat.reduceEqDiff, reduceIte, Nat.reduceAdd])
    | (refine WpE.made rfl rfl ghost_of (by repeat (first | exact trivial | refine ⟨(by first | exact Or.inl (by decide) | exact Or.inr (exec_ld rfl rfl) | exact Or.inr (exec_ldN rfl rfl rfl) | exact Or.inr ghost_of), ?_⟩)) ?_; try simp only [nrm, Nat.reduceEqDiff, reduceIte, Nat.reduceAdd])
    | (refine WpE.effect rfl (exec_st rfl (by (try simp only [nrm, Nat.reduceEqDiff, reduceIte, Nat.reduceAdd]); rfl) rfl rfl rfl (by repeat (first | rfl | refine allOne_cons ?_)) rfl) (by repeat (first | exact trivial | refine ⟨(by first | exact Or.inl (by decide) | exact Or.inr (readOk_of (exec_ld rfl rfl)) | exact Or.inr (readOk_of (exec_ldN rfl rfl rfl)) | exact Or.inr (made_of rfl)), ?_⟩)) ?_; try simp only [nrm, Nat.reduceEqDiff, reduceIte, Nat.reduceAdd])
    | (refine WpE.pcall rfl hn rfl (by simp only [nrm, Nat.reduceEqDiff, reduceIte, Nat.reduceAdd, List.map]; rfl) rfl fun _ _ => ⟨(by repeat (first | exact trivial | refine ⟨(by first | exact Or.inl (by decide) | exact Or.inr (readOk_of (exec_ld rfl rfl)) | exact Or.inr (readOk_of (exec_ldN rfl rfl rfl)) | exact Or.inr (made_of rfl)), ?_⟩)), ?_⟩; try simp only [nrm, Nat.reduceEqDiff, reduceIte, Nat.reduceAdd])
    | (refine WpE.pure rfl (exec_build (by repeat (first | refine aFill1 (by (try simp only [nrm, Nat.reduceEqDiff, reduceIte, Nat.reduceAdd]); rfl) rfl ?_ | rfl))) ?_; try simp only [nrm, Nat.reduceEqDiff, reduceIte, Nat.reduceAdd])
    | (refine WpE.skip rfl ?_; try simp only [nrm, Nat.reduceEqDiff, reduceIte, Nat.reduceAdd])
    | refine WpE.nil ?_)
  repeat (first
    | (refine WpO.do (WpX.ld rfl rfl ?_); try simp only [nrm, Nat.reduceEqDiff, reduceIte, Nat.reduceAdd])
    | (refine WpO.do (WpX.ldN rfl rfl rfl ?_); try simp only [nrm, Nat.reduceEqDiff, reduceIte, Nat.reduceAdd])
    | (refine WpO.do (WpX.lenP (by (try simp only [nrm, Nat.reduceEqDiff, reduceIte, Nat.reduceAdd]); rfl) ?_); try simp only [nrm, Nat.reduceEqDiff, reduceIte, Nat.reduceAdd])
    | (refine WpO.now rfl rfl ?_; try simp only [nrm, Nat.reduceEqDiff, reduceIte, Nat.reduceAdd])
    | (refine WpO.do' (WpX.st rfl (by (try simp only [nrm, Nat.reduceEqDiff, reduceIte, Nat.reduceAdd]); rfl) rfl rfl rfl (by repeat (first | rfl | refine allOne_cons ?_)) rfl ?_); try simp only [nrm, Nat.reduceEqDiff, reduceIte, Nat.reduceAdd])
    | (refine WpO.do (WpX.pcall hn rfl (by simp only [nrm, Nat.reduceEqDiff, reduceIte, Nat.reduceAdd, List.map]; rfl) rfl fun _ _ => ?_); try simp only [nrm, Nat.reduceEqDiff, reduceIte, Nat.reduceAdd])
    | (refine WpO.do (WpX.idxP (by (try simp only [nrm, Nat.reduceEqDiff, reduceIte, Nat.reduceAdd]); rfl) rfl ?_ ?_); (focus omega); try simp only [nrm, Nat.reduceEqDiff, reduceIte, Nat.reduceAdd])
    | (refine WpO.do (WpX.ldB rfl ?_ ?_); (focus omega); try simp only [nrm, Nat.reduceEqDiff, reduceIte, Nat.reduceAdd])
    | (refine WpO.do (WpX.ldI rfl ?_ ?_); (focus omega); try simp only [nrm, Nat.reduceEqDiff, reduceIte, Nat.reduceAdd])
    | (refine WpO.do (WpX.build (by repeat (first | refine aFill1 (by (try simp only [nrm, Nat.reduceEqDiff, reduceIte, Nat.reduceAdd]); rfl) rfl ?_ | rfl)) ?_); try simp only [nrm, Nat.reduceEqDiff, reduceIte, Nat.reduceAdd])
    | (refine WpO.guard rfl (fun _ => ?_) (fun h => absurd rfl h))
    | (refine WpO.guard rfl (fun h => absurd h (by decide)) (fun _ => ?_); try simp only [nrm, Nat.reduceEqDiff, reduceIte, Nat.reduceAdd])
    | refine WpO.nil ?_
    | refine Wp.seq ?_
    | refine Wp.region ?_
    | refine Wp.dquiet rfl rfl ?_
    | refine Wp.cond (b := true) rfl ?_
    | refine Wp.cond (b := false) rfl ?_
    | refine Wp.skip ?_
    | refine Wp.ret ?_
    | refine Wp.block ?_
    | refine Wp.exit ?_
    | dsimp only [cond_true, cond_false])
  refine ⟨trivial, _, (by first | rfl | exact getAllC rfl rfl rfl rfl | exact getAllT rfl (getAllC rfl rfl rfl rfl) | exact getAllC rfl rfl rfl (getAllC rfl rfl rfl rfl) | exact getAllC1 rfl rfl rfl), ?_⟩
  exact ⟨v, rfl, inferInstance, h2.weak, inferInstance, Ext0.ext⟩
end Go.Am
