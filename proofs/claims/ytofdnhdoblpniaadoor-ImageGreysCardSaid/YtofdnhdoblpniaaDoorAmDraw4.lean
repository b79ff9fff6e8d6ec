/- Regions that draw their order: whole. -/
import Derived.Test.YtofdnhdoblpniaaDoorAmDraw3
set_option linter.unusedSimpArgs false
set_option linter.unusedVariables false
namespace Go.Am
open Go Go.RowKit

theorem foldF_all {R : List DRec} {X : Nat → Bool} {fr : AFrame} (h : ∀ i, i < R.length → X i = true) : foldF R X fr = foldF R (fun _ => true) fr :=
  funext fun _ => foldF_agree rfl fun i _ hq _ => h i (List.getElem?_eq_some_iff.1 hq).1
theorem foldH_all {R : List DRec} {X : Nat → Bool} {H : AHeap} (h : ∀ i, i < R.length → X i = true) : foldH R X H = foldH R (fun _ => true) H :=
  foldH_agree fun i _ hq _ => h i (List.getElem?_eq_some_iff.1 hq).1
theorem foldF_nothing : ∀ (R : List DRec) (fr : AFrame), foldF R (fun _ => false) fr = fr
  | [], fr => rfl
  | r :: rs, fr => by simp only [foldF]; exact foldF_nothing rs fr

theorem dcheck_get {R : List DRec} {H0 : AHeap} : ∀ {rs : List DRec} {k : Nat}, dcheck R H0 rs k = true → ∀ (j : Nat) (r : DRec), rs[j]? = some r → r.want = true → (Nat.beq r.cls 1 || Nat.beq r.cls 3) = true → r.chk (k + j) R 0 H0 true = true
  | [], k, _, j, r, hj, _, _ => by simp at hj
  | a :: rs, k, h, j, r, hj, hw, hc => by
    simp only [dcheck, Bool.and_eq_true] at h
    cases j with
    | zero =>
      simp only [List.getElem?_cons_zero, Option.some.injEq] at hj; subst hj
      have := h.1
      rw [hw, hc] at this
      exact this
    | succ j => have := dcheck_get h.2 j r (by simpa using hj) hw hc; rwa [show k + 1 + j = k + (j + 1) by omega] at this

section
variable {P : Program} {S : Base} {call : ACall} {nt : Nat} {ops : Array Oper} {its : List DItem} {R : List DRec} {fr fr' : AFrame} {H0 H' : AHeap} {ref0 : Nat}

theorem draw_all (hG : S.G = P.globals.size) (hcall : ∀ g, CallSim P { S with ghost := g } call) (g : Run P S call nt ops its R fr H0 ref0) {m : RMap} {ds : List Deferred} {Q : Exit → Act → World → Prop}
    (hQ : ∀ X a w, (∀ i, i < ops.size → X i = true) → At X R fr H0 nt S m ds a w → Q .normal a w) :
    ∀ (fuel : Nat) (X : Nat → Bool) (listed : Array Bool) (a : Act) (w : World), listed.size = ops.size → (∀ i, X i = listed.getD i false) →
      (∀ k o, X k = true → ops[k]? = some o → ∀ e ∈ o.after, Region.binds .any e = true → X e.on = true) → At X R fr H0 nt S m ds a w → leftN X ops.size ≤ fuel → wpAny P .any ops Q fuel listed a w := by
  intro fuel
  have hnone : ∀ (X : Nat → Bool) (listed : Array Bool), listed.size = ops.size → (∀ i, X i = listed.getD i false) → (∀ i, i < ops.size → X i = true) → Region.ready .any ops listed = [] := fun X listed hs hX hall => by
    refine List.eq_nil_iff_forall_not_mem.2 fun j hj => ?_
    obtain ⟨h1, o, ho, _⟩ := mem_ready.1 hj
    have hjn : j < ops.size := (Array.getElem?_eq_some_iff.1 ho).1
    have h2 := hall j hjn
    rw [hX] at h2
    have hjl : j < listed.size := by omega
    simp [Array.getD, hjl] at h1 h2
    rw [h1] at h2; cases h2
  induction fuel with
  | zero =>
    intro X listed a w hs hX hcl hat hleft
    have hall := leftN_zero (Nat.le_zero.1 hleft)
    exact ⟨hnone X listed hs hX hall, hQ X a w hall hat⟩
  | succ fuel ih =>
    intro X listed a w hs hX hcl hat hleft
    refine ⟨fun hr => hQ X a w ?_ hat, fun k hk => ?_⟩
    · intro i
      induction i using Nat.strongRecOn with
      | _ i ihi =>
        intro hi
        cases hXi : X i with
        | true => rfl
        | false =>
          exfalso
          obtain ⟨o, ho⟩ : ∃ o, ops[i]? = some o := ⟨ops[i], by simp [hi]⟩
          obtain ⟨it, hit, _, _, _, _, hedge, _⟩ := g.reg.op i o ho
          have : i ∈ Region.ready .any ops listed := mem_ready.2 ⟨by
            rw [hX] at hXi
            have hil : i < listed.size := by omega
            simp [Array.getD, hil] at hXi ⊢; exact hXi, o, ho, fun e he hb => by
              have hlt := hedge e he hb
              rw [← hX]; exact ihi e.on hlt (by omega)⟩
          rw [hr] at this; cases this
    · obtain ⟨h1, o, ho, hedge⟩ := mem_ready.1 hk
      have hkn : k < ops.size := (Array.getElem?_eq_some_iff.1 ho).1
      have hkl : k < listed.size := by omega
      have hXk : X k = false := by rw [hX]; simp [Array.getD, hkl] at h1 ⊢; exact h1
      have hY : ∀ i, (if i = k then true else X i) = (listed.setIfInBounds k true).getD i false := fun i => by
        by_cases hik : i = k
        · subst hik; simp [hkl]
        · rw [getD_set_ne false (Ne.symm hik), ← hX, if_neg hik]
      have hready : ∀ e ∈ o.after, Region.binds .any e = true → X e.on = true := fun e he hb => by rw [hX]; exact hedge e he hb
      refine step_any hG hcall g (Y := fun i => if i = k then true else X i) ho hXk (by simp) (fun i hi => by simp [hi]) hcl hready hat fun a' w' hat' => ?_
      refine ih _ _ a' w' (by simpa using hs) hY ?_ hat' ?_
      · intro j o2 hj ho2 e he hb
        by_cases hek : e.on = k
        · simp [hek]
        · simp only [hek, if_false]
          by_cases hjk : j = k
          · subst hjk; rw [ho] at ho2; cases ho2; exact hready e he hb
          · simp only [hjk, if_false] at hj
            exact hcl j o2 hj ho2 e he hb
      · have := leftN_add (X := X) (Y := fun i => if i = k then true else X i) hXk (by simp) (fun i hi => by simp [hi]) hkn
        omega

theorem HRel.pushAll {m : RMap} {w : World} : ∀ (os : List AObj) (H : AHeap), HRel S m H w → HRel S m (Go.Am.pushAll H os) w
  | [], H, h => h
  | o :: os, H, h => HRel.pushAll os (H.push o) (h.ghost o)

theorem dsim (hm : P.follows .mixedOrders = true) (hG : S.G = P.globals.size) (hcall : ∀ g, CallSim P { S with ghost := g } call) (lf : Nat) : DSim P S call lf := by
  intro nt id ops rc fr fr' H H' x m a w ds Q hc hx hf hd h hQ
  simp only [cCode] at hc
  cases hl : cOpers P nt ops ops.toList with
  | none => rw [hl] at hc; cases hc; exact (fail_some hx).elim
  | some l =>
    rw [hl] at hc
    simp only [] at hc
    cases hdr : cDraw ops.toList (Region.before ops).toList l with
    | none => rw [hdr] at hc; cases hc; exact (fail_some hx).elim
    | some rc' =>
    rw [hdr] at hc
    cases hc
    obtain ⟨its, rfl, hreg⟩ := reg_of hl hdr
    simp only [RCode.exec] at hx
    cases hdt : dtext call its H.n fr (Go.Am.pushAll H (oracle its H.n fr H)) with
    | none => rw [hdt] at hx; cases hx
    | some q =>
      obtain ⟨R, f1, H1⟩ := q
      rw [hdt] at hx
      simp only [] at hx
      cases hck : dcheck R (Go.Am.pushAll H (oracle its H.n fr H)) R 0 with
      | false => rw [hck] at hx; cases hx
      | true =>
        rw [hck] at hx
        cases hx
        obtain ⟨h1, h2, h3, h4⟩ := dtext_get its _ _ _ _ _ _ hdt
        have g : Run P S call nt ops its R fr (Go.Am.pushAll H (oracle its H.n fr H)) H.n :=
          ⟨hreg, h1, h4, fun k r hr hw hcc => by have := dcheck_get hck k r hr hw hcc; simpa using this, fun r hr => (h.away r hr).2⟩
        have hn0 : (Go.Am.pushAll H (oracle its H.n fr H)).n = H.n + cnt3 its := by rw [pushAll_n, oracle_length]
        refine wp_region_any hm (draw_all hG hcall g (m := m) (ds := ds) (fun X a w hall hat => ?_) ops.size (fun _ => false) _ a _ (by simp) (fun i => ?_) (fun k o hk => by cases hk) ?_ ?_)
        · obtain ⟨⟨m', hm', hfr, hrel⟩, hds⟩ := hat
          have hall' : ∀ i, i < R.length → X i = true := fun i hi => hall i (by rw [← hreg.len, ← h1]; exact hi)
          rw [foldF_all hall', ← h2] at hfr
          rw [foldH_all hall', ← h3] at hrel
          have := hrel.less S.ghost fun r hr => Or.inl hr
          exact hQ m' a w hfr hds this hm'
        · by_cases hi : i < ops.size
          · simp [Array.getD, hi]
          · simp [Array.getD, hi]
        · refine ⟨⟨m, Le.refl _, by rw [foldF_nothing]; exact hf, ?_⟩, hd⟩
          rw [foldH_none fun _ _ _ _ => rfl]
          have hp := (HRel.pushAll (oracle its H.n fr H) H h).drew
          refine hp.more _ fun r hr => ?_
          rcases hr with hr | ⟨k, q, hq1, hq2, hq3, _, rfl⟩
          · have := h.away r hr
            exact ⟨this.1, by rw [hn0]; omega⟩
          · obtain ⟨it, hit, hok⟩ := g.item hq1
            rw [hok.rf]
            rw [hok.cls] at hq2
            have hlt := refs_lt its H.n k it hit hq2
            have hge := refs_ge its H.n k
            exact ⟨h.fresh _ hge, by rw [hn0]; exact hlt⟩
        · have : ∀ n, leftN (fun _ => false) n ≤ n := fun n => by
            induction n with
            | zero => simp [leftN]
            | succ n ih => simp only [leftN]; omega
          exact this _
end
end Go.Am
