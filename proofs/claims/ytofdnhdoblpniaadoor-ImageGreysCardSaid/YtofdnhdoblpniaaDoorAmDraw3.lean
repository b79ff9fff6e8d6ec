/- Regions that draw their order: any order gives what the text's gives. -/
import Derived.Test.YtofdnhdoblpniaaDoorAmDraw2
set_option linter.unusedSimpArgs false
set_option linter.unusedVariables false
namespace Go.Am
open Go Go.RowKit

section
variable {P : Program} {S : Base} {call : ACall} {nt : Nat} {ops : Array Oper} {its : List DItem} {R : List DRec} {fr fr' : AFrame} {H0 H' : AHeap} {ref0 : Nat}

/-- The rows that are still to be made. -/
def ghosts (R : List DRec) (X : Nat → Bool) (r : Nat) : Prop := ∃ (k : Nat) (q : DRec), R[k]? = some q ∧ Nat.beq q.cls 3 = true ∧ q.want = true ∧ X k = false ∧ r = q.ref

theorem clash_dst {x y : DItem} {t : Nat} (hx : x.o.dst = some t) (hy : y.o.dst = some t) : clash x y = true := by simp [clash, hx, hy]
theorem clash_look {x y : DItem} {t : Nat} (hx : x.o.dst = some t) (hy : t ∈ y.o.looks) : clash x y = true := by simp [clash, hx, hy]
theorem clash_look' {x y : DItem} {t : Nat} (hx : y.o.dst = some t) (hy : t ∈ x.o.looks) : clash x y = true := by simp [clash, hx, hy]
theorem clash_eff {x y : DItem} (hx : Nat.beq x.cls 2 = true) (hy : Nat.beq y.cls 2 = true) : clash x y = true := by simp [clash, hx, hy]

structure Run (P : Program) (S : Base) (call : ACall) (nt : Nat) (ops : Array Oper) (its : List DItem) (R : List DRec) (fr : AFrame) (H0 : AHeap) (ref0 : Nat) : Prop where
  reg : Reg P nt ops its
  len : R.length = its.length
  get : ∀ (k : Nat) (it : DItem), its[k]? = some it → ∃ r, R[k]? = some r ∧ RecOk call it (refs its ref0 k) (foldF R (fun i => decide (i < k)) fr) (foldH R (fun i => decide (i < k)) H0) r
  chk : ∀ (k : Nat) (r : DRec), R[k]? = some r → r.want = true → (Nat.beq r.cls 1 || Nat.beq r.cls 3) = true → r.chk k R 0 H0 true = true
  base : ∀ r, S.ghost r → r < ref0

theorem Run.item (g : Run P S call nt ops its R fr H0 ref0) {k : Nat} {r : DRec} (hr : R[k]? = some r) : ∃ it, its[k]? = some it ∧ RecOk call it (refs its ref0 k) (foldF R (fun i => decide (i < k)) fr) (foldH R (fun i => decide (i < k)) H0) r := by
  have hk : k < its.length := by rw [← g.len]; exact (List.getElem?_eq_some_iff.1 hr).1
  obtain ⟨it, hit⟩ : ∃ it, its[k]? = some it := ⟨its[k], by simp [hk]⟩
  obtain ⟨r', hr', hok⟩ := g.get k it hit
  rw [hr] at hr'; cases hr'
  exact ⟨it, hit, hok⟩

theorem Run.eff (g : Run P S call nt ops its R fr H0 ref0) {k : Nat} {r : DRec} {it : DItem} (hr : R[k]? = some r) (hit : its[k]? = some it) (he : r.eff = true) : Nat.beq it.cls 2 = true := by
  obtain ⟨it', hit', hok⟩ := g.item hr
  rw [hit] at hit'; cases hit'
  cases hw : r.want with
  | false => have := (hok.no hw).2; rw [he] at this; cases this
  | true =>
    have := hok.yes hw
    rw [he] at this
    cases h2 : Nat.beq it.cls 2 with
    | true => rfl
    | false =>
      exfalso
      unfold dstep at this
      rw [h2] at this
      simp only [] at this
      cases h3 : Nat.beq it.cls 3 with
      | true =>
        rw [h3] at this
        simp only [] at this
        cases hx : it.o.op.made (foldF R (fun i => decide (i < k)) fr) with
        | none => rw [hx] at this; cases this
        | some q =>
          obtain ⟨cs, e, kk⟩ := q
          rw [hx] at this
          simp only [] at this
          cases hg : ghostIs (foldH R (fun i => decide (i < k)) H0) (refs its ref0 k) cs e with
          | true => rw [hg] at this; simp at this
          | false => rw [hg] at this; cases this
      | false =>
        rw [h3] at this
        simp only [] at this
        cases hx : it.o.op.exec noCall (foldF R (fun i => decide (i < k)) fr) (foldH R (fun i => decide (i < k)) H0) with
        | none => rw [hx] at this; cases this
        | some q =>
          obtain ⟨a, b⟩ := q
          rw [hx] at this
          simp only [] at this
          cases hg : Nat.beq b.n (foldH R (fun i => decide (i < k)) H0).n with
          | true => rw [hg] at this; simp at this
          | false => rw [hg] at this; cases this

/-- How far the region is. -/
structure At (X : Nat → Bool) (R : List DRec) (fr : AFrame) (H0 : AHeap) (nt : Nat) (S : Base) (m : RMap) (ds : List Deferred) (a : Act) (w : World) : Prop where
  fr : ∃ m', Le m m' ∧ FRel nt m' (foldF R X fr) a.tmps ∧ HRel { S with ghost := fun r => S.ghost r ∨ ghosts R X r } m' (foldH R X H0) w
  ds : a.defers = ds

theorem step_any (hG : S.G = P.globals.size) (hcall : ∀ g, CallSim P { S with ghost := g } call) (g : Run P S call nt ops its R fr H0 ref0) {X Y : Nat → Bool} {k : Nat} {o : Oper} (ho : ops[k]? = some o) (hXk : X k = false) (hYk : Y k = true) (hYX : ∀ i, i ≠ k → Y i = X i)
    (hclosed : ∀ k o, X k = true → ops[k]? = some o → ∀ e ∈ o.after, Region.binds .any e = true → X e.on = true) (hready : ∀ e ∈ o.after, Region.binds .any e = true → X e.on = true)
    {m : RMap} {ds : List Deferred} {a : Act} {w : World} (hat : At X R fr H0 nt S m ds a w) {K : Act → World → Prop} {Q : Exit → Act → World → Prop} (hK : ∀ a w, At Y R fr H0 nt S m ds a w → K a w) : wpOp P ops Q k K a w := by
  obtain ⟨it, hit, hop, hdst, hguard, hcls, -, -⟩ := g.reg.op k o ho
  obtain ⟨r, hr, hok⟩ := g.get k it hit
  have hkn : k < ops.size := (Array.getElem?_eq_some_iff.1 ho).1
  -- below k in X; nothing of X must follow k
  have hb : ∀ i, i < ops.size → it.b.testBit i = true → X i = true := g.reg.below hclosed k o it ho hit hready
  have hnb : ∀ i y, its[i]? = some y → X i = true → y.b.testBit k = false := fun i y hy hXi => by
    cases hbit : y.b.testBit k with
    | false => rfl
    | true =>
      have hin : i < ops.size := by rw [← g.reg.len]; exact (List.getElem?_eq_some_iff.1 hy).1
      obtain ⟨o2, ho2⟩ : ∃ o2, ops[i]? = some o2 := ⟨ops[i], by simp [hin]⟩
      have := g.reg.below hclosed i o2 y ho2 hy (hclosed i o2 hXi ho2) k hkn hbit
      rw [hXk] at this; cases this
  have hxi : ∀ {i q}, R[i]? = some q → i < ops.size := fun hq => by rw [← g.reg.len, ← g.len]; exact (List.getElem?_eq_some_iff.1 hq).1
  -- the temporaries that k looks at
  have hagree : ∀ t ∈ it.o.looks, foldF R X fr t = foldF R (fun i => decide (i < k)) fr t := fun t ht => by
    refine foldF_agree rfl fun i q hq hqd => ?_
    obtain ⟨y, hy, hyok⟩ := g.item hq
    rw [hyok.o] at hqd
    rcases Nat.lt_trichotomy i k with h | h | h
    · simp only [h, decide_true]
      exact hb i (hxi hq) (g.reg.clash i k y it h hy hit (clash_look hqd ht))
    · subst h; simp [hXk]
    · have : ¬ i < k := by omega
      simp only [this, decide_false]
      cases hXi : X i with
      | false => rfl
      | true =>
        have h1 := g.reg.clash k i it y h hit hy (clash_look' hqd ht)
        rw [hnb i y hy hXi] at h1; cases h1
  have hlast : ∀ i q t, k < i → R[i]? = some q → X i = true → r.o.dst = some t → q.o.dst ≠ some t := fun i q t hlt hq hXi hrd hqd => by
    obtain ⟨y, hy, hyok⟩ := g.item hq
    rw [hyok.o] at hqd; rw [hok.o] at hrd
    have h1 := g.reg.clash k i it y hlt hit hy (clash_dst hrd hqd)
    rw [hnb i y hy hXi] at h1; cases h1
  have haddF : foldF R Y fr = put (foldF R X fr) it.o.dst r.v := by rw [foldF_add hr hXk hYk hYX hlast, hok.o]
  have hghost : ∀ x, ghosts R Y x → ghosts R X x := fun x ⟨i, q, h1, h2, h3, h4, h5⟩ => by
    by_cases hik : i = k
    · subst hik; rw [hYk] at h4; cases h4
    · exact ⟨i, q, h1, h2, h3, by rw [← hYX i hik]; exact h4, h5⟩
  have haddH : r.eff = false → foldH R Y H0 = foldH R X H0 := fun he => foldH_agree fun i q hq hqe => by
    by_cases hik : i = k
    · subst hik; rw [hr] at hq; cases hq; rw [he] at hqe; cases hqe
    · exact hYX i hik
  obtain ⟨⟨m', hm', hfr, hrel⟩, hds⟩ := hat
  have hwant : Region.wanted o (yielded ops a.tmps) = r.want := by
    rw [wanted_eq hfr hguard (ro := it.o) rfl, hok.want]
    unfold ROper.wanted
    cases hgd : it.o.guard with
    | none => rfl
    | some tw =>
      obtain ⟨t, wn⟩ := tw
      simp only []
      rw [hagree t (by simp [ROper.looks, hgd])]
  unfold wpOp
  simp only [ho]
  rw [hwant]
  cases hw : r.want with
  | false =>
    simp only [Bool.false_eq_true, if_false]
    obtain ⟨hv, he⟩ := hok.no hw
    refine hK _ _ ⟨⟨m', hm', ?_, ?_⟩, by rw [put_defers]; exact hds⟩
    · rw [haddF, hv]; exact hfr.put hdst undef_emb
    · rw [haddH he]; exact hrel.less _ fun x hx => hx.imp id (hghost x)
  | true =>
    simp only [if_true]
    refine Or.inl ?_
    have hstep := hok.yes hw
    have htm : ∀ t ∈ it.o.op.tmps, foldF R X fr t = foldF R (fun i => decide (i < k)) fr t := fun t ht => hagree t (by simp [ROper.looks, ht])
    unfold dstep at hstep
    cases h2 : Nat.beq it.cls 2 with
    | true =>
      rw [h2] at hstep
      simp only [] at hstep
      have hHX : foldH R X H0 = foldH R (fun i => decide (i < k)) H0 := foldH_agree fun i q hq hqe => by
        obtain ⟨y, hy, hyok⟩ := g.item hq
        have hc2 := g.eff hq hy hqe
        rcases Nat.lt_trichotomy i k with h | h | h
        · simp only [h, decide_true]
          exact hb i (hxi hq) (g.reg.clash i k y it h hy hit (clash_eff hc2 h2))
        · subst h; simp [hXk]
        · have : ¬ i < k := by omega
          simp only [this, decide_false]
          cases hXi : X i with
          | false => rfl
          | true =>
            have h1 := g.reg.clash k i it y h hit hy (clash_eff h2 hc2)
            rw [hnb i y hy hXi] at h1; cases h1
      cases hx : it.o.op.exec call (foldF R (fun i => decide (i < k)) fr) (foldH R (fun i => decide (i < k)) H0) with
      | none => rw [hx] at hstep; cases hstep
      | some q =>
        obtain ⟨v, H1⟩ := q
        rw [hx] at hstep
        simp only [Option.some.injEq, Prod.mk.injEq] at hstep
        obtain ⟨hv, he, hh⟩ := hstep
        rw [← hHX, ← exec_congr (call := call) htm] at hx
        refine wp_of_yields (sim_op hop hfr hrel hG (hcall _) hx) fun x w' ⟨m2, hm2, hxv, hrel2⟩ => hK _ _ ⟨⟨m2, Le.trans hm' hm2, ?_, ?_⟩, by rw [put_defers]; exact hds⟩
        · rw [haddF, ← hv]; exact (hfr.mono hm2).put hdst hxv
        · rw [foldH_add hr hYk he.symm fun i q hlt hq hqe => ?_, ← hh]
          · exact hrel2.less _ fun x hx => hx.imp id (hghost x)
          · obtain ⟨y, hy, hyok⟩ := g.item hq
            have hc2 := g.eff hq hy hqe
            rw [hYX i (by omega)]
            cases hXi : X i with
            | false => rfl
            | true =>
              have h1 := g.reg.clash k i it y hlt hit hy (clash_eff h2 hc2)
              rw [hnb i y hy hXi] at h1; cases h1
    | false =>
      rw [h2] at hstep
      simp only [] at hstep
      have hckind : it.cls = it.o.op.kind := by
        rcases hcls with h | h
        · exact h
        · rw [h.2] at h2; cases h2
      -- what k reads is there
      have hchk : (Nat.beq r.cls 1 || Nat.beq r.cls 3) = true → r.okAt (foldH R X H0) = true := fun hc => by
        refine chk_okAt (k := k) R X 0 H0 true (g.chk k r hr hw hc) ?_ ?_ ?_ (Or.inl rfl)
        · intro j e hj he hXj
          obtain ⟨y, hy, hyok⟩ := g.item hj
          rw [hyok.b]; exact hnb j y hy hXj
        · intro j e hj he hbit
          rw [hok.b] at hbit
          exact hb j (hxi hj) (by simpa using hbit)
        · intro j j' e e' hj hj' he he' hlt hXj'
          obtain ⟨y, hy, _⟩ := g.item hj
          obtain ⟨y', hy', _⟩ := g.item hj'
          have hbit := g.reg.clash j j' y y' hlt hy hy' (clash_eff (g.eff hj hy he) (g.eff hj' hy' he'))
          have hin := hxi hj'
          obtain ⟨o2, ho2⟩ : ∃ o2, ops[j']? = some o2 := ⟨ops[j'], by simp [hin]⟩
          exact g.reg.below hclosed j' o2 y' ho2 hy' (hclosed j' o2 hXj' ho2) j (hxi hj) hbit
      cases h3 : Nat.beq it.cls 3 with
      | true =>
        rw [h3] at hstep
        simp only [] at hstep
        cases hmd : it.o.op.made (foldF R (fun i => decide (i < k)) fr) with
        | none => rw [hmd] at hstep; cases hstep
        | some q =>
          obtain ⟨cs, e, kk⟩ := q
          rw [hmd] at hstep
          simp only [] at hstep
          cases hg : ghostIs (foldH R (fun i => decide (i < k)) H0) (refs its ref0 k) cs e with
          | false => rw [hg] at hstep; cases hstep
          | true =>
            rw [hg] at hstep
            simp only [Option.some.injEq, Prod.mk.injEq] at hstep
            obtain ⟨hv, he, hh⟩ := hstep
            have hat := hchk (by rw [hok.cls, h3, Bool.or_true])
            unfold DRec.okAt at hat
            rw [hok.cls, h3, hok.o, hok.fr, hmd] at hat
            simp only [] at hat
            rw [hok.rf] at hat
            have hglob : Globs P.globals.size m' := by rw [← hG]; exact hrel.glob
            obtain ⟨xs, hxs, hrun⟩ := sim_made (P := P) (m := m') hop hfr hglob (by rw [made_congr htm]; exact hmd)
            obtain ⟨x, hx1, hx2⟩ := hrun w
            unfold ghostIs at hat
            simp only [Bool.and_eq_true] at hat
            obtain ⟨hlt, hrow⟩ := hat
            have hlt' : refs its ref0 k < (foldH R X H0).n := by simpa [Nat.blt_eq] using hlt
            obtain ⟨e2, hge⟩ : ∃ e2, (foldH R X H0).get (refs its ref0 k) = .row cs true (2 * e2) ∧ e2 = e := by
              cases hq : (foldH R X H0).get (refs its ref0 k) with
              | row cs' rw' e' =>
                rw [hq] at hrow
                cases rw' with
                | false => simp at hrow
                | true =>
                  simp only [Bool.and_eq_true] at hrow
                  exact ⟨e, by rw [abeqL_eq hrow.1, Nat.eq_of_beq_eq_true hrow.2], rfl⟩
              | _ => rw [hq] at hrow; cases hrow
            obtain ⟨hget, rfl⟩ := hge
            have hgk : ghosts R X (refs its ref0 k) := ⟨k, r, hr, by rw [hok.cls]; exact h3, hw, hXk, hok.rf.symm⟩
            have haway := hrel.away _ (Or.inr hgk)
            have hless := hrel.less (fun x => S.ghost x ∨ ghosts R Y x) fun x hx => hx.imp id (hghost x)
            have hnot : ¬ (S.ghost (refs its ref0 k) ∨ ghosts R Y (refs its ref0 k)) := by
              rintro (h | ⟨i, q, h1, h4, h5, h6, h7⟩)
              · have := g.base _ h
                have := refs_ge its ref0 k
                omega
              · obtain ⟨y, hy, hyok⟩ := g.item h1
                rw [hyok.rf] at h7
                rw [hyok.cls] at h4
                rcases Nat.lt_trichotomy i k with h | h | h
                · have := refs_strict its ref0 i k y hy h4 h; omega
                · subst h; rw [hYk] at h6; cases h6
                · have := refs_strict its ref0 k i it hit h3 h; omega
            have hborn := hless.born hlt' hget haway.1 hnot hxs
            have hle := le_add (m := m') (⟨w.heap.size, 0, none⟩, xs.length) haway.1
            refine wp_of_yields (R := fun y w' => y = x ∧ w' = w.alloc (.cells xs.toArray e2)) ?_ ?_
            · unfold Yields; rw [hx1]; exact ⟨rfl, rfl⟩
            · rintro y w' ⟨rfl, rfl⟩
              refine hK _ _ ⟨⟨_, Le.trans hm' hle, ?_, ?_⟩, by rw [put_defers]; exact hds⟩
              · rw [haddF, ← hv]
                exact (hfr.mono hle).put hdst (hx2 _ _ add_eq)
              · rw [haddH he.symm]; exact hborn
      | false =>
        rw [h3] at hstep
        simp only [] at hstep
        cases hx : it.o.op.exec noCall (foldF R (fun i => decide (i < k)) fr) (foldH R (fun i => decide (i < k)) H0) with
        | none => rw [hx] at hstep; cases hstep
        | some q =>
          obtain ⟨v, H1⟩ := q
          rw [hx] at hstep
          simp only [] at hstep
          cases hn : Nat.beq H1.n (foldH R (fun i => decide (i < k)) H0).n with
          | false => rw [hn] at hstep; cases hstep
          | true =>
            rw [hn] at hstep
            simp only [Option.some.injEq, Prod.mk.injEq] at hstep
            obtain ⟨hv, he, hh⟩ := hstep
            have hexec : it.o.op.exec call (foldF R X fr) (foldH R X H0) = some (r.v, foldH R X H0) := by
              rw [exec_congr (call := call) htm]
              have h4 := kind_le it.o.op
              have hk1 : it.o.op.kind = 0 ∨ it.o.op.kind = 1 := by
                rw [hckind] at h2 h3
                have h5 : it.o.op.kind ≠ 2 := fun e => by rw [e] at h2; cases h2
                have h6 : it.o.op.kind ≠ 3 := fun e => by rw [e] at h3; cases h3
                omega
              rcases hk1 with hk0 | hk1
              · rw [← hv]; exact exec_pure hk0 hx call _
              · have hat := hchk (by rw [hok.cls, hckind, hk1]; rfl)
                unfold DRec.okAt at hat
                rw [hok.cls, h3, hok.o, hok.fr] at hat
                simp only [] at hat
                cases hx2 : it.o.op.exec noCall (foldF R (fun i => decide (i < k)) fr) (foldH R X H0) with
                | none => rw [hx2] at hat; cases hat
                | some q =>
                  obtain ⟨v2, H2⟩ := q
                  rw [hx2] at hat
                  simp only [Bool.and_eq_true] at hat
                  have hv2 := abeq_eq hat.1
                  have hn2 := Nat.eq_of_beq_eq_true hat.2
                  subst hv2
                  exact (exec_reads (by omega) hx2 hn2).2 call
            refine wp_of_yields (sim_op hop hfr hrel hG (hcall _) hexec) fun x w' ⟨m2, hm2, hxv, hrel2⟩ => hK _ _ ⟨⟨m2, Le.trans hm' hm2, ?_, ?_⟩, by rw [put_defers]; exact hds⟩
            · rw [haddF]; exact (hfr.mono hm2).put hdst hxv
            · rw [haddH he.symm]; exact hrel2.less _ fun x hx => hx.imp id (hghost x)
end
end Go.Am
