/- Regions that draw their order. -/
import Derived.Test.YtofdnhdoblpniaaDoorAmRun
import Derived.Test.YtofdnhdoblpniaaDoorAmMade
import Derived.Orders
set_option linter.unusedSimpArgs false
set_option linter.unusedVariables false
namespace Go.Am
open Go Go.RowKit

mutual
theorem abeq_eq : ∀ {a b : AVal}, abeq a b = true → a = b
  | .bool a, b, h => by cases b <;> simp_all [abeq]
  | .int k n, b, h => by cases b <;> simp_all [abeq]
  | .str s, b, h => by cases b <;> simp_all [abeq]
  | .nptr, b, h => by cases b <;> simp_all [abeq]
  | .ptr r o, b, h => by
    cases b <;> simp only [abeq, Bool.and_eq_true] at h <;> try (cases h; done)
    rw [Nat.eq_of_beq_eq_true h.1, Nat.eq_of_beq_eq_true h.2]
  | .nslice, b, h => by cases b <;> simp_all [abeq]
  | .slice r o l c z, b, h => by
    cases b <;> simp only [abeq, Bool.and_eq_true, decide_eq_true_eq] at h <;> try (cases h; done)
    obtain ⟨⟨⟨⟨h1, h2⟩, h3⟩, h4⟩, h5⟩ := h
    rw [Nat.eq_of_beq_eq_true h1, Nat.eq_of_beq_eq_true h2, Nat.eq_of_beq_eq_true h3, h4, Nat.eq_of_beq_eq_true h5]
  | .nfunc, b, h => by cases b <;> simp_all [abeq]
  | .func f x y, b, h => by
    cases b <;> simp only [abeq, Bool.and_eq_true, decide_eq_true_eq] at h <;> try (cases h; done)
    rw [h.1.1, abeqL_eq h.1.2, abeqL_eq h.2]
  | .niface, b, h => by cases b <;> simp_all [abeq]
  | .iface t v, b, h => by
    cases b <;> simp only [abeq, Bool.and_eq_true] at h <;> try (cases h; done)
    rw [Nat.eq_of_beq_eq_true h.1, abeq_eq h.2]
  | .agg x, b, h => by
    cases b <;> simp only [abeq] at h <;> try (cases h; done)
    rw [abeqL_eq h]
  | .tuple x, b, h => by
    cases b <;> simp only [abeq] at h <;> try (cases h; done)
    rw [abeqL_eq h]
theorem abeqL_eq : ∀ {a b : List AVal}, abeqL a b = true → a = b
  | [], b, h => by cases b <;> simp_all [abeqL]
  | x :: xs, b, h => by
    cases b <;> simp only [abeqL, Bool.and_eq_true] at h <;> try (cases h; done)
    rw [abeq_eq h.1, abeqL_eq h.2]
end

/- an operation hangs on the temporaries that it looks at alone -/
theorem ev_congr {fr fr' : AFrame} {x : ROpd} (h : ∀ t ∈ x.tmps, fr t = fr' t) : x.ev fr = x.ev fr' := by
  cases x with
  | tmp t => exact h t (by simp [ROpd.tmps])
  | val v => rfl
theorem evs_congr {fr fr' : AFrame} {l : List ROpd} (h : ∀ t ∈ l.flatMap ROpd.tmps, fr t = fr' t) : l.map (·.ev fr) = l.map (·.ev fr') :=
  List.map_congr_left fun x hx => ev_congr fun t ht => h t (List.mem_flatMap.2 ⟨x, hx, ht⟩)
theorem opt_congr {fr fr' : AFrame} {x : Option ROpd} (h : ∀ t ∈ optTmps x, fr t = fr' t) : x.map (·.ev fr) = x.map (·.ev fr') := by
  cases x with
  | none => rfl
  | some x => simp only [Option.map_some]; rw [ev_congr h]
theorem fill_congr {fr fr' : AFrame} : ∀ {ps : List (Nat × Nat × ROpd)} {cells : List AVal}, (∀ t ∈ ps.flatMap fun p => p.2.2.tmps, fr t = fr' t) → aFill fr cells ps = aFill fr' cells ps
  | [], _, _ => rfl
  | (off, size, x) :: rest, cells, h => by
    simp only [aFill]
    have hx : x.ev fr = x.ev fr' := ev_congr fun t ht => h t (by simp [ht])
    rw [hx]
    split
    · rfl
    · exact fill_congr fun t ht => h t (by rw [List.flatMap_cons]; exact List.mem_append.2 (Or.inr ht))

theorem exec_congr {call : ACall} {fr fr' : AFrame} {op : ROp} (h : ∀ t ∈ op.tmps, fr t = fr' t) : op.exec call fr = op.exec call fr' := by
  cases op with
  | sliceStr x lo hi =>
    have hx : x.ev fr = x.ev fr' := ev_congr fun t ht => h t (by cases lo <;> cases hi <;> simp [ROp.tmps, ht])
    have h1 : lo.map (·.ev fr) = lo.map (·.ev fr') := opt_congr fun t ht => h t (by cases lo <;> cases hi <;> simp_all [ROp.tmps, optTmps])
    have h2 : hi.map (·.ev fr) = hi.map (·.ev fr') := opt_congr fun t ht => h t (by cases lo <;> cases hi <;> simp_all [ROp.tmps, optTmps])
    simp only [ROp.exec, hx, h1, h2]
  | build z ps => simp only [ROp.exec, fill_congr (fr := fr) (fr' := fr') h]
  | buildSlice e s l z ps => simp only [ROp.exec, fill_congr (fr := fr) (fr' := fr') h]
  | mkFunc fn a b =>
    simp only [ROp.tmps, List.mem_append] at h
    simp only [ROp.exec, evs_congr (l := a) (fun t ht => h t (Or.inl ht)), evs_congr (l := b) (fun t ht => h t (Or.inr ht))]
  | call f l =>
    simp only [ROp.tmps, List.mem_append] at h
    simp only [ROp.exec, ev_congr (x := f) (fun t ht => h t (Or.inl ht)), evs_congr (l := l) (fun t ht => h t (Or.inr ht))]
  | minmax mx l =>
    cases l with
    | nil => rfl
    | cons x l =>
      have hh : ∀ t ∈ x.tmps ++ l.flatMap ROpd.tmps, fr t = fr' t := fun t ht => h t (by simpa [ROp.tmps] using ht)
      simp only [List.mem_append] at hh
      simp only [ROp.exec, ev_congr (x := x) (fun t ht => hh t (Or.inl ht)), evs_congr (l := l) (fun t ht => hh t (Or.inr ht))]
  | sliceS s x lo hi mx =>
    simp only [ROp.tmps, List.mem_append] at h
    simp only [ROp.exec, ev_congr (x := x) (fun t ht => h t (by simp [ht])), opt_congr (x := lo) (fun t ht => h t (by simp [ht])), opt_congr (x := hi) (fun t ht => h t (by simp [ht])), opt_congr (x := mx) (fun t ht => h t (by simp [ht]))]
  | sliceArr n s x lo hi mx =>
    simp only [ROp.tmps, List.mem_append] at h
    simp only [ROp.exec, ev_congr (x := x) (fun t ht => h t (by simp [ht])), opt_congr (x := lo) (fun t ht => h t (by simp [ht])), opt_congr (x := hi) (fun t ht => h t (by simp [ht])), opt_congr (x := mx) (fun t ht => h t (by simp [ht]))]
  | pick c a b =>
    simp only [ROp.tmps, List.mem_append] at h
    simp only [ROp.exec, ev_congr (x := c) (fun t ht => h t (by simp [ht])), ev_congr (x := a) (fun t ht => h t (by simp [ht])), ev_congr (x := b) (fun t ht => h t (by simp [ht]))]
  | store n a b => simp only [ROp.tmps, List.mem_append] at h; simp only [ROp.exec, ev_congr (x := a) (fun t ht => h t (Or.inl ht)), ev_congr (x := b) (fun t ht => h t (Or.inr ht))]
  | bin o a b => simp only [ROp.tmps, List.mem_append] at h; simp only [ROp.exec, ev_congr (x := a) (fun t ht => h t (Or.inl ht)), ev_congr (x := b) (fun t ht => h t (Or.inr ht))]
  | eq n d a b => simp only [ROp.tmps, List.mem_append] at h; simp only [ROp.exec, ev_congr (x := a) (fun t ht => h t (Or.inl ht)), ev_congr (x := b) (fun t ht => h t (Or.inr ht))]
  | makeSlice e z y a b => simp only [ROp.tmps, List.mem_append] at h; simp only [ROp.exec, ev_congr (x := a) (fun t ht => h t (Or.inl ht)), ev_congr (x := b) (fun t ht => h t (Or.inr ht))]
  | idxS s a b => simp only [ROp.tmps, List.mem_append] at h; simp only [ROp.exec, ev_congr (x := a) (fun t ht => h t (Or.inl ht)), ev_congr (x := b) (fun t ht => h t (Or.inr ht))]
  | idxA n s a b => simp only [ROp.tmps, List.mem_append] at h; simp only [ROp.exec, ev_congr (x := a) (fun t ht => h t (Or.inl ht)), ev_congr (x := b) (fun t ht => h t (Or.inr ht))]
  | indexA n s g a b => simp only [ROp.tmps, List.mem_append] at h; simp only [ROp.exec, ev_congr (x := a) (fun t ht => h t (Or.inl ht)), ev_congr (x := b) (fun t ht => h t (Or.inr ht))]
  | indexStr a b => simp only [ROp.tmps, List.mem_append] at h; simp only [ROp.exec, ev_congr (x := a) (fun t ht => h t (Or.inl ht)), ev_congr (x := b) (fun t ht => h t (Or.inr ht))]
  | append e s y a b => simp only [ROp.tmps, List.mem_append] at h; simp only [ROp.exec, ev_congr (x := a) (fun t ht => h t (Or.inl ht)), ev_congr (x := b) (fun t ht => h t (Or.inr ht))]
  | copy s a b => simp only [ROp.tmps, List.mem_append] at h; simp only [ROp.exec, ev_congr (x := a) (fun t ht => h t (Or.inl ht)), ev_congr (x := b) (fun t ht => h t (Or.inr ht))]
  | unsafeStr e a b => simp only [ROp.tmps, List.mem_append] at h; simp only [ROp.exec, ev_congr (x := a) (fun t ht => h t (Or.inl ht)), ev_congr (x := b) (fun t ht => h t (Or.inr ht))]
  | new e cs => rfl
  | lenA n => rfl
  | rangeStr x => rfl
  | nextStr x => rfl
  | _ => simp only [ROp.exec, ev_congr (fr := fr) (fr' := fr') (fun t ht => h t (by simpa [ROp.tmps] using ht))]

theorem made_congr {fr fr' : AFrame} {op : ROp} (h : ∀ t ∈ op.tmps, fr t = fr' t) : op.made fr = op.made fr' := by
  cases op with
  | box e x => simp only [ROp.made, ev_congr (x := x) (fr := fr) (fr' := fr') h]
  | buildSlice e s l z ps => simp only [ROp.made, fill_congr (fr := fr) (fr' := fr') h]
  | makeSlice e z y a b => simp only [ROp.tmps, List.mem_append] at h; simp only [ROp.made, ev_congr (x := a) (fun t ht => h t (Or.inl ht)), ev_congr (x := b) (fun t ht => h t (Or.inr ht))]
  | _ => rfl

/- operations that only look -/
theorem push_n_ne {H : AHeap} {o : AObj} : (H.push o).n ≠ H.n := by simp [AHeap.push]
theorem aLoad_same {H H' : AHeap} {g : Option Nat} {a v : AVal} (hx : aLoad g a H = some (v, H')) : H' = H := by
  cases a with
  | ptr r off =>
    obtain ⟨⟨cs, rw⟩, H1, h1, h2⟩ := bind_some hx
    obtain ⟨rfl, _⟩ := aRow_some h1
    cases g with
    | none =>
      simp only [] at h2
      cases hq : cs[off]? with
      | none => rw [hq] at h2; exact (fail_some h2).elim
      | some u => rw [hq] at h2; exact (pure_some h2).2
    | some n =>
      simp only [] at h2
      by_cases hq : off + n ≤ cs.length
      · rw [if_pos hq] at h2; exact (pure_some h2).2
      · rw [if_neg hq] at h2; exact (fail_some h2).elim
  | _ => exact (fail_some (H := H) hx).elim
theorem aUptr_same {H H' : AHeap} {t s : Nat} {a v : AVal} (hx : aUptr t s a H = some (v, H')) : H' = H := by
  cases a with
  | nptr => exact (pure_some hx).2
  | ptr r off => exact (aUptr_some hx).1
  | _ => exact (fail_some (H := H) hx).elim
theorem aSliceData_same {H H' : AHeap} {s : Nat} {a v : AVal} (hx : aSliceData s a H = some (v, H')) : H' = H := by
  cases a with
  | nslice => exact (pure_some hx).2
  | slice r off len cap z =>
    cases cap with
    | some c =>
      simp only [aSliceData] at hx
      by_cases hc : c = 0
      · rw [if_pos hc] at hx; exact (fail_some hx).elim
      · rw [if_neg hc] at hx; exact (pure_some hx).2
    | none =>
      simp only [aSliceData] at hx
      obtain ⟨⟨cs, rw⟩, H1, h1, h2⟩ := bind_some hx
      obtain ⟨rfl, _⟩ := aRow_some h1
      simp only [] at h2
      by_cases hc : z = s ∧ 0 < s ∧ off + s ≤ cs.length
      · rw [if_pos hc] at h2; exact (pure_some h2).2
      · rw [if_neg hc] at h2; exact (fail_some h2).elim
  | _ => exact (fail_some (H := H) hx).elim
theorem aBytesToStr_same {H H' : AHeap} {a v : AVal} (hx : aBytesToStr a H = some (v, H')) : H' = H := by
  cases a with
  | nslice => exact (pure_some hx).2
  | slice r off len cap s =>
    simp only [aBytesToStr] at hx
    by_cases hs : s ≠ 1
    · rw [if_pos hs] at hx; exact (fail_some hx).elim
    · rw [if_neg hs] at hx
      obtain ⟨⟨cs, rw⟩, H1, h1, h2⟩ := bind_some hx
      obtain ⟨rfl, _⟩ := aRow_some h1
      simp only [] at h2
      by_cases hq : off + len ≤ cs.length
      · rw [if_pos hq] at h2
        cases hb : bytesOf ((cs.drop off).take len) with
        | none => rw [hb] at h2; exact (fail_some h2).elim
        | some l => rw [hb] at h2; exact (pure_some h2).2
      · rw [if_neg hq] at h2; exact (fail_some h2).elim
  | _ => exact (fail_some (H := H) hx).elim
theorem aSliceS_same {H H' : AHeap} {s : Nat} {x v : AVal} {lo hi mx : Option AVal} (hx : aSliceS s x lo hi mx H = some (v, H')) (hn : H'.n = H.n) : H' = H := by
  cases x with
  | nslice =>
    simp only [aSliceS] at hx
    cases hb : aBounds 0 (some 0) lo hi mx with
    | none => rw [hb] at hx; exact (fail_some hx).elim
    | some l => rw [hb] at hx; exact (pure_some hx).2
  | slice r off len cap z =>
    simp only [aSliceS] at hx
    by_cases hs : z ≠ s
    · rw [if_pos hs] at hx; exact (fail_some hx).elim
    · rw [if_neg hs] at hx
      cases hb : aBounds len cap lo hi mx with
      | none => rw [hb] at hx; exact (fail_some hx).elim
      | some q =>
        obtain ⟨l, h, mm⟩ := q
        rw [hb] at hx
        simp only [] at hx
        cases cap with
        | some c =>
          cases mm with
          | some m => exact (pure_some hx).2
          | none => exact (fail_some (H := H) hx).elim
        | none =>
          simp only [] at hx
          by_cases hz : s = 0
          · rw [if_pos hz] at hx; exact (fail_some hx).elim
          · rw [if_neg hz] at hx
            obtain ⟨⟨cs, rw⟩, H1, h1, h2⟩ := bind_some hx
            obtain ⟨rfl, _⟩ := aRow_some h1
            simp only [] at h2
            by_cases hl : cs.length < off + len * s
            · rw [if_pos hl] at h2; exact (fail_some h2).elim
            · rw [if_neg hl] at h2
              cases mm with
              | some m => exact (pure_some h2).2
              | none =>
                simp only [] at h2
                by_cases hlh : l < h ∨ l = 0
                · rw [if_pos hlh] at h2; exact (pure_some h2).2
                · rw [if_neg hlh] at h2
                  obtain ⟨r', H2, h3, h4⟩ := bind_some h2
                  obtain ⟨rfl, rfl⟩ := aNew_some h3
                  obtain ⟨_, rfl⟩ := pure_some h4
                  exact absurd hn push_n_ne
  | _ => exact (fail_some (H := H) hx).elim
theorem exec_reads {call : ACall} {fr : AFrame} {op : ROp} {H H' : AHeap} {v : AVal} (hk : op.kind ≤ 1) (hx : op.exec call fr H = some (v, H')) (hn : H'.n = H.n) : H' = H ∧ ∀ call', op.exec call' fr H = some (v, H) := by
  have key : H' = H := by
    cases op <;> simp only [ROp.kind] at hk <;> try omega
    all_goals simp only [ROp.exec] at hx
    case pick c a b => cases hc : c.ev fr <;> rw [hc] at hx <;> first | exact (pure_some hx).2 | exact (fail_some hx).elim
    case build z ps => cases hc : aFill fr z ps <;> rw [hc] at hx <;> first | exact (pure_some hx).2 | exact (fail_some hx).elim
    case eq n d a b => cases hc : aEq d (a.ev fr) (b.ev fr) <;> rw [hc] at hx <;> first | exact (pure_some hx).2 | exact (fail_some hx).elim
    case convInt k x => cases hc : x.ev fr <;> rw [hc] at hx <;> first | exact (pure_some hx).2 | exact (fail_some hx).elim
    case minmax mx xs => cases xs <;> first | exact (ofOption_some hx).2 | exact (fail_some hx).elim
    case load g a => exact aLoad_same hx
    case uptr t sz x => exact aUptr_same hx
    case sliceData sz x => exact aSliceData_same hx
    case bytesToStr x => exact aBytesToStr_same hx
    case sliceS s x lo hi mx => exact aSliceS_same hx hn
    all_goals first | exact (pure_some hx).2 | exact (ofOption_some hx).2
  refine ⟨key, fun call' => ?_⟩
  subst key
  cases op <;> simp only [ROp.kind] at hk <;> first | omega | exact hx

theorem exec_pure {call : ACall} {fr : AFrame} {op : ROp} {H H' : AHeap} {v : AVal} (hk : op.kind = 0) (hx : op.exec call fr H = some (v, H')) : ∀ call' H2, op.exec call' fr H2 = some (v, H2) := by
  intro call' H2
  cases op <;> simp only [ROp.kind] at hk <;> try omega
  all_goals simp only [ROp.exec] at hx ⊢
  case pick c a b => cases hc : c.ev fr <;> rw [hc] at hx <;> first | (obtain ⟨rfl, rfl⟩ := pure_some hx; rfl) | exact (fail_some hx).elim
  case build z ps => cases hc : aFill fr z ps <;> rw [hc] at hx <;> first | (obtain ⟨rfl, rfl⟩ := pure_some hx; rfl) | exact (fail_some hx).elim
  case eq n d a b => cases hc : aEq d (a.ev fr) (b.ev fr) <;> rw [hc] at hx <;> first | (obtain ⟨rfl, rfl⟩ := pure_some hx; rfl) | exact (fail_some hx).elim
  case convInt k x => cases hc : x.ev fr <;> rw [hc] at hx <;> first | (obtain ⟨rfl, rfl⟩ := pure_some hx; rfl) | exact (fail_some hx).elim
  case minmax mx xs => cases xs <;> first | (obtain ⟨h, rfl⟩ := ofOption_some hx; simp only [h]; rfl) | exact (fail_some hx).elim
  all_goals first | (obtain ⟨rfl, rfl⟩ := pure_some hx; rfl) | (obtain ⟨h, rfl⟩ := ofOption_some hx; rw [h]; rfl)

theorem kind_le (op : ROp) : op.kind ≤ 3 := by cases op <;> simp [ROp.kind]

/- what has been done so far -/
def foldF : List DRec → (Nat → Bool) → AFrame → AFrame
  | [], _, fr => fr
  | r :: rs, X, fr => foldF rs (fun i => X (i + 1)) (match X 0 with | true => put fr r.o.dst r.v | false => fr)
def foldH : List DRec → (Nat → Bool) → AHeap → AHeap
  | [], _, H => H
  | r :: rs, X, H => foldH rs (fun i => X (i + 1)) (match X 0 && r.eff with | true => r.hp | false => H)

theorem put_ne {fr : AFrame} {d : Option Nat} {v : AVal} {t : Nat} (h : d ≠ some t) : put fr d v t = fr t := by
  cases d with
  | none => rfl
  | some d =>
    have : t ≠ d := fun e => h (by rw [e])
    simp [put, upd, nbeq_ne this]
theorem put_eq {fr : AFrame} {v : AVal} {t : Nat} : put fr (some t) v t = v := by simp [put, upd]

theorem foldF_agree {t : Nat} : ∀ {R : List DRec} {X Y : Nat → Bool} {fr fr' : AFrame}, fr t = fr' t → (∀ i q, R[i]? = some q → q.o.dst = some t → X i = Y i) → foldF R X fr t = foldF R Y fr' t
  | [], X, Y, fr, fr', h, _ => h
  | r :: rs, X, Y, fr, fr', h, hd => by
    simp only [foldF]
    refine foldF_agree ?_ fun i q hq hqd => hd (i + 1) q (by simpa using hq) hqd
    by_cases hrd : r.o.dst = some t
    · have := hd 0 r rfl hrd
      rw [this]
      cases Y 0
      · exact h
      · simp only []; rw [hrd, put_eq, put_eq]
    · cases X 0 <;> cases Y 0 <;> simp only [] <;> (try rw [put_ne hrd]) <;> (try rw [put_ne hrd]) <;> exact h

theorem foldF_put {d : Option Nat} {v : AVal} {R : List DRec} {X : Nat → Bool} {fr : AFrame} (h : ∀ i q t, R[i]? = some q → X i = true → d = some t → q.o.dst ≠ some t) : foldF R X (put fr d v) = put (foldF R X fr) d v := by
  induction R generalizing X fr with
  | nil => rfl
  | cons r rs ih =>
    simp only [foldF]
    rw [← ih (fun i q t hq hX hd => h (i + 1) q t (by simpa using hq) hX hd)]
    cases hx0 : X 0 with
    | false => rfl
    | true =>
      simp only []
      congr 1
      cases d with
      | none => rfl
      | some t =>
        have hne := h 0 r t rfl hx0 rfl
        cases hrd : r.o.dst with
        | none => rfl
        | some e =>
          have hte : e ≠ t := fun e' => hne (by rw [hrd, e'])
          funext i
          simp only [put, upd]
          by_cases h1 : i = e
          · subst h1; simp [nbeq_ne hte]
          · by_cases h2 : i = t
            · subst h2; simp [nbeq_ne h1]
            · simp [nbeq_ne h1, nbeq_ne h2]

theorem foldF_add {R : List DRec} {X Y : Nat → Bool} {fr : AFrame} {k : Nat} {r : DRec} (hk : R[k]? = some r) (hX : X k = false) (hY : Y k = true) (hYX : ∀ i, i ≠ k → Y i = X i)
    (hlast : ∀ i q t, k < i → R[i]? = some q → X i = true → r.o.dst = some t → q.o.dst ≠ some t) : foldF R Y fr = put (foldF R X fr) r.o.dst r.v := by
  induction R generalizing X Y fr k with
  | nil => simp at hk
  | cons a rs ih =>
    cases k with
    | zero =>
      simp at hk; subst hk
      simp only [foldF, hX, hY]
      have : (fun i => Y (i + 1)) = fun i => X (i + 1) := funext fun i => hYX (i + 1) (by omega)
      rw [this]
      exact foldF_put fun i q t hq hx hd => hlast (i + 1) q t (by omega) (by simpa using hq) hx hd
    | succ k =>
      simp only [foldF]
      rw [hYX 0 (by omega)]
      exact ih (by simpa using hk) hX hY (fun i hi => hYX (i + 1) (by omega)) fun i q t hlt hq hx hd => hlast (i + 1) q t (by omega) (by simpa using hq) hx hd

theorem foldH_agree {R : List DRec} {X Y : Nat → Bool} {H : AHeap} (h : ∀ i q, R[i]? = some q → q.eff = true → X i = Y i) : foldH R X H = foldH R Y H := by
  induction R generalizing X Y H with
  | nil => rfl
  | cons a rs ih =>
    simp only [foldH]
    have h0 : (X 0 && a.eff) = (Y 0 && a.eff) := by
      cases ha : a.eff with
      | false => simp
      | true => rw [h 0 a rfl ha]
    rw [h0]
    exact ih fun i q hq he => h (i + 1) q (by simpa using hq) he
theorem foldH_none {R : List DRec} {X : Nat → Bool} {H : AHeap} (h : ∀ i q, R[i]? = some q → q.eff = true → X i = false) : foldH R X H = H := by
  induction R generalizing X H with
  | nil => rfl
  | cons a rs ih =>
    simp only [foldH]
    have h0 : (X 0 && a.eff) = false := by
      cases ha : a.eff with
      | false => simp
      | true => rw [h 0 a rfl ha]; rfl
    rw [h0]
    exact ih fun i q hq he => h (i + 1) q (by simpa using hq) he
theorem foldH_add {R : List DRec} {X : Nat → Bool} {H : AHeap} {k : Nat} {r : DRec} (hk : R[k]? = some r) (hX : X k = true) (he : r.eff = true)
    (hlast : ∀ i q, k < i → R[i]? = some q → q.eff = true → X i = false) : foldH R X H = r.hp := by
  induction R generalizing X H k with
  | nil => simp at hk
  | cons a rs ih =>
    cases k with
    | zero =>
      simp at hk; subst hk
      simp only [foldH, hX, he]
      exact foldH_none fun i q hq he => hlast (i + 1) q (by omega) (by simpa using hq) he
    | succ k =>
      simp only [foldH]
      exact ih (by simpa using hk) hX fun i q hlt hq he => hlast (i + 1) q (by omega) (by simpa using hq) he

/- the run in the text's order -/
def refs : List DItem → Nat → Nat → Nat
  | _, ref, 0 => ref
  | [], ref, _ + 1 => ref
  | it :: rest, ref, k + 1 => refs rest (nextRef it.cls ref) k
def cnt3 : List DItem → Nat
  | [] => 0
  | it :: rest => (match Nat.beq it.cls 3 with | true => 1 | false => 0) + cnt3 rest
theorem le_nextRef (c ref : Nat) : ref ≤ nextRef c ref := by unfold nextRef; cases Nat.beq c 3 <;> simp
theorem nextRef_eq {c ref : Nat} (h : Nat.beq c 3 = true) : nextRef c ref = ref + 1 := by unfold nextRef; rw [h]
theorem nextRef_le (c ref : Nat) : nextRef c ref ≤ ref + (match Nat.beq c 3 with | true => 1 | false => 0) := by unfold nextRef; cases Nat.beq c 3 <;> simp
theorem refs_ge : ∀ (its : List DItem) (ref k : Nat), ref ≤ refs its ref k
  | its, ref, 0 => by cases its <;> simp [refs]
  | [], ref, k + 1 => by simp [refs]
  | it :: rest, ref, k + 1 => by
    simp only [refs]
    exact Nat.le_trans (le_nextRef _ _) (refs_ge rest _ k)
theorem refs_lt : ∀ (its : List DItem) (ref k : Nat) (it : DItem), its[k]? = some it → Nat.beq it.cls 3 = true → refs its ref k < ref + cnt3 its
  | [], ref, k, it, h, _ => by simp at h
  | a :: rest, ref, 0, it, h, hc => by
    simp only [List.getElem?_cons_zero, Option.some.injEq] at h; subst h
    simp only [refs, cnt3, hc]; omega
  | a :: rest, ref, k + 1, it, h, hc => by
    have h' : rest[k]? = some it := by simpa using h
    simp only [refs, cnt3]
    have h1 := refs_lt rest (nextRef a.cls ref) k it h' hc
    have h2 := nextRef_le a.cls ref
    omega
theorem refs_strict : ∀ (its : List DItem) (ref k k' : Nat) (it : DItem), its[k]? = some it → Nat.beq it.cls 3 = true → k < k' → refs its ref k < refs its ref k'
  | [], ref, k, k', it, h, _, _ => by simp at h
  | _ :: _, ref, k, 0, it, h, _, hlt => absurd hlt (Nat.not_lt_zero _)
  | a :: rest, ref, 0, k' + 1, it, h, hc, _ => by
    simp only [List.getElem?_cons_zero, Option.some.injEq] at h; subst h
    simp only [refs, nextRef_eq hc]
    exact refs_ge rest (ref + 1) k'
  | a :: rest, ref, k + 1, k' + 1, it, h, hc, hlt => by
    simp only [refs]
    exact refs_strict rest _ k k' it (by simpa using h) hc (by omega)

theorem oracle_length : ∀ (its : List DItem) (ref : Nat) (fr : AFrame) (H : AHeap), (oracle its ref fr H).length = cnt3 its
  | [], ref, fr, H => rfl
  | it :: rest, ref, fr, H => by
    simp only [oracle, cnt3]
    cases Nat.beq it.cls 3 <;> simp only []
    · cases it.pre <;> simp only []
      · rw [oracle_length]; omega
      · cases it.o.wanted fr <;> simp only []
        · rw [oracle_length]; omega
        · cases it.o.op.exec noCall fr H <;> simp only [] <;> rw [oracle_length] <;> omega
    · cases it.o.wanted fr <;> simp only []
      · simp only [List.length_cons]; rw [oracle_length]; omega
      · cases it.o.op.made fr <;> simp only [List.length_cons] <;> rw [oracle_length] <;> omega

theorem pushAll_n : ∀ (os : List AObj) (H : AHeap), (pushAll H os).n = H.n + os.length
  | [], H => rfl
  | o :: os, H => by
    simp only [pushAll, List.length_cons]
    rw [pushAll_n os (H.push o)]
    simp only [AHeap.push]; omega

structure RecOk (call : ACall) (it : DItem) (ref : Nat) (F : AFrame) (H : AHeap) (r : DRec) : Prop where
  o : r.o = it.o
  b : r.b = it.b
  cls : r.cls = it.cls
  fr : r.fr = F
  rf : r.ref = ref
  want : r.want = it.o.wanted F
  no : r.want = false → r.v = aundef ∧ r.eff = false
  yes : r.want = true → dstep call it ref F H = some (r.v, r.eff, r.hp)

theorem dstep_same {call : ACall} {it : DItem} {ref : Nat} {fr : AFrame} {H H1 : AHeap} {v : AVal} (h : dstep call it ref fr H = some (v, false, H1)) : H1 = H := by
  unfold dstep at h
  cases h2 : Nat.beq it.cls 2 with
  | true =>
    rw [h2] at h
    simp only [] at h
    cases hx : it.o.op.exec call fr H with
    | none => rw [hx] at h; cases h
    | some q => obtain ⟨a, b⟩ := q; rw [hx] at h; simp at h
  | false =>
    rw [h2] at h
    simp only [] at h
    cases h3 : Nat.beq it.cls 3 with
    | true =>
      rw [h3] at h
      simp only [] at h
      cases hx : it.o.op.made fr with
      | none => rw [hx] at h; cases h
      | some q =>
        obtain ⟨cs, e, k⟩ := q
        rw [hx] at h
        simp only [] at h
        cases hg : ghostIs H ref cs e with
        | true => rw [hg] at h; cases h; rfl
        | false => rw [hg] at h; cases h
    | false =>
      rw [h3] at h
      simp only [] at h
      cases hx : it.o.op.exec noCall fr H with
      | none => rw [hx] at h; cases h
      | some q =>
        obtain ⟨a, b⟩ := q
        rw [hx] at h
        simp only [] at h
        cases hg : Nat.beq b.n H.n with
        | true => rw [hg] at h; cases h; rfl
        | false => rw [hg] at h; cases h

theorem dtext_get {call : ACall} : ∀ (its : List DItem) (ref : Nat) (fr fr' : AFrame) (H H' : AHeap) (R : List DRec), dtext call its ref fr H = some (R, fr', H') →
    R.length = its.length ∧ fr' = foldF R (fun _ => true) fr ∧ H' = foldH R (fun _ => true) H ∧
    ∀ k it, its[k]? = some it → ∃ r, R[k]? = some r ∧ RecOk call it (refs its ref k) (foldF R (fun i => decide (i < k)) fr) (foldH R (fun i => decide (i < k)) H) r
  | [], ref, fr, fr', H, H', R, h => by
    simp only [dtext] at h; cases h
    exact ⟨rfl, rfl, rfl, fun k it hk => by simp at hk⟩
  | it :: rest, ref, fr, fr', H, H', R, h => by
    simp only [dtext] at h
    have none_at : ∀ (rs : List DRec) (f : AFrame), foldF rs (fun i => decide (i + 1 < 0)) f = f := fun rs => by
      induction rs with
      | nil => intro f; rfl
      | cons r rs ih => intro f; simpa [foldF] using ih f
    have none_f : ∀ (rs : List DRec) (f : AFrame), foldF rs (fun i => decide (i < 0)) f = f := fun rs f => by
      cases rs with
      | nil => rfl
      | cons r rs => simpa [foldF] using none_at rs f
    have none_h : ∀ (rs : List DRec) (h : AHeap), foldH rs (fun i => decide (i < 0)) h = h := fun rs h => foldH_none fun i q _ _ => by simp
    cases hw : it.o.wanted fr with
    | false =>
      rw [hw] at h
      simp only [] at h
      cases hd : dtext call rest (nextRef it.cls ref) (put fr it.o.dst aundef) H with
      | none => rw [hd] at h; cases h
      | some q =>
        obtain ⟨R', f', h'⟩ := q
        rw [hd] at h; cases h
        obtain ⟨h1, h2, h3, h4⟩ := dtext_get rest _ _ _ _ _ _ hd
        refine ⟨by simp [h1], by simpa [foldF] using h2, by simpa [foldH] using h3, fun k it' hk => ?_⟩
        cases k with
        | zero =>
          simp only [List.getElem?_cons_zero, Option.some.injEq] at hk; subst hk
          exact ⟨_, rfl, rfl, rfl, rfl, (none_f _ _).symm, rfl, by rw [none_f]; exact hw.symm, fun _ => ⟨rfl, rfl⟩, fun h => (by cases h)⟩
        | succ k =>
          obtain ⟨r, hr, hok⟩ := h4 k it' (by simpa using hk)
          refine ⟨r, by simpa using hr, ?_⟩
          simpa [foldF, foldH, refs] using hok
    | true =>
      rw [hw] at h
      simp only [] at h
      cases hs : dstep call it ref fr H with
      | none => rw [hs] at h; cases h
      | some q =>
        obtain ⟨v, eff, H1⟩ := q
        rw [hs] at h
        simp only [] at h
        cases hd : dtext call rest (nextRef it.cls ref) (put fr it.o.dst v) H1 with
        | none => rw [hd] at h; cases h
        | some q =>
          obtain ⟨R', f', h'⟩ := q
          rw [hd] at h; cases h
          obtain ⟨h1, h2, h3, h4⟩ := dtext_get rest _ _ _ _ _ _ hd
          refine ⟨by simp [h1], by simpa [foldF] using h2, ?_, fun k it' hk => ?_⟩
          · cases eff with
            | true => simpa [foldH] using h3
            | false => obtain rfl := dstep_same hs; simpa [foldH] using h3
          cases k with
          | zero =>
            simp only [List.getElem?_cons_zero, Option.some.injEq] at hk; subst hk
            exact ⟨_, rfl, rfl, rfl, rfl, (none_f _ _).symm, rfl, by rw [none_f]; exact hw.symm, fun h => (by cases h), fun _ => by rw [none_f, none_h]; exact hs⟩
          | succ k =>
            obtain ⟨r, hr, hok⟩ := h4 k it' (by simpa using hk)
            refine ⟨r, by simpa using hr, ?_⟩
            cases eff with
            | true => simpa [foldF, foldH, refs] using hok
            | false => obtain rfl := dstep_same hs; simpa [foldF, foldH, refs] using hok
end Go.Am
