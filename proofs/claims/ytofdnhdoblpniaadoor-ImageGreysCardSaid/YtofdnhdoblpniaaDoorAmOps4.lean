/- Slices, places, parts. -/
import Derived.Test.YtofdnhdoblpniaaDoorAmOps3
set_option linter.unusedSimpArgs false
set_option linter.unusedVariables false
namespace Go.Am
open Go Go.RowKit

section
variable {P : Program} {S : Base} {m : RMap} {H H' : AHeap} {w : World}

theorem emb_slice_some {r off len sz : Nat} {cap : Option Nat} {x : Value} (h : emb m (.slice r off len cap sz) = some x) :
    ∃ p, m r = some p ∧ x = .slice (some (p.1.add off)) len (capR cap ((p.2 - off) / sz)) := by
  simp only [emb] at h
  split at h
  · rename_i p hp; cases h; exact ⟨p, hp, rfl⟩
  · cases h
theorem emb_ptr_some {r off : Nat} {x : Value} (h : emb m (.ptr r off) = some x) : ∃ p, m r = some p ∧ x = .pointer (some (p.1.add off)) := by
  simp only [emb] at h
  split at h
  · rename_i p hp; cases h; exact ⟨p, hp, rfl⟩
  · cases h
theorem emb_slice_mk {r off len sz : Nat} {cap : Option Nat} {p : Addr × Nat} (hp : m r = some p) : emb m (.slice r off len cap sz) = some (.slice (some (p.1.add off)) len (capR cap ((p.2 - off) / sz))) := by
  simp [emb, hp]
theorem emb_ptr_mk {r off : Nat} {p : Addr × Nat} (hp : m r = some p) : emb m (.ptr r off) = some (.pointer (some (p.1.add off))) := by simp [emb, hp]

theorem run_sliceOp {t e : TypeId} {s : Nat} (hu : P.underlying t = some (.slice e)) (hs : cSize P e = some s) {ba : Option Addr} {len cap l h M : Nat} {lo hi mx : Option Value} (hb : (Instr.sliceBounds true len cap lo hi mx).run P w = .ok (l, h, M) w) :
    (Instr.sliceAt t (.slice ba len cap) lo hi mx).run P w = .ok (.slice (if M = l then ba else ba.map (·.add (l * s))) (h - l) (M - l)) w := by
  simp [Instr.sliceAt, Instr.slice, run_underlying hu, hb, run_sizeOf hs]

theorem sim_sliceS {t e : TypeId} {s : Nat} (hu : P.underlying t = some (.slice e)) (hs : cSize P e = some s) {av u : AVal} {x : Value} {lo hi mx : Option AVal} {lo' hi' mx' : Option Value}
    (ha : emb m av = some x) (h1 : OptE m lo lo') (h2 : OptE m hi hi') (h3 : OptE m mx mx') (h : HRel S m H w) (hx : aSliceS s av lo hi mx H = some (u, H')) :
    ∃ y, (Instr.sliceAt t x lo' hi' mx').run P w = .ok y w ∧ Out S m u H' y w := by
  cases av <;> simp only [aSliceS] at hx <;> try exact (fail_some hx).elim
  · -- nil
    simp only [emb] at ha; cases ha
    cases hb : aBounds 0 (some 0) lo hi mx with
    | none => rw [hb] at hx; exact (fail_some hx).elim
    | some q =>
      obtain ⟨l, hh, mm⟩ := q
      rw [hb] at hx
      obtain ⟨rfl, rfl⟩ := pure_some hx
      obtain ⟨M, hr, hle, hM, _⟩ := sim_bounds (P := P) (w := w) (isSlice := true) (rc := 0) h1 h2 h3 (fun c e => by cases e; rfl) (fun e => by cases e) hb
      refine ⟨.slice none 0 0, ?_, Out.same h (by simp [emb])⟩
      rw [run_sliceOp hu hs hr]
      -- all bounds are 0
      have hz : M = 0 ∧ hh = 0 := by
        have hbnd : ∀ (y : Nat) v n, aBound y v = some n → n ≤ y := by
          intro y v n hv
          cases v <;> simp only [aBound] at hv <;> try (cases hv; done)
          split at hv <;> cases hv; omega
        unfold aBounds at hb
        cases mx with
        | none =>
          simp only [] at hb
          cases hH : aHigh 0 (capD 0 (some 0)) hi with
          | none => rw [hH] at hb; cases hb
          | some h' =>
            rw [hH] at hb; simp only [] at hb
            cases hL : aLow h' lo with
            | none => rw [hL] at hb; cases hb
            | some l' =>
              rw [hL] at hb; cases hb
              refine ⟨hM 0 rfl, ?_⟩
              cases hi with
              | none => simp [aHigh] at hH; exact hH.symm
              | some v => exact Nat.le_zero.1 (hbnd _ _ _ hH)
        | some mv => cases hi with
          | none => cases hb
          | some hv =>
            simp only [] at hb
            cases hm : aBound (capD 0 (some 0)) mv with
            | none => rw [hm] at hb; cases hb
            | some mm' =>
              rw [hm] at hb; simp only [] at hb
              have := Nat.le_zero.1 (hbnd _ _ _ hm)
              subst this
              cases hH : aBound 0 hv with
              | none => rw [hH] at hb; cases hb
              | some h' =>
                rw [hH] at hb; simp only [] at hb
                have := Nat.le_zero.1 (hbnd _ _ _ hH)
                subst this
                cases hL : aLow 0 lo with
                | none => rw [hL] at hb; cases hb
                | some l' => rw [hL] at hb; cases hb; exact ⟨hM 0 rfl, rfl⟩
      obtain ⟨rfl, rfl⟩ := hz
      have : l = 0 := by omega
      subst this
      simp
  · -- a slice
    rename_i r off len cap sz
    obtain ⟨p, hp, rfl⟩ := emb_slice_some ha
    split at hx
    · exact (fail_some hx).elim
    rename_i hsz
    simp only [ne_eq, Decidable.not_not] at hsz
    subst hsz
    cases hb : aBounds len cap lo hi mx with
    | none => rw [hb] at hx; exact (fail_some hx).elim
    | some q =>
      obtain ⟨l, hh, mm⟩ := q
      rw [hb] at hx
      have emit : ∀ (rc M M' : Nat), M = M' → (Instr.sliceBounds true len rc lo' hi' mx').run P w = .ok (l, hh, M) w →
          ∃ y, (Instr.sliceAt t (.slice (some (p.1.add off)) len rc) lo' hi' mx').run P w = .ok y w ∧ Out S m (if M' = l then .slice r off (hh - l) (some 0) sz else .slice r (off + l * sz) (hh - l) (some (M' - l)) sz) H y w := by
        intro rc M M' e hr
        subst e
        refine ⟨_, run_sliceOp hu hs hr, Out.same h ?_⟩
        split
        · rename_i e; subst e; rw [emb_slice_mk hp]; simp [capR]
        · rename_i e; rw [emb_slice_mk hp]; simp [add_add, capR]
      cases cap with
      | some c =>
        simp only [] at hx
        cases mm with
        | none => exact (fail_some hx).elim
        | some M' =>
          obtain ⟨rfl, rfl⟩ := pure_some hx
          obtain ⟨M, hr, hle, hM, _⟩ := sim_bounds (P := P) (w := w) (isSlice := true) (rc := c) h1 h2 h3 (fun c e => by cases e; rfl) (fun e => by cases e) hb
          exact emit c M M' (hM M' rfl) hr
      | none =>
        simp only [] at hx
        split at hx
        · exact (fail_some hx).elim
        rename_i hs0
        obtain ⟨⟨cs, rw⟩, H1, h4, h5⟩ := bind_some hx
        obtain ⟨rfl, hr, e', hg⟩ := aRow_some h4
        have hok := h.row r cs rw e' p hr hg hp
        split at h5
        · exact (fail_some h5).elim
        rename_i hlen
        have hlc := hok.len
        have hspos : 0 < sz := Nat.pos_of_ne_zero hs0
        have hcap : len ≤ (p.2 - off) / sz := by
          rw [Nat.le_div_iff_mul_le hspos]; simp only at hlen; omega
        obtain ⟨M, hrun, hle, hM1, hM⟩ := sim_bounds (P := P) (w := w) (isSlice := true) (rc := (p.2 - off) / sz) h1 h2 h3 (fun c e => by cases e) (fun _ => hcap) hb
        cases mm with
        | some M' =>
          obtain ⟨rfl, rfl⟩ := pure_some h5
          exact emit _ M M' (hM1 M' rfl) hrun
        | none =>
          obtain ⟨rfl, _, hhl, _⟩ := hM rfl
          have hrun' := run_sliceOp hu hs hrun (ba := some (p.1.add off))
          have hdiv : (p.2 - off) / sz - l = (p.2 - (off + l * sz)) / sz := by
            rw [← Nat.sub_sub, Nat.mul_comm l sz, Nat.sub_mul_div]
          simp only [] at h5
          split at h5
          · rename_i hcond
            obtain ⟨rfl, rfl⟩ := pure_some h5
            refine ⟨_, hrun', Out.same h ?_⟩
            rw [emb_slice_mk hp]
            rcases hcond with hlt | rfl
            · rw [if_neg (by omega)]
              simp [add_add, hdiv, capR]
            · simp [Addr.add_zero', capR]
          · rename_i hcond
            obtain ⟨r', H2, h6, h7⟩ := bind_some h5
            obtain ⟨rfl, rfl⟩ := aNew_some h6
            obtain ⟨rfl, rfl⟩ := pure_some h7
            have hl0 : hh - l = 0 := by omega
            refine ⟨_, hrun', m.add _ ((if (p.2 - off) / sz = l then p.1.add off else (p.1.add off).add (l * sz)), ((p.2 - off) / sz - l) * sz), le_add _ (h.fresh _ (Nat.le_refl _)), ?_, h.emptyRow _⟩
            rw [emb_slice_mk (add_eq), hl0]
            simp only [Addr.add_zero', Nat.sub_zero, Nat.mul_div_cancel _ hspos, capR]
            split <;> simp

theorem sim_sliceStr {t : TypeId} (hu : P.underlying t = some .string) {av u : AVal} {x : Value} {lo hi : Option AVal} {lo' hi' : Option Value}
    (ha : emb m av = some x) (h1 : OptE m lo lo') (h2 : OptE m hi hi') (hx : aSliceStr av lo hi = some u) :
    ∃ y, (Instr.sliceAt t x lo' hi' none).run P w = .ok y w ∧ emb m u = some y := by
  cases av <;> simp only [aSliceStr] at hx <;> try (cases hx; done)
  rename_i s
  simp only [emb] at ha; cases ha
  cases hb : aBounds s.size (some s.size) lo hi none with
  | none => rw [hb] at hx; cases hx
  | some q =>
    obtain ⟨l, hh, mm⟩ := q
    rw [hb] at hx; cases hx
    obtain ⟨M, hr, _⟩ := sim_bounds (P := P) (w := w) (isSlice := false) (rc := s.size) (mx := none) (mx' := none) h1 h2 trivial (fun c e => by cases e; rfl) (fun e => by cases e) hb
    refine ⟨.string (s.extract l hh), ?_, by simp [emb]⟩
    simp [Instr.sliceAt, Instr.slice, run_underlying hu, hr]

theorem sim_sliceArr {t e : TypeId} {n s : Nat} (hu : P.underlying t = some (.array n e)) (hs : cSize P e = some s) {av u : AVal} {x : Value} {lo hi mx : Option AVal} {lo' hi' mx' : Option Value}
    (ha : emb m av = some x) (h1 : OptE m lo lo') (h2 : OptE m hi hi') (h3 : OptE m mx mx') (hx : aSliceArr n s av lo hi mx = some u) :
    ∃ y, (Instr.sliceAt t x lo' hi' mx').run P w = .ok y w ∧ emb m u = some y := by
  cases av <;> simp only [aSliceArr] at hx <;> try (cases hx; done)
  rename_i r off
  obtain ⟨p, hp, rfl⟩ := emb_ptr_some ha
  cases hb : aBounds n (some n) lo hi mx with
  | none => rw [hb] at hx; cases hx
  | some q =>
    obtain ⟨l, hh, mm⟩ := q
    rw [hb] at hx
    cases mm with
    | none => cases hx
    | some M' =>
      obtain ⟨M, hr, _, hM, _⟩ := sim_bounds (P := P) (w := w) (isSlice := false) (rc := n) h1 h2 h3 (fun c e => by cases e; rfl) (fun e => by cases e) hb
      obtain rfl := hM M' rfl
      simp only [] at hx
      refine ⟨.slice (some (if M = l then p.1.add off else (p.1.add off).add (l * s))) (hh - l) (M - l), ?_, ?_⟩
      · simp [Instr.sliceAt, run_underlying hu, Instr.sureAddr, hr, run_sizeOf hs]
      · split at hx
        · rename_i e; subst e; cases hx; rw [emb_slice_mk hp]; simp [capR]
        · rename_i e; cases hx; rw [emb_slice_mk hp]; simp [capR, e, add_add]

theorem sim_idxS {t e : TypeId} {s : Nat} (hu : P.underlying t = some (.slice e)) (hs : cSize P e = some s) {av iv u : AVal} {x i : Value} (ha : emb m av = some x) (hi : emb m iv = some i) (hx : aIdxS s av iv = some u) :
    ∃ y, (Instr.indexAt t x i).run P w = .ok y w ∧ emb m u = some y := by
  cases av <;> simp only [aIdxS] at hx <;> try (cases hx; done)
  cases iv <;> simp only [] at hx <;> try (cases hx; done)
  obtain ⟨p, hp, rfl⟩ := emb_slice_some ha
  simp only [emb] at hi; cases hi
  split at hx
  · rename_i hc; obtain ⟨rfl, h0, h1⟩ := hc
    cases hx
    refine ⟨_, ?_, emb_ptr_mk hp⟩
    simp only [Instr.indexAt, asIntOf, Sem.run_bind, Sem.run_pure, Result.andThen_ok, run_underlying hu]
    rw [if_pos ⟨h0, h1⟩]
    simp [run_sizeOf hs, add_add]
  · cases hx
theorem sim_idxA {t e : TypeId} {n s : Nat} (hu : P.underlying t = some (.array n e)) (hs : cSize P e = some s) {av iv u : AVal} {x i : Value} (ha : emb m av = some x) (hi : emb m iv = some i) (hx : aIdxA n s av iv = some u) :
    ∃ y, (Instr.indexAt t x i).run P w = .ok y w ∧ emb m u = some y := by
  cases av <;> simp only [aIdxA] at hx <;> try (cases hx; done)
  cases iv <;> simp only [] at hx <;> try (cases hx; done)
  obtain ⟨p, hp, rfl⟩ := emb_ptr_some ha
  simp only [emb] at hi; cases hi
  split at hx
  · rename_i hc; obtain ⟨h0, h1⟩ := hc
    cases hx
    refine ⟨_, ?_, emb_ptr_mk hp⟩
    simp only [Instr.indexAt, asIntOf, Sem.run_bind, Sem.run_pure, Result.andThen_ok, run_underlying hu, Instr.sureAddr]
    rw [if_pos ⟨h0, h1⟩]
    simp [run_sizeOf hs, add_add]
  · cases hx
theorem emb_agg_some {cs : List AVal} {x : Value} (h : emb m (.agg cs) = some x) : ∃ l, embL m cs = some l ∧ x = .agg l.toArray := by
  simp only [emb] at h
  split at h
  · rename_i l hl; cases h; exact ⟨l, hl, rfl⟩
  · cases h
/-- A part of an aggregate. -/
theorem sim_part {t : TypeId} {g : Option Nat} (hg : cAgg P t = some g) {cs : List AVal} {l : List Value} (hl : embL m cs = some l) {off : Nat} {u : AVal} (hx : aField g off (.agg cs) = some u) :
    ∃ y, (part t l.toArray off).run P w = .ok y w ∧ emb m u = some y := by
  simp only [aField] at hx
  cases g with
  | some n =>
    simp only [] at hx; cases hx
    refine ⟨.agg ((l.drop off).take n).toArray, ?_, by simp [emb, embL_take (embL_drop hl off) n]⟩
    simp only [part, Sem.run_bind, (cAgg_some hg w).1, Result.andThen_ok, if_true, (cAgg_some hg w).2, Sem.run_pure]
    congr 2
    simp
  | none =>
    simp only [] at hx
    obtain ⟨y, hy, hy2⟩ := embL_get hl hx
    refine ⟨y, ?_, hy⟩
    simp only [part, Sem.run_bind, (cAgg_none hg w).1, Result.andThen_ok]
    simp [hy2]
theorem sim_indexA {t e : TypeId} {n s : Nat} {g : Option Nat} (hu : P.underlying t = some (.array n e)) (hs : cSize P e = some s) (hg : cAgg P e = some g) {av iv u : AVal} {x i : Value} (ha : emb m av = some x) (hi : emb m iv = some i) (hx : aIndexA n s g.isSome av iv = some u) :
    ∃ y, (Instr.index t x i).run P w = .ok y w ∧ emb m u = some y := by
  cases av <;> simp only [aIndexA] at hx <;> try (cases hx; done)
  cases iv <;> simp only [] at hx <;> try (cases hx; done)
  rename_i cs k i
  obtain ⟨l, hl, rfl⟩ := emb_agg_some ha
  simp only [emb] at hi; cases hi
  split at hx
  · rename_i hc
    have hgs : aField g (i.toNat * s) (.agg cs) = some u := by
      simp only [aField]
      cases g with
      | none => simpa using hx
      | some n =>
        have h1 := cAgg_size hg w
        have h2 := run_sizeOf hs w
        rw [h1] at h2
        have : n = s := by injection h2
        subst this
        simpa using hx
    obtain ⟨y, hy, hy2⟩ := sim_part (P := P) (w := w) hg hl hgs
    refine ⟨y, ?_, hy2⟩
    simp only [Instr.index, asIntOf, Sem.run_bind, Sem.run_pure, Result.andThen_ok, run_underlying hu]
    rw [if_pos hc]
    simp [run_sizeOf hs, hy]
  · cases hx
theorem sim_indexStr {t : TypeId} (hu : P.underlying t = some .string) {av iv u : AVal} {x i : Value} (ha : emb m av = some x) (hi : emb m iv = some i) (hx : aIndexStr av iv = some u) :
    ∃ y, (Instr.index t x i).run P w = .ok y w ∧ emb m u = some y := by
  cases av <;> simp only [aIndexStr] at hx <;> try (cases hx; done)
  cases iv <;> simp only [] at hx <;> try (cases hx; done)
  rename_i s k i
  simp only [emb] at ha hi; cases ha; cases hi
  split at hx
  · rename_i h0
    cases hb : s[i.toNat]? with
    | none => rw [hb] at hx; cases hx
    | some b =>
      rw [hb] at hx; cases hx
      refine ⟨_, ?_, emb_int_mk _ _⟩
      simp only [Instr.index, asIntOf, Sem.run_bind, Sem.run_pure, Result.andThen_ok, run_underlying hu, h0, if_true, hb]
  · cases hx
theorem sim_field {t : TypeId} {fs : Array Field} {i : Nat} {f : Field} {g : Option Nat} (hu : P.underlying t = some (.struct fs)) (hf : fs[i]? = some f) (hg : cAgg P f.type = some g) {av u : AVal} {x : Value} (ha : emb m av = some x) (hx : aField g f.offset av = some u) :
    ∃ y, (Instr.field t x i).run P w = .ok y w ∧ emb m u = some y := by
  cases av <;> try (simp only [aField] at hx; cases hx; done)
  obtain ⟨l, hl, rfl⟩ := emb_agg_some ha
  obtain ⟨y, hy, hy2⟩ := sim_part (P := P) (w := w) hg hl hx
  refine ⟨y, ?_, hy2⟩
  simp [Instr.field, run_underlying hu, hf, asAgg, hy]
theorem sim_fieldAddr {t : TypeId} {fs : Array Field} {i n : Nat} {f : Field} (hu : P.underlying t = some (.struct fs)) (hf : fs[i]? = some f) (hn : cSize P f.type = some n) (hn0 : n ≠ 0) {av u : AVal} {x : Value} (ha : emb m av = some x) (hx : aFieldAddr f.offset av = some u) :
    ∃ y, (Instr.fieldAt t x i).run P w = .ok y w ∧ emb m u = some y := by
  cases av <;> simp only [aFieldAddr] at hx <;> try (cases hx; done)
  obtain ⟨p, hp, rfl⟩ := emb_ptr_some ha
  cases hx
  refine ⟨_, ?_, emb_ptr_mk hp⟩
  simp [Instr.fieldAt, run_underlying hu, hf, Instr.sureAddr, fieldPlace, run_sizeOf hn, hn0, add_add]
theorem sim_extract {i : Nat} {av u : AVal} {x : Value} (ha : emb m av = some x) (hx : aExtract i av = some u) :
    ∃ y, (Instr.extract x i).run P w = .ok y w ∧ emb m u = some y := by
  cases av <;> simp only [aExtract] at hx <;> try (cases hx; done)
  simp only [emb] at ha
  split at ha
  · rename_i l hl; cases ha
    obtain ⟨y, hy, hy2⟩ := embL_get hl hx
    exact ⟨y, by simp [Instr.extract, hy2], hy⟩
  · cases ha
theorem sim_lenS {t ty e : TypeId} (hu : P.underlying t = some (.slice e)) {av u : AVal} {x : Value} (ha : emb m av = some x) (hx : aLenS av = some u) :
    ∃ y, (Builtin.len_ #[t] ty #[x]).run P w = .ok y w ∧ emb m u = some y := by
  cases av <;> simp only [aLenS] at hx <;> try (cases hx; done)
  · cases hx; simp only [emb] at ha; cases ha
    exact ⟨_, by simp [Builtin.len_, run_underlying hu]; rfl, by simp [emb, goInt]⟩
  · cases hx
    obtain ⟨p, hp, rfl⟩ := emb_slice_some ha
    exact ⟨_, by simp [Builtin.len_, run_underlying hu]; rfl, by simp [emb, goInt]⟩
theorem sim_lenStr {t ty : TypeId} (hu : P.underlying t = some .string) {av u : AVal} {x : Value} (ha : emb m av = some x) (hx : aLenStr av = some u) :
    ∃ y, (Builtin.len_ #[t] ty #[x]).run P w = .ok y w ∧ emb m u = some y := by
  cases av <;> simp only [aLenStr] at hx <;> try (cases hx; done)
  cases hx; simp only [emb] at ha; cases ha
  exact ⟨_, by simp [Builtin.len_, run_underlying hu]; rfl, by simp [emb, goInt]⟩
end
end Go.Am
