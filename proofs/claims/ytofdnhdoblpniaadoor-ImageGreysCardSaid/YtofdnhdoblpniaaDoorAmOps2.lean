/- More operations. -/
import Derived.Test.YtofdnhdoblpniaaDoorAmOps
set_option linter.unusedSimpArgs false
set_option linter.unusedVariables false
namespace Go.Am
open Go Go.RowKit

section
variable {P : Program} {S : Base} {m : RMap} {H H' : AHeap} {w : World}

theorem aWrite_some {r off : Nat} {vs : List AVal} {u : Unit} (h : aWrite r off vs H = some (u, H')) :
    ∃ cs e, r < H.n ∧ H.get r = .row cs true e ∧ off + vs.length ≤ cs.length ∧ vs.all AVal.one = true ∧ H' = H.set r (.row (setAt cs off vs) true e) := by
  unfold aWrite at h
  split at h
  · rename_i hr
    split at h
    · rename_i cs rw e hg
      split at h
      · rename_i hc
        simp only [Bool.and_eq_true, decide_eq_true_eq] at hc
        obtain ⟨⟨rfl, h2⟩, h3⟩ := hc
        cases h
        exact ⟨cs, e, hr, hg, h2, h3, rfl⟩
      · cases h
    · cases h
  · cases h

theorem sim_write {r off : Nat} {vs : List AVal} {xs : List Value} {u : Unit} {p : Addr × Nat} {a : Addr} (h : HRel S m H w) (hx : aWrite r off vs H = some (u, H')) (hp : m r = some p) (hv : embL m vs = some xs)
    (ha : a = p.1.add off) : ∃ w', (storeCells a xs).run P w = .ok () w' ∧ HRel S m H' w' := by
  obtain ⟨cs, e, hr, hg, hl, ho, rfl⟩ := aWrite_some hx
  exact run_storeCells vs xs H w r off cs e p a 0 h hr hg hp hl hv ho (fun j => by subst ha; rw [add_add]; simp)

theorem sim_store {t : TypeId} {n : Nat} {av bv u : AVal} {x y : Value} (hc : cSize P t = some n) (ha : emb m av = some x) (hb : emb m bv = some y) (h : HRel S m H w) (hx : aStore n av bv H = some (u, H')) :
    ∃ w', (Instr.storeAt t x y).run P w = .ok () w' ∧ Out S m u H' undef w' := by
  cases av <;> simp only [aStore] at hx <;> try exact (fail_some hx).elim
  rename_i r off
  split at hx
  · rename_i hn
    obtain ⟨q, H1, h1, h2⟩ := bind_some hx
    obtain ⟨rfl, rfl⟩ := pure_some h2
    have hcells := emb_cells hb
    obtain ⟨cs, e, hr, hg, _⟩ := aWrite_some h1
    obtain ⟨p, hp, rfl⟩ : ∃ p, m r = some p ∧ x = .pointer (some (p.1.add off)) := by
      simp only [emb] at ha
      split at ha
      · rename_i p hp; cases ha; exact ⟨p, hp, rfl⟩
      · cases ha
    obtain ⟨w', hw, hrel⟩ := sim_write (P := P) (a := p.1.add off) h h1 hp hcells rfl
    refine ⟨w', ?_, m, Le.refl _, by simp [aundef, emb, embL, undef], hrel⟩
    have hsz : y.cells.size = n := by have := embL_length hcells; simp at this; omega
    simp [Instr.storeAt, Instr.sureAddr, storeVar, run_sizeOf hc, hsz, hw]
  · exact (fail_some hx).elim

theorem run_newRow {e : TypeId} {l : List Value} (w : World) : (newRow e l.toArray).run P w = .ok ⟨w.heap.size, 0, none⟩ (w.alloc (.cells l.toArray e)) := by
  simp [newRow]

theorem out_new {cs : List AVal} {xs : List Value} (h : HRel S m H w) (hx : embL m cs = some xs) (e : TypeId) :
    Out S m (.ptr H.n 0) (H.push (.row cs true (2 * e))) (.pointer (some ⟨w.heap.size, 0, none⟩)) (w.alloc (.cells xs.toArray e)) := by
  have := h.alloc hx [] e
  simp only [List.append_nil] at this
  exact ⟨_, le_add _ (h.fresh _ (Nat.le_refl _)), by simp [emb, add_eq, Addr.add], this⟩
theorem out_newSlice {cs : List AVal} {xs : List Value} (h : HRel S m H w) (hx : embL m cs = some xs) (rest : List Value) (e : TypeId) (len sz : Nat) (cap : Option Nat) (c : Nat)
    (hc : capR cap ((xs ++ rest).length / sz) = c) :
    Out S m (.slice H.n 0 len cap sz) (H.push (.row cs true (2 * e))) (.slice (some ⟨w.heap.size, 0, none⟩) len c) (w.alloc (.cells (xs ++ rest).toArray e)) := by
  refine ⟨_, le_add _ (h.fresh _ (Nat.le_refl _)), ?_, h.alloc hx rest e⟩
  subst hc
  cases cap <;> simp [emb, add_eq, Addr.add]

theorem cZero_some {t : TypeId} {z : List AVal} (h : cZero P t = some z) (w : World) : ∃ v, (zeroValue t).run P w = .ok v w ∧ ∀ m, embL m z = some v.cells.toList := by
  unfold cZero at h
  split at h
  · rename_i i hi
    split at h
    · rename_i v hv
      split at h
      · rename_i x hx; cases h
        exact ⟨v, by simp [zeroValue, typeInfo, hi, hv], fun m => emb_cells (ofV_emb m v x hx)⟩
      · cases h
    · cases h
  · cases h

theorem sim_new {e : TypeId} {z : List AVal} (hc : cZero P e = some z) (h : HRel S m H w) :
    ∃ x w', (Instr.alloc e true (.tuple #[])).run P w = .ok x w' ∧ Out S m (.ptr H.n 0) (H.push (.row z true (2 * e))) x w' := by
  obtain ⟨v, hv, hz⟩ := cZero_some hc w
  refine ⟨_, _, ?_, out_new h (hz m) e⟩
  simp [Instr.alloc, hv, newVar, newRow]

theorem sim_box {e : TypeId} {v : AVal} {x : Value} (hv : emb m v = some x) (h : HRel S m H w) :
    ∃ y w', (Instr.box e x).run P w = .ok y w' ∧ Out S m (.ptr H.n 0) (H.push (.row v.cells true (2 * e))) y w' := by
  refine ⟨_, _, ?_, out_new h (emb_cells hv) e⟩
  simp [Instr.box, newVar, newRow]

/- build -/
theorem foldl_setAt {m : RMap} : ∀ (vs : List AVal) (xs : List Value) (cs : List AVal) (ys : List Value) (off k : Nat), embL m vs = some xs → embL m cs = some ys → off + k + vs.length ≤ cs.length →
    embL m (setAt cs (off + k) vs) = some ((xs.zipIdx k).foldl (fun cs (c, j) => cs.set (off + j) c) ys)
  | [], xs, cs, ys, off, k, h1, h2, _ => by simp [embL] at h1; subst h1; simpa [setAt] using h2
  | v :: vs, xs, cs, ys, off, k, h1, h2, hl => by
    obtain ⟨x, xs', hv, hvs, rfl⟩ := embL_cons h1
    simp only [List.zipIdx_cons, List.foldl_cons, setAt]
    simp only [List.length_cons] at hl
    have hlen := embL_length h2
    refine foldl_setAt vs xs' (cs.set (off + k) v) (ys.set (off + k) x) off (k + 1) hvs ?_ (by simp; omega)
    refine embL_of_get (by simp [hlen]) fun i u hi => ?_
    by_cases hik : i = off + k
    · subst hik
      rw [List.getElem?_set_self (by omega)] at hi; cases hi
      exact ⟨x, hv, List.getElem?_set_self (by omega)⟩
    · rw [List.getElem?_set_ne (Ne.symm hik)] at hi
      obtain ⟨y, hy1, hy2⟩ := embL_get h2 hi
      exact ⟨y, hy1, by rw [List.getElem?_set_ne (Ne.symm hik)]; exact hy2⟩

theorem zipIdx_foldl_toList (ys : Array Value) (xs : Array Value) (off : Nat) :
    ((xs.zipIdx).foldl (fun cs (c, j) => cs.setIfInBounds (off + j) c) ys).toList = (xs.toList.zipIdx 0).foldl (fun cs (c, j) => cs.set (off + j) c) ys.toList := by
  have : ∀ (l : List (Value × Nat)) (ys : Array Value), (l.foldl (fun cs (c, j) => cs.setIfInBounds (off + j) c) ys).toList = l.foldl (fun cs (c, j) => cs.set (off + j) c) ys.toList := by
    intro l
    induction l with
    | nil => intro ys; rfl
    | cons a l ih => intro ys; simp only [List.foldl_cons]; rw [ih]; simp
  rw [← Array.foldl_toList, this]
  simp

theorem sim_fill {nt : Nat} {fr : AFrame} {a : Act} (hf : FRel nt m fr a.tmps) (hg : Globs P.globals.size m) {place : Nat → Option (Nat × Nat)} : ∀ {parts : List (Nat × Operand)} {l : List (Nat × Nat × ROpd)} {cells out : List AVal} {ys : Array Value},
    (∀ p ∈ parts, True) → cParts P nt place parts = some l → aFill fr cells l = some out → embL m cells = some ys.toList → ∃ zs, Instr.fill place ys (parts.map fun (i, x) => (i, a.eval x)) = some zs ∧ embL m out = some zs.toList
  | [], l, cells, out, ys, _, hc, hx, hy => by
    simp [cParts] at hc; subst hc; simp [aFill] at hx; subst hx
    exact ⟨ys, by simp [Instr.fill], hy⟩
  | (i, x) :: rest, l, cells, out, ys, _, hc, hx, hy => by
    simp only [cParts] at hc
    split at hc
    · rename_i off size r l' h1 h2 h3
      cases hc
      simp only [aFill] at hx
      split at hx
      · cases hx
      · rename_i hcond
        have hev := cOpd_ev h2 hf hg
        have hcl := emb_cells hev
        have hlen := embL_length hcl
        have hlen2 := embL_length hy
        have hs := foldl_setAt _ _ cells ys.toList off 0 hcl hy (by omega)
        have := zipIdx_foldl_toList ys (a.eval x).cells off
        rw [← this] at hs
        obtain ⟨zs, hz1, hz2⟩ := sim_fill hf hg (fun _ _ => trivial) h3 hx hs
        refine ⟨zs, ?_, hz2⟩
        simp only [List.map_cons, Instr.fill, h1]
        have hc1 : ¬ ((a.eval x).cells.size ≠ size ∨ off + (a.eval x).cells.size > ys.size) := by
          simp only [Array.length_toList] at hlen hlen2; omega
        simp only [ne_eq, Bool.or_eq_true, decide_eq_true_eq] at hc1 ⊢
        simp_all
    · cases hc

theorem run_underlying' {t : TypeId} {d : TypeDesc} (h : P.underlying t = some d) : (underlying t).run P w = .ok d w := run_underlying h w

theorem mapM_places {fs : List Field} {pl : List (Nat × Nat)} (h : cPlaces P fs = some pl) : (fs.mapM (m := Sem) fun f => do pure (f.offset, ← sizeOf f.type)).run P w = .ok pl w := by
  induction fs generalizing pl with
  | nil => simp [cPlaces] at h; subst h; simp
  | cons f fs ih =>
    simp only [cPlaces] at h
    split at h
    · rename_i n l h1 h2; cases h
      rw [List.mapM_cons]
      simp only [Sem.run_bind, run_sizeOf h1, Result.andThen_ok, Sem.run_pure, ih h2]
    · cases h

theorem sim_build {nt : Nat} {fr : AFrame} {a : Act} (hf : FRel nt m fr a.tmps) (h : HRel S m H w) (hg : Globs P.globals.size m) {t : TypeId} {ps : Array (Nat × Operand)} {ro : ROp} {u : AVal} {call : ACall}
    (hc : (match cZero P t, P.underlying t with
    | some z, some (.struct fs) => match cPlaces P fs.toList with
      | some pl => match cParts P nt (pl[·]?) ps.toList with | some l => some (ROp.build z l) | none => none
      | none => none
    | some z, some (.array _ e) => match cSize P e with
      | some s => match cParts P nt (fun i => some (i * s, s)) ps.toList with | some l => some (.build z l) | none => none
      | none => none
    | _, _ => none) = some ro) (hx : ro.exec call fr H = some (u, H')) : ∃ x, (Instr.build t (ps.map fun (i, x) => (i, a.eval x))).run P w = .ok x w ∧ emb m u = some x ∧ H' = H := by
  split at hc
  · rename_i z fs hz hu
    split at hc
    · rename_i pl hpl
      split at hc
      · rename_i l hl; cases hc
        simp only [ROp.exec] at hx
        cases hcs : aFill fr z l with
        | none => rw [hcs] at hx; exact (fail_some hx).elim
        | some cs =>
          rw [hcs] at hx
          obtain ⟨rfl, rfl⟩ := pure_some hx
          obtain ⟨v, hv, hz'⟩ := cZero_some hz w
          obtain ⟨zs, h1, h2⟩ := sim_fill hf hg (fun _ _ => trivial) hl hcs (hz' m)
          refine ⟨.agg zs, ?_, by simp [emb, h2], rfl⟩
          have hm := mapM_places (P := P) (w := w) hpl
          simp only [Instr.build, Sem.run_bind, hv, Result.andThen_ok, run_underlying hu, Array.mapM_eq_mapM_toList, Sem.run_map, hm]
          simp [h1]
      · cases hc
    · cases hc
  · rename_i z n e hz hu
    split at hc
    · rename_i s hs
      split at hc
      · rename_i l hl; cases hc
        simp only [ROp.exec] at hx
        cases hcs : aFill fr z l with
        | none => rw [hcs] at hx; exact (fail_some hx).elim
        | some cs =>
          rw [hcs] at hx
          obtain ⟨rfl, rfl⟩ := pure_some hx
          obtain ⟨v, hv, hz'⟩ := cZero_some hz w
          obtain ⟨zs, h1, h2⟩ := sim_fill hf hg (fun _ _ => trivial) hl hcs (hz' m)
          refine ⟨.agg zs, ?_, by simp [emb, h2], rfl⟩
          simp only [Instr.build, Sem.run_bind, hv, Result.andThen_ok, run_underlying hu, run_sizeOf hs]
          simp [h1]
      · cases hc
    · cases hc
  · cases hc

theorem replicate_flatten (zero : Array Value) (n : Nat) (hz : 0 < zero.size) : ((Array.range (n * zero.size)).map (zero[· % zero.size]!)).toList = (List.replicate n zero.toList).flatten := by
  apply List.ext_getElem?
  intro i
  simp only [Array.toList_map, Array.toList_range]
  by_cases hi : i < n * zero.size
  · have hm : i % zero.size < zero.size := Nat.mod_lt _ hz
    have hd : i / zero.size < n := Nat.div_lt_of_lt_mul (by rw [Nat.mul_comm]; exact hi)
    rw [List.getElem?_map, List.getElem?_range hi]
    have : ∀ (n : Nat) (l : List Value) (i : Nat), 0 < l.length → i < n * l.length → (List.replicate n l).flatten[i]? = l[i % l.length]? := by
      intro n l
      induction n with
      | zero => intro i _ h; simp at h
      | succ n ih =>
        intro i hl hi
        rw [List.replicate_succ, List.flatten_cons]
        by_cases h : i < l.length
        · rw [List.getElem?_append_left h, Nat.mod_eq_of_lt h]
        · rw [List.getElem?_append_right (by omega), ih _ hl (by have : (n + 1) * l.length = n * l.length + l.length := Nat.succ_mul _ _; omega)]
          rw [show i % l.length = (i - l.length) % l.length from Nat.mod_eq_sub_mod (by omega)]
    rw [this n zero.toList i (by simpa using hz) (by simpa using hi)]
    simp [hm]
  · rw [List.getElem?_eq_none (by simp; omega), List.getElem?_eq_none (by simp [List.length_flatten]; omega)]

theorem embL_replicate {z : List AVal} {l : List Value} (h : embL m z = some l) : ∀ n, embL m (List.replicate n z).flatten = some (List.replicate n l).flatten
  | 0 => by simp [embL]
  | n + 1 => by rw [List.replicate_succ, List.replicate_succ, List.flatten_cons, List.flatten_cons]; exact embL_append h (embL_replicate h n)

theorem sim_buildSlice {nt : Nat} {fr : AFrame} {a : Act} (hf : FRel nt m fr a.tmps) (h : HRel S m H w) (hg : Globs P.globals.size m) {t e : TypeId} {len s : Nat} {z : List AVal} {ps : Array (Nat × Operand)} {l : List (Nat × Nat × ROpd)} {u : AVal} {call : ACall}
    (hu : P.underlying t = some (.slice e)) (hs : cSize P e = some s) (hz : cZero P e = some z) (hcond : z.length = s ∧ 0 < s ∧ len * s ≤ 2 ^ 24) (hl : cParts P nt (fun i => some (i * s, s)) ps.toList = some l)
    (hx : (ROp.buildSlice e s len (List.replicate len z).flatten l).exec call fr H = some (u, H')) : ∃ x w', (Instr.buildSlice t len (ps.map fun (i, x) => (i, a.eval x))).run P w = .ok x w' ∧ Out S m u H' x w' := by
  simp only [ROp.exec] at hx
  cases hcs : aFill fr (List.replicate len z).flatten l with
  | none => rw [hcs] at hx; exact (fail_some hx).elim
  | some cs =>
    rw [hcs] at hx
    obtain ⟨r, H1, h1, h2⟩ := bind_some hx
    obtain ⟨rfl, rfl⟩ := aNew_some h1
    obtain ⟨rfl, rfl⟩ := pure_some h2
    obtain ⟨v, hv, hz'⟩ := cZero_some hz w
    obtain ⟨hz1, hz2, hz3⟩ := hcond
    have hzl := embL_length (hz' m)
    have hvs : v.cells.size = s := by simp at hzl; omega
    have hrep := embL_replicate (hz' m) len
    rw [← replicate_flatten v.cells len (by omega)] at hrep
    obtain ⟨zs, h3, h4⟩ := sim_fill hf hg (fun _ _ => trivial) hl hcs hrep
    have hout := out_newSlice h h4 [] e len s (some len) len rfl
    simp only [List.append_nil] at hout
    refine ⟨_, _, ?_, hout⟩
    simp only [hvs] at h3
    have hn0 : len = 0 ∨ len * s ≠ 0 := by
      rcases Nat.eq_zero_or_pos len with h | h
      · exact Or.inl h
      · exact Or.inr (Nat.ne_of_gt (Nat.mul_pos h hz2))
    simp only [Instr.buildSlice, Sem.run_bind, run_underlying hu, Result.andThen_ok, run_sizeOf hs]
    rw [if_neg (by omega)]
    rcases hn0 with h0 | h0
    · subst h0
      have hemp : ∀ (f : Nat → Value), (Array.range 0).map f = #[] := fun f => by simp [Array.range_zero']
      simp only [Nat.zero_mul, hemp] at h3
      simp only [Nat.zero_mul, if_true, Sem.run_bind, Sem.run_pure, Result.andThen_ok, hemp]
      simp [newRow, h3]
    · rw [if_neg h0]
      simp [hv, hvs, h3, newRow]
end
end Go.Am
