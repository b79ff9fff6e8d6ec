/- make, copy, conversions, equality; then all operations together. -/
import Derived.Test.YtofdnhdoblpniaaDoorAmOps5
import Derived.Laws.BytesArg
import Derived.Laws.IdiomStrings
import Derived.Laws.AppendOwn
import Derived.Laws.StructEq
set_option linter.unusedSimpArgs false
set_option linter.unusedVariables false
namespace Go.Am
open Go Go.RowKit

section
variable {P : Program} {S : Base} {m : RMap} {H H' : AHeap} {w : World}

theorem emb_slice_nil {x : Value} (h : emb m .nslice = some x) : x = .slice none 0 0 := by simp only [emb] at h; cases h; rfl

theorem run_typeInfo {e : TypeId} {b : Nat} (hb : cBytes P e = some b) : ∃ i, (∀ w, (typeInfo e).run P w = .ok i w) ∧ i.bytes = b := by
  unfold cBytes at hb
  cases hi : P.info? e with
  | none => rw [hi] at hb; cases hb
  | some i => rw [hi] at hb; exact ⟨i, fun w => by simp [typeInfo, hi], by simpa using hb⟩

theorem sim_makeSlice {t e : TypeId} {s b : Nat} {z : List AVal} (hu : P.underlying t = some (.slice e)) (hs : cSize P e = some s) (hz : cZero P e = some z) (hb : cBytes P e = some b) (hzs : z.length = s) (hs0 : 0 < s)
    {lv cv u : AVal} {x y : Value} (hl : emb m lv = some x) (hc : emb m cv = some y) (h : HRel S m H w) (hx : aMakeSlice e z b lv cv H = some (u, H')) :
    ∃ v w', (Instr.makeSlice t x y).run P w = .ok v w' ∧ Out S m u H' v w' := by
  cases lv <;> cases cv <;> simp only [aMakeSlice] at hx <;> try exact (fail_some hx).elim
  rename_i k1 len k2 cap
  simp only [emb] at hl hc; cases hl; cases hc
  split at hx
  · rename_i hcond
    obtain ⟨h0, h1, h2, h3⟩ := hcond
    obtain ⟨r, H1, h4, h5⟩ := bind_some hx
    obtain ⟨rfl, rfl⟩ := aNew_some h4
    obtain ⟨rfl, rfl⟩ := pure_some h5
    obtain ⟨i, hi, hib⟩ := run_typeInfo hb
    have wl : IntKind.i64.wrap len = len := by rw [IntKind.wrap_i64]; omega
    have wc : IntKind.i64.wrap cap = cap := by rw [IntKind.wrap_i64]; omega
    obtain ⟨v, hv, hz'⟩ := cZero_some hz w
    have hvs : v.cells.size = s := by have := embL_length (hz' m); simp at this; omega
    have hrep := embL_replicate (hz' m) cap.toNat
    rw [← replicate_flatten v.cells cap.toNat (by omega)] at hrep
    have hout := out_newSlice h hrep [] e len.toNat z.length (some cap.toNat) cap.toNat rfl
    simp only [List.append_nil, Array.toArray_toList] at hout
    refine ⟨_, _, ?_, hout⟩
    have hbig : ¬ (b * cap > 2 ^ 48) := by
      have : (b : Int) * cap ≤ 2 ^ 47 := h2
      omega
    simp only [Instr.makeSlice, Sem.run_bind, run_underlying hu, Result.andThen_ok, asInt, asIntOf, Sem.run_pure, hi, hib, wl, wc]
    rw [if_neg (by
      simp only [Bool.or_eq_true, decide_eq_true_eq, not_or]
      refine ⟨⟨⟨by omega, by simpa using hbig⟩, by omega⟩, by omega⟩)]
    simp only [Sem.run_bind, run_askRoom, Result.andThen_ok, run_sizeOf hs]
    by_cases hc0 : cap.toNat * s = 0
    · have : cap.toNat = 0 := by
        rcases Nat.mul_eq_zero.1 hc0 with h | h
        · exact h
        · omega
      rw [if_pos hc0]
      simp only [Sem.run_pure, Result.andThen_ok, newRow, Sem.run_bind, run_newObj, this, Nat.zero_mul]
      have hemp : ∀ (f : Nat → Value), (Array.range 0).map f = #[] := fun f => by simp [Array.range_zero']
      rw [hemp, hemp]
      rfl
    · rw [if_neg hc0]
      simp only [Sem.run_bind, hv, Sem.run_pure, Result.andThen_ok, newRow, run_newObj, hvs]
      rfl
  · exact (fail_some hx).elim

theorem sim_copy {t t' ty e : TypeId} {sz : Nat} (hu : P.underlying t = some (.slice e)) (hs : cSize P e = some sz) {dv xv u : AVal} {d x : Value} (hd : emb m dv = some d) (hxv : emb m xv = some x) (h : HRel S m H w) (hx : aCopy sz dv xv H = some (u, H')) :
    ∃ v w', (Builtin.copy_ #[t, t'] ty #[d, x]).run P w = .ok v w' ∧ Out S m u H' v w' := by
  unfold aCopy at hx
  cases ha : aLenOf xv with
  | none => rw [ha] at hx; exact (fail_some hx).elim
  | some a =>
    cases hb : aLenOf dv with
    | none => rw [ha, hb] at hx; exact (fail_some hx).elim
    | some b =>
      rw [ha, hb] at hx
      simp only [] at hx
      obtain ⟨new, H1, h1, h2⟩ := bind_some hx
      obtain ⟨rfl, hfirst⟩ := sim_first (S := S) (P := P) hxv h1
      split at h2
      · exact (fail_some h2).elim
      rename_i hnl
      simp only [decide_eq_true_eq, ne_eq, Decidable.not_not] at hnl
      have hlen : ∀ w, (Builtin.lenOf x).run P w = .ok a w := fun w => sim_lenOf hxv ha
      obtain ⟨arr, hf, he⟩ := hfirst w h
      have core : ∀ (base : Option Addr) (cap : Nat) (w' : World), d = .slice base b cap → (match base with | some a => (storeCells a arr.toList).run P w = .ok () w' | none => w' = w) → (Builtin.copy_ #[t, t'] ty #[d, x]).run P w = .ok (goInt (min a b : Nat)) w' := by
        intro base cap w' hd' hst
        subst hd'
        unfold Builtin.copy_
        simp only [List.getElem?_toArray, List.getElem?_cons_zero, List.getElem?_cons_succ, Sem.run_bind, run_underlying hu, Result.andThen_ok, run_sizeOf hs, hlen]
        have : Nat.min a b = min a b := rfl
        rw [this, hf]
        cases base with
        | some a => simp only [] at hst; simp [hst]
        | none => simp only [] at hst; subst hst; simp
      cases dv <;> simp only [] at h2 <;> try exact (fail_some h2).elim
      · obtain ⟨rfl, rfl⟩ := pure_some h2
        have hd' := emb_slice_nil hd
        simp only [aLenOf] at hb; cases hb
        exact ⟨_, w, core none 0 w hd' rfl, Out.same h (by simp [emb, goInt])⟩
      · rename_i r off len cap s'
        obtain ⟨p, hp, rfl⟩ := emb_slice_some hd
        simp only [aLenOf] at hb; cases hb
        split at h2
        · exact (fail_some h2).elim
        split at h2
        · rename_i hemp
          obtain ⟨rfl, rfl⟩ := pure_some h2
          simp only [List.isEmpty_iff] at hemp
          subst hemp
          have harr : arr.toList = [] := by simp [embL] at he; exact he.symm ▸ rfl
          exact ⟨_, w, core (some (p.1.add off)) _ w rfl (by simp only []; rw [harr]; simp [storeCells]), Out.same h (by simp [emb, goInt])⟩
        · obtain ⟨q, H2, h3, h4⟩ := bind_some h2
          obtain ⟨rfl, rfl⟩ := pure_some h4
          obtain ⟨w', hst, hrel⟩ := sim_write (P := P) (a := p.1.add off) h h3 hp he rfl
          exact ⟨_, w', core (some (p.1.add off)) _ w' rfl hst, m, Le.refl _, by simp [emb, goInt], hrel⟩

theorem sim_minmax {mx : Bool} : ∀ (rest : List AVal) (ys : List Value) (v u : AVal) (x : Value), embL m rest = some ys → emb m v = some x → aMinMax mx v rest = some u →
    ∃ y, (ys.foldlM (if mx then Builtin.max2 else Builtin.min2) x).run P w = .ok y w ∧ emb m u = some y
  | [], ys, v, u, x, h1, h2, hx => by
    simp [embL] at h1; subst h1
    simp only [aMinMax] at hx; cases hx
    exact ⟨x, by simp, h2⟩
  | r :: rest, ys, v, u, x, h1, h2, hx => by
    obtain ⟨y, ys', hy, hys, rfl⟩ := embL_cons h1
    cases v <;> cases r <;> simp only [aMinMax] at hx <;> try (cases hx; done)
    simp only [emb] at h2 hy; cases h2; cases hy
    obtain ⟨z, hz1, hz2⟩ := sim_minmax rest ys' _ u _ hys (emb_int_mk _ _) hx
    refine ⟨z, ?_, hz2⟩
    cases mx
    · simp only [Bool.false_eq_true, if_false, List.foldlM_cons, Sem.run_bind, Builtin.min2, Sem.run_pure, Result.andThen_ok] at hz1 ⊢
      exact hz1
    · simp only [if_true, List.foldlM_cons, Sem.run_bind, Builtin.max2, Sem.run_pure, Result.andThen_ok] at hz1 ⊢
      exact hz1

theorem sim_conv_int {t d : TypeId} {k : IntKind} {ds : TypeDesc} (hs : P.underlying t = some ds) (hd : P.underlying d = some (.int k)) {k0 : IntKind} {n : Int} :
    (convert t d (.int k0 n)).run P w = .ok (.int k (k.wrap n)) w := by
  simp [convert, run_underlying hs, run_underlying hd, Conv.intToInt]

theorem sim_conv_str {t d : TypeId} (hs : P.underlying t = some .string) (hd : P.underlying d = some .string) {s : ByteArray} :
    (convert t d (.string s)).run P w = .ok (.string s) w := by
  simp [convert, run_underlying hs, run_underlying hd]

theorem bytesOf_some : ∀ {vs : List AVal} {l : List UInt8}, bytesOf vs = some l → ∃ ns : List Int, vs = ns.map (AVal.int .u8) ∧ l = ns.map fun n => UInt8.ofNat n.toNat
  | [], l, h => by simp [bytesOf] at h; subst h; exact ⟨[], rfl, rfl⟩
  | v :: vs, l, h => by
    cases v <;> try (simp [bytesOf] at h; done)
    rename_i k n
    cases k <;> try (simp [bytesOf] at h; done)
    simp only [bytesOf] at h
    cases hb : bytesOf vs with
    | none => rw [hb] at h; cases h
    | some l' =>
      rw [hb] at h; cases h
      obtain ⟨ns, rfl, rfl⟩ := bytesOf_some hb
      exact ⟨n :: ns, rfl, rfl⟩
theorem embL_ints {m : RMap} {k : IntKind} : ∀ (ns : List Int), embL m (ns.map (AVal.int k)) = some (ns.map (Value.int k))
  | [] => by simp [embL]
  | n :: ns => embL_mk (emb_int_mk _ _) (embL_ints ns)

theorem sim_bytesToStr {t d e : TypeId} (hs : P.underlying t = some (.slice e)) (hd : P.underlying d = some .string) (he : P.underlying e = some (.int .u8)) {av u : AVal} {x : Value} (ha : emb m av = some x) (h : HRel S m H w) (hx : aBytesToStr av H = some (u, H')) :
    ∃ y, (convert t d x).run P w = .ok y w ∧ Out S m u H' y w := by
  cases av <;> simp only [aBytesToStr] at hx <;> try exact (fail_some hx).elim
  · obtain ⟨rfl, rfl⟩ := pure_some hx
    have := emb_slice_nil ha
    subst this
    exact ⟨.string .empty, run_convert_bytes_nil w t e hs he 0 0 d hd, Out.same h (by simp [emb])⟩
  · rename_i r off len cap s'
    obtain ⟨p, hp, rfl⟩ := emb_slice_some ha
    split at hx
    · exact (fail_some hx).elim
    obtain ⟨⟨cs, rw⟩, H1, h1, h2⟩ := bind_some hx
    obtain ⟨rfl, hr, e', hg⟩ := aRow_some h1
    simp only [] at h2 hg
    split at h2
    · rename_i hle
      cases hb : bytesOf ((cs.drop off).take len) with
      | none => rw [hb] at h2; exact (fail_some h2).elim
      | some l =>
        rw [hb] at h2
        obtain ⟨rfl, rfl⟩ := pure_some h2
        obtain ⟨xs, hxs, hload⟩ := loadRange (P := P) h hr hg hp hle
        obtain ⟨ns, hns, rfl⟩ := bytesOf_some hb
        rw [hns, embL_ints] at hxs
        cases hxs
        refine ⟨.string ⟨(ns.map fun n => UInt8.ofNat n.toNat).toArray⟩, ?_, Out.same h (by simp [emb])⟩
        rw [run_convert_bytes_string w t d e _ _ _ hs he hd, run_bytesToString w _ _ _ ns hload, foldl_push_bytes]
        simp [ByteArray.empty, ByteArray.emptyWithCapacity]
        rfl
    · exact (fail_some h2).elim

theorem sim_strToBytes {t d e : TypeId} (hs : P.underlying t = some .string) (hd : P.underlying d = some (.slice e)) (he : P.underlying e = some (.int .u8)) {av u : AVal} {x : Value} (ha : emb m av = some x) (h : HRel S m H w) (hx : aStrToBytes e av H = some (u, H')) :
    ∃ y w', (convert t d x).run P w = .ok y w' ∧ Out S m u H' y w' := by
  cases av <;> simp only [aStrToBytes] at hx <;> try exact (fail_some hx).elim
  rename_i s
  simp only [emb] at ha; cases ha
  obtain ⟨r, H1, h1, h2⟩ := bind_some hx
  obtain ⟨rfl, rfl⟩ := aNew_some h1
  obtain ⟨rfl, rfl⟩ := pure_some h2
  refine ⟨_, _, run_bytes_of_string w t d e s hs hd he, ?_⟩
  have hcap := grownCap_ge w s.size 0 e
  generalize grownCap w s.size 0 e = c at hcap
  have hrow : bytesRow s c = (s.data.toList.map (fun (b : UInt8) => Value.int .u8 b.toNat) ++ List.replicate (c - s.size) (Value.int .u8 0)).toArray := by
    apply Array.ext'; simp [bytesRow]
  have hsz : (bytesRow s c).size = c := by simp [bytesRow]; omega
  rw [hsz]
  have hl : (s.data.toList.map (fun (b : UInt8) => Value.int .u8 b.toNat) ++ List.replicate (c - s.size) (Value.int .u8 0)).length = c := by simp; omega
  have hal := h.drew.allocFz (emb_map_bytes s.data.toList) (List.replicate (c - s.size) (.int .u8 0)) e (c, c + 1) (fun i hi => by rw [hl] at hi; simp; omega)
  rw [← hrow, hl] at hal
  refine ⟨_, le_add _ (h.fresh _ (Nat.le_refl _)), ?_, hal⟩
  rw [emb_slice_mk add_eq]
  simp [capR, Addr.add_zero']

/- equality -/
theorem sim_aPart {t : TypeId} {g : Option Nat} (hg : cAgg P t = some g) (hg0 : g ≠ some 0) {cs : List AVal} {l : List Value} (hl : embL m cs = some l) {off : Nat} {u : AVal} (hx : aPart (aggN g) cs off = some u) :
    ∃ y, (part t l.toArray off).run P w = .ok y w ∧ emb m u = some y := by
  refine sim_part (P := P) (w := w) hg hl ?_
  unfold aPart at hx
  simp only [aField]
  unfold aggN at hx
  cases g with
  | none => simpa using hx
  | some k =>
    simp only [] at hx ⊢
    rw [if_neg (fun e => hg0 (by rw [e]))] at hx
    exact hx

theorem sim_eqs (d : Nat) : ∀ w : World,
    (∀ (t : TypeId) (q : EqDesc) (a b : AVal) (r : Bool) (x y : Value) (D : Nat), cEq P d t = some q → aEq q a b = some r → emb m a = some x → emb m b = some y → d ≤ D → (Op.equalIn D t x y).run P w = .ok r w) ∧
    (∀ (fs : List Field) (l : List (Option (Nat × Nat × EqDesc))) (xs ys : List AVal) (xs' ys' : List Value) (r : Bool) (D : Nat), cEqs P d fs = some l → aEqs l xs ys = some r → embL m xs = some xs' → embL m ys = some ys' → d ≤ D →
      (Op.eqFields D xs'.toArray ys'.toArray fs).run P w = .ok r w) := by
  induction d with
  | zero => exact fun w => ⟨fun t q a b r x y D h => by simp [cEq] at h, fun fs l xs ys xs' ys' r D h => by simp [cEqs] at h⟩
  | succ d ih =>
    intro w
    constructor
    · intro t q a b r x y D hc he hx hy hD
      obtain ⟨D', rfl⟩ : ∃ D', D = D' + 1 := ⟨D - 1, by omega⟩
      unfold cEq at hc
      cases hu : P.underlying t with
      | none => rw [hu] at hc; cases hc
      | some ds =>
        rw [hu] at hc
        cases ds <;> simp only [] at hc <;> try (cases hc; done)
        case bool =>
          cases hc
          cases a <;> cases b <;> simp only [aEq] at he <;> try (cases he; done)
          cases he; simp only [emb] at hx hy; cases hx; cases hy
          exact run_equalIn_bool' w D' t _ _ hu
        case int k =>
          cases hc
          cases a <;> cases b <;> simp only [aEq] at he <;> try (cases he; done)
          split at he
          · rename_i hk; subst hk; cases he
            simp only [emb] at hx hy; cases hx; cases hy
            exact run_equalIn_int w D' t _ _ _ _ hu
          · cases he
        case string =>
          cases hc
          cases a <;> cases b <;> simp only [aEq] at he <;> try (cases he; done)
          cases he; simp only [emb] at hx hy; cases hx; cases hy
          rw [beq_toListBytes]
          exact run_equalIn_string w D' t _ _ hu
        case pointer e =>
          cases hz : cSize P e with
          | none => rw [hz] at hc; cases hc
          | some sz =>
          rw [hz] at hc
          cases hc
          cases a <;> cases b <;> simp only [aEq] at he <;> try (cases he; done)
          · cases he; simp only [emb] at hx hy; cases hx; cases hy
            simp [Op.equalIn, run_underlying hu]
          · cases he; obtain ⟨p, hp, rfl⟩ := emb_ptr_some hy; simp only [emb] at hx; cases hx
            simp [Op.equalIn, run_underlying hu]
          · cases he; obtain ⟨p, hp, rfl⟩ := emb_ptr_some hx; simp only [emb] at hy; cases hy
            simp [Op.equalIn, run_underlying hu]
          · split at he
            · rename_i hro; cases he
              obtain ⟨rfl, rfl⟩ := hro
              obtain ⟨p, hp, rfl⟩ := emb_ptr_some hx
              rw [hx] at hy; cases hy
              by_cases hs0 : sz = 0
              · simp [Op.equalIn, run_underlying hu, run_sizeOf hz, hs0]
              · simp [Op.equalIn, run_underlying hu, run_sizeOf hz, hs0, sameAddr]
            · cases he
        case slice e =>
          cases hc
          cases a <;> cases b <;> simp only [aEq] at he <;> try (cases he; done)
          · cases he; simp only [emb] at hx hy; cases hx; cases hy
            simp [Op.equalIn, run_underlying hu]
          · cases he; obtain ⟨p, hp, rfl⟩ := emb_slice_some hy; simp only [emb] at hx; cases hx
            simp [Op.equalIn, run_underlying hu]
          · cases he; obtain ⟨p, hp, rfl⟩ := emb_slice_some hx; simp only [emb] at hy; cases hy
            simp [Op.equalIn, run_underlying hu]
        case func ps rs v =>
          cases hc
          cases a <;> cases b <;> simp only [aEq] at he <;> try (cases he; done)
          · cases he; simp only [emb] at hx hy; cases hx; cases hy
            simp [Op.equalIn, run_underlying hu]
          · cases he; simp only [emb] at hx hy; cases hx
            split at hy <;> cases hy
            simp [Op.equalIn, run_underlying hu]
          · cases he; simp only [emb] at hx hy; cases hy
            split at hx <;> cases hx
            simp [Op.equalIn, run_underlying hu]
        case struct fs =>
          split at hc
          · cases hc
          rename_i hg
          simp only [Bool.or_eq_true, not_or, Bool.not_eq_true] at hg
          cases hl : cEqs P d fs.toList with
          | none => rw [hl] at hc; cases hc
          | some l =>
            rw [hl] at hc; cases hc
            cases a <;> cases b <;> simp only [aEq] at he <;> try (cases he; done)
            obtain ⟨xs', hx1, rfl⟩ := emb_agg_some hx
            obtain ⟨ys', hy1, rfl⟩ := emb_agg_some hy
            have hfo : P.fieldsOf t = fs := by simp [Program.fieldsOf, hu]
            rw [run_equalIn_struct w D' t _ _ (by rw [hfo]; exact hu) hg.1, hfo]
            exact (ih w).2 fs.toList l _ _ xs' ys' r D' hl he hx1 hy1 (by omega)
    · intro fs l xs ys xs' ys' r D hc he hx hy hD
      cases fs with
      | nil =>
        simp only [cEqs] at hc; cases hc
        simp only [aEqs] at he; cases he
        simp [Op.eqFields]
      | cons f fs =>
        unfold cEqs at hc
        split at hc
        · rename_i hn
          cases hl : cEqs P d fs with
          | none => rw [hl] at hc; cases hc
          | some l' =>
            rw [hl] at hc; cases hc
            simp only [aEqs] at he
            simp only [Op.eqFields, hn, ne_eq, not_true_eq_false, if_false]
            exact (ih w).2 fs l' xs ys xs' ys' r D hl he hx hy (by omega)
        · rename_i hn
          cases hq : cEq P d f.type with
          | none => rw [hq] at hc; cases hc
          | some q =>
            cases hg : cAgg P f.type with
            | none => rw [hq, hg] at hc; cases hc
            | some g =>
              cases hl : cEqs P d fs with
              | none => rw [hq, hg, hl] at hc; cases hc
              | some l' =>
                rw [hq, hg, hl] at hc
                simp only [] at hc
                split at hc
                · cases hc
                rename_i hg0
                cases hc
                simp only [aEqs] at he
                cases ha : aPart (aggN g) xs f.offset with
                | none => rw [ha] at he; cases he
                | some a =>
                  cases hb : aPart (aggN g) ys f.offset with
                  | none => rw [ha, hb] at he; cases he
                  | some b =>
                    rw [ha, hb] at he
                    simp only [] at he
                    obtain ⟨x, hx1, hx2⟩ := sim_aPart (P := P) (w := w) hg (fun e => hg0 (by rw [e])) hx ha
                    obtain ⟨y, hy1, hy2⟩ := sim_aPart (P := P) (w := w) hg (fun e => hg0 (by rw [e])) hy hb
                    simp only [Op.eqFields, ne_eq, hn, not_false_eq_true, if_true, Sem.run_bind, hx1, hy1, Result.andThen_ok]
                    cases hr : aEq q a b with
                    | none => rw [hr] at he; cases he
                    | some r1 =>
                      rw [hr] at he
                      have hi := (ih w).1 f.type q a b r1 x y D hq hr hx2 hy2 (by omega)
                      rw [hi]
                      cases r1 with
                      | false => simp only [] at he; cases he; simp
                      | true =>
                        simp only [] at he
                        simp only [Result.andThen_ok, Bool.not_true, Bool.false_eq_true, if_false]
                        exact (ih w).2 fs l' xs ys xs' ys' r D hl he hx hy (by omega)

theorem aEq_agg {q : EqDesc} {xs : List AVal} {b : AVal} {r : Bool} (h : aEq q (.agg xs) b = some r) : ∃ fs ys, q = .fields fs ∧ b = .agg ys := by
  cases q <;> cases b <;> first | exact ⟨_, _, rfl, rfl⟩ | (simp [aEq] at h)
theorem aEq_int {q : EqDesc} {k : IntKind} {n : Int} {b : AVal} {r : Bool} (h : aEq q (.int k n) b = some r) : q = .int := by
  cases q <;> cases b <;> first | rfl | (simp [aEq] at h)
theorem aEq_str {q : EqDesc} {s : ByteArray} {b : AVal} {r : Bool} (h : aEq q (.str s) b = some r) : q = .str := by
  cases q <;> cases b <;> first | rfl | (simp [aEq] at h)
theorem aEq_niface {q : EqDesc} {b : AVal} {r : Bool} (h : aEq q .niface b = some r) : False := by
  cases q <;> cases b <;> simp [aEq] at h

theorem cEq_int {d : Nat} {t : TypeId} (h : cEq P d t = some .int) : ∃ k, P.underlying t = some (.int k) := by
  cases d with
  | zero => simp [cEq] at h
  | succ d =>
    unfold cEq at h
    cases hu : P.underlying t with
    | none => rw [hu] at h; cases h
    | some ds =>
      rw [hu] at h
      cases ds <;> simp only [] at h <;> try (cases h; done)
      all_goals first
        | exact ⟨_, rfl⟩
        | (split at h <;> cases h; done)
        | (split at h; cases h; split at h <;> cases h)
theorem cEq_str {d : Nat} {t : TypeId} (h : cEq P d t = some .str) : P.underlying t = some .string := by
  cases d with
  | zero => simp [cEq] at h
  | succ d =>
    unfold cEq at h
    cases hu : P.underlying t with
    | none => rw [hu] at h; cases h
    | some ds =>
      rw [hu] at h
      cases ds <;> simp only [] at h <;> try (cases h; done)
      all_goals first
        | rfl
        | (split at h <;> cases h; done)
        | (split at h; cases h; split at h <;> cases h)
theorem cEq_fields {d : Nat} {t : TypeId} {l : List (Option (Nat × Nat × EqDesc))} (h : cEq P d t = some (.fields l)) : P.eqGuardType P.depth t = false := by
  cases d with
  | zero => simp [cEq] at h
  | succ d =>
    unfold cEq at h
    cases hu : P.underlying t with
    | none => rw [hu] at h; cases h
    | some ds =>
      rw [hu] at h
      cases ds <;> simp only [] at h <;> try (cases h; done)
      · split at h <;> cases h
      split at h
      · cases h
      · rename_i hg; simp only [Bool.or_eq_true, not_or, Bool.not_eq_true] at hg; exact hg.2

def Value.other : Value → Bool
  | .int _ _ | .float _ _ | .complex _ _ _ | .string _ => false
  | _ => true
theorem binOp_eql_other {t : TypeId} {x y : Value} (h : Value.other x = true) : binOp .eql t x y = (do pure (.bool (← Op.equal t x y))) := by
  cases x <;> first | rfl | (simp [Value.other] at h)
theorem binOp_neq_other {t : TypeId} {x y : Value} (h : Value.other x = true) : binOp .neq t x y = (do pure (.bool (!(← Op.equal t x y)))) := by
  cases x <;> first | rfl | (simp [Value.other] at h)

/-- A comparison of values that are no integers and no strings. -/
theorem sim_eq {neg : Bool} {t : TypeId} {q : EqDesc} (hc : cEq P 60 t = some q) {av bv : AVal} {x y : Value} {r : Bool} {xo yo : Operand} (ha : emb m av = some x) (hb : emb m bv = some y) (he : aEq q av bv = some r)
    (hni : ∀ k, P.underlying t ≠ some (.int k)) (hns : P.underlying t ≠ some .string) :
    (do eqGuard (match neg with | true => .neq | false => .eql) t xo yo x y; binOp (match neg with | true => .neq | false => .eql) t x y : Sem Value).run P w = .ok (.bool (match neg with | true => !r | false => r)) w := by
  have heq := (sim_eqs (P := P) (m := m) 60 w).1 t q av bv r x y 10000 hc he ha hb (by decide)
  have hx : Value.other x = true ∧ (∀ op, (eqGuard op t xo yo x y).run P w = .ok () w) := by
    cases av with
    | int k n => exact absurd (cEq_int (by rw [aEq_int he] at hc; exact hc)) (fun ⟨k, hk⟩ => hni k hk)
    | str s => exact absurd (cEq_str (by rw [aEq_str he] at hc; exact hc)) hns
    | niface => exact (aEq_niface he).elim
    | agg cs =>
      obtain ⟨l, hl, rfl⟩ := emb_agg_some ha
      obtain ⟨fs, ys, rfl, rfl⟩ := aEq_agg he
      obtain ⟨l', hl', rfl⟩ := emb_agg_some hb
      exact ⟨rfl, fun op => run_eqGuard_agg w op t _ _ _ _ (cEq_fields hc)⟩
    | bool b => simp only [emb] at ha; cases ha; exact ⟨rfl, fun op => by cases op <;> rfl⟩
    | nptr => simp only [emb] at ha; cases ha; exact ⟨rfl, fun op => by cases op <;> rfl⟩
    | nslice => simp only [emb] at ha; cases ha; exact ⟨rfl, fun op => by cases op <;> rfl⟩
    | nfunc => simp only [emb] at ha; cases ha; exact ⟨rfl, fun op => by cases op <;> rfl⟩
    | ptr r off => obtain ⟨p, hp, rfl⟩ := emb_ptr_some ha; exact ⟨rfl, fun op => by cases op <;> rfl⟩
    | slice r off len cap sz => obtain ⟨p, hp, rfl⟩ := emb_slice_some ha; exact ⟨rfl, fun op => by cases op <;> rfl⟩
    | func fn a b => simp only [emb] at ha; split at ha <;> cases ha; exact ⟨rfl, fun op => by cases op <;> rfl⟩
    | iface t v => simp only [emb] at ha; split at ha <;> cases ha; exact ⟨rfl, fun op => by cases op <;> rfl⟩
    | tuple vs => simp only [emb] at ha; split at ha <;> cases ha; exact ⟨rfl, fun op => by cases op <;> rfl⟩
  simp only [Sem.run_bind, hx.2, Result.andThen_ok]
  cases neg
  · simp only []
    rw [binOp_eql_other hx.1]
    simp [Op.equal, Op.maxDepth, heq]
  · simp only []
    rw [binOp_neq_other hx.1]
    simp [Op.equal, Op.maxDepth, heq]
end
end Go.Am
