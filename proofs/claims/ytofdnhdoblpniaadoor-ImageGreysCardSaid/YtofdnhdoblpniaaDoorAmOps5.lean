/- make, append, copy, conversions. -/
import Derived.Test.YtofdnhdoblpniaaDoorAmOps4
set_option linter.unusedSimpArgs false
set_option linter.unusedVariables false
namespace Go.Am
open Go Go.RowKit

section
variable {P : Program} {S : Base} {m : RMap} {H H' : AHeap} {w : World}

theorem loadRange (h : HRel S m H w) {r off k : Nat} {cs : List AVal} {rw : Bool} {e : TypeId} {p : Addr × Nat} (hr : r < H.n) (hg : H.get r = .row cs rw e) (hp : m r = some p) (hk : off + k ≤ cs.length) :
    ∃ l, embL m ((cs.drop off).take k) = some l ∧ (loadCells (p.1.add off) k).run P w = .ok l.toArray w := by
  have hok := h.row r cs rw e p hr hg hp
  have hlen : ((cs.drop off).take k).length = k := by simp; omega
  have hex : ∃ l, embL m ((cs.drop off).take k) = some l ∧ l.length = k ∧ ∀ j v, l[j]? = some v → w.cell? ((p.1.add off).add j) = some v := by
    refine ⟨(List.range k).map fun j => ((w.cell? ((p.1.add off).add j)).getD undef), ?_, by simp, ?_⟩
    · refine embL_of_get (by simp; omega) fun i v hi => ?_
      have hin : i < k := by have := (List.getElem?_eq_some_iff.1 hi).1; omega
      have hcs : cs[off + i]? = some v := by
        rw [List.getElem?_take_of_lt hin, List.getElem?_drop] at hi; exact hi
      obtain ⟨y, hy, hcell⟩ := hok.cell _ _ hcs
      exact ⟨y, hy, by simp [hin, add_add, hcell]⟩
    · intro j v hj
      have hjn : j < k := by have := (List.getElem?_eq_some_iff.1 hj).1; simpa using this
      obtain ⟨u, hu⟩ : ∃ u, cs[off + j]? = some u := ⟨cs[off + j], List.getElem?_eq_getElem (by omega)⟩
      obtain ⟨y, hy, hcell⟩ := hok.cell _ _ hu
      simp [hjn, add_add, hcell] at hj
      subst hj
      rw [add_add]; exact hcell
  obtain ⟨l, hl, hln, hcl⟩ := hex
  have hrun := run_loadCells_list (P := P) w (p.1.add off) l hcl
  rw [hln] at hrun
  exact ⟨l, hl, hrun⟩

theorem emb_map_bytes (l : List UInt8) : embL m (l.map fun b => AVal.int .u8 b.toNat) = some (l.map fun b => Value.int .u8 b.toNat) := by
  induction l with
  | nil => simp [embL]
  | cons a l ih => exact embL_mk (emb_int_mk _ _) ih

theorem sim_first {sz n : Nat} {xv : AVal} {x : Value} {new : List AVal} (ha : emb m xv = some x) (hx : aFirst sz n xv H = some (new, H')) :
    H' = H ∧ ∀ w, HRel S m H w → ∃ arr : Array Value, (Builtin.firstCells sz n x).run P w = .ok arr w ∧ embL m new = some arr.toList := by
  cases xv <;> simp only [aFirst] at hx <;> try exact (fail_some hx).elim
  · rename_i s
    obtain ⟨rfl, rfl⟩ := pure_some hx
    simp only [emb] at ha; cases ha
    refine ⟨rfl, fun w _ => ⟨_, rfl, ?_⟩⟩
    rw [Array.toList_map]
    exact emb_map_bytes _
  · obtain ⟨rfl, rfl⟩ := pure_some hx
    simp only [emb] at ha; cases ha
    exact ⟨rfl, fun w _ => ⟨#[], rfl, by simp [embL]⟩⟩
  · obtain ⟨p, hp, rfl⟩ := emb_slice_some ha
    split at hx
    · exact (fail_some hx).elim
    rename_i hs
    simp only [ne_eq, Decidable.not_not] at hs; subst hs
    obtain ⟨⟨cs, rw⟩, H1, h1, h2⟩ := bind_some hx
    obtain ⟨rfl, hr, e, hg⟩ := aRow_some h1
    split at h2
    · rename_i hle
      obtain ⟨rfl, rfl⟩ := pure_some h2
      refine ⟨rfl, fun w h => ?_⟩
      obtain ⟨l, hl, hrun⟩ := loadRange (P := P) h hr hg hp hle
      exact ⟨l.toArray, hrun, by simpa using hl⟩
    · exact (fail_some h2).elim

theorem sim_lenOf {av : AVal} {x : Value} {n : Nat} (ha : emb m av = some x) (hx : aLenOf av = some n) : (Builtin.lenOf x).run P w = .ok n w := by
  cases av <;> simp only [aLenOf] at hx <;> try (cases hx; done)
  · simp only [emb] at ha; cases ha; cases hx; rfl
  · simp only [emb] at ha; cases ha; cases hx; rfl
  · obtain ⟨p, hp, rfl⟩ := emb_slice_some ha; cases hx; rfl

theorem growBy_le (newLen : Nat) : ∀ (rounds c : Nat), 256 ≤ c → c ≤ 2 * newLen → Builtin.growBy newLen rounds c ≤ 2 * newLen
  | 0, c, _, h => by simpa [Builtin.growBy] using h
  | r + 1, c, h1, h2 => by
    simp only [Builtin.growBy]
    split
    · exact h2
    · exact growBy_le newLen r _ (by omega) (by omega)
theorem nextslicecap_le {newLen oldCap : Nat} (h : oldCap < newLen) : Builtin.nextslicecap newLen oldCap ≤ 2 * newLen := by
  unfold Builtin.nextslicecap
  split
  · omega
  · split
    · omega
    · exact growBy_le _ _ _ (by omega) (by omega)

theorem run_chooseCap {need old : Nat} {e : TypeId} (w : World) : ∃ c, need ≤ c ∧ (choose (.appendCap need old e)).run P w = .ok c w.drew := by
  refine ⟨_, ?_, by rw [run_choose]; simp [Question.forced]; exact rfl⟩
  simp [Question.cut]

theorem zeroCells_length (z : Array Value) (n : Nat) : (Builtin.zeroCells z n).size = n * z.size := by simp [Builtin.zeroCells]

/-- What an append that moves lays. -/
theorem run_append_grow {t t' ty e : TypeId} {sz bytes n sLen sCap : Nat} {z : List AVal} {d' : TypeDesc} (hu : P.underlying t = some (.slice e)) (hu' : P.underlying t' = some d') (hnt : ∀ k, d' ≠ .int k) (hs : cSize P e = some sz) (hb : cBytes P e = some bytes) (hz : cZero P e = some z) (hzl : z.length = sz)
    (_hsz : 0 < sz) (hbytes : 0 < bytes) {base : Option Addr} {x : Value} (hn : ∀ w, (Builtin.lenOf x).run P w = .ok n w) (hgrow : sCap < sLen + n) (hroom : 2 * (sLen + n) * bytes ≤ 2 ^ 48)
    {old new : Array Value} (hold : (Builtin.firstCells sz sLen (.slice base sLen sCap)).run P w.drew = .ok old w.drew) (hnew : (Builtin.firstCells sz n x).run P w.drew = .ok new w.drew) :
    ∃ (newCap : Nat) (rest : List Value), sLen + n ≤ newCap ∧ rest.length = (newCap - (sLen + n)) * sz ∧
      (Builtin.append_ #[t, t'] ty #[.slice base sLen sCap, x]).run P w = .ok (.slice (some ⟨w.heap.size, 0, none⟩) (sLen + n) newCap) (w.drew.alloc (.cells (old ++ new ++ rest.toArray) e)) := by
  obtain ⟨c, hc, hrun⟩ := run_chooseCap (P := P) (need := sLen + n) (old := sCap) (e := e) w
  obtain ⟨v, hv, hz'⟩ := cZero_some hz w.drew
  have hvs : v.cells.size = sz := by have := embL_length (hz' fun _ => none); simp at this; omega
  refine ⟨c, (Builtin.zeroCells v.cells (c - (sLen + n))).toList, hc, by simp [zeroCells_length, hvs], ?_⟩
  have hti : ∃ i, P.info? e = some i ∧ i.bytes = bytes := by
    unfold cBytes at hb
    cases hi : P.info? e with
    | none => rw [hi] at hb; cases hb
    | some i => rw [hi] at hb; exact ⟨i, rfl, by simpa using hb⟩
  obtain ⟨i, hi, hib⟩ := hti
  have hrti : ∀ w, (typeInfo e).run P w = .ok i w := fun w => by simp [typeInfo, hi]
  have hnc : Builtin.nextslicecap (sLen + n) sCap * bytes ≤ 2 ^ 48 := by
    have := nextslicecap_le hgrow
    exact Nat.le_trans (Nat.mul_le_mul_right _ this) hroom
  have hlhs : (Builtin.append_ #[t, t'] ty #[.slice base sLen sCap, x]).run P w = .ok (.slice (some ⟨w.heap.size, 0, none⟩) (sLen + n) c) (w.drew.alloc (.cells (old ++ new ++ (Builtin.zeroCells v.cells (c - (sLen + n)))) e)) := by
    unfold Builtin.append_
    simp only [List.getElem?_toArray, List.getElem?_cons_zero, List.getElem?_cons_succ, Sem.run_bind, run_underlying hu, Result.andThen_ok, run_sizeOf hs, run_underlying hu', Sem.run_pure]
    simp only [Bool.false_eq_true, if_false, Sem.run_bind, hn, Result.andThen_ok]
    rw [if_neg (by omega)]
    simp only [Sem.run_bind, hrti, Result.andThen_ok, hib]
    rw [if_neg (by intro hh; have := hh.2; simp at this; omega)]
    simp only [Sem.run_bind, hrti, Result.andThen_ok, hib]
    rw [if_neg (by omega)]
    simp only [Sem.run_bind, hrun, hrti, Result.andThen_ok, run_askRoom, hold, hnew, Bool.not_false, if_true, hv]
    simp [newRow]
    rfl
  simpa using hlhs

theorem run_append_fits {t t' ty e : TypeId} {sz n sLen sCap : Nat} {d' : TypeDesc} (hu : P.underlying t = some (.slice e)) (hu' : P.underlying t' = some d') (hnt : ∀ k, d' ≠ .int k) (hs : cSize P e = some sz)
    {base : Option Addr} {x : Value} (hn : ∀ w, (Builtin.lenOf x).run P w = .ok n w) (hfit : sLen + n ≤ sCap) {new : Array Value} (hnew : (Builtin.firstCells sz n x).run P w = .ok new w) {w' : World}
    (hst : (match base with | some a => (storeCells (a.add (sLen * sz)) new.toList).run P w = .ok () w' | none => w' = w)) :
    (Builtin.append_ #[t, t'] ty #[.slice base sLen sCap, x]).run P w = .ok (.slice base (sLen + n) sCap) w' := by
  unfold Builtin.append_
  simp only [List.getElem?_toArray, List.getElem?_cons_zero, List.getElem?_cons_succ, Sem.run_bind, run_underlying hu, Result.andThen_ok, run_sizeOf hs, run_underlying hu', Sem.run_pure]
  simp only [Bool.false_eq_true, if_false, Sem.run_bind, hn, Result.andThen_ok]
  rw [if_pos hfit]
  simp only [Sem.run_bind, Bool.not_false, if_true, hnew, Result.andThen_ok]
  cases base with
  | some a => simp only [] at hst; simp [hst]
  | none => simp only [] at hst; subst hst; simp

theorem sim_append {t t' ty e : TypeId} {sz bytes : Nat} {z : List AVal} {d' : TypeDesc} (hu : P.underlying t = some (.slice e)) (hu' : P.underlying t' = some d') (hnt : ∀ k, d' ≠ .int k) (hs : cSize P e = some sz) (hb : cBytes P e = some bytes) (hz : cZero P e = some z) (hzl : z.length = sz)
    {av bv u : AVal} {x y : Value} (ha : emb m av = some x) (hbv : emb m bv = some y) (h : HRel S m H w) (hx : aAppend e sz bytes av bv H = some (u, H')) :
    ∃ v w', (Builtin.append_ #[t, t'] ty #[x, y]).run P w = .ok v w' ∧ Out S m u H' v w' := by
  unfold aAppend at hx
  cases hn : aLenOf bv with
  | none => rw [hn] at hx; exact (fail_some hx).elim
  | some n =>
    rw [hn] at hx
    simp only [] at hx
    obtain ⟨new, H1, h1, h2⟩ := bind_some hx
    obtain ⟨rfl, hfirst⟩ := sim_first (S := S) (P := P) hbv h1
    have hlen : ∀ w, (Builtin.lenOf y).run P w = .ok n w := fun w => sim_lenOf hbv hn
    split at h2
    · exact (fail_some h2).elim
    rename_i hcond
    simp only [Bool.or_eq_true, Bool.not_eq_true', decide_eq_true_eq, not_or, Bool.not_eq_false, ne_eq, Decidable.not_not] at hcond
    obtain ⟨⟨⟨hone, hnl⟩, hsz0⟩, hby0⟩ := hcond
    have hsz : 0 < sz := Nat.pos_of_ne_zero hsz0
    have hbytes : 0 < bytes := Nat.pos_of_ne_zero hby0
    cases av <;> simp only [] at h2 <;> try exact (fail_some h2).elim
    · -- nil
      simp only [emb] at ha; cases ha
      split at h2
      · rename_i hn0; subst hn0
        obtain ⟨rfl, rfl⟩ := pure_some h2
        obtain ⟨arr, hf, he⟩ := hfirst w h
        exact ⟨_, w, run_append_fits hu hu' hnt hs hlen (Nat.le_refl _) hf rfl, Out.same h (by simp [emb])⟩
      · rename_i hn0
        split at h2
        · rename_i hroom
          obtain ⟨r, H2, h3, h4⟩ := bind_some h2
          obtain ⟨rfl, rfl⟩ := aNew_some h3
          obtain ⟨rfl, rfl⟩ := pure_some h4
          obtain ⟨arr, hf, he⟩ := hfirst w.drew h.drew
          obtain ⟨c, rest, hc, hrl, hrun⟩ := run_append_grow (ty := ty) (base := none) (sLen := 0) (sCap := 0) (old := #[]) hu hu' hnt hs hb hz hzl hsz hbytes hlen (by omega) (by simpa using hroom) rfl hf
          have hal := embL_length he
          have hout := out_newSlice h.drew he rest e n sz none c (by
            simp only [capR, List.length_append, hal, hnl, hrl]
            rw [← Nat.add_mul, Nat.mul_div_cancel _ hsz]; omega)
          refine ⟨_, _, hrun, ?_⟩
          have e2 : #[] ++ arr ++ rest.toArray = (arr.toList ++ rest).toArray := by apply Array.ext'; simp
          rw [e2]
          simpa using hout
        · exact (fail_some h2).elim
    · -- a slice
      rename_i r off len cap s'
      obtain ⟨p, hp, rfl⟩ := emb_slice_some ha
      split at h2
      · exact (fail_some h2).elim
      rename_i hs'
      simp only [ne_eq, Decidable.not_not] at hs'; subst hs'
      obtain ⟨⟨cs, rw⟩, H2, h3, h4⟩ := bind_some h2
      obtain ⟨rfl, hr, e', hg⟩ := aRow_some h3
      have hok := h.row r cs rw e' p hr hg hp
      have hlc := hok.len
      simp only [] at h4 hg
      -- growth
      have grow : ∀ (rc : Nat), rc < len + n → off + len * s' ≤ cs.length → 2 * (len + n) * bytes ≤ 2 ^ 48 →
          ∃ w', (∃ v, (Builtin.append_ #[t, t'] ty #[.slice (some (p.1.add off)) len rc, y]).run P w = .ok v w' ∧ Out S m (.slice H2.n 0 (len + n) none s') (H2.push (.row ((cs.drop off).take (len * s') ++ new) true (2 * e))) v w') ∧
            (∀ r0, ∃ v, (Builtin.append_ #[t, t'] ty #[.slice (some (p.1.add off)) len rc, y]).run P w = .ok v w' ∧ Out S m (.slice H2.n 0 (len + n) none s') ((H2.set r0 .dead).push (.row ((cs.drop off).take (len * s') ++ new) true (2 * e + 1))) v w') := by
        intro rc hrc hle hroom
        obtain ⟨arr, hf, he⟩ := hfirst w.drew h.drew
        obtain ⟨l, hl, hload⟩ := loadRange (P := P) h.drew hr hg hp hle
        obtain ⟨c, rest, hc, hrl, hrun⟩ := run_append_grow (ty := ty) (base := some (p.1.add off)) (sLen := len) (sCap := rc) (old := l.toArray) hu hu' hnt hs hb hz hzl hsz hbytes hlen hrc hroom hload hf
        have hall := embL_length hl
        have hal := embL_length he
        have hl2 : ((cs.drop off).take (len * s')).length = len * s' := by simp; omega
        have hcap : capR none ((l ++ arr.toList ++ rest).length / s') = c := by
          simp only [capR, List.length_append, hall, hl2, hal, hnl, hrl]
          rw [← Nat.add_mul, ← Nat.add_mul, Nat.mul_div_cancel _ hsz]; omega
        refine ⟨_, ⟨_, hrun, ?_⟩, fun r0 => ⟨_, hrun, ?_⟩⟩
        · have hout := out_newSlice h.drew (embL_append hl he) rest e (len + n) s' none c hcap
          rw [show l.toArray ++ arr ++ rest.toArray = (l ++ arr.toList ++ rest).toArray from by apply Array.ext'; simp]
          exact hout
        · obtain ⟨m2, ho1, ho2, ho3⟩ := out_newSlice (h.drew.kill r0) (embL_append hl he) rest e (len + n) s' none c hcap
          rw [show l.toArray ++ arr ++ rest.toArray = (l ++ arr.toList ++ rest).toArray from by apply Array.ext'; simp]
          exact ⟨m2, ho1, ho2, ho3.retag⟩
      split at h4
      · -- nothing
        rename_i hn0; subst hn0
        obtain ⟨arr, hf, he⟩ := hfirst w h
        have hnil : new = [] := List.eq_nil_of_length_eq_zero (by omega)
        subst hnil
        have harr : arr.toList = [] := by simp [embL] at he; exact he.symm ▸ rfl
        have hst : (storeCells ((p.1.add off).add (len * s')) arr.toList).run P w = .ok () w := by rw [harr]; simp [storeCells]
        cases cap with
        | some c =>
          simp only [] at h4
          split at h4
          · rename_i hle
            obtain ⟨rfl, rfl⟩ := pure_some h4
            exact ⟨_, w, run_append_fits hu hu' hnt hs hlen (by simpa [capR] using hle) hf hst, Out.same h (by rw [emb_slice_mk hp]; simp)⟩
          · exact (fail_some h4).elim
        | none =>
          simp only [] at h4
          split at h4
          · rename_i hle
            obtain ⟨rfl, rfl⟩ := pure_some h4
            have : len ≤ (p.2 - off) / s' := by rw [Nat.le_div_iff_mul_le hsz]; omega
            exact ⟨_, w, run_append_fits hu hu' hnt hs hlen (by simpa [capR] using this) hf hst, Out.same h (by rw [emb_slice_mk hp]; simp)⟩
          · exact (fail_some h4).elim
      · rename_i hn0
        cases cap with
        | some c =>
          simp only [] at h4
          split at h4
          · rename_i hfit
            obtain ⟨q, H3, h5, h6⟩ := bind_some h4
            obtain ⟨rfl, rfl⟩ := pure_some h6
            obtain ⟨arr, hf, he⟩ := hfirst w h
            obtain ⟨w', hst, hrel⟩ := sim_write (P := P) (a := (p.1.add off).add (len * s')) h h5 hp he (by rw [add_add])
            exact ⟨_, w', run_append_fits hu hu' hnt hs hlen (by simpa [capR] using hfit) hf hst, m, Le.refl _, by rw [emb_slice_mk hp], hrel⟩
          · rename_i hfit
            split at h4
            · rename_i hroom
              obtain ⟨r', H3, h5, h6⟩ := bind_some h4
              obtain ⟨rfl, rfl⟩ := aNew_some h5
              obtain ⟨rfl, rfl⟩ := pure_some h6
              obtain ⟨w', ⟨v, hv⟩, _⟩ := grow c (by omega) hroom.1 hroom.2
              exact ⟨v, w', hv⟩
            · exact (fail_some h4).elim
        | none =>
          simp only [] at h4
          split at h4
          · rename_i hfit
            obtain ⟨q, H3, h5, h6⟩ := bind_some h4
            obtain ⟨rfl, rfl⟩ := pure_some h6
            obtain ⟨arr, hf, he⟩ := hfirst w h
            obtain ⟨w', hst, hrel⟩ := sim_write (P := P) (a := (p.1.add off).add (len * s')) h h5 hp he (by rw [add_add])
            have : len + n ≤ (p.2 - off) / s' := by rw [Nat.le_div_iff_mul_le hsz]; omega
            exact ⟨_, w', run_append_fits hu hu' hnt hs hlen (by simpa [capR] using this) hf hst, m, Le.refl _, by rw [emb_slice_mk hp], hrel⟩
          · rename_i hfit
            by_cases hcond : (rw && decide (off + len * s' ≤ cs.length) && decide (2 * (len + n) * bytes ≤ 2 ^ 48)) = true
            · rw [if_pos hcond] at h4
              simp only [Bool.and_eq_true, decide_eq_true_eq] at hcond
              obtain ⟨⟨rfl, hle⟩, hroom⟩ := hcond
              obtain ⟨r', H3, h5, h6⟩ := bind_some h4
              obtain ⟨rfl, rfl⟩ := pure_some h6
              unfold aMove at h5
              rw [hg] at h5
              simp only [] at h5
              cases hbe : Nat.beq (e' / 2) e with
              | false => rw [hbe] at h5; cases h5
              | true =>
              rw [hbe] at h5
              have := Nat.eq_of_beq_eq_true hbe
              subst this
              cases h5
              by_cases hreal : len + n ≤ (p.2 - off) / s'
              · -- in place, beyond what the row was
                obtain ⟨arr, hf, he⟩ := hfirst w h
                have hmv := h.move hr hg hp hle
                have hcells : (len + n) * s' ≤ p.2 - off := by rwa [Nat.le_div_iff_mul_le hsz] at hreal
                have hl2 : ((cs.drop off).take (len * s')).length = len * s' := by simp; omega
                obtain ⟨w', hst, hrel⟩ := run_extCells (P := P) new arr.toList _ w H2.n ((cs.drop off).take (len * s')) (2 * (e' / 2) + 1) (p.1.add off, p.2 - off) ((p.1.add off).add (len * s')) 0 hmv (by simp [AHeap.push, AHeap.set]) (by exact push_get_eq) add_eq
                  (by rw [hl2, hnl, ← Nat.add_mul]; exact hcells) (embL_mono (le_add _ (h.fresh _ (Nat.le_refl _))) _ _ he) hone (fun j => by simp only [add_add, hl2]; congr 1; omega)
                refine ⟨_, w', run_append_fits hu hu' hnt hs hlen (by simpa [capR] using hreal) hf hst, m.add H2.n (p.1.add off, p.2 - off), le_add _ (h.fresh _ (Nat.le_refl _)), ?_, ?_⟩
                · rw [emb_slice_mk add_eq]
                  simp [capR, Addr.add_zero']
                · have e3 : ((H2.set r .dead).push (.row ((cs.drop off).take (len * s')) true (2 * (e' / 2) + 1))).set H2.n (.row ((cs.drop off).take (len * s') ++ new) true (2 * (e' / 2) + 1)) = (H2.set r .dead).push (.row ((cs.drop off).take (len * s') ++ new) true (2 * (e' / 2) + 1)) := by
                    simp only [AHeap.push, AHeap.set, AHeap.mk.injEq, true_and]
                    funext i
                    cases Nat.beq i H2.n <;> rfl
                  rw [e3] at hrel; exact hrel
              · obtain ⟨w', _, hh⟩ := grow ((p.2 - off) / s') (by omega) hle hroom
                obtain ⟨v, hv1, hv2⟩ := hh r
                exact ⟨v, w', by simpa [capR] using hv1, hv2⟩
            · rw [if_neg hcond] at h4; exact (fail_some h4).elim
end
end Go.Am
