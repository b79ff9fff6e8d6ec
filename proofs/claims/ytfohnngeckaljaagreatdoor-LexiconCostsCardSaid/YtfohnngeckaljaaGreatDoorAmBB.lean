import Derived.Test.YtfohnngeckaljaaGreatDoorAmBA
import Derived.MapKept
import Derived.RangeFuncRecord
import Derived.Scope
import Derived.LoopNIn
import Derived.Orders
import Derived.OrdersIn
import Derived.WideMake
set_option linter.unusedSimpArgs false
set_option linter.unusedVariables false
namespace Go.Am
open Go Go.RowKit
section
variable {P : Program} {S : Base} {m : RMap} {H H' : AHeap} {w w' : World}
theorem HRel.kept (h : HRel S m H w) (hb : Below w.heap.size w w') : HRel S m H w' := by
  have hB : Below S.B S.W0 w' := h.below.trans (hb.mono h.size)
  refine ⟨hB, Nat.le_trans h.size hb.size, h.glob, h.fresh, h.away, fun r cs rw e p hr hg hp => ?_, h.apart, h.loops.move (Le.refl _) (fun b o _ e => by rw [hb.block _ (Array.getElem?_eq_some_iff.1 e).1]; exact e) fun _ _ _ _ a b c => ⟨a, b, c⟩⟩
  have hok := h.row r cs rw e p hr hg hp
  refine ⟨fun i v hi => ?_, hok.len, fun hrw => ⟨⟨(hok.own hrw).1.1, ?_⟩, fun i hi => ?_⟩⟩
  · obtain ⟨x, h1, h2⟩ := hok.cell i v hi
    exact ⟨x, h1, by rw [hb.cell (cell_lt h2)]; exact h2⟩
  · obtain ⟨c, fz, hh, hrest⟩ := (hok.own hrw).1.2
    exact ⟨c, fz, by rw [hb.block _ (Array.getElem?_eq_some_iff.1 hh).1]; exact hh, hrest⟩
  · obtain ⟨h1, h2⟩ := (hok.own hrw).2 i hi
    obtain ⟨u, hu⟩ := Option.isSome_iff_exists.1 h1
    have hlt := cell_lt hu
    rw [hb.cell hlt, hb.frozen hlt]
    exact ⟨h1, h2⟩
theorem cZeroV_some {t : TypeId} {z : AVal} (h : cZeroV P t = some z) (w : World) : ∃ v, (zeroValue t).run P w = .ok v w ∧ ∀ m, emb m z = some v := by
  unfold cZeroV at h
  split at h
  · rename_i i hi
    split at h
    · rename_i v hv
      exact ⟨v, by simp [zeroValue, typeInfo, hi, hv], fun m => ofV_emb m v z h⟩
    · cases h
  · cases h
theorem run_checkKeys (em : Bool) (w : World) (d : Nat) :
    (∀ (t : TypeId) (q : EqDesc) (a : AVal) (x : Value) (D : Nat), cEq P d t = some q → cKey P d t = true → aEq q a a = some true → emb m a = some x → d ≤ D → (Instr.checkKey em D t x).run P w = .ok () w) ∧
    (∀ (fs : List Field) (l : List (Option (Nat × Nat × EqDesc))) (xs : List AVal) (xs' : List Value) (D : Nat), cEqs P d fs = some l → cKeys P d fs = true → aEqs l xs xs = some true → embL m xs = some xs' → d ≤ D →
      (forIn (m := Sem) fs PUnit.unit fun f _ => do
        if f.name ≠ "_" then Instr.checkKey em D f.type (← part f.type xs'.toArray f.offset)
        pure (ForInStep.yield PUnit.unit)).run P w = .ok PUnit.unit w) := by
  induction d with
  | zero => exact ⟨fun t q a x D h => by simp [cEq] at h, fun fs l xs xs' D h => by simp [cEqs] at h⟩
  | succ d ih =>
    constructor
    · intro t q a x D hc hk he hx hD
      obtain ⟨D', rfl⟩ : ∃ D', D = D' + 1 := ⟨D - 1, by omega⟩
      unfold cEq at hc
      unfold cKey at hk
      cases hu : P.underlying t with
      | none => rw [hu] at hc; cases hc
      | some ds =>
        rw [hu] at hc hk
        cases ds <;> simp only [] at hc hk <;> try (cases hc; done)
        case bool =>
          cases hc
          cases a <;> simp only [aEq] at he <;> try (cases he; done)
          simp only [emb] at hx; cases hx
          simp [Instr.checkKey, run_underlying hu]
        case int k =>
          cases hc
          cases a <;> simp only [aEq] at he <;> try (cases he; done)
          simp only [emb] at hx; cases hx
          simp [Instr.checkKey, run_underlying hu]
        case string =>
          cases hc
          cases a <;> simp only [aEq] at he <;> try (cases he; done)
          simp only [emb] at hx; cases hx
          simp [Instr.checkKey, run_underlying hu]
        case struct fs =>
          split at hc
          · cases hc
          cases hl : cEqs P d fs.toList with
          | none => rw [hl] at hc; cases hc
          | some l =>
            rw [hl] at hc; cases hc
            cases a <;> simp only [aEq] at he <;> try (cases he; done)
            obtain ⟨xs', hx1, rfl⟩ := emb_agg_some hx
            have := ih.2 fs.toList l _ xs' D' hl hk he hx1 (by omega)
            rw [Instr.checkKey]
            simp only [Sem.run_bind, run_underlying hu, Result.andThen_ok]
            rw [← Array.forIn_toList]
            have h2 := this
            simp only [] at h2
            refine (congrArg (fun r => Result.andThen r fun _ w' => Result.ok () w') h2).trans ?_
            rfl
        all_goals (first | (cases hk; done) | (split at hc <;> cases hc; done))
    · intro fs l xs xs' D hc hk he hx hD
      cases fs with
      | nil => simp
      | cons f fs =>
        unfold cEqs at hc
        unfold cKeys at hk
        simp only [Bool.and_eq_true, Bool.or_eq_true, decide_eq_true_eq] at hk
        split at hc
        · rename_i hn
          cases hl : cEqs P d fs with
          | none => rw [hl] at hc; cases hc
          | some l' =>
            rw [hl] at hc; cases hc
            simp only [aEqs] at he
            have := ih.2 fs l' xs xs' D hl hk.2 he hx (by omega)
            simp only [List.forIn_cons, hn, ne_eq, not_true_eq_false, if_false, Sem.run_bind, Sem.run_pure, Result.andThen_ok]
            exact this
        · rename_i hn
          cases hq : cEq P d f.type with
          | none => rw [hq] at hc; cases hc
          | some q =>
            cases hg : cAgg P f.type with
            | none => rw [hq, hg] at hc; cases hc
            | some g =>
              cases hl : cEqs P d fs with
              | none => rw [hq, hg, hl] at hc; cases hc
              | some l' =>
                rw [hq, hg, hl] at hc
                simp only [] at hc
                split at hc
                · cases hc
                rename_i hg0
                cases hc
                simp only [aEqs] at he
                cases ha : aPart (aggN g) xs f.offset with
                | none => rw [ha] at he; cases he
                | some a =>
                  rw [ha] at he
                  simp only [] at he
                  obtain ⟨x, hx1, hx2⟩ := sim_aPart (P := P) (w := w) hg (fun e => hg0 (by rw [e])) hx ha
                  cases hr : aEq q a a with
                  | none => rw [hr] at he; cases he
                  | some r1 =>
                    rw [hr] at he
                    cases r1 with
                    | false => simp only [] at he; cases he
                    | true =>
                      simp only [] at he
                      have h1 := ih.1 f.type q a x D hq (hk.1.resolve_left hn) hr hx2 (by omega)
                      have := ih.2 fs l' xs xs' D hl hk.2 he hx (by omega)
                      simp only [List.forIn_cons, ne_eq, hn, not_false_eq_true, if_true, Sem.run_bind, hx1, h1, Result.andThen_ok, Sem.run_pure]
                      exact this
theorem sameNow_equal {t : TypeId} {d : TypeDesc} (hd : P.underlying t = some d) {x y : Value} {b : Bool} (h : Instr.sameNow d x y = some b) (w : World) : (Op.equal t x y).run P w = .ok b w := by
  unfold Instr.sameNow at h
  split at h
  · split at h
    · rename_i k a k' b' hk; subst hk; cases h
      exact run_equalIn_int w 9999 t _ _ _ _ hd
    · cases h
  · cases h
    rw [show (Op.equal t _ _ : Sem Bool) = Op.equalIn (9999 + 1) t _ _ from rfl, run_equalIn_string w 9999 t _ _ hd, beq_toListBytes]
  · cases h
    exact run_equalIn_bool' w 9999 t _ _ hd
  · cases h
theorem findNow_asking {t : TypeId} {d : TypeDesc} (hd : P.underlying t = some d) {x : Value} (w : World) : ∀ (es : List MapEntry) (i : Nat) (r : Option (Nat × Value)), Instr.findNow d x es i = some r → (Instr.findAsking t x es i).run P w = .ok r w
  | [], i, r, h => by simp only [Instr.findNow] at h; cases h; simp [Instr.findAsking]
  | e :: es, i, r, h => by
    simp only [Instr.findNow] at h
    cases hs : Instr.sameNow d x e.key with
    | none => rw [hs] at h; cases h
    | some b =>
      rw [hs] at h
      have he := sameNow_equal hd hs w
      cases b with
      | true => simp only [] at h; cases h; simp [Instr.findAsking, he]
      | false => simp only [] at h; simp [Instr.findAsking, he, findNow_asking hd w es (i + 1) r h]
theorem findKey_asking {t : TypeId} {d : TypeDesc} (hd : P.underlying t = some d) {x : Value} {w : World} {es : List MapEntry} {r : Option (Nat × Value)} (h : (Instr.findAsking t x es 0).run P w = .ok r w) : (Instr.findKey t x es).run P w = .ok r w := by
  cases hn : Instr.findNow d x es 0 with
  | none => simp [Instr.findKey, run_underlying hd, hn, h]
  | some r' =>
    have := findNow_asking hd w es 0 r' hn
    rw [h] at this
    cases this
    simp [Instr.findKey, run_underlying hd, hn]
theorem asks {t : TypeId} {x : Value} {f : Option AVal} : ∀ (l : List MapEntry) (i : Nat), (∀ en ∈ l, ∃ b : Bool, (Op.equal t x en.key).run P w = .ok b w ∧ (b = true → ∃ v, f = some v ∧ emb m v = some en.val)) →
    (∃ j v y, (Instr.findAsking t x l i).run P w = .ok (some (j, y)) w ∧ f = some v ∧ emb m v = some y) ∨ ((Instr.findAsking t x l i).run P w = .ok none w ∧ ∀ en ∈ l, (Op.equal t x en.key).run P w = .ok false w)
  | [], i, _ => Or.inr ⟨by simp [Instr.findAsking], by simp⟩
  | e :: l, i, h => by
    obtain ⟨b, hb, hv⟩ := h e (by simp)
    cases b with
    | true =>
      obtain ⟨v, h1, h2⟩ := hv rfl
      exact Or.inl ⟨i, v, e.val, by simp [Instr.findAsking, hb], h1, h2⟩
    | false =>
      rcases asks l (i + 1) (fun en hen => h en (by simp [hen])) with ⟨j, v, y, h1, h2, h3⟩ | ⟨h1, h2⟩
      · exact Or.inl ⟨j, v, y, by simp [Instr.findAsking, hb, h1], h2, h3⟩
      · refine Or.inr ⟨by simp [Instr.findAsking, hb, h1], fun en hen => ?_⟩
        rcases List.mem_cons.1 hen with rfl | hen
        · exact hb
        · exact h2 en hen
theorem aFind_spec {d : EqDesc} {k : AVal} : ∀ {es : List (AVal × AVal)} {f : Option AVal}, aFind d k es = some f → (∀ a ∈ es, ∃ b : Bool, aEq d k a.1 = some b ∧ (b = true → f = some a.2)) ∧ (∀ v, f = some v → ∃ a ∈ es, aEq d k a.1 = some true)
  | [], f, h => by simp only [aFind] at h; cases h; exact ⟨by simp, fun v e => by cases e⟩
  | e :: es, f, h => by
    simp only [aFind] at h
    cases he : aEq d k e.1 with
    | none => rw [he] at h; cases h
    | some b =>
      rw [he] at h
      cases hr : aFind d k es with
      | none => rw [hr] at h; cases b <;> cases h
      | some g =>
        rw [hr] at h
        obtain ⟨h1, h2⟩ := aFind_spec hr
        cases b with
        | true =>
          cases g with
          | some _ => cases h
          | none =>
            simp only [] at h; cases h
            refine ⟨fun a ha => ?_, fun v _ => ⟨e, by simp, he⟩⟩
            rcases List.mem_cons.1 ha with rfl | ha
            · exact ⟨true, he, fun _ => rfl⟩
            · obtain ⟨b, hb, hf⟩ := h1 a ha
              cases b with
              | true => cases hf rfl
              | false => exact ⟨false, hb, fun e => by cases e⟩
        | false =>
          simp only [] at h; cases h
          refine ⟨fun a ha => ?_, fun v hv => ?_⟩
          · rcases List.mem_cons.1 ha with rfl | ha
            · exact ⟨false, he, fun e => by cases e⟩
            · exact h1 a ha
          · obtain ⟨a, ha, hb⟩ := h2 v hv
            exact ⟨a, by simp [ha], hb⟩
theorem ents_mem {es : List (AVal × AVal)} : ∀ {l : List (Value × Value)}, embE m es = some l →
    (∀ p ∈ l, ∃ a ∈ es, emb m a.1 = some p.1 ∧ emb m a.2 = some p.2) ∧ (∀ a ∈ es, ∃ p ∈ l, emb m a.1 = some p.1 ∧ emb m a.2 = some p.2) := by
  induction es with
  | nil => intro l h1; simp [embE] at h1; subst h1; exact ⟨by simp, by simp⟩
  | cons e es ih =>
    intro l h1
    obtain ⟨x, y, xs, a1, b1, a2, rfl⟩ := embE_cons h1
    obtain ⟨i1, i2⟩ := ih a2
    refine ⟨fun p hp => ?_, fun a ha => ?_⟩
    · rcases List.mem_cons.1 (by simpa using hp) with rfl | hp
      · exact ⟨e, by simp, a1, b1⟩
      · obtain ⟨a, ha, h⟩ := i1 p hp
        exact ⟨a, by simp [ha], h⟩
    · rcases List.mem_cons.1 ha with rfl | ha
      · exact ⟨(x, y), by simp, a1, b1⟩
      · obtain ⟨p, hp, h⟩ := i2 a ha
        exact ⟨p, by simp [hp], h⟩
theorem emb_found {z : AVal} {ok : Bool} {f : Option AVal} {y : Value} (h : emb m (f.getD z) = some y) : emb m (aFound z ok f) = some (if ok then .tuple #[y, .bool f.isSome] else y) := by
  cases ok
  · exact h
  · simp [aFound, emb, embL, h]
theorem sim_lookup {t kt e : TypeId} {d : EqDesc} {z : AVal} {ok : Bool} {av kv u : AVal} {x k : Value} (hu : P.underlying t = some (.map kt e)) (hq : cEq P 60 kt = some d) (hk : cKey P 60 kt = true) (hz : cZeroV P e = some z)
    (ha : emb m av = some x) (hkv : emb m kv = some k) (h : HRel S m H w) (hx : aLookup d z ok av kv H = some (u, H')) : ∃ y, (Instr.lookup t x k ok).run P w = .ok y w ∧ Out S m u H' y w := by
  cases av with
  | map r =>
    simp only [aLookup] at hx
    cases hr : Nat.blt r H.n with
    | false => rw [hr] at hx; cases hx
    | true =>
    cases hs : aEq d kv kv with
    | none => rw [hr, hs] at hx; cases hx
    | some b =>
    cases b with
    | false => rw [hr, hs] at hx; cases hx
    | true =>
    cases hg : H.get r with
    | mapo es =>
      rw [hr, hs, hg] at hx
      simp only [] at hx
      cases hf : aFind d kv es with
      | none => rw [hf] at hx; cases hx
      | some f =>
        rw [hf] at hx
        simp only [Option.some.injEq, Prod.mk.injEq] at hx
        obtain ⟨rfl, rfl⟩ := hx
        simp only [emb] at ha
        cases hp : m r with
        | none => rw [hp] at ha; cases ha
        | some p =>
        rw [hp] at ha; cases ha
        obtain ⟨es', c, l, hb, h1, h3⟩ := (h.loops.maps.ok r es p (by simpa using hr) hg hp).2
        obtain ⟨z1, z2⟩ := ents_mem h1
        obtain ⟨f1, f2⟩ := aFind_spec hf
        have hd : ∃ dk, P.underlying kt = some dk := by
          unfold cKey at hk
          cases hu2 : P.underlying kt with
          | none => rw [hu2] at hk; cases hk
          | some dk => exact ⟨dk, rfl⟩
        obtain ⟨dk, hdk⟩ := hd
        have eqs := fun (a b : AVal) (r : Bool) (x y : Value) h1 h2 h3 => (sim_eqs (P := P) (m := m) 60 w).1 kt d a b r x y 10000 hq h1 h2 h3 (by decide)
        have hall : ∀ en ∈ es'.toList, ∃ b : Bool, (Op.equal kt k en.key).run P w = .ok b w ∧ (b = true → ∃ v, f = some v ∧ emb m v = some en.val) := fun en hen => by
          have hmem : (en.key, en.val) ∈ l := h3.mem_iff.1 (List.mem_map.2 ⟨en, hen, rfl⟩)
          obtain ⟨a, ha1, ha2, ha3⟩ := z1 _ hmem
          obtain ⟨b, hb1, hb2⟩ := f1 a ha1
          exact ⟨b, eqs kv a.1 b k en.key hb1 hkv ha2, fun e => ⟨a.2, hb2 e, ha3⟩⟩
        have hget : (getObj p.1.block).run P w = .ok (.map es' c) w := MapKept.run_getObj_map hb
        have hck := (run_checkKeys (P := P) (m := m) es'.isEmpty w 60).1 kt d kv k 10000 hq hk hs hkv (by decide)
        obtain ⟨v0, hz1, hz2⟩ := cZeroV_some hz w
        rcases asks (P := P) (m := m) (w := w) es'.toList 0 hall with ⟨j, v, y, a1, a2, a3⟩ | ⟨a1, a2⟩
        · subst a2
          refine ⟨_, ?_, Out.same h (emb_found a3)⟩
          simp [Instr.lookup, run_underlying hu, hget, hck, findKey_asking hdk a1]
        · cases f with
          | some v =>
            exfalso
            obtain ⟨a, ha1, ha2⟩ := f2 v rfl
            obtain ⟨q, hq1, hq2, _⟩ := z2 a ha1
            obtain ⟨en, hen, he⟩ := List.mem_map.1 (h3.mem_iff.2 hq1)
            have e1 := eqs kv a.1 true k q.1 ha2 hkv hq2
            have e2 := a2 en hen
            rw [← he] at e1
            have e1 : (Op.equal kt k en.key).run P w = .ok true w := e1
            rw [e1] at e2; cases e2
          | none =>
            refine ⟨_, ?_, Out.same h (emb_found (hz2 m))⟩
            simp [Instr.lookup, run_underlying hu, hget, hck, findKey_asking hdk a1, hz1]
    | _ => rw [hr, hs, hg] at hx; cases hx
  | nmap =>
    simp only [aLookup] at hx
    cases hs : aEq d kv kv with
    | none => rw [hs] at hx; cases hx
    | some b =>
    cases b with
    | false => rw [hs] at hx; cases hx
    | true =>
      rw [hs] at hx
      simp only [Option.some.injEq, Prod.mk.injEq] at hx
      obtain ⟨rfl, rfl⟩ := hx
      simp only [emb] at ha
      cases ha
      have hd : ∃ dk, P.underlying kt = some dk := by
        unfold cKey at hk
        cases hu2 : P.underlying kt with
        | none => rw [hu2] at hk; cases hk
        | some dk => exact ⟨dk, rfl⟩
      obtain ⟨dk, hdk⟩ := hd
      have hck := (run_checkKeys (P := P) (m := m) true w 60).1 kt d kv k 10000 hq hk hs hkv (by decide)
      obtain ⟨v0, hz1, hz2⟩ := cZeroV_some hz w
      have hask : (Instr.findAsking kt k [] 0).run P w = .ok none w := by simp [Instr.findAsking]
      refine ⟨_, ?_, Out.same h (emb_found (f := none) (hz2 m))⟩
      simp [Instr.lookup, run_underlying hu, hck, findKey_asking hdk hask, hz1]
  | _ => cases hx
end
end Go.Am

namespace Go.Am
open Go Go.RowKit
mutual
theorem abeq_eq : ∀ {a b : AVal}, abeq a b = true → a = b
  | .bool a, b, h => by cases b <;> simp_all [abeq]
  | .int k n, b, h => by cases b <;> simp_all [abeq]
  | .str s, b, h => by cases b <;> simp_all [abeq]
  | .nptr, b, h => by cases b <;> simp_all [abeq]
  | .ptr r o, b, h => by
    cases b <;> simp only [abeq, Bool.and_eq_true] at h <;> try (cases h; done)
    rw [Nat.eq_of_beq_eq_true h.1, Nat.eq_of_beq_eq_true h.2]
  | .nslice, b, h => by cases b <;> simp_all [abeq]
  | .slice r o l c z, b, h => by
    cases b <;> simp only [abeq, Bool.and_eq_true, decide_eq_true_eq] at h <;> try (cases h; done)
    obtain ⟨⟨⟨⟨h1, h2⟩, h3⟩, h4⟩, h5⟩ := h
    rw [Nat.eq_of_beq_eq_true h1, Nat.eq_of_beq_eq_true h2, Nat.eq_of_beq_eq_true h3, h4, Nat.eq_of_beq_eq_true h5]
  | .nfunc, b, h => by cases b <;> simp_all [abeq]
  | .func f x y, b, h => by
    cases b <;> simp only [abeq, Bool.and_eq_true, decide_eq_true_eq] at h <;> try (cases h; done)
    rw [h.1.1, abeqL_eq h.1.2, abeqL_eq h.2]
  | .niface, b, h => by cases b <;> simp_all [abeq]
  | .iface t v, b, h => by
    cases b <;> simp only [abeq, Bool.and_eq_true] at h <;> try (cases h; done)
    rw [Nat.eq_of_beq_eq_true h.1, abeq_eq h.2]
  | .agg x, b, h => by
    cases b <;> simp only [abeq] at h <;> try (cases h; done)
    rw [abeqL_eq h]
  | .tuple x, b, h => by
    cases b <;> simp only [abeq] at h <;> try (cases h; done)
    rw [abeqL_eq h]
  | .yield x, b, h => by
    cases b <;> simp only [abeq] at h <;> try (cases h; done)
    rw [Nat.eq_of_beq_eq_true h]
  | .eslice r o l z, b, h => by
    cases b <;> simp only [abeq, Bool.and_eq_true] at h <;> try (cases h; done)
    obtain ⟨⟨⟨h1, h2⟩, h3⟩, h4⟩ := h
    rw [Nat.eq_of_beq_eq_true h1, Nat.eq_of_beq_eq_true h2, Nat.eq_of_beq_eq_true h3, Nat.eq_of_beq_eq_true h4]
  | .nmap, b, h => by cases b <;> simp_all [abeq]
  | .map x, b, h => by
    cases b <;> simp only [abeq] at h <;> try (cases h; done)
    rw [Nat.eq_of_beq_eq_true h]
theorem abeqL_eq : ∀ {a b : List AVal}, abeqL a b = true → a = b
  | [], b, h => by cases b <;> simp_all [abeqL]
  | x :: xs, b, h => by
    cases b <;> simp only [abeqL, Bool.and_eq_true] at h <;> try (cases h; done)
    rw [abeq_eq h.1, abeqL_eq h.2]
end
section
variable {P : Program} {S : Base} {m : RMap} {H H' : AHeap} {w : World}
theorem HRel.deadRow (h : HRel S m H w) (p : Addr × Nat) : HRel S (m.add H.n p) (H.push .dead) w := by
  have hle := le_add (m := m) p (h.fresh H.n (Nat.le_refl _))
  have key : ∀ r cs rw e, r < (H.push .dead).n → (H.push .dead).get r = .row cs rw e → r < H.n ∧ r ≠ H.n ∧ H.get r = .row cs rw e := fun r cs rw e hr hg => by
    by_cases hrn : r = H.n
    · subst hrn; rw [push_get_eq] at hg; cases hg
    · have hr' : r < H.n := by simp [AHeap.push] at hr; omega
      rw [push_get_lt hr'] at hg
      exact ⟨hr', hrn, hg⟩
  refine ⟨h.below, h.size, fun g hg => by obtain ⟨k, hk⟩ := h.glob g hg; exact ⟨k, get_mono hle hk⟩, fun r hr => ?_, fun r hr => ?_, fun r cs rw e q hr hg hq => ?_, fun r s cs rw e cs' e' q1 q2 hr hs hne hg1 hg2 hq1 hq2 => ?_, h.loops.push hle still (fun e => by cases e) fun r hr => add_ne hr⟩
  · simp only [AHeap.push] at hr
    rw [add_ne (by omega)]; exact h.fresh r (by omega)
  · have := h.away r hr
    exact ⟨by rw [add_ne (by omega)]; exact this.1, by simp only [AHeap.push]; omega⟩
  · obtain ⟨k1, k2, k3⟩ := key r cs rw e hr hg
    rw [add_ne k2] at hq
    exact (h.row r cs rw e q k1 k3 hq).mono hle (Keeps.refl _ _) (fun _ => rfl) fun _ => rfl
  · obtain ⟨k1, k2, k3⟩ := key r cs rw e hr hg1
    obtain ⟨j1, j2, j3⟩ := key s cs' true e' hs hg2
    rw [add_ne k2] at hq1; rw [add_ne j2] at hq2
    exact h.apart r s cs rw e cs' e' q1 q2 k1 j1 hne k3 j3 hq1 hq2
theorem HRel.fill (h : HRel S m (H.push .dead) w) {p : Addr × Nat} (hp : m H.n = some p) (hB : S.B ≤ p.1.block) {es : List (AVal × AVal)} (hok : MapOk m w p.1.block es) (hap : ∀ r es p', r < H.n → H.get r = .mapo es → m r = some p' → p'.1.block ≠ p.1.block) : HRel S m (H.push (.mapo es)) w := by
  have key : ∀ s cs rw e, (H.push (.mapo es)).get s = .row cs rw e → (H.push .dead).get s = .row cs rw e := by
    intro s cs rw e hg
    by_cases hs : s = H.n
    · subst hs; rw [push_get_eq] at hg; cases hg
    · simp only [AHeap.push, nbeq_ne hs] at hg ⊢; exact hg
  have keyL : ∀ s R, (H.push (.mapo es)).get s = .loop R → (H.push .dead).get s = .loop R := by
    intro s R hg
    by_cases hs : s = H.n
    · subst hs; rw [push_get_eq] at hg; cases hg
    · simp only [AHeap.push, nbeq_ne hs] at hg ⊢; exact hg
  have keyM : ∀ s es', s < (H.push (.mapo es)).n → s ≠ H.n → (H.push (.mapo es)).get s = .mapo es' → s < H.n ∧ H.get s = .mapo es' ∧ (H.push .dead).get s = .mapo es' := by
    intro s es' hn hs hg
    have hs' : s < H.n := by simp [AHeap.push] at hn; omega
    rw [push_get_lt hs'] at hg ⊢
    exact ⟨hs', hg, hg⟩
  refine ⟨h.below, h.size, h.glob, h.fresh, h.away, fun s cs rw e q hs hg hq => h.row s cs rw e q hs (key _ _ _ _ hg) hq, fun s t cs1 rw1 e1 cs2 e2 q1 q2 hs ht hne hg1 hg2 => h.apart s t cs1 rw1 e1 cs2 e2 q1 q2 hs ht hne (key _ _ _ _ hg1) (key _ _ _ _ hg2),
    ⟨fun s R q hs hg hq => h.loops.ok s R q hs (keyL _ _ hg) hq, fun s t R R' q1 q2 L L' hs ht hne hg1 hg2 => h.loops.apart s t R R' q1 q2 L L' hs ht hne (keyL _ _ hg1) (keyL _ _ hg2), ⟨fun s es' q hs hg hq => ?_, fun s t es1 es2 q1 q2 hs ht hne hg1 hg2 hq1 hq2 => ?_⟩, h.loops.keepIters (fun _ _ _ e => e) fun r s k q hr hg hq => ⟨hr, by by_cases hs : r = H.n <;> first | (subst hs; rw [push_get_eq] at hg; cases hg; done) | (simp only [AHeap.push, nbeq_ne hs] at hg ⊢; exact hg), hq⟩⟩⟩
  · by_cases hsn : s = H.n
    · subst hsn
      rw [push_get_eq] at hg; cases hg
      rw [hp] at hq; cases hq
      exact ⟨hB, hok⟩
    · obtain ⟨k1, k2, k3⟩ := keyM s es' hs hsn hg
      exact h.loops.maps.ok s es' q hs k3 hq
  · by_cases hsn : s = H.n
    · subst hsn
      rw [hp] at hq1; cases hq1
      obtain ⟨k1, k2, k3⟩ := keyM t es2 ht (Ne.symm hne) hg2
      exact Ne.symm (hap t es2 q2 k1 k2 hq2)
    · obtain ⟨k1, k2, k3⟩ := keyM s es1 hs hsn hg1
      by_cases htn : t = H.n
      · subst htn
        rw [hp] at hq2; cases hq2
        exact hap s es1 q1 k1 k2 hq1
      · obtain ⟨j1, j2, j3⟩ := keyM t es2 ht htn hg2
        exact h.loops.maps.apart s t es1 es2 q1 q2 hs ht hne k3 j3 hq1 hq2
theorem HRel.pushMap (h : HRel S m H w) : HRel S (m.add H.n (⟨w.heap.size, 0, none⟩, 0)) (H.push (.mapo [])) (w.alloc (.map #[] 0)) := by
  have h1 : HRel S m H (w.alloc (.map #[] 0)) := h.kept ((Below.refl _ _).alloc (Nat.le_refl _) _)
  refine (h1.deadRow (⟨w.heap.size, 0, none⟩, 0)).fill add_eq h.size ⟨#[], 0, [], (MapKept.heap_alloc w _).1, rfl, List.Perm.refl _⟩ fun r es p' hr hg hp => ?_
  rw [add_ne (by omega)] at hp
  obtain ⟨_, es', c, xs, hb, _⟩ := h.loops.maps.ok r es p' hr hg hp
  have := (Array.getElem?_eq_some_iff.1 hb).1
  simp only; omega
theorem HRel.setMapAt {r0 : Nat} {es : List (AVal × AVal)} (h : HRel S m H w) (hr0 : r0 < H.n) (hg0 : H.get r0 = .mapo es) {p : Addr × Nat} (hp : m r0 = some p) {es' es2 : Array MapEntry} {c c2 : Nat} (hb : w.heap[p.1.block]? = some (.map es' c)) {es3 : List (AVal × AVal)} {xs : List (Value × Value)} (h3 : embE m es3 = some xs) (hperm : List.Perm (es2.toList.map fun e => (e.key, e.val)) xs) :
    HRel S m (H.set r0 (.mapo es3)) { w with heap := w.heap.setIfInBounds p.1.block (.map es2 c2) } := by
  obtain ⟨hsame, hother⟩ := MapKept.heap_set (o' := .map es2 c2) hb
  have hB := (h.loops.maps.ok r0 es p hr0 hg0 hp).1
  have hcell : ∀ a : Addr, World.cell? { w with heap := w.heap.setIfInBounds p.1.block (.map es2 c2) } a = w.cell? a := fun a => by
    unfold World.cell?
    by_cases e : a.block = p.1.block
    · simp only [e, hsame, hb]
    · simp only [hother _ e]
  have hfz : ∀ a : Addr, World.frozen? { w with heap := w.heap.setIfInBounds p.1.block (.map es2 c2) } a = w.frozen? a := fun a => by
    unfold World.frozen?
    by_cases e : a.block = p.1.block
    · simp only [e, hsame, hb]
    · simp only [hother _ e]
  have hk : ∀ k, Keeps w { w with heap := w.heap.setIfInBounds p.1.block (.map es2 c2) } k := fun k c' e fz hk => by
    have hne : k ≠ p.1.block := fun e => by rw [e, hb] at hk; cases hk
    exact ⟨c', fz, by show (w.heap.setIfInBounds _ _)[k]? = _; rw [hother _ hne]; exact hk, rfl⟩
  have key : ∀ s cs rw e, (H.set r0 (.mapo es3)).get s = .row cs rw e → H.get s = .row cs rw e := by
    intro s cs rw e hg
    by_cases hs : s = r0
    · subst hs; rw [set_get_eq] at hg; cases hg
    · rw [set_get_ne hs] at hg; exact hg
  have keyL : ∀ s R, (H.set r0 (.mapo es3)).get s = .loop R → H.get s = .loop R := by
    intro s R hg
    by_cases hs : s = r0
    · subst hs; rw [set_get_eq] at hg; cases hg
    · rw [set_get_ne hs] at hg; exact hg
  have keyM : ∀ s es', (H.set r0 (.mapo es3)).get s = .mapo es' → ∃ es0, H.get s = .mapo es0 ∧ (s ≠ r0 → es0 = es') := by
    intro s es' hg
    by_cases hs : s = r0
    · subst hs; exact ⟨es, hg0, fun e => absurd rfl e⟩
    · refine ⟨es', ?_, fun _ => rfl⟩
      rw [set_get_ne hs] at hg; exact hg
  refine ⟨h.below.trans ⟨rfl, rfl, rfl, by simp, fun k hk => hother k (by omega)⟩, by simpa using h.size, h.glob, h.fresh, h.away, fun s cs rw e q hs hg hq => (h.row s cs rw e q hs (key _ _ _ _ hg) hq).mono (Le.refl _) (hk _) (fun i => hcell _) fun i => hfz _, fun s t cs1 rw1 e1 cs2 e2 q1 q2 hs ht hne hg1 hg2 => h.apart s t cs1 rw1 e1 cs2 e2 q1 q2 hs ht hne (key _ _ _ _ hg1) (key _ _ _ _ hg2),
    ⟨fun s R q hs hg hq => ?_, fun s t R R' q1 q2 L L' hs ht hne hg1 hg2 hq1 hq2 hl1 hl2 => ?_, ⟨fun s es' q hs hg hq => ?_, fun s t es1 es2 q1 q2 hs ht hne hg1 hg2 hq1 hq2 => ?_⟩, h.loops.keepIters (fun b s k e => by show (w.heap.setIfInBounds _ _)[_]? = _; rw [hother _ (fun e2 => by rw [e2, hb] at e; cases e)]; exact e) fun r s k q hr hg hq => ⟨hr, by by_cases hs : r = r0 <;> first | (subst hs; rw [set_get_eq] at hg; cases hg; done) | (rwa [set_get_ne hs] at hg), hq⟩⟩⟩
  · obtain ⟨L, k⟩ := h.loops.ok s R q hs (keyL _ _ hg) hq
    have n1 : q.1.block ≠ p.1.block := fun e => by have := k.obj; rw [e, hb] at this; cases this
    have n2 : L.defers ≠ p.1.block := fun e => by have := k.defers; rw [e, hb] at this; cases this
    exact ⟨L, by show (w.heap.setIfInBounds _ _)[_]? = _; rw [hother _ n1]; exact k.obj, k.low, k.st, k.pend, k.ps, k.fr, k.assign, k.body, k.dlow, k.blk, by show (w.heap.setIfInBounds _ _)[_]? = _; rw [hother _ n2]; exact k.defers⟩
  · have back : ∀ (b : Nat) (L : Loop), (w.heap.setIfInBounds p.1.block (.map es2 c2))[b]? = some (.loop L) → w.heap[b]? = some (.loop L) := fun b L hl => by
      by_cases e : b = p.1.block
      · rw [e, hsame] at hl; cases hl
      · rwa [hother _ e] at hl
    exact h.loops.apart s t R R' q1 q2 L L' hs ht hne (keyL _ _ hg1) (keyL _ _ hg2) hq1 hq2 (back _ _ hl1) (back _ _ hl2)
  · by_cases hsn : s = r0
    · subst hsn
      rw [set_get_eq] at hg; cases hg
      rw [hp] at hq; cases hq
      exact ⟨hB, es2, c2, xs, hsame, h3, hperm⟩
    · obtain ⟨es0, k1, k2⟩ := keyM s es' hg
      obtain rfl := k2 hsn
      obtain ⟨j1, j2⟩ := h.loops.maps.ok s es0 q hs k1 hq
      have hne := h.loops.maps.apart s r0 es0 es q p hs hr0 hsn k1 hg0 hq hp
      exact ⟨j1, j2.mono (Le.refl _) fun es c e => by show (w.heap.setIfInBounds _ _)[_]? = _; rw [hother _ hne]; exact e⟩
  · obtain ⟨a1, k1, _⟩ := keyM s _ hg1
    obtain ⟨a2, k2, _⟩ := keyM t _ hg2
    exact h.loops.maps.apart s t a1 a2 q1 q2 hs ht hne k1 k2 hq1 hq2
theorem aDel_spec {d : EqDesc} {k : AVal} : ∀ {es l : List (AVal × AVal)}, aDel d k es = some l →
    (∃ e0, List.Perm es (e0 :: l) ∧ k = e0.1 ∧ ∀ a ∈ l, aEq d k a.1 = some false) ∨ (l = es ∧ ∀ a ∈ es, aEq d k a.1 = some false)
  | [], l, h => by simp only [aDel] at h; cases h; exact Or.inr ⟨rfl, by simp⟩
  | e :: es, l, h => by
    simp only [aDel] at h
    cases he : aEq d k e.1 with
    | none => rw [he] at h; cases h
    | some b =>
      rw [he] at h
      cases b with
      | true =>
        simp only [] at h
        split at h
        · rename_i h1 h2; cases h
          obtain ⟨f1, f2⟩ := aFind_spec h2
          refine Or.inl ⟨e, List.Perm.refl _, abeq_eq h1, fun a ha => ?_⟩
          obtain ⟨b, hb, hf⟩ := f1 a ha
          cases b with
          | true => cases hf rfl
          | false => exact hb
        · cases h
      | false =>
        simp only [] at h
        cases hd : aDel d k es with
        | none => rw [hd] at h; cases h
        | some l' =>
          rw [hd] at h
          simp only [] at h; cases h
          rcases aDel_spec hd with ⟨e0, hp, hk, hf⟩ | ⟨rfl, hf⟩
          · refine Or.inl ⟨e0, (hp.cons e).trans (List.Perm.swap _ _ _), hk, fun a ha => ?_⟩
            rcases List.mem_cons.1 ha with rfl | ha
            · exact he
            · exact hf a ha
          · refine Or.inr ⟨rfl, fun a ha => ?_⟩
            rcases List.mem_cons.1 ha with rfl | ha
            · exact he
            · exact hf a ha
theorem finds {t : TypeId} {x : Value} : ∀ (l : List MapEntry) (i : Nat), (∀ en ∈ l, ∃ b : Bool, (Op.equal t x en.key).run P w = .ok b w) →
    (∃ j en, (Instr.findAsking t x l i).run P w = .ok (some (i + j, en.val)) w ∧ l[j]? = some en ∧ (Op.equal t x en.key).run P w = .ok true w) ∨ ((Instr.findAsking t x l i).run P w = .ok none w ∧ ∀ en ∈ l, (Op.equal t x en.key).run P w = .ok false w)
  | [], i, _ => Or.inr ⟨by simp [Instr.findAsking], by simp⟩
  | e :: l, i, h => by
    obtain ⟨b, hb⟩ := h e (by simp)
    cases b with
    | true => exact Or.inl ⟨0, e, by simp [Instr.findAsking, hb], rfl, hb⟩
    | false =>
      rcases finds l (i + 1) (fun en hen => h en (by simp [hen])) with ⟨j, en, h1, h2, h3⟩ | ⟨h1, h2⟩
      · exact Or.inl ⟨j + 1, en, by simp [Instr.findAsking, hb, h1]; omega, by simpa using h2, h3⟩
      · refine Or.inr ⟨by simp [Instr.findAsking, hb, h1], fun en hen => ?_⟩
        rcases List.mem_cons.1 hen with rfl | hen
        · exact hb
        · exact h2 en hen
theorem bits_scalar {a : AVal} {x : Value} (h : scalarV a = true) (hx : emb m a = some x) (n : Nat) : Instr.sameBits n x x = true := by
  cases a <;> simp only [scalarV] at h <;> try (cases h; done)
  all_goals
    simp only [emb] at hx
    cases hx
    cases n <;> simp [Instr.sameBits, MapKept.bytes_beq]
theorem bits_all {l : List AVal} : ∀ {xs : List Value}, l.all scalarV = true → embL m l = some xs → ∀ n, ((xs.zip xs).all fun (x, y) => Instr.sameBits n x y) = true := by
  induction l with
  | nil => intro xs _ hx n; simp [embL] at hx; subst hx; rfl
  | cons a l ih =>
    intro xs h hx n
    obtain ⟨x, xs', h1, h2, rfl⟩ := embL_cons hx
    simp only [List.all_cons, Bool.and_eq_true] at h
    simp only [List.zip_cons_cons, List.all_cons, Bool.and_eq_true]
    exact ⟨bits_scalar h.1 h1 n, ih h.2 h2 n⟩
theorem bits_key {a : AVal} {x : Value} (h : keyV a = true) (hx : emb m a = some x) (n : Nat) : Instr.sameBits (n + 1) x x = true := by
  cases a with
  | agg l =>
    obtain ⟨xs, h1, rfl⟩ := emb_agg_some hx
    have := bits_all h h1 n
    simp only [Instr.sameBits]
    simpa using this
  | _ => exact bits_scalar (by simpa only [keyV] using h) hx _
theorem keyStays {a : AVal} {x : Value} (h : keyV a = true) (hx : emb m a = some x) : (Instr.keyThatStays x x).run P w = .ok x w := by
  have := bits_key h hx 9999
  simp [Instr.keyThatStays, this]
theorem modify_split {α : Type} {l : List α} {j : Nat} {e : α} (h : l[j]? = some e) (f : α → α) : ∃ A B, l = A ++ e :: B ∧ l.modify j f = A ++ f e :: B := by
  obtain ⟨hj, he⟩ := List.getElem?_eq_some_iff.1 h
  refine ⟨l.take j, l.drop (j + 1), ?_, ?_⟩
  · rw [← he, ← List.drop_eq_getElem_cons hj, List.take_append_drop]
  · rw [List.modify_eq_take_cons_drop hj, he]
theorem sim_mapSet {t kt e : TypeId} {d : EqDesc} {av kv vv u : AVal} {x k v : Value} (hu : P.underlying t = some (.map kt e)) (hq : cEq P 60 kt = some d) (hk : cKey P 60 kt = true)
    (ha : emb m av = some x) (hkv : emb m kv = some k) (hvv : emb m vv = some v) (h : HRel S m H w) (hx : aMapSet d av kv vv H = some (u, H')) : ∃ w', (Instr.mapUpdate t x k v).run P w = .ok () w' ∧ u = aundef ∧ HRel S m H' w' := by
  cases av with
  | map r =>
    simp only [aMapSet] at hx
    cases hr : Nat.blt r H.n with
    | false => rw [hr] at hx; cases hx
    | true =>
    cases hkb : keyV kv with
    | false => rw [hr, hkb] at hx; cases hx
    | true =>
    cases hs : aEq d kv kv with
    | none => rw [hr, hkb, hs] at hx; cases hx
    | some b =>
    cases b with
    | false => rw [hr, hkb, hs] at hx; cases hx
    | true =>
    cases hg : H.get r with
    | mapo es =>
      rw [hr, hkb, hs, hg] at hx
      simp only [] at hx
      cases hf : aDel d kv es with
      | none => rw [hf] at hx; cases hx
      | some l =>
        rw [hf] at hx
        simp only [Option.some.injEq, Prod.mk.injEq] at hx
        obtain ⟨rfl, rfl⟩ := hx
        have hrn : r < H.n := by simpa using hr
        simp only [emb] at ha
        cases hp : m r with
        | none => rw [hp] at ha; cases ha
        | some p =>
        rw [hp] at ha; cases ha
        obtain ⟨es', c, xs, hb, h1, h3⟩ := (h.loops.maps.ok r es p hrn hg hp).2
        have hd : ∃ dk, P.underlying kt = some dk := by
          unfold cKey at hk
          cases hu2 : P.underlying kt with
          | none => rw [hu2] at hk; cases hk
          | some dk => exact ⟨dk, rfl⟩
        obtain ⟨dk, hdk⟩ := hd
        have eqs := fun (a b : AVal) (r : Bool) (x y : Value) h1 h2 h3 => (sim_eqs (P := P) (m := m) 60 w).1 kt d a b r x y 10000 hq h1 h2 h3 (by decide)
        have hget : (getObj p.1.block).run P w = .ok (.map es' c) w := MapKept.run_getObj_map hb
        have hck := (run_checkKeys (P := P) (m := m) false w 60).1 kt d kv k 10000 hq hk hs hkv (by decide)
        rcases aDel_spec hf with ⟨e0, hperm, he0, hfalse⟩ | ⟨rfl, hfalse⟩
        · -- the key is there
          obtain ⟨xs2, h4, h5⟩ := embE_perm hperm h1
          obtain ⟨x0, y0, xs3, k1, k2, k3, rfl⟩ := embE_cons h4
          have hx0 : x0 = k := by rw [← he0, hkv] at k1; exact (Option.some.inj k1).symm
          subst hx0
          have hall3 : ∀ q ∈ xs3, (Op.equal kt x0 q.1).run P w = .ok false w := fun q hq3 => by
            obtain ⟨a, ha1, ha2, _⟩ := (ents_mem k3).1 q hq3
            exact eqs kv a.1 false x0 q.1 (hfalse a ha1) hkv ha2
          have hself : (Op.equal kt x0 x0).run P w = .ok true w := eqs kv kv true x0 x0 hs hkv hkv
          have hpm := h3.trans h5
          have hall : ∀ en ∈ es'.toList, ∃ b : Bool, (Op.equal kt x0 en.key).run P w = .ok b w := fun en hen => by
            have hmem : (en.key, en.val) ∈ (x0, y0) :: xs3 := hpm.mem_iff.1 (List.mem_map.2 ⟨en, hen, rfl⟩)
            rcases List.mem_cons.1 hmem with q | q
            · have : en.key = x0 := congrArg Prod.fst q
              rw [this]; exact ⟨true, hself⟩
            · exact ⟨false, hall3 _ q⟩
          rcases finds (P := P) (w := w) (t := kt) (x := x0) es'.toList 0 hall with ⟨j, en, a1, a2, a3⟩ | ⟨_, a2⟩
          · have hen : (en.key, en.val) = (x0, y0) := by
              have hmem : (en.key, en.val) ∈ (x0, y0) :: xs3 := hpm.mem_iff.1 (List.mem_map.2 ⟨en, List.mem_of_getElem? a2, rfl⟩)
              rcases List.mem_cons.1 hmem with q | q
              · exact q
              · have := hall3 _ q
                simp only at this
                rw [a3] at this; cases this
            have hkey : en.key = x0 := congrArg Prod.fst hen
            rw [Nat.zero_add] at a1
            have ha2 : es'[j]? = some en := by simpa using a2
            have hst : (Instr.keyThatStays (((es'[j]?).map (·.key)).getD x0) x0).run P w = .ok x0 w := by
              rw [ha2]
              simp only [Option.map_some, Option.getD_some]
              rw [hkey]
              exact keyStays hkb hkv
            obtain ⟨A, B, e1, e2⟩ := modify_split a2 (fun e : MapEntry => { e with key := x0, val := v })
            have hE2 : embE m ((kv, vv) :: l) = some ((x0, v) :: xs3) := embE_mk hkv hvv k3
            refine ⟨_, ?_, rfl, h.setMapAt (es2 := es'.modify j fun e => { e with key := x0, val := v }) (c2 := c) hrn hg hp hb hE2 ?_⟩
            · simp [Instr.mapUpdate, run_underlying hu, hget, hck, findKey_asking hdk a1, hst, MapKept.run_setObj_map _ hb]
            · rw [Array.toList_modify, e2, List.map_append, List.map_cons]
              rw [e1, List.map_append, List.map_cons, hen] at hpm
              have h6 : List.Perm ((x0, y0) :: (A.map (fun e => (e.key, e.val)) ++ B.map fun e => (e.key, e.val))) ((x0, y0) :: xs3) := List.perm_middle.symm.trans hpm
              exact List.perm_middle.trans (h6.cons_inv.cons _)
          · have := a2
            exfalso
            have hmem : (x0, y0) ∈ es'.toList.map fun e => (e.key, e.val) := hpm.mem_iff.2 (by simp)
            obtain ⟨en, hen, q⟩ := List.mem_map.1 hmem
            have hk2 := a2 en hen
            rw [show en.key = x0 from congrArg Prod.fst q, hself] at hk2
            cases hk2
        · have hall : ∀ en ∈ es'.toList, (Op.equal kt k en.key).run P w = .ok false w := fun en hen => by
            have hmem : (en.key, en.val) ∈ xs := h3.mem_iff.1 (List.mem_map.2 ⟨en, hen, rfl⟩)
            obtain ⟨a, ha1, ha2, _⟩ := (ents_mem h1).1 _ hmem
            exact eqs kv a.1 false k en.key (hfalse a ha1) hkv ha2
          rcases finds (P := P) (w := w) (t := kt) (x := k) es'.toList 0 (fun en hen => ⟨false, hall en hen⟩) with ⟨j, en, a1, a2, a3⟩ | ⟨a1, _⟩
          · have := hall en (List.mem_of_getElem? a2)
            rw [a3] at this; cases this
          · have hE2 : embE m ((kv, vv) :: l) = some ((k, v) :: xs) := embE_mk hkv hvv h1
            refine ⟨_, ?_, rfl, h.setMapAt (es2 := es'.push { key := k, val := v, born := c }) (c2 := c + 1) hrn hg hp hb hE2 ?_⟩
            · simp [Instr.mapUpdate, run_underlying hu, hget, hck, findKey_asking hdk a1, MapKept.run_setObj_map _ hb]
            · rw [Array.toList_push, List.map_append]
              exact (List.perm_append_singleton _ _).trans (h3.cons _)
    | _ => rw [hr, hkb, hs, hg] at hx; cases hx
  | _ => cases hx
theorem sim_lenM {t kt e ty : TypeId} {av u : AVal} {x : Value} (hu : P.underlying t = some (.map kt e)) (ha : emb m av = some x) (h : HRel S m H w) (hx : aLenM av H = some (u, H')) : ∃ y, (Builtin.len_ #[t] ty #[x]).run P w = .ok y w ∧ emb m u = some y ∧ H' = H := by
  cases av with
  | map r =>
    simp only [aLenM] at hx
    split at hx
    · rename_i es hr hg
      cases hx
      have hrn : r < H.n := by simpa using hr
      simp only [emb] at ha
      cases hp : m r with
      | none => rw [hp] at ha; cases ha
      | some p =>
      rw [hp] at ha; cases ha
      obtain ⟨es', c, xs, hb, h1, h3⟩ := (h.loops.maps.ok r es p hrn hg hp).2
      have hl : es.length = es'.size := by
        have e1 : ∀ {es : List (AVal × AVal)} {xs : List (Value × Value)}, embE m es = some xs → es.length = xs.length := by
          intro es
          induction es with
          | nil => intro xs h; simp [embE] at h; subst h; rfl
          | cons e es ih =>
            intro xs h
            obtain ⟨_, _, ys, _, _, h2, rfl⟩ := embE_cons h
            simp [ih h2]
        rw [e1 h1, ← h3.length_eq]
        simp
      refine ⟨goInt es'.size, ?_, by simp [emb, goInt, hl], rfl⟩
      simp [Builtin.len_, run_underlying hu, MapKept.run_getObj_map hb]
    · cases hx
  | nmap =>
    simp only [aLenM] at hx
    cases hx
    simp only [emb] at ha
    cases ha
    exact ⟨goInt 0, by simp [Builtin.len_, run_underlying hu], by simp [emb, goInt], rfl⟩
  | _ => cases hx
end
end Go.Am

namespace Go.Am
open Go Go.RowKit
section
variable {P : Program} {S : Base} {m : RMap} {H H' : AHeap} {w : World}
theorem HRel.fillIter (h : HRel S m (H.push .dead) w) {p : Addr × Nat} (hp : m H.n = some p) (hB : S.B ≤ p.1.block) (h0 : p.1.off = 0) (hs0 : p.1.spot = none) {s : ByteArray} {k : Nat} (hb : w.heap[p.1.block]? = some (.stringIter s k)) (hap : ∀ r s' k' p', r < H.n → H.get r = .iter s' k' → m r = some p' → p'.1.block ≠ p.1.block) : HRel S m (H.push (.iter s k)) w := by
  have key : ∀ s' cs rw e, (H.push (.iter s k)).get s' = .row cs rw e → (H.push .dead).get s' = .row cs rw e := by
    intro s' cs rw e hg
    by_cases hs : s' = H.n
    · subst hs; rw [push_get_eq] at hg; cases hg
    · simp only [AHeap.push, nbeq_ne hs] at hg ⊢; exact hg
  have keyL : ∀ s' R, (H.push (.iter s k)).get s' = .loop R → (H.push .dead).get s' = .loop R := by
    intro s' R hg
    by_cases hs : s' = H.n
    · subst hs; rw [push_get_eq] at hg; cases hg
    · simp only [AHeap.push, nbeq_ne hs] at hg ⊢; exact hg
  have keyI : ∀ r s' k', r < (H.push (.iter s k)).n → r ≠ H.n → (H.push (.iter s k)).get r = .iter s' k' → r < H.n ∧ H.get r = .iter s' k' ∧ (H.push .dead).get r = .iter s' k' := by
    intro r s' k' hn hs hg
    have hs' : r < H.n := by simp [AHeap.push] at hn; omega
    rw [push_get_lt hs'] at hg ⊢
    exact ⟨hs', hg, hg⟩
  refine ⟨h.below, h.size, h.glob, h.fresh, h.away, fun s' cs rw e q hs hg hq => h.row s' cs rw e q hs (key _ _ _ _ hg) hq, fun s' t cs1 rw1 e1 cs2 e2 q1 q2 hs ht hne hg1 hg2 => h.apart s' t cs1 rw1 e1 cs2 e2 q1 q2 hs ht hne (key _ _ _ _ hg1) (key _ _ _ _ hg2),
    ⟨fun s' R q hs hg hq => h.loops.ok s' R q hs (keyL _ _ hg) hq, fun s' t R R' q1 q2 L L' hs ht hne hg1 hg2 => h.loops.apart s' t R R' q1 q2 L L' hs ht hne (keyL _ _ hg1) (keyL _ _ hg2), h.loops.keepMaps (Le.refl _) (fun _ _ _ e => e) fun r es q hr hg hq => ⟨hr, by by_cases hs : r = H.n <;> first | (subst hs; rw [push_get_eq] at hg; cases hg; done) | (simp only [AHeap.push, nbeq_ne hs] at hg ⊢; exact hg), hq⟩, ⟨fun r s' k' q hr hg hq => ?_, fun r r' s1 k1 s2 k2 q1 q2 hr hr' hne hg1 hg2 hq1 hq2 => ?_⟩⟩⟩
  · by_cases hrn : r = H.n
    · subst hrn
      rw [push_get_eq] at hg; cases hg
      rw [hp] at hq; cases hq
      exact ⟨hB, h0, hs0, hb⟩
    · obtain ⟨k1, k2, k3⟩ := keyI r s' k' hr hrn hg
      exact h.loops.iters.ok r s' k' q hr k3 hq
  · by_cases hrn : r = H.n
    · subst hrn
      rw [hp] at hq1; cases hq1
      obtain ⟨k3, k4, k5⟩ := keyI r' s2 k2 hr' (Ne.symm hne) hg2
      exact Ne.symm (hap r' s2 k2 q2 k3 k4 hq2)
    · obtain ⟨k3, k4, k5⟩ := keyI r s1 k1 hr hrn hg1
      by_cases htn : r' = H.n
      · subst htn
        rw [hp] at hq2; cases hq2
        exact hap r s1 k1 q1 k3 k4 hq1
      · obtain ⟨j1, j2, j3⟩ := keyI r' s2 k2 hr' htn hg2
        exact h.loops.iters.apart r r' s1 k1 s2 k2 q1 q2 hr hr' hne k5 j3 hq1 hq2
theorem HRel.pushIter (h : HRel S m H w) (s : ByteArray) : HRel S (m.add H.n (⟨w.heap.size, 0, none⟩, 0)) (H.push (.iter s 0)) (w.alloc (.stringIter s 0)) := by
  have h1 : HRel S m H (w.alloc (.stringIter s 0)) := h.kept ((Below.refl _ _).alloc (Nat.le_refl _) _)
  refine (h1.deadRow (⟨w.heap.size, 0, none⟩, 0)).fillIter add_eq h.size rfl rfl (MapKept.heap_alloc w _).1 fun r s' k' p' hr hg hp => ?_
  rw [add_ne (by omega)] at hp
  have := (Array.getElem?_eq_some_iff.1 (h.loops.iters.ok r s' k' p' hr hg hp).2.2.2).1
  simp only; omega
theorem cell_putI {b : Nat} {s : ByteArray} {k k' : Nat} (hb : w.heap[b]? = some (.stringIter s k)) (a : Addr) : (w.putObj b (.stringIter s k')).cell? a = w.cell? a := by
  unfold World.cell?
  by_cases h : a.block = b
  · rw [h, World.putObj_heap_same (Array.getElem?_eq_some_iff.1 hb).1, hb]
  · rw [World.putObj_heap_other h]
theorem frozen_putI {b : Nat} {s : ByteArray} {k k' : Nat} (hb : w.heap[b]? = some (.stringIter s k)) (a : Addr) : (w.putObj b (.stringIter s k')).frozen? a = w.frozen? a := by
  unfold World.frozen?
  by_cases h : a.block = b
  · rw [h, World.putObj_heap_same (Array.getElem?_eq_some_iff.1 hb).1, hb]
  · rw [World.putObj_heap_other h]
theorem HRel.setIter {r0 : Nat} {s0 : ByteArray} {k0 k2 : Nat} (h : HRel S m H w) (hr0 : r0 < H.n) (hg0 : H.get r0 = .iter s0 k0) {p : Addr × Nat} (hp : m r0 = some p) : HRel S m (H.set r0 (.iter s0 k2)) (w.putObj p.1.block (.stringIter s0 k2)) := by
  obtain ⟨hB, ho, hsp, hb⟩ := h.loops.iters.ok r0 s0 k0 p hr0 hg0 hp
  have hlt := (Array.getElem?_eq_some_iff.1 hb).1
  have ne : ∀ {b : Nat} {o : Obj}, w.heap[b]? = some o → (∀ s k, o ≠ .stringIter s k) → b ≠ p.1.block := fun e1 hn e => by
    rw [e, hb] at e1; cases e1; exact hn _ _ rfl
  have key : ∀ s cs rw e, (H.set r0 (.iter s0 k2)).get s = .row cs rw e → H.get s = .row cs rw e := fun s cs rw e hs => by
    by_cases hsr : s = r0
    · subst hsr; rw [set_get_eq] at hs; cases hs
    · rwa [set_get_ne hsr] at hs
  have keyL : ∀ s R, (H.set r0 (.iter s0 k2)).get s = .loop R → H.get s = .loop R := fun s R hs => by
    by_cases hsr : s = r0
    · subst hsr; rw [set_get_eq] at hs; cases hs
    · rwa [set_get_ne hsr] at hs
  have keyI : ∀ r s k, (H.set r0 (.iter s0 k2)).get r = .iter s k → ∃ k', H.get r = .iter s k' ∧ (r ≠ r0 → k' = k) := fun r s k hs => by
    by_cases hsr : r = r0
    · subst hsr; rw [set_get_eq] at hs; cases hs; exact ⟨k0, hg0, fun e => absurd rfl e⟩
    · rw [set_get_ne hsr] at hs; exact ⟨k, hs, fun _ => rfl⟩
  have kp : ∀ k, Keeps w (w.putObj p.1.block (.stringIter s0 k2)) k := fun k c e fz hk => by
    have hne : k ≠ p.1.block := ne hk (fun _ _ e => by cases e)
    exact ⟨c, fz, by rw [World.putObj_heap_other hne]; exact hk, rfl⟩
  refine ⟨h.below.trans ⟨rfl, rfl, rfl, by simp, fun k hk => World.putObj_heap_other (by omega)⟩, by simpa using h.size, h.glob, h.fresh, h.away, fun s cs rw e q hs hg hq => (h.row s cs rw e q hs (key _ _ _ _ hg) hq).mono (Le.refl _) (kp _) (fun i => cell_putI hb _) fun i => frozen_putI hb _, fun s t cs1 rw1 e1 cs2 e2 q1 q2 hs ht hne hg1 hg2 => h.apart s t cs1 rw1 e1 cs2 e2 q1 q2 hs ht hne (key _ _ _ _ hg1) (key _ _ _ _ hg2),
    ⟨fun s R q hs hg hq => ?_, fun s t R R' q1 q2 L L' hs ht hne hg1 hg2 hq1 hq2 hl1 hl2 => ?_, h.loops.keepMaps (Le.refl _) (fun k es c hk => by rw [World.putObj_heap_other (ne hk (fun _ _ e => by cases e))]; exact hk) fun s es q hs hg hq => ⟨hs, by by_cases hsr : s = r0 <;> first | (subst hsr; rw [set_get_eq] at hg; cases hg; done) | (rwa [set_get_ne hsr] at hg), hq⟩, ⟨fun r s k q hr hg hq => ?_, fun r r' s1 k1 s2 k2 q1 q2 hr hr' hne hg1 hg2 hq1 hq2 => ?_⟩⟩⟩
  · obtain ⟨L, k⟩ := h.loops.ok s R q hs (keyL _ _ hg) hq
    exact ⟨L, by rw [World.putObj_heap_other (ne k.obj (fun _ _ e => by cases e))]; exact k.obj, k.low, k.st, k.pend, k.ps, k.fr, k.assign, k.body, k.dlow, k.blk, by rw [World.putObj_heap_other (ne k.defers (fun _ _ e => by cases e))]; exact k.defers⟩
  · have back : ∀ (b : Nat) (L : Loop), (w.putObj p.1.block (.stringIter s0 k2)).heap[b]? = some (.loop L) → w.heap[b]? = some (.loop L) := fun b L hl => by
      by_cases e : b = p.1.block
      · rw [e, World.putObj_heap_same hlt] at hl; cases hl
      · rwa [World.putObj_heap_other e] at hl
    exact h.loops.apart s t R R' q1 q2 L L' hs ht hne (keyL _ _ hg1) (keyL _ _ hg2) hq1 hq2 (back _ _ hl1) (back _ _ hl2)
  · obtain ⟨k', e1, e2⟩ := keyI r s k hg
    obtain ⟨j1, j2, j3, j4⟩ := h.loops.iters.ok r s k' q hr e1 hq
    by_cases hrr : r = r0
    · subst hrr
      rw [set_get_eq] at hg; cases hg
      rw [hp] at hq; cases hq
      exact ⟨hB, ho, hsp, World.putObj_heap_same hlt⟩
    · have := h.loops.iters.apart r r0 s k' s0 k0 q p hr hr0 hrr e1 hg0 hq hp
      rw [← e2 hrr]
      exact ⟨j1, j2, j3, by rw [World.putObj_heap_other this]; exact j4⟩
  · obtain ⟨k1', e1, _⟩ := keyI r s1 k1 hg1
    obtain ⟨k2', e2, _⟩ := keyI r' s2 k2 hg2
    exact h.loops.iters.apart r r' s1 k1' s2 k2' q1 q2 hr hr' hne e1 e2 hq1 hq2
theorem run_getObj_iter {l : Nat} {s : ByteArray} {k : Nat} (h : w.heap[l]? = some (.stringIter s k)) : (getObj l).run P w = .ok (.stringIter s k) w := by simp [getObj, Sem.run, h]
theorem run_setObj_iter {l : Nat} {s : ByteArray} {k : Nat} (o : Obj) (h : w.heap[l]? = some (.stringIter s k)) : (setObj l o).run P w = .ok () (w.putObj l o) := by simp [setObj, Sem.run, h, World.putObj]
theorem aRune_eq (s : ByteArray) (i : Nat) : aRune s i = Utf8.decode s i := by
  unfold aRune
  split
  · rename_i h
    have h2 : (s.get! i).toNat < 128 := (by simpa using h)
    simp [Utf8.decode, h2]
  · rfl
theorem sim_rangeStr {t : TypeId} {av v : AVal} {x : Value} (hu : P.underlying t = some .string) (ha : emb m av = some x) (h : HRel S m H w) (hx : aRange av H = some (v, H')) : ∃ y w', (Instr.range t x).run P w = .ok y w' ∧ Out S m v H' y w' := by
  cases av with
  | str s =>
    simp only [aRange] at hx
    cases hx
    simp only [emb] at ha
    cases ha
    refine ⟨.pointer (some ⟨w.heap.size, 0, none⟩), w.alloc (.stringIter s 0), ?_, _, le_add (m := m) (⟨w.heap.size, 0, none⟩, 0) (h.fresh H.n (Nat.le_refl _)), ?_, h.pushIter s⟩
    · simp [Instr.range, run_underlying hu, newObj, Sem.run]
    · simp [emb, add_eq, Addr.add]
  | _ => cases hx
theorem sim_nextStr {ty : TypeId} {av v : AVal} {x : Value} (ha : emb m av = some x) (h : HRel S m H w) (hx : aNext av H = some (v, H')) : ∃ y w', (Instr.next x true ty).run P w = .ok y w' ∧ Out S m v H' y w' := by
  cases av with
  | ptr r off =>
    simp only [aNext] at hx
    split at hx
    · rename_i s pos hc hg
      simp only [Bool.and_eq_true] at hc
      have hr : r < H.n := (by simpa using hc.1)
      have ho : off = 0 := Nat.eq_of_beq_eq_true hc.2
      subst ho
      simp only [emb] at ha
      cases hp : m r with
      | none => rw [hp] at ha; cases ha
      | some p =>
      rw [hp] at ha; cases ha
      obtain ⟨hB, ho, hsp, hb⟩ := h.loops.iters.ok r s pos p hr hg hp
      have hadd : p.1.add 0 = ⟨p.1.block, 0, none⟩ := by
        obtain ⟨⟨b, o, sp⟩, k⟩ := p
        simp only at ho hsp
        subst ho hsp
        rfl
      rw [hadd]
      split at hx
      · rename_i hlt
        cases hx
        have hlt2 : pos < s.size := (by simpa using hlt)
        refine ⟨.tuple #[.bool true, goInt pos, .int .i32 (Utf8.decode s pos).1], w.putObj p.1.block (.stringIter s (pos + (Utf8.decode s pos).2)), ?_, m, Le.refl _, ?_, ?_⟩
        · simp [Instr.next, run_getObj_iter hb, run_setObj_iter _ hb, hlt2]
        · simp [emb, embL, goInt, aRune_eq]
        · rw [aRune_eq]; exact h.setIter hr hg hp
      · rename_i hlt
        cases hx
        have hlt2 : ¬ pos < s.size := fun q => by rw [show Nat.blt pos s.size = true by simpa using q] at hlt; cases hlt
        refine ⟨.tuple #[.bool false], w, ?_, m, Le.refl _, ?_, h⟩
        · simp [Instr.next, run_getObj_iter hb, hlt2]
        · simp [emb, embL]
    · cases hx
  | _ => cases hx
end
end Go.Am

namespace Go.Am
open Go Go.RowKit
section
variable {P : Program} {S : Base} {m : RMap} {H H' : AHeap} {w : World}
theorem Out.mono {m m' : RMap} {v : AVal} {x : Value} (hm : Le m m') (h : Out S m' v H x w) : Out S m v H x w := by
  obtain ⟨m2, h1, h2⟩ := h
  exact ⟨m2, Le.trans hm h1, h2⟩
def callSem (f : FuncId) (vargs : List Value) : Sem Next := match Nat.beq f yieldId with
  | true => match vargs with
    | .func (.yield l) _ _ :: as => Instr.yield l as.toArray
    | _ => stuck "no round"
  | false => callFunc f vargs.toArray
def CallSim (P : Program) (S : Base) (call : ACall) : Prop :=
  ∀ (f : FuncId) (args : List AVal) (H : AHeap) (v : AVal) (H' : AHeap) (m : RMap) (w : World) (vargs : List Value), call f args H = some (v, H') → HRel S m H w → embL m args = some vargs →
    Yields P (callSem f vargs) w (Out S m v H')
theorem aCallV_some {call : ACall} {fv : AVal} {args : List AVal} {r : AVal × AHeap} (h : aCallV call fv args H = some r) : (∃ g fi ca, fv = .func (.func g) fi ca ∧ call g (fi ++ args ++ ca) H = some r) ∨ ∃ l, fv = .yield l ∧ call yieldId (.yield l :: args) H = some r := by
  cases fv with
  | func fn fi ca => cases fn with
    | func g => exact Or.inl ⟨g, fi, ca, rfl, h⟩
    | _ => exact (fail_some (H := H) h).elim
  | yield l => exact Or.inr ⟨l, rfl, h⟩
  | _ => exact (fail_some (H := H) h).elim
theorem append_congr {argTypes args : _} {ty t t' : TypeId} {x y : Value} (h0 : argTypes[0]? = some t) (h1 : argTypes[1]? = some t') (h2 : args[0]? = some x) (h3 : args[1]? = some y) :
    Builtin.append_ argTypes ty args = Builtin.append_ #[t, t'] ty #[x, y] := by
  unfold Builtin.append_
  simp only [h0, h1, h2, h3]
  rfl
theorem copy_congr {argTypes args : _} {ty t : TypeId} {x y : Value} (h0 : argTypes[0]? = some t) (h2 : args[0]? = some x) (h3 : args[1]? = some y) :
    Builtin.copy_ argTypes ty args = Builtin.copy_ #[t, t] ty #[x, y] := by
  unfold Builtin.copy_
  simp only [h0, h2, h3]
  rfl
theorem len_congr {argTypes args : _} {ty t : TypeId} {x : Value} (h0 : argTypes[0]? = some t) (h2 : args[0]? = some x) :
    Builtin.len_ argTypes ty args = Builtin.len_ #[t] ty #[x] := by
  unfold Builtin.len_
  simp only [h0, h2]
  rfl
theorem args_one {args : Array Operand} {f : Operand → Value} {x : Operand} (h0 : args[0]? = some x) (h1 : args[1]? = none) : args.map f = #[f x] := by
  have hs : args.size = 1 := by
    have := (Array.getElem?_eq_some_iff.1 h0).1
    have := Array.getElem?_eq_none_iff.1 h1
    omega
  apply Array.ext
  · simp [hs]
  · intro i h2 h3
    have : i = 0 := by simp at h3; omega
    subst this
    simp [(Array.getElem?_eq_some_iff.1 h0).2]
theorem args_two {args : Array Operand} {f : Operand → Value} {x y : Operand} (h0 : args[0]? = some x) (h1 : args[1]? = some y) (h2 : args[2]? = none) : args.map f = #[f x, f y] := by
  have hs : args.size = 2 := by
    have := (Array.getElem?_eq_some_iff.1 h1).1
    have := Array.getElem?_eq_none_iff.1 h2
    omega
  apply Array.ext
  · simp [hs]
  · intro i h3 h4
    have : i = 0 ∨ i = 1 := by simp at h4; omega
    rcases this with rfl | rfl
    · simp [(Array.getElem?_eq_some_iff.1 h0).2]
    · simp [(Array.getElem?_eq_some_iff.1 h1).2]
theorem sim_op {nt : Nat} {fr : AFrame} {a : Act} {o : Oper} {ro : ROp} {call : ACall} {v : AVal} (hc : cOp P nt o = some ro) (hf : FRel nt m fr a.tmps) (h : HRel S m H w) (hG : S.G = P.globals.size)
    (hcall : CallSim P S call) (hx : ro.exec call fr H = some (v, H')) : Yields P (execOp a.eval o) w (Out S m v H') := by
  have hg : Globs P.globals.size m := by rw [← hG]; exact h.glob
  obtain ⟨dst, op, ty, pos, after, guard⟩ := o
  cases op with
  | move x =>
    simp only [cOp] at hc
    cases hu : cOpd P.globals.size nt x with
    | none => rw [hu] at hc; cases hc
    | some r => rw [hu] at hc; cases hc; obtain ⟨rfl, rfl⟩ := pure_some hx; exact yields_pure (Out.same h (cOpd_ev hu hf hg))
  | assign x =>
    simp only [cOp] at hc
    cases hu : cOpd P.globals.size nt x with
    | none => rw [hu] at hc; cases hc
    | some r => rw [hu] at hc; cases hc; obtain ⟨rfl, rfl⟩ := pure_some hx; exact yields_pure (Out.same h (cOpd_ev hu hf hg))
  | pick c x y =>
    simp only [cOp] at hc
    split at hc
    · rename_i c' x' y' h1 h2 h3; cases hc
      have e1 := cOpd_ev h1 hf hg; have e2 := cOpd_ev h2 hf hg; have e3 := cOpd_ev h3 hf hg
      simp only [ROp.exec] at hx
      cases hcv : c'.ev fr with
      | bool t =>
        rw [hcv] at hx e1
        obtain ⟨rfl, rfl⟩ := pure_some hx
        simp only [emb] at e1
        have e1' : a.eval c = .bool t := (Option.some.inj e1).symm
        show Yields P (do pure (.value (if ← asBool (a.eval c) then a.eval x else a.eval y))) w _
        cases t
        · simpa [Yields, e1', asBool] using Out.same h e3
        · simpa [Yields, e1', asBool] using Out.same h e2
      | _ => rw [hcv] at hx; exact (fail_some hx).elim
    · cases hc
  | alloc e =>
    simp only [cOp] at hc
    cases hz : cZero P e with
    | none => rw [hz] at hc; cases hc
    | some z =>
      rw [hz] at hc; cases hc
      simp only [ROp.exec] at hx
      obtain ⟨r, H1, h1, h2⟩ := bind_some hx
      obtain ⟨rfl, rfl⟩ := aNew_some h1
      obtain ⟨rfl, rfl⟩ := pure_some h2
      obtain ⟨x, w', hr, ho⟩ := sim_new hz h
      exact yields_v hr ho
  | box e x =>
    simp only [cOp] at hc
    cases hu : cOpd P.globals.size nt x with
    | none => rw [hu] at hc; cases hc
    | some r =>
      rw [hu] at hc; cases hc
      simp only [ROp.exec] at hx
      obtain ⟨r', H1, h1, h2⟩ := bind_some hx
      obtain ⟨rfl, rfl⟩ := aNew_some h1
      obtain ⟨rfl, rfl⟩ := pure_some h2
      obtain ⟨y, w', hr, ho⟩ := sim_box (P := P) (e := e) (cOpd_ev hu hf hg) h
      exact yields_v hr ho
  | build t ps =>
    obtain ⟨x, hr, he, rfl⟩ := sim_build hf h hg hc hx
    exact yields_v hr (Out.same h he)
  | buildSlice t len ps =>
    simp only [cOp] at hc
    split at hc
    · rename_i e hu
      split at hc
      · rename_i s z hs hz
        split at hc
        · rename_i hcond
          split at hc
          · rename_i l hl; cases hc
            obtain ⟨x, w', hr, ho⟩ := sim_buildSlice hf h hg hu hs hz hcond hl hx
            exact yields_v hr ho
          · cases hc
        · cases hc
      · cases hc
    · cases hc
  | insert t m k v => simp [cOp] at hc
  | load t x =>
    simp only [cOp] at hc
    split at hc
    · rename_i g r hgg hu; cases hc
      obtain ⟨ad, y, he, hr, hy, rfl⟩ := sim_load (P := P) hgg (cOpd_ev hu hf hg) h hx
      refine yields_v (x := y) (w' := w) ?_ (Out.same h hy)
      show (Instr.loadAt t (a.eval x)).run P w = _
      rw [he]
      simp [Instr.loadAt, Instr.sureAddr, hr]
    · cases hc
  | store t x y =>
    simp only [cOp] at hc
    split at hc
    · rename_i n r r' hn h1 h2; cases hc
      obtain ⟨w', hr, ho⟩ := sim_store (P := P) hn (cOpd_ev h1 hf hg) (cOpd_ev h2 hf hg) h hx
      exact yields_u hr ho
    · cases hc
  | ready g => simp [cOp] at hc
  | waits g => simp [cOp] at hc
  | nilCheck x =>
    simp only [cOp] at hc
    cases hu : cOpd P.globals.size nt x with
    | none => rw [hu] at hc; cases hc
    | some r =>
      rw [hu] at hc; cases hc
      obtain ⟨h1, rfl⟩ := ofOption_some hx
      have he := cOpd_ev hu hf hg
      cases hv : r.ev fr <;> rw [hv] at h1 he <;> simp only [aNilCheck] at h1 <;> cases h1
      obtain ⟨p, hp, hxv⟩ := emb_ptr_some he
      have : execOp a.eval { dst, op := .nilCheck x, type := ty, pos, after, guard } = pure (.value (a.eval x)) := by
        unfold execOp
        simp only [hxv]
      rw [this]
      exact yields_pure (Out.same h he)
  | binOp op t x y yt =>
    simp only [cOp] at hc
    have key : ∀ (x' y' : ROpd), cOpd P.globals.size nt x = some x' → cOpd P.globals.size nt y = some y' → (ROp.bin op x' y').exec call fr H = some (v, H') →
        Yields P (execOp a.eval { dst, op := .binOp op t x y yt, type := ty, pos, after, guard }) w (Out S m v H') := by
      intro x' y' h1 h2 hx
      obtain ⟨h3, rfl⟩ := ofOption_some hx
      obtain ⟨z, hz1, hz2⟩ := sim_bin (P := P) (w := w) (t := t) (x := x) (y := y) (cOpd_ev h1 hf hg) (cOpd_ev h2 hf hg) h3
      exact yields_v hz1 (Out.same h hz2)
    have keyE : ∀ (neg : Bool) (q : EqDesc) (x' y' : ROpd), op = (match neg with | true => .neq | false => .eql) → cEq P 60 t = some q → cOpd P.globals.size nt x = some x' → cOpd P.globals.size nt y = some y' → (∀ k, P.underlying t ≠ some (.int k)) → P.underlying t ≠ some .string →
        (ROp.eq neg q x' y').exec call fr H = some (v, H') → Yields P (execOp a.eval { dst, op := .binOp op t x y yt, type := ty, pos, after, guard }) w (Out S m v H') := by
      intro neg q x' y' hop hq h1 h2 hni hns hx
      simp only [ROp.exec] at hx
      cases he : aEq q (x'.ev fr) (y'.ev fr) with
      | none => rw [he] at hx; exact (fail_some hx).elim
      | some r =>
        rw [he] at hx
        obtain ⟨rfl, rfl⟩ := pure_some hx
        have := sim_eq (P := P) (w := w) (neg := neg) (xo := x) (yo := y) hq (cOpd_ev h1 hf hg) (cOpd_ev h2 hf hg) he hni hns
        subst hop
        exact yields_v this (Out.same h (by cases neg <;> simp [emb]))
    cases hu : P.underlying t with
    | none =>
      rw [hu] at hc
      simp only [] at hc
      have : cEq P 60 t = none := by unfold cEq; rw [hu]
      rw [this] at hc
      unfold cEqOp at hc
      split at hc <;> first | (cases hc; done) | (rename_i hq _ _; cases hq)
    | some ds =>
      rw [hu] at hc
      by_cases hint : ∃ k, ds = .int k
      · obtain ⟨k, rfl⟩ := hint
        simp only [] at hc
        split at hc
        · rename_i x' y' h1 h2; cases hc; exact key x' y' h1 h2 hx
        · cases hc
      · by_cases hstr : ds = .string
        · subst hstr
          simp only [] at hc
          split at hc
          · rename_i x' y' h1 h2; cases hc; exact key x' y' h1 h2 hx
          · cases hc
        · have hni : ∀ k, P.underlying t ≠ some (.int k) := fun k e => hint ⟨k, by rw [hu] at e; exact Option.some.inj e⟩
          have hns : P.underlying t ≠ some .string := fun e => hstr (by rw [hu] at e; exact Option.some.inj e)
          by_cases hif : ∃ ms, ds = .interface ms
          · obtain ⟨ms, rfl⟩ := hif
            simp only [] at hc
            have keyI : ∀ (neg : Bool) (x' y' : ROpd), op = (match neg with | true => .neq | false => .eql) → cOpd P.globals.size nt x = some x' → cOpd P.globals.size nt y = some y' →
                (ROp.eq neg (ifaceD P x y) x' y').exec call fr H = some (v, H') → Yields P (execOp a.eval { dst, op := .binOp op t x y yt, type := ty, pos, after, guard }) w (Out S m v H') := by
              intro neg x' y' hop h1 h2 hx
              simp only [ROp.exec] at hx
              cases he : aEq (ifaceD P x y) (x'.ev fr) (y'.ev fr) with
              | none => rw [he] at hx; exact (fail_some hx).elim
              | some r =>
                rw [he] at hx
                obtain ⟨rfl, rfl⟩ := pure_some hx
                have := sim_eqI (P := P) (w := w) (neg := neg) (xo := x) (yo := y) hu (cOpd_ev h1 hf hg) (cOpd_ev h2 hf hg) he
                subst hop
                exact yields_v this (Out.same h (by cases neg <;> simp [emb]))
            unfold cEqOp at hc
            split at hc
            · rename_i d x' y' hq h1 h2; cases hq; cases hc; exact keyI false x' y' rfl h1 h2 hx
            · rename_i d x' y' hq h1 h2; cases hq; cases hc; exact keyI true x' y' rfl h1 h2 hx
            · cases hc
          have hc' : cEqOp op (cEq P 60 t) (cOpd P.globals.size nt x) (cOpd P.globals.size nt y) = some ro := by
            cases ds <;> first | exact hc | exact absurd rfl hstr | exact absurd ⟨_, rfl⟩ hint | exact absurd ⟨_, rfl⟩ hif
          unfold cEqOp at hc'
          split at hc'
          · rename_i d x' y' hq h1 h2; cases hc'; exact keyE false d x' y' rfl hq h1 h2 hni hns hx
          · rename_i d x' y' hq h1 h2; cases hc'; exact keyE true d x' y' rfl hq h1 h2 hni hns hx
          · cases hc'
  | unOp op t x =>
    simp only [cOp] at hc
    cases hu : cOpd P.globals.size nt x with
    | none => rw [hu] at hc; cases hc
    | some r =>
      rw [hu] at hc; cases hc
      obtain ⟨h1, rfl⟩ := ofOption_some hx
      obtain ⟨z, hz1, hz2⟩ := sim_un (P := P) (w := w) (cOpd_ev hu hf hg) h1
      exact yields_v hz1 (Out.same h hz2)
  | convert s d x =>
    simp only [cOp] at hc
    split at hc
    · rename_i k0 k r hs hd hu; cases hc
      have he := cOpd_ev hu hf hg
      simp only [ROp.exec] at hx
      cases hv : r.ev fr with
      | int k1 n =>
        rw [hv] at hx he
        obtain ⟨rfl, rfl⟩ := pure_some hx
        simp only [emb] at he
        have he' : a.eval x = .int k1 n := (Option.some.inj he).symm
        refine yields_v (s := convert s d (a.eval x)) (x := .int k (k.wrap n)) (w' := w) ?_ (Out.same h (emb_int_mk _ _))
        rw [he']
        exact sim_conv_int hs hd
      | _ => rw [hv] at hx; exact (fail_some hx).elim
    · rename_i e r hs hd hu
      split at hc
      · rename_i he hsz; cases hc
        obtain ⟨y, hr, ho⟩ := sim_bytesToStr (P := P) hs hd he (cOpd_ev hu hf hg) h hx
        exact yields_v hr ho
      · cases hc
    · rename_i e r hs hd hu
      split at hc
      · rename_i he hsz; cases hc
        obtain ⟨y, w', hr, ho⟩ := sim_strToBytes (P := P) hs hd he (cOpd_ev hu hf hg) h hx
        exact yields_v hr ho
      · cases hc
    · rename_i t r hs hd hu
      cases hz : cSize P t with
      | none => rw [hz] at hc; cases hc
      | some sz =>
        rw [hz] at hc; cases hc
        obtain ⟨hr, he, rfl⟩ := sim_uptr (P := P) hz (Or.inl ⟨hs, hd⟩) (cOpd_ev hu hf hg) h hx
        exact yields_v (s := convert s d (a.eval x)) hr (Out.same h he)
    · rename_i t r hs hd hu
      cases hz : cSize P t with
      | none => rw [hz] at hc; cases hc
      | some sz =>
        rw [hz] at hc; cases hc
        obtain ⟨hr, he, rfl⟩ := sim_uptr (P := P) hz (Or.inr ⟨hs, hd⟩) (cOpd_ev hu hf hg) h hx
        exact yields_v (s := convert s d (a.eval x)) hr (Out.same h he)
    · cases hc
  | sliceToArrayPointer d x => simp [cOp] at hc
  | makeInterface t x =>
    simp only [cOp] at hc
    split at hc
    · cases hc
    · rename_i ds r hni hut hu; cases hc
      obtain ⟨rfl, rfl⟩ := pure_some hx
      have he := cOpd_ev hu hf hg
      refine yields_v (s := Instr.makeInterface t (a.eval x)) (x := .iface t (a.eval x)) (w' := w) ?_ (Out.same h (by simp [emb, he]))
      simp only [Instr.makeInterface, Sem.run_bind, run_underlying hut, Result.andThen_ok]
      cases ds <;> first | rfl | exact absurd rfl (hni _)
    · cases hc
  | makeFunc fn x y =>
    simp only [cOp] at hc
    split at hc
    · rename_i r r' h0 h1 h2; cases hc
      obtain ⟨rfl, rfl⟩ := pure_some hx
      have e1 := cOpds_ev hf hg h1
      have e2 := cOpds_ev hf hg h2
      refine yields_v (s := Instr.makeFunc fn (x.map a.eval) (y.map a.eval)) (x := .func fn (x.map a.eval) (y.map a.eval)) (w' := w) rfl (Out.same h ?_)
      simp only [emb, h0, e1, e2]
      simp only [Option.some.injEq, Value.func.injEq, true_and]
      exact ⟨by apply Array.ext'; simp, by apply Array.ext'; simp⟩
    · cases hc
  | makeMap t r =>
    have key : ∀ (hv : (Instr.makeMap t (r.map a.eval)).run P w = .ok (.map (some w.heap.size)) (w.alloc (.map #[] 0))), ro = .mapLit [] → Yields P (execOp a.eval { dst, op := .makeMap t r, type := ty, pos, after, guard }) w (Out S m v H') := by
      intro hv hro
      subst hro
      simp only [ROp.exec] at hx
      cases hx
      refine yields_v (s := Instr.makeMap t (r.map a.eval)) hv ⟨_, le_add (m := m) (⟨w.heap.size, 0, none⟩, 0) (h.fresh H.n (Nat.le_refl _)), ?_, h.pushMap⟩
      simp [emb, add_eq]
    simp only [cOp] at hc
    split at hc
    · rename_i kt et hr hu
      cases hc
      have h2 : r = none ∨ ∃ k n, r = some (.const (.int k n)) := by
        unfold hintOk at hr
        split at hr
        · exact Or.inl rfl
        · exact Or.inr ⟨_, _, rfl⟩
        · cases hr
      rcases h2 with rfl | ⟨k, n, rfl⟩
      · exact key (by simp [Instr.makeMap, run_newObj]) rfl
      · exact key (by simp [Instr.makeMap, run_newObj, run_underlying hu, Act.eval, asInt, asIntOf]) rfl
    · cases hc
  | makeChan t s => simp [cOp] at hc
  | makeSlice t l c =>
    simp only [cOp] at hc
    split at hc
    · rename_i e hu
      split at hc
      · rename_i s z b l' c' hs hz hb h1 h2
        split at hc
        · rename_i hcond; cases hc
          obtain ⟨y, w', hr, ho⟩ := sim_makeSlice (P := P) hu hs hz hb hcond.1 hcond.2 (cOpd_ev h1 hf hg) (cOpd_ev h2 hf hg) h hx
          exact yields_v hr ho
        · cases hc
      · cases hc
    · cases hc
  | slice t x lo hi mx =>
    simp only [cOp] at hc
    split at hc
    · rename_i x' lo' hi' mx' h1 h2 h3 h4
      have o2 := cOpt_ev hf hg h2; have o3 := cOpt_ev hf hg h3; have o4 := cOpt_ev hf hg h4
      split at hc
      · rename_i hu
        split at hc
        · cases hc
          obtain ⟨h5, rfl⟩ := ofOption_some hx
          obtain ⟨y, hr, he⟩ := sim_sliceStr (P := P) (w := w) hu (cOpd_ev h1 hf hg) o2 o3 h5
          have : mx.map a.eval = none := by cases mx <;> simp_all [OptE]
          refine yields_v (s := Instr.sliceAt t (a.eval x) (lo.map a.eval) (hi.map a.eval) (mx.map a.eval)) ?_ (Out.same h he)
          rw [this]; exact hr
        · cases hc
      · rename_i e hu
        cases hs : cSize P e with
        | none => rw [hs] at hc; cases hc
        | some s =>
          rw [hs] at hc; cases hc
          obtain ⟨y, hr, ho⟩ := sim_sliceS (P := P) hu hs (cOpd_ev h1 hf hg) o2 o3 o4 h hx
          exact yields_v hr ho
      · rename_i n e hu
        cases hs : cSize P e with
        | none => rw [hs] at hc; cases hc
        | some s =>
          rw [hs] at hc; cases hc
          obtain ⟨h5, rfl⟩ := ofOption_some hx
          obtain ⟨y, hr, he⟩ := sim_sliceArr (P := P) (w := w) hu hs (cOpd_ev h1 hf hg) o2 o3 o4 h5
          exact yields_v hr (Out.same h he)
      · cases hc
    · cases hc
  | fieldAddr t x f =>
    simp only [cOp] at hc
    split at hc
    · rename_i fs r hu h1
      split at hc
      · rename_i fd hfd
        split at hc
        · rename_i n hn
          split at hc
          · cases hc
          · rename_i hn0; cases hc
            obtain ⟨h5, rfl⟩ := ofOption_some hx
            obtain ⟨y, hr, he⟩ := sim_fieldAddr (P := P) (w := w) hu hfd hn hn0 (cOpd_ev h1 hf hg) h5
            exact yields_v hr (Out.same h he)
        · cases hc
      · cases hc
    · cases hc
  | field t x f =>
    simp only [cOp] at hc
    split at hc
    · rename_i fs r hu h1
      split at hc
      · rename_i fd hfd
        split at hc
        · rename_i g hgg; cases hc
          obtain ⟨h5, rfl⟩ := ofOption_some hx
          obtain ⟨y, hr, he⟩ := sim_field (P := P) (w := w) hu hfd hgg (cOpd_ev h1 hf hg) h5
          exact yields_v hr (Out.same h he)
        · cases hc
      · cases hc
    · cases hc
  | indexAddr t x i =>
    simp only [cOp] at hc
    split at hc
    · rename_i e x' i' hu h1 h2
      cases hs : cSize P e with
      | none => rw [hs] at hc; cases hc
      | some s =>
        rw [hs] at hc; cases hc
        obtain ⟨h5, rfl⟩ := ofOption_some hx
        obtain ⟨y, hr, he⟩ := sim_idxS (P := P) (w := w) hu hs (cOpd_ev h1 hf hg) (cOpd_ev h2 hf hg) h5
        exact yields_v hr (Out.same h he)
    · rename_i n e x' i' hu h1 h2
      cases hs : cSize P e with
      | none => rw [hs] at hc; cases hc
      | some s =>
        rw [hs] at hc; cases hc
        obtain ⟨h5, rfl⟩ := ofOption_some hx
        obtain ⟨y, hr, he⟩ := sim_idxA (P := P) (w := w) hu hs (cOpd_ev h1 hf hg) (cOpd_ev h2 hf hg) h5
        exact yields_v hr (Out.same h he)
    · cases hc
  | index t x i =>
    simp only [cOp] at hc
    split at hc
    · rename_i x' i' hu h1 h2; cases hc
      obtain ⟨h5, rfl⟩ := ofOption_some hx
      obtain ⟨y, hr, he⟩ := sim_indexStr (P := P) (w := w) hu (cOpd_ev h1 hf hg) (cOpd_ev h2 hf hg) h5
      exact yields_v hr (Out.same h he)
    · rename_i n e x' i' hu h1 h2
      split at hc
      · rename_i g s hgg hs; cases hc
        obtain ⟨h5, rfl⟩ := ofOption_some hx
        obtain ⟨y, hr, he⟩ := sim_indexA (P := P) (w := w) hu hs hgg (cOpd_ev h1 hf hg) (cOpd_ev h2 hf hg) h5
        exact yields_v hr (Out.same h he)
      · cases hc
    · cases hc
  | lookup t x i ok =>
    simp only [cOp] at hc
    split at hc
    · rename_i kt e x' k' hu h1 h2
      split at hc
      · rename_i d z hq hk hz; cases hc
        simp only [ROp.exec] at hx
        obtain ⟨y, hr, ho⟩ := sim_lookup (P := P) hu hq hk hz (cOpd_ev h1 hf hg) (cOpd_ev h2 hf hg) h hx
        exact yields_v hr ho
      · cases hc
    · cases hc
  | mapUpdate t mp k vv =>
    simp only [cOp] at hc
    split at hc
    · rename_i kt et mp' k' vv' hu h1 h2 h3
      split at hc
      · rename_i d hq hk; cases hc
        simp only [ROp.exec] at hx
        obtain ⟨w', hr, rfl, ho⟩ := sim_mapSet (P := P) hu hq hk (cOpd_ev h1 hf hg) (cOpd_ev h2 hf hg) (cOpd_ev h3 hf hg) h hx
        exact yields_u hr ⟨m, Le.refl _, by simp [aundef, emb, embL, undef], ho⟩
      · cases hc
    · cases hc
  | mapEntry t m k => simp [cOp] at hc
  | entryStore t m s v => simp [cOp] at hc
  | range t x =>
    simp only [cOp] at hc
    split at hc
    · rename_i x' hu h1; cases hc
      simp only [ROp.exec] at hx
      obtain ⟨y, w', hr, ho⟩ := sim_rangeStr (P := P) hu (cOpd_ev h1 hf hg) h hx
      exact yields_v hr ho
    · cases hc
  | next it b =>
    simp only [cOp] at hc
    split at hc
    · rename_i x' h1; cases hc
      simp only [ROp.exec] at hx
      obtain ⟨y, w', hr, ho⟩ := sim_nextStr (P := P) (ty := ty) (cOpd_ev h1 hf hg) h hx
      exact yields_v hr ho
    · cases hc
  | entry it => simp [cOp] at hc
  | typeAssert x t u ok => simp [cOp] at hc
  | extract x i =>
    simp only [cOp] at hc
    cases hu : cOpd P.globals.size nt x with
    | none => rw [hu] at hc; cases hc
    | some r =>
      rw [hu] at hc; cases hc
      obtain ⟨h1, rfl⟩ := ofOption_some hx
      obtain ⟨z, hz1, hz2⟩ := sim_extract (P := P) (w := w) (cOpd_ev hu hf hg) h1
      exact yields_v hz1 (Out.same h hz2)
  | call c =>
    obtain ⟨callee, args, argTypes⟩ := c
    cases callee with
    | invoke r n => simp [cOp] at hc
    | value f =>
      simp only [cOp] at hc
      split at hc
      · rename_i f' l h1 h2; cases hc
        have e1 := cOpd_ev h1 hf hg
        have e2 := cOpds_ev hf hg h2
        simp only [ROp.exec] at hx
        rcases aCallV_some hx with ⟨g, fi, ca, hfv, hx⟩ | ⟨l, hfv, hx⟩
        · rw [hfv] at e1
          simp only [emb] at e1
          split at e1
          · rename_i l1 l2 h0 h3 h4
            have e1' : a.eval f = .func (.func g) l1.toArray l2.toArray := (Option.some.inj e1).symm
            have e3 := embL_append (embL_append h3 e2) h4
            have := hcall g _ H v H' m w _ hx h e3
            have hg' : Nat.beq g yieldId = false := by simpa [fnOk] using h0
            have heq : execOp a.eval { dst, op := .call { callee := .value f, args, argTypes }, type := ty, pos, after, guard } = callFunc g (l1 ++ args.toList.map a.eval ++ l2).toArray := by
              show (do let d ← (Deferred.ofValue (a.eval f) (args.map a.eval)); invoke d.target d.args) = _
              rw [e1']
              simp only [Deferred.ofValue, pure_bind, invoke]
              congr 1
              apply Array.ext'; simp
            rw [heq]
            simp only [callSem, hg'] at this
            exact this
          · cases e1
        · rw [hfv] at e1
          simp only [emb] at e1
          split at e1
          · rename_i p hp
            have e1' : a.eval f = .func (.yield p.1.block) #[] #[] := (Option.some.inj e1).symm
            have e3 : embL m (.yield l :: _) = some (.func (.yield p.1.block) #[] #[] :: _) := embL_mk (by simp [emb, hp]) e2
            have := hcall yieldId _ H v H' m w _ hx h e3
            have heq : execOp a.eval { dst, op := .call { callee := .value f, args, argTypes }, type := ty, pos, after, guard } = Instr.yield p.1.block (args.toList.map a.eval).toArray := by
              show (do let d ← (Deferred.ofValue (a.eval f) (args.map a.eval)); invoke d.target d.args) = _
              rw [e1']
              simp only [Deferred.ofValue, pure_bind, invoke]
              congr 1
              apply Array.ext'; simp
            rw [heq]
            simp only [callSem, nbeq_self] at this
            exact this
          · cases e1
      · cases hc
    | builtin b =>
      simp only [cOp] at hc
      cases b <;> simp only [] at hc <;> try (cases hc; done)
      case append =>
        split at hc
        · rename_i t t' x y ht ht' hx0 hy0
          have hm0 : (args.map a.eval)[0]? = some (a.eval x) := by simp [hx0]
          have hm1 : (args.map a.eval)[1]? = some (a.eval y) := by simp [hy0]
          split at hc
          · rename_i e x' y' hu hu' h1 h2
            split at hc
            · rename_i s b z hs hb hz; cases hc
              simp only [ROp.exec] at hx
              obtain ⟨y0, w', hr, ho⟩ := sim_appendZ (P := P) (ty := ty) hu hu' hs hb hz (cOpd_ev h1 hf hg) (cOpd_ev h2 hf hg) h hx
              refine yields_v (s := Builtin.append_ argTypes ty (args.map a.eval)) ?_ ho
              rw [append_congr ht ht' hm0 hm1]; exact hr
            · cases hc
          · cases hc
          · rename_i e d' x' y' hnt0 hnt hu hu' h1 h2
            split at hc
            · rename_i s b z hs hb hz
              split at hc
              · rename_i hzl; cases hc
                simp only [ROp.exec] at hx
                obtain ⟨y0, w', hr, ho⟩ := sim_append (P := P) (ty := ty) hu hu' (fun k e => hnt _ e) hs hb hz hzl (cOpd_ev h1 hf hg) (cOpd_ev h2 hf hg) h hx
                refine yields_v (s := Builtin.append_ argTypes ty (args.map a.eval)) ?_ ho
                rw [append_congr ht ht' hm0 hm1]; exact hr
              · cases hc
            · cases hc
          · cases hc
        · cases hc
      case copy =>
        split at hc
        · rename_i t x y ht hx0 hy0
          have hm0 : (args.map a.eval)[0]? = some (a.eval x) := by simp [hx0]
          have hm1 : (args.map a.eval)[1]? = some (a.eval y) := by simp [hy0]
          split at hc
          · rename_i e x' y' hu h1 h2
            cases hs : cSize P e with
            | none => rw [hs] at hc; cases hc
            | some s =>
              rw [hs] at hc; cases hc
              simp only [ROp.exec] at hx
              obtain ⟨y0, w', hr, ho⟩ := sim_copy (P := P) (t' := t) (ty := ty) hu hs (cOpd_ev h1 hf hg) (cOpd_ev h2 hf hg) h hx
              refine yields_v (s := Builtin.copy_ argTypes ty (args.map a.eval)) ?_ ho
              rw [copy_congr ht hm0 hm1]; exact hr
          · cases hc
        · cases hc
      case unsafeSliceData =>
        split at hc
        · rename_i t x ht hx0 hx1
          split at hc
          · rename_i e x' hu h1
            cases hz : cSize P e with
            | none => rw [hz] at hc; cases hc
            | some sz =>
              rw [hz] at hc; cases hc
              obtain ⟨y, hr, he, rfl⟩ := sim_sliceData (P := P) (at' := argTypes) (ty := ty) (cOpd_ev h1 hf hg) h hx
              refine yields_v (s := Builtin.unsafeSliceData_ argTypes ty (args.map a.eval)) ?_ (Out.same h he)
              rw [args_one hx0 hx1]; exact hr
          · cases hc
        · cases hc
      case unsafeString =>
        split at hc
        · rename_i t x y ht hx0 hx1 hx2
          split at hc
          · rename_i e x' y' hu h1 h2
            split at hc
            · rename_i hbt hz; cases hc
              obtain ⟨z, w', hr, he, ho⟩ := sim_unsafeStr (P := P) (at' := argTypes) (ty := ty) ht hu hz (cOpd_ev h1 hf hg) (cOpd_ev h2 hf hg) h hx
              refine yields_v (s := Builtin.unsafeString_ argTypes ty (args.map a.eval)) (x := z) (w' := w') ?_ ⟨m, Le.refl _, he, ho⟩
              rw [args_two hx0 hx1 hx2]; exact hr
            · cases hc
          · cases hc
        · cases hc
      case cap =>
        split at hc
        · rename_i t x ht hx0
          have hm0 : (args.map a.eval)[0]? = some (a.eval x) := by simp [hx0]
          split at hc
          · rename_i e x' hu h1; cases hc
            obtain ⟨h5, rfl⟩ := ofOption_some hx
            obtain ⟨y, hr, he⟩ := sim_capS (P := P) (w := w) (ty := ty) ht hm0 hu (cOpd_ev h1 hf hg) h5
            exact yields_v (s := Builtin.cap_ argTypes ty (args.map a.eval)) hr (Out.same h he)
          · cases hc
        · cases hc
      case len =>
        split at hc
        · rename_i t x ht hx0
          have hm0 : (args.map a.eval)[0]? = some (a.eval x) := by simp [hx0]
          split at hc
          · rename_i x' hu h1; cases hc
            obtain ⟨h5, rfl⟩ := ofOption_some hx
            obtain ⟨y, hr, he⟩ := sim_lenStr (P := P) (w := w) (ty := ty) hu (cOpd_ev h1 hf hg) h5
            refine yields_v (s := Builtin.len_ argTypes ty (args.map a.eval)) ?_ (Out.same h he)
            rw [len_congr ht hm0]; exact hr
          · rename_i e x' hu h1; cases hc
            obtain ⟨h5, rfl⟩ := ofOption_some hx
            obtain ⟨y, hr, he⟩ := sim_lenS (P := P) (w := w) (ty := ty) hu (cOpd_ev h1 hf hg) h5
            refine yields_v (s := Builtin.len_ argTypes ty (args.map a.eval)) ?_ (Out.same h he)
            rw [len_congr ht hm0]; exact hr
          · rename_i kt e x' hu h1; cases hc
            obtain ⟨y, hr, he, rfl⟩ := sim_lenM (P := P) (w := w) (ty := ty) hu (cOpd_ev h1 hf hg) h hx
            refine yields_v (s := Builtin.len_ argTypes ty (args.map a.eval)) ?_ (Out.same h he)
            rw [len_congr ht hm0]; exact hr
          · rename_i n e hu; cases hc
            obtain ⟨rfl, rfl⟩ := pure_some hx
            refine yields_v (s := Builtin.len_ argTypes ty (args.map a.eval)) (x := goInt n) (w' := w) ?_ (Out.same h (by simp [emb, goInt]))
            rw [len_congr ht hm0]
            simp [Builtin.len_, run_underlying hu]
          · cases hc
        · cases hc
      case max =>
        split at hc
        · rename_i l h1; cases hc
          have e1 := cOpds_ev hf hg h1
          simp only [ROp.exec] at hx
          cases l with
          | nil => exact (fail_some hx).elim
          | cons r l =>
            obtain ⟨h5, rfl⟩ := ofOption_some hx
            obtain ⟨x, xs, e2, e3, e4⟩ := embL_cons e1
            obtain ⟨y, hr, he⟩ := sim_minmax (P := P) (w := w) _ _ _ _ _ e3 e2 h5
            refine yields_v (s := Builtin.max_ argTypes ty (args.map a.eval)) ?_ (Out.same h he)
            unfold Builtin.max_
            rw [Array.toList_map, e4]
            exact hr
        · cases hc
      case min =>
        split at hc
        · rename_i l h1; cases hc
          have e1 := cOpds_ev hf hg h1
          simp only [ROp.exec] at hx
          cases l with
          | nil => exact (fail_some hx).elim
          | cons r l =>
            obtain ⟨h5, rfl⟩ := ofOption_some hx
            obtain ⟨x, xs, e2, e3, e4⟩ := embL_cons e1
            obtain ⟨y, hr, he⟩ := sim_minmax (P := P) (w := w) _ _ _ _ _ e3 e2 h5
            refine yields_v (s := Builtin.min_ argTypes ty (args.map a.eval)) ?_ (Out.same h he)
            unfold Builtin.min_
            rw [Array.toList_map, e4]
            exact hr
        · cases hc
  | go c => simp [cOp] at hc
  | defer c => simp [cOp] at hc
  | panic x => simp [cOp] at hc
  | send c x => simp [cOp] at hc
  | recv t c ok => simp [cOp] at hc
  | select cs b => simp [cOp] at hc
theorem cOp_slice {nt : Nat} {o : Oper} {sz : Nat} {x : ROpd} {lo hi mx : Option ROpd} (h : cOp P nt o = some (.sliceS sz x lo hi mx)) : ∃ t x' lo' hi' mx', o.op = .slice t x' lo' hi' mx' := by
  obtain ⟨dst, op, ty, pos, after, guard⟩ := o
  cases op with
  | slice t x lo hi mx => exact ⟨_, _, _, _, _, rfl⟩
  | call c =>
    exfalso
    obtain ⟨callee, args, argTypes⟩ := c
    cases callee with
    | builtin b => cases b <;> simp only [cOp] at h <;> (repeat' split at h) <;> first | (cases h; done) | (simp at h; done)
    | _ => simp only [cOp] at h <;> (repeat' split at h) <;> first | (cases h; done) | (simp at h; done)
  | _ =>
    exfalso
    simp only [cOp, cEqOp] at h
    (repeat' split at h) <;> first | (cases h; done) | (simp at h; done)
theorem sim_soft {nt : Nat} {fr : AFrame} {a : Act} {o : Oper} {u v : AVal} {sz : Nat} {x : ROpd} {lo hi mx : Option ROpd} (hc : cOp P nt o = some (.sliceS sz x lo hi mx)) (hf : FRel nt m fr a.tmps) (h : HRel S m H w) (hG : S.G = P.globals.size)
    (hx : (ROp.sliceS sz x lo hi mx).exec noCall fr H = some (u, H')) (hn : H'.n ≠ H.n) (hE : aSliceE sz (x.ev fr) (lo.map (·.ev fr)) (hi.map (·.ev fr)) (mx.map (·.ev fr)) = some v) : Yields P (execOp a.eval o) w (Out S m v H) := by
  have hg : Globs P.globals.size m := by rw [← hG]; exact h.glob
  obtain ⟨t, x', lo', hi', mx', ho⟩ := cOp_slice hc
  obtain ⟨dst, op, ty, pos, after, guard⟩ := o
  simp only at ho
  subst ho
  simp only [cOp] at hc
  split at hc
  · rename_i x2 lo2 hi2 mx2 h1 h2 h3 h4
    split at hc
    · split at hc <;> cases hc
    · rename_i e hu
      cases hs : cSize P e with
      | none => rw [hs] at hc; cases hc
      | some s =>
        rw [hs] at hc; cases hc
        have o2 := cOpt_ev hf hg h2; have o3 := cOpt_ev hf hg h3; have o4 := cOpt_ev hf hg h4
        obtain ⟨y, hr, ho⟩ := sim_sliceE (P := P) hu hs (cOpd_ev h1 hf hg) o2 o3 o4 h hx hn hE
        exact yields_v hr ho
    · rename_i n e hu
      cases hs : cSize P e with
      | none => rw [hs] at hc; cases hc
      | some s => rw [hs] at hc; cases hc
    · cases hc
  · cases hc
end
end Go.Am

namespace Go.Am
open Go Go.RowKit
section
variable {P : Program} {S : Base} {m : RMap} {H H' : AHeap} {w : World}
abbrev wid (ro : Option Nat) : Fence := { Fence.wide with round := ro }
theorem calls_wid {ro : Option Nat} {f : FuncId} {args : Array Value} {n : Nat} {R : Ending → World → Prop} (h : Calls P f args w R) : CallsIn (wid ro) n P f args w R := (callsIn_wide (n := n)).2 h
theorem wpIn_of_yields {ro : Option Nat} {o : Oper} {a : Act} {R : Value → World → Prop} {next : Act → World → Prop} {Q : Exit → Act → World → Prop} (hd : ∀ c, o.op ≠ .defer c) (h : Yields P (execOp a.eval o) w R) (hn : ∀ x w', R x w' → next (a.put o.dst x) w') : o.wpIn (wid ro) 0 P a w next Q := by
  refine ⟨fun _ _ => trivial, ?_⟩
  rw [show (wid ro).round = ro from rfl, Oper.semAt_eq _ _ _ hd]
  unfold Yields at h
  cases hr : (execOp a.eval o).run P w with
  | halt e w' => rw [hr] at h; exact h.elim
  | ok n w' =>
    rw [hr] at h
    cases n with
    | value v => exact hn _ _ h
    | skip => exact hn _ _ h
    | enter f args =>
      rw [Oper.uponIn_enter]
      refine ⟨fun h => by simp [Fence.wide] at h, CallsIn.mono (calls_wid h) fun e w'' ⟨v, h1, h2⟩ => ?_⟩
      subst h1; exact hn _ _ h2
    | round l f tmps assign body =>
      rw [Oper.uponIn_round]
      refine ⟨fun h => by simp [Fence.wide] at h, RoundIn.mono (F := wid ro) (n := 0 - 1) h fun e w'' ⟨v, h1, h2⟩ => ?_⟩
      subst h1; exact hn _ _ h2
    | _ => exact h.elim
theorem cOp_plain {nt : Nat} {o : Oper} {r : ROp} (h : cOp P nt o = some r) : ∀ c, o.op ≠ .defer c := fun c e => by
  unfold cOp at h
  rw [e] at h
  cases h
section
variable {F : Fence} {n : Nat} {b : Frame} {a : Act} {k : List Item} {cs : List Frame} {Q : Exit → Act → World → Prop}
theorem stepR_scope {c : Code} : step P (lone (b.atR a (.code (.scope c) :: k)) cs w) = .next (lone (b.atR a (.code c :: .inScope c :: k)) cs w) :=
  step_lone_go (by simp [stepG, stepG.exec, Frame.atR])
theorem stepR_inScope {c : Code} : step P (lone (b.atR a (.inScope c :: k)) cs w) = .next (lone (b.atR a k) cs w) :=
  step_lone_go (by simp [stepG, stepG.exec, Frame.atR])
theorem wpIn_scope_straight {c : Code} (h : c.wpIn F n P (Exit.noGoto Q) a w) : (Code.scope c).wpIn F n P Q a w := by
  intro b k cs hro hb hr
  have h0 : (lone (b.atR a (.code (.scope c) :: k)) cs w).fenced P F := fenced_calm hb hr rfl
  obtain ⟨e, a₁, w₁, hq, harr⟩ := h b (.inScope c :: k) cs hro hb hr
  cases e with
  | normal => exact ⟨.normal, a₁, w₁, hq, .head h0 stepR_scope (StepsIn.trans harr (.one (fenced_calm hb hr rfl) stepR_inScope))⟩
  | exit id =>
    have hx : exitTo id (.inScope c :: k) = exitTo id k := by simp [exitTo]
    exact ⟨_, a₁, w₁, hq, fun k' hk => .head h0 stepR_scope (harr.1 k' (by rw [hx]; exact hk)),
      fun hr' hk => let ⟨k₁, h1, h2⟩ := harr.2 hr' (by rw [hx]; exact hk); ⟨k₁, h1, .head h0 stepR_scope h2⟩⟩
  | goto l => exact hq.elim
  | ret => exact ⟨_, a₁, w₁, hq, .of_steps (.one h0 stepR_scope) harr⟩
  | panic ch => exact ⟨_, a₁, w₁, hq, .of_steps (.one h0 stepR_scope) harr⟩
  | outgrown => exact ⟨_, a₁, w₁, hq, .of_steps (.one h0 stepR_scope) harr⟩
end
theorem FRel.put {nt : Nat} {fr : AFrame} {a : Act} (h : FRel nt m fr a.tmps) {d : Option Nat} {d' : Option Tmp} (hd : cDst nt d' = some d) {v : AVal} {x : Value} (hv : emb m v = some x) : FRel nt m (put fr d v) (a.put d' x).tmps := by
  cases d' with
  | none => simp only [cDst] at hd; cases hd; exact h
  | some t =>
    simp only [cDst] at hd
    split at hd
    · rename_i ht; cases hd
      refine ⟨by simp [Act.put, h.1], fun i hi => ?_⟩
      by_cases hit : i = t
      · subst hit
        exact ⟨x, by simp [Go.Am.put, upd, hv], by simp [Act.put, h.1, hi]⟩
      · obtain ⟨y, h1, h2⟩ := h.2 i hi
        exact ⟨y, by simp [Go.Am.put, upd, nbeq_ne hit, h1], by simp [Act.put, Ne.symm hit, h2]⟩
    · cases hd
theorem put_defers (a : Act) (d : Option Tmp) (x : Value) : (a.put d x).defers = a.defers := by cases d <;> rfl
theorem emb_bool {v : AVal} {b : Bool} (h : emb m v = some (.bool b)) : v = .bool b := by
  cases v <;> simp only [emb] at h <;> first | (cases h; rfl) | (cases h; done) | (split at h <;> cases h)
theorem wanted_eq {nt : Nat} {fr : AFrame} {a : Act} (h : FRel nt m fr a.tmps) {ops : Array Oper} {o : Oper} {g : Option (Nat × Bool)} (hg : cGuard nt ops o.guard = some g) {ro : ROper} (hro : ro.guard = g) :
    Region.wanted o (yielded ops a.tmps) = ro.wanted fr := by
  unfold ROper.wanted Region.wanted
  rw [hro]
  cases hog : o.guard with
  | none => rw [hog] at hg; simp only [cGuard] at hg; cases hg; rfl
  | some jb =>
    obtain ⟨j, b⟩ := jb
    rw [hog] at hg
    simp only [cGuard] at hg
    cases ht : (ops[j]?).bind (·.dst) with
    | none => rw [ht] at hg; cases hg
    | some t =>
      rw [ht] at hg
      simp only [] at hg
      split at hg
      · rename_i hlt; cases hg
        obtain ⟨x, h1, h2⟩ := h.2 t hlt
        simp only [yielded, ht, Option.bind_some, h2]
        cases hx : fr t with
        | bool c =>
          rw [hx] at h1; simp only [emb] at h1; cases h1
          cases b <;> cases c <;> rfl
        | _ =>
          have : ∀ c, x ≠ .bool c := fun c e => by
            subst e
            have := emb_bool h1
            rw [hx] at this; cases this
          cases x <;> first | rfl | exact absurd rfl (this _)
      · cases hg
theorem undef_emb : emb m aundef = some undef := by simp [aundef, emb, embL, undef]
theorem sim_ops {ro : Option Nat} {nt : Nat} {call : ACall} (hG : S.G = P.globals.size) (hcall : CallSim P S call) {ops : Array Oper} {Q : Exit → Act → World → Prop} {fr' : AFrame} (ds : List Deferred)
    (hQ : ∀ (m' : RMap) (a' : Act) (w' : World), FRel nt m' fr' a'.tmps → a'.defers = ds → HRel S m' H' w' → Le m m' → Q .normal a' w') :
    ∀ (l : List Oper) (i : Nat) (rl : List ROper) (fr : AFrame) (H : AHeap) (m0 : RMap) (a : Act) (w : World), ops.toList.drop i = l → cOpers P nt ops l = some rl → execOps call rl fr H = some (fr', H') → FRel nt m0 fr a.tmps → a.defers = ds → HRel S m0 H w → Le m m0 →
      wpOpsIn (wid ro) 0 P ops Q (List.range' i l.length) a w
  | [], i, rl, fr, H, m0, a, w, hl, hc, hx, hf, hd, h, hm => by
    simp only [cOpers] at hc; cases hc
    obtain ⟨rfl, rfl⟩ := pure_some hx
    exact hQ m0 a w hf hd h hm
  | o :: l, i, rl, fr, H, m0, a, w, hl, hc, hx, hf, hd, h, hm => by
    simp only [cOpers] at hc
    split at hc
    · rename_i op dst guard rl' h1 h2 h3 h4; cases hc
      have hoi : ops[i]? = some o := by
        have : (ops.toList.drop i)[0]? = some o := by rw [hl]; rfl
        rw [List.getElem?_drop] at this
        simpa using this
      have hl' : ops.toList.drop (i + 1) = l := by
        have := congrArg (List.drop 1) hl
        simpa [List.drop_drop, Nat.add_comm] using this
      simp only [List.length_cons, List.range'_succ, wpOpsIn, hoi]
      have hw := wanted_eq hf h3 (ro := { dst, op, guard }) rfl
      rw [hw]
      simp only [execOps] at hx
      cases hwant : ROper.wanted fr { dst, op, guard } with
      | true =>
        rw [hwant] at hx
        obtain ⟨v, H1, hx1, hx2⟩ := bind_some hx
        simp only [if_true]
        refine wpIn_of_yields (cOp_plain h1) (sim_op h1 hf h hG hcall hx1) ?_
        intro x w' ⟨m', hm', hv, hrel⟩
        exact sim_ops hG hcall ds hQ l (i + 1) rl' _ H1 m' _ w' hl' h4 hx2 ((hf.mono hm').put h2 hv) (by rw [put_defers]; exact hd) hrel (Le.trans hm hm')
      | false =>
        rw [hwant] at hx
        simp only [Bool.false_eq_true, if_false]
        refine ⟨fun _ _ => trivial, ?_⟩
        exact sim_ops hG hcall ds hQ l (i + 1) rl' _ H m0 _ w hl' h4 hx (hf.put h2 undef_emb) (by rw [put_defers]; exact hd) h hm
    · cases hc
def RExit.to : RExit → Exit
  | .normal => .normal
  | .exit id => .exit id
  | .ret => .ret
def Post (S : Base) (nt : Nat) (m : RMap) (x : RExit) (fr' : AFrame) (H' : AHeap) (ds : List Deferred) (Q : Exit → Act → World → Prop) : Prop :=
  ∀ (m' : RMap) (a' : Act) (w' : World), FRel nt m' fr' a'.tmps → a'.defers = ds → HRel S m' H' w' → Le m m' → Q x.to a' w'
def DSim (P : Program) (S : Base) (call : ACall) (lf : Nat) : Prop := ∀ (ro : Option Nat) (nt id : Nat) (ops : Array Oper) (rc : RCode) (fr fr' : AFrame) (H H' : AHeap) (x : RExit) (m : RMap) (a : Act) (w : World) (ds : List Deferred) (Q : Exit → Act → World → Prop),
  cCode P nt (.region id ops true) = some rc → rc.exec call lf fr H = some ((x, fr'), H') → FRel nt m fr a.tmps → a.defers = ds → HRel S m H w → Post S nt m x fr' H' ds Q → (Code.region id ops true).wpIn (wid ro) 0 P Q a w
theorem sim_code {ro : Option Nat} {nt : Nat} {call : ACall} {lf : Nat} (hG : S.G = P.globals.size) (hcall : CallSim P S call) (hD : DSim P S call lf) {ds : List Deferred} :
    ∀ (c : Code) (rc : RCode) (fr fr' : AFrame) (H H' : AHeap) (x : RExit) (m : RMap) (a : Act) (w : World) (Q : Exit → Act → World → Prop),
      cCode P nt c = some rc → rc.exec call lf fr H = some ((x, fr'), H') → FRel nt m fr a.tmps → a.defers = ds → HRel S m H w → Post S nt m x fr' H' ds Q → c.wpIn (wid ro) 0 P Q a w := by
  intro c
  induction c with
  | skip =>
    intro rc fr fr' H H' x m a w Q hc hx hf hd h hQ
    simp only [cCode] at hc; cases hc
    obtain ⟨e, rfl⟩ := pure_some hx; cases e
    exact wpIn_skip (hQ m a w hf hd h (Le.refl _))
  | label l =>
    intro rc fr fr' H H' x m a w Q hc hx hf hd h hQ
    simp only [cCode] at hc; cases hc
    obtain ⟨e, rfl⟩ := pure_some hx; cases e
    exact wpIn_label (hQ m a w hf hd h (Le.refl _))
  | region id ops draw =>
    intro rc fr fr' H H' x m a w Q hc hx hf hd h hQ
    cases draw with
    | true => exact hD ro nt id ops rc fr fr' H H' x m a w ds Q hc hx hf hd h hQ
    | false =>
      simp only [cCode] at hc
      cases hl : cOpers P nt ops ops.toList with
      | none => rw [hl] at hc; cases hc; exact (fail_some hx).elim
      | some l =>
        rw [hl] at hc; cases hc
        simp only [RCode.exec] at hx
        obtain ⟨fr1, H1, h1, h2⟩ := bind_some hx
        obtain ⟨e, rfl⟩ := pure_some h2; cases e
        refine wpIn_region ?_
        have := sim_ops (ro := ro) (Q := Q) hG hcall ds (ops := ops) (m := m) (fun m' a' w' h1 h2 h3 h4 => hQ m' a' w' h1 h2 h3 h4) ops.toList 0 l fr H m a w (by simp) hl h1 hf hd h (Le.refl _)
        rw [List.range_eq_range']
        simpa using this
  | seq c1 c2 ih1 ih2 =>
    intro rc fr fr' H H' x m a w Q hc hx hf hd h hQ
    simp only [cCode] at hc
    split at hc
    · rename_i r1 r2 h1 h2; cases hc
      simp only [RCode.exec] at hx
      obtain ⟨⟨x1, fr1⟩, H1, hx1, hx2⟩ := bind_some hx
      refine wpIn_seq (ih1 r1 fr fr1 H H1 x1 m a w _ h1 hx1 hf hd h ?_)
      intro m' a' w' hf' hd' hr' hm'
      cases x1 with
      | normal => exact ih2 r2 fr1 fr' H1 H' x m' a' w' Q h2 hx2 hf' hd' hr' (fun m2 a2 w2 q1 q2 q3 q4 => hQ m2 a2 w2 q1 q2 q3 (Le.trans hm' q4))
      | exit id => obtain ⟨e, rfl⟩ := pure_some hx2; cases e; exact hQ m' a' w' hf' hd' hr' hm'
      | ret => obtain ⟨e, rfl⟩ := pure_some hx2; cases e; exact hQ m' a' w' hf' hd' hr' hm'
    · cases hc
  | cond c t e iht ihe =>
    intro rc fr fr' H H' x m a w Q hc hx hf hd h hQ
    simp only [cCode] at hc
    split at hc
    · rename_i c' t' e' h1 h2 h3; cases hc
      have hev := cOpd_ev h1 hf (by rw [← hG]; exact h.glob)
      simp only [RCode.exec] at hx
      cases hv : c'.ev fr with
      | bool b =>
        rw [hv] at hx hev
        simp only [emb] at hev
        have hev' : a.eval c = .bool b := (Option.some.inj hev).symm
        cases b with
        | true => exact wpIn_cond_true hev' (iht t' fr fr' H H' x m a w Q h2 hx hf hd h hQ)
        | false => exact wpIn_cond_false hev' (ihe e' fr fr' H H' x m a w Q h3 hx hf hd h hQ)
      | _ => rw [hv] at hx; exact (fail_some hx).elim
    · cases hc
  | block id b ih =>
    intro rc fr fr' H H' x m a w Q hc hx hf hd h hQ
    simp only [cCode] at hc
    cases hb : cCode P nt b with
    | none => rw [hb] at hc; cases hc
    | some b' =>
      rw [hb] at hc; cases hc
      simp only [RCode.exec] at hx
      obtain ⟨⟨x1, fr1⟩, H1, hx1, hx2⟩ := bind_some hx
      refine wpIn_block (ih b' fr fr1 H H1 x1 m a w _ hb hx1 hf hd h ?_)
      intro m' a' w' hf' hd' hr' hm'
      cases x1 with
      | normal => obtain ⟨e, rfl⟩ := pure_some hx2; cases e; exact hQ m' a' w' hf' hd' hr' hm'
      | ret => obtain ⟨e, rfl⟩ := pure_some hx2; cases e; exact hQ m' a' w' hf' hd' hr' hm'
      | exit id' =>
        simp only [] at hx2
        cases hbeq : Nat.beq id' id with
        | true =>
          rw [hbeq] at hx2
          obtain ⟨e, rfl⟩ := pure_some hx2; cases e
          have := Nat.eq_of_beq_eq_true hbeq
          simp only [RExit.to, Exit.inBlock, this, if_true]
          exact hQ m' a' w' hf' hd' hr' hm'
        | false =>
          rw [hbeq] at hx2
          obtain ⟨e, rfl⟩ := pure_some hx2; cases e
          have hne : id' ≠ id := fun e => by subst e; simp at hbeq
          simp only [RExit.to, Exit.inBlock, hne, if_false]
          exact hQ m' a' w' hf' hd' hr' hm'
  | loop b ih =>
    intro rc fr fr' H H' x m a w Q hc hx hf hd h hQ
    simp only [cCode] at hc
    cases hb : cCode P nt b with
    | none => rw [hb] at hc; cases hc
    | some b' =>
      rw [hb] at hc; cases hc
      simp only [RCode.exec] at hx
      have key : ∀ (n : Nat) (fr : AFrame) (H : AHeap) (m1 : RMap) (a : Act) (w : World), loopN (b'.exec call lf) n fr H = some ((x, fr'), H') → FRel nt m1 fr a.tmps → a.defers = ds → HRel S m1 H w → Le m m1 → Code.roundsIn (wid ro) 0 P b Q n a w := by
        intro n
        induction n with
        | zero => intro fr H m1 a w hx _ _ _ _; exact (fail_some hx).elim
        | succ n ihn =>
          intro fr H m1 a w hx hf hd h hm
          rw [roundsIn_succ]
          obtain ⟨⟨x1, fr1⟩, H1, hx1, hx2⟩ := bind_some hx
          refine ih b' fr fr1 H H1 x1 m1 a w _ hb hx1 hf hd h ?_
          intro m' a' w' hf' hd' hr' hm'
          cases x1 with
          | normal => exact ihn fr1 H1 m' a' w' hx2 hf' hd' hr' (Le.trans hm hm')
          | exit id => obtain ⟨e, rfl⟩ := pure_some hx2; cases e; exact hQ m' a' w' hf' hd' hr' (Le.trans hm hm')
          | ret => obtain ⟨e, rfl⟩ := pure_some hx2; cases e; exact hQ m' a' w' hf' hd' hr' (Le.trans hm hm')
      exact wpIn_loop_rounds lf (key lf fr H m a w hx hf hd h (Le.refl _))
  | scope b ih =>
    intro rc fr fr' H H' x m a w Q hc hx hf hd h hQ
    simp only [cCode] at hc
    cases hb : cCode P nt b with
    | none => rw [hb] at hc; cases hc
    | some b' =>
      rw [hb] at hc; cases hc
      simp only [RCode.exec] at hx
      refine wpIn_scope_straight (ih b' fr fr' H H' x m a w _ hb hx hf hd h ?_)
      intro m' a' w' hf' hd' hr' hm'
      have := hQ m' a' w' hf' hd' hr' hm'
      cases x <;> exact this
  | exit id =>
    intro rc fr fr' H H' x m a w Q hc hx hf hd h hQ
    simp only [cCode] at hc; cases hc
    obtain ⟨e, rfl⟩ := pure_some hx; cases e
    exact wpIn_exit (hQ m a w hf hd h (Le.refl _))
  | ret =>
    intro rc fr fr' H H' x m a w Q hc hx hf hd h hQ
    simp only [cCode] at hc; cases hc
    obtain ⟨e, rfl⟩ := pure_some hx; cases e
    exact wpIn_ret (hQ m a w hf hd h (Le.refl _))
  | goto l => intro rc fr fr' H H' x m a w Q hc hx; simp only [cCode] at hc; cases hc; exact (fail_some hx).elim
  | refuse why => intro rc fr fr' H H' x m a w Q hc hx; simp only [cCode] at hc; cases hc; exact (fail_some hx).elim
  | rangeFunc f ps as b ih1 ih2 => intro rc fr fr' H H' x m a w Q hc hx; simp only [cCode] at hc; cases hc; exact (fail_some hx).elim
end
end Go.Am

namespace Go.Am
open Go Go.RowKit
section
variable {P : Program} {m : RMap}
def MadeAs (P : Program) (m : RMap) (s : Sem Next) (cs : List AVal) (e : TypeId) (k : Nat → AVal) : Prop :=
  ∃ xs, embL m cs = some xs ∧ ∀ w : World, ∃ x, s.run P w = .ok (.value x) (w.alloc (.cells xs.toArray e)) ∧ ∀ (m' : RMap) (r : Nat), m' r = some (⟨w.heap.size, 0, none⟩, xs.length) → emb m' (k r) = some x
theorem cZero_all {t : TypeId} {z : List AVal} (h : cZero P t = some z) : ∃ v, (∀ w, (zeroValue t).run P w = .ok v w) ∧ ∀ m, embL m z = some v.cells.toList := by
  unfold cZero at h
  split at h
  · rename_i i hi
    split at h
    · rename_i v hv
      split at h
      · rename_i x hx; cases h
        exact ⟨v, fun w => by simp [zeroValue, typeInfo, hi, hv], fun m => emb_cells (ofV_emb m v x hx)⟩
      · cases h
    · cases h
  · cases h
theorem made_new {e : TypeId} {z : List AVal} (hc : cZero P e = some z) : MadeAs P m (do pure (.value (← Instr.alloc e true (.tuple #[])))) z e (fun r => .ptr r 0) := by
  obtain ⟨v, hv, hz⟩ := cZero_all hc
  refine ⟨_, hz m, fun w => ⟨.pointer (some ⟨w.heap.size, 0, none⟩), ?_, fun m' r hr => by simp [emb, hr, Addr.add]⟩⟩
  simp [Instr.alloc, hv, newVar, newRow]
theorem made_box {e : TypeId} {v : AVal} {x : Value} (hv : emb m v = some x) : MadeAs P m (do pure (.value (← Instr.box e x))) v.cells e (fun r => .ptr r 0) := by
  refine ⟨_, emb_cells hv, fun w => ⟨.pointer (some ⟨w.heap.size, 0, none⟩), ?_, fun m' r hr => by simp [emb, hr, Addr.add]⟩⟩
  simp [Instr.box, newVar, newRow]
theorem made_buildSlice {nt : Nat} {fr : AFrame} {a : Act} (hf : FRel nt m fr a.tmps) (hg : Globs P.globals.size m) {t e : TypeId} {len s : Nat} {z cs : List AVal} {ps : Array (Nat × Operand)} {l : List (Nat × Nat × ROpd)}
    (hu : P.underlying t = some (.slice e)) (hs : cSize P e = some s) (hz : cZero P e = some z) (hcond : z.length = s ∧ 0 < s ∧ len * s ≤ 2 ^ 24) (hl : cParts P nt (fun i => some (i * s, s)) ps.toList = some l)
    (hcs : aFill fr (List.replicate len z).flatten l = some cs) : MadeAs P m (do pure (.value (← Instr.buildSlice t len (ps.map fun (i, x) => (i, a.eval x))))) cs e (fun r => .slice r 0 len (some len) s) := by
  obtain ⟨v, hv, hz'⟩ := cZero_all hz
  obtain ⟨hz1, hz2, hz3⟩ := hcond
  have hzl := embL_length (hz' m)
  have hvs : v.cells.size = s := by simp at hzl; omega
  have hrep := embL_replicate (hz' m) len
  rw [← replicate_flatten v.cells len (by omega)] at hrep
  obtain ⟨zs, h3, h4⟩ := sim_fill hf hg (fun _ _ => trivial) hl hcs hrep
  refine ⟨_, h4, fun w => ⟨.slice (some ⟨w.heap.size, 0, none⟩) len len, ?_, fun m' r hr => by simp [emb, hr, Addr.add, capR]⟩⟩
  simp only [hvs] at h3
  have hn0 : len = 0 ∨ len * s ≠ 0 := by
    rcases Nat.eq_zero_or_pos len with h | h
    · exact Or.inl h
    · exact Or.inr (Nat.ne_of_gt (Nat.mul_pos h hz2))
  simp only [Instr.buildSlice, Sem.run_bind, run_underlying hu, Result.andThen_ok, run_sizeOf hs]
  rw [if_neg (by omega)]
  rcases hn0 with h0 | h0
  · subst h0
    have hemp : ∀ (f : Nat → Value), (Array.range 0).map f = #[] := fun f => by simp [Array.range_zero']
    simp only [Nat.zero_mul, hemp] at h3
    simp only [Nat.zero_mul, if_true, Sem.run_bind, Sem.run_pure, Result.andThen_ok, hemp]
    simp [newRow, h3]
  · rw [if_neg h0]
    simp [hv, hvs, h3, newRow]
theorem made_makeSlice {t e : TypeId} {s b : Nat} {z : List AVal} (hu : P.underlying t = some (.slice e)) (hs : cSize P e = some s) (hz : cZero P e = some z) (hb : cBytes P e = some b) (hzs : z.length = s) (hs0 : 0 < s)
    {k1 k2 : IntKind} {len cap : Int} (hcond : 0 ≤ len ∧ len ≤ cap ∧ b * cap ≤ 2 ^ 47 ∧ cap < 2 ^ 62) :
    MadeAs P m (do pure (.value (← Instr.makeSlice t (.int k1 len) (.int k2 cap)))) (List.replicate cap.toNat z).flatten e (fun r => .slice r 0 len.toNat (some cap.toNat) z.length) := by
  obtain ⟨h0, h1, h2, h3⟩ := hcond
  obtain ⟨i, hi, hib⟩ := run_typeInfo hb
  have wl : IntKind.i64.wrap len = len := by rw [IntKind.wrap_i64]; omega
  have wc : IntKind.i64.wrap cap = cap := by rw [IntKind.wrap_i64]; omega
  obtain ⟨v, hv, hz'⟩ := cZero_all hz
  have hvs : v.cells.size = s := by have := embL_length (hz' m); simp at this; omega
  have hrep := embL_replicate (hz' m) cap.toNat
  rw [← replicate_flatten v.cells cap.toNat (by omega)] at hrep
  refine ⟨_, hrep, fun w => ⟨.slice (some ⟨w.heap.size, 0, none⟩) len.toNat cap.toNat, ?_, fun m' r hr => by simp [emb, hr, Addr.add, capR]⟩⟩
  have hbig : ¬ (b * cap > 2 ^ 48) := by
    have : (b : Int) * cap ≤ 2 ^ 47 := h2
    omega
  simp only [Instr.makeSlice, Sem.run_bind, run_underlying hu, Result.andThen_ok, asInt, asIntOf, Sem.run_pure, hi, hib, wl, wc]
  rw [if_neg (by
    simp only [Bool.or_eq_true, decide_eq_true_eq, not_or]
    refine ⟨⟨⟨by omega, by simpa using hbig⟩, by omega⟩, by omega⟩)]
  simp only [Sem.run_bind, run_askRoom, Result.andThen_ok, run_sizeOf hs]
  by_cases hc0 : cap.toNat * s = 0
  · have : cap.toNat = 0 := by
      rcases Nat.mul_eq_zero.1 hc0 with h | h
      · exact h
      · omega
    rw [if_pos hc0]
    simp only [Sem.run_pure, Result.andThen_ok, newRow, Sem.run_bind, run_newObj, this, Nat.zero_mul]
    have hemp : ∀ (f : Nat → Value), (Array.range 0).map f = #[] := fun f => by simp [Array.range_zero']
    rw [hemp, hemp]
    rfl
  · rw [if_neg hc0]
    simp only [Sem.run_bind, hv, Sem.run_pure, Result.andThen_ok, newRow, run_newObj, hvs, Array.toArray_toList]
    rfl
theorem cEqOp_shape {op : BinOp} {q : Option EqDesc} {x y : Option ROpd} {ro : ROp} (h : cEqOp op q x y = some ro) : ∃ n d a b, ro = .eq n d a b := by
  unfold cEqOp at h
  split at h
  · cases h; exact ⟨_, _, _, _, rfl⟩
  · cases h; exact ⟨_, _, _, _, rfl⟩
  · cases h
theorem sim_made {nt : Nat} {fr : AFrame} {a : Act} {o : Oper} {ro : ROp} {cs : List AVal} {e : TypeId} {k : Nat → AVal} (hc : cOp P nt o = some ro) (hf : FRel nt m fr a.tmps) (hg : Globs P.globals.size m)
    (hm : ro.made fr = some (cs, e, k)) : MadeAs P m (execOp a.eval o) cs e k := by
  obtain ⟨dst, op, ty, pos, after, guard⟩ := o
  cases op with
  | alloc e' =>
    simp only [cOp] at hc
    cases hz : cZero P e' with
    | none => rw [hz] at hc; cases hc
    | some z => rw [hz] at hc; cases hc; simp only [ROp.made] at hm; cases hm; exact made_new hz
  | box e' x =>
    simp only [cOp] at hc
    cases hu : cOpd P.globals.size nt x with
    | none => rw [hu] at hc; cases hc
    | some r => rw [hu] at hc; cases hc; simp only [ROp.made] at hm; cases hm; exact made_box (cOpd_ev hu hf hg)
  | buildSlice t len ps =>
    simp only [cOp] at hc
    split at hc
    · rename_i e' hu
      split at hc
      · rename_i s z hs hz
        split at hc
        · rename_i hcond
          split at hc
          · rename_i l hl; cases hc
            simp only [ROp.made] at hm
            cases hcs : aFill fr (List.replicate len z).flatten l with
            | none => rw [hcs] at hm; cases hm
            | some cs' => rw [hcs] at hm; cases hm; exact made_buildSlice hf hg hu hs hz hcond hl hcs
          · cases hc
        · cases hc
      · cases hc
    · cases hc
  | makeSlice t l c =>
    simp only [cOp] at hc
    split at hc
    · rename_i e' hu
      split at hc
      · rename_i s z b l' c' hs hz hb h1 h2
        split at hc
        · rename_i hcond; cases hc
          have e1 := cOpd_ev h1 hf hg; have e2 := cOpd_ev h2 hf hg
          simp only [ROp.made] at hm
          cases hl : l'.ev fr <;> rw [hl] at hm e1 <;> try (cases hm; done)
          cases hcc : c'.ev fr <;> rw [hcc] at hm e2 <;> try (cases hm; done)
          simp only [] at hm
          split at hm
          · rename_i hcnd; cases hm
            simp only [emb] at e1 e2
            show MadeAs P m (do pure (.value (← Instr.makeSlice t (a.eval l) (a.eval c)))) _ _ _
            rw [← Option.some.inj e1, ← Option.some.inj e2]
            exact made_makeSlice hu hs hz hb hcond.1 hcond.2 hcnd
          · cases hm
        · cases hc
      · cases hc
    · cases hc
  | binOp op t x y b =>
    simp only [cOp] at hc
    split at hc
    · split at hc
      · cases hc; cases hm
      · cases hc
    · split at hc
      · cases hc; cases hm
      · cases hc
    · obtain ⟨n, d, x, y, rfl⟩ := cEqOp_shape hc; cases hm
    · obtain ⟨n, d, x, y, rfl⟩ := cEqOp_shape hc; cases hm
  | call c =>
    exfalso
    obtain ⟨callee, args, argTypes⟩ := c
    cases callee with
    | invoke r n => simp [cOp] at hc
    | value f =>
      simp only [cOp] at hc
      split at hc
      · cases hc; cases hm
      · cases hc
    | builtin b =>
      cases b <;> simp only [cOp] at hc
      all_goals repeat' (split at hc)
      all_goals first
        | (cases hc; done)
        | (cases hc; cases hm; done)
        | (obtain ⟨s, _, rfl⟩ := Option.map_eq_some_iff.1 hc; cases hm; done)
  | _ =>
    exfalso
    simp only [cOp] at hc
    repeat' (split at hc)
    all_goals first
      | (cases hc; done)
      | (cases hc; cases hm; done)
      | (obtain ⟨s, _, rfl⟩ := Option.map_eq_some_iff.1 hc; cases hm; done)
end
end Go.Am

namespace Go.Am
open Go Go.RowKit
theorem ev_congr {fr fr' : AFrame} {x : ROpd} (h : ∀ t ∈ x.tmps, fr t = fr' t) : x.ev fr = x.ev fr' := by
  cases x with
  | tmp t => exact h t (by simp [ROpd.tmps])
  | val v => rfl
theorem evs_congr {fr fr' : AFrame} {l : List ROpd} (h : ∀ t ∈ l.flatMap ROpd.tmps, fr t = fr' t) : l.map (·.ev fr) = l.map (·.ev fr') :=
  List.map_congr_left fun x hx => ev_congr fun t ht => h t (List.mem_flatMap.2 ⟨x, hx, ht⟩)
theorem opt_congr {fr fr' : AFrame} {x : Option ROpd} (h : ∀ t ∈ optTmps x, fr t = fr' t) : x.map (·.ev fr) = x.map (·.ev fr') := by
  cases x with
  | none => rfl
  | some x => simp only [Option.map_some]; rw [ev_congr h]
theorem fill_congr {fr fr' : AFrame} : ∀ {ps : List (Nat × Nat × ROpd)} {cells : List AVal}, (∀ t ∈ ps.flatMap fun p => p.2.2.tmps, fr t = fr' t) → aFill fr cells ps = aFill fr' cells ps
  | [], _, _ => rfl
  | (off, size, x) :: rest, cells, h => by
    simp only [aFill]
    have hx : x.ev fr = x.ev fr' := ev_congr fun t ht => h t (by simp [ht])
    rw [hx]
    split
    · rfl
    · exact fill_congr fun t ht => h t (by rw [List.flatMap_cons]; exact List.mem_append.2 (Or.inr ht))
theorem exec_congr {call : ACall} {fr fr' : AFrame} {op : ROp} (h : ∀ t ∈ op.tmps, fr t = fr' t) : op.exec call fr = op.exec call fr' := by
  cases op with
  | sliceStr x lo hi =>
    have hx : x.ev fr = x.ev fr' := ev_congr fun t ht => h t (by cases lo <;> cases hi <;> simp [ROp.tmps, ht])
    have h1 : lo.map (·.ev fr) = lo.map (·.ev fr') := opt_congr fun t ht => h t (by cases lo <;> cases hi <;> simp_all [ROp.tmps, optTmps])
    have h2 : hi.map (·.ev fr) = hi.map (·.ev fr') := opt_congr fun t ht => h t (by cases lo <;> cases hi <;> simp_all [ROp.tmps, optTmps])
    simp only [ROp.exec, hx, h1, h2]
  | build z ps => simp only [ROp.exec, fill_congr (fr := fr) (fr' := fr') h]
  | buildSlice e s l z ps => simp only [ROp.exec, fill_congr (fr := fr) (fr' := fr') h]
  | mkFunc fn a b =>
    simp only [ROp.tmps, List.mem_append] at h
    simp only [ROp.exec, evs_congr (l := a) (fun t ht => h t (Or.inl ht)), evs_congr (l := b) (fun t ht => h t (Or.inr ht))]
  | call f l =>
    simp only [ROp.tmps, List.mem_append] at h
    simp only [ROp.exec, ev_congr (x := f) (fun t ht => h t (Or.inl ht)), evs_congr (l := l) (fun t ht => h t (Or.inr ht))]
  | minmax mx l =>
    cases l with
    | nil => rfl
    | cons x l =>
      have hh : ∀ t ∈ x.tmps ++ l.flatMap ROpd.tmps, fr t = fr' t := fun t ht => h t (by simpa [ROp.tmps] using ht)
      simp only [List.mem_append] at hh
      simp only [ROp.exec, ev_congr (x := x) (fun t ht => hh t (Or.inl ht)), evs_congr (l := l) (fun t ht => hh t (Or.inr ht))]
  | sliceS s x lo hi mx =>
    simp only [ROp.tmps, List.mem_append] at h
    simp only [ROp.exec, ev_congr (x := x) (fun t ht => h t (by simp [ht])), opt_congr (x := lo) (fun t ht => h t (by simp [ht])), opt_congr (x := hi) (fun t ht => h t (by simp [ht])), opt_congr (x := mx) (fun t ht => h t (by simp [ht]))]
  | sliceArr n s x lo hi mx =>
    simp only [ROp.tmps, List.mem_append] at h
    simp only [ROp.exec, ev_congr (x := x) (fun t ht => h t (by simp [ht])), opt_congr (x := lo) (fun t ht => h t (by simp [ht])), opt_congr (x := hi) (fun t ht => h t (by simp [ht])), opt_congr (x := mx) (fun t ht => h t (by simp [ht]))]
  | pick c a b =>
    simp only [ROp.tmps, List.mem_append] at h
    simp only [ROp.exec, ev_congr (x := c) (fun t ht => h t (by simp [ht])), ev_congr (x := a) (fun t ht => h t (by simp [ht])), ev_congr (x := b) (fun t ht => h t (by simp [ht]))]
  | store n a b => simp only [ROp.tmps, List.mem_append] at h; simp only [ROp.exec, ev_congr (x := a) (fun t ht => h t (Or.inl ht)), ev_congr (x := b) (fun t ht => h t (Or.inr ht))]
  | bin o a b => simp only [ROp.tmps, List.mem_append] at h; simp only [ROp.exec, ev_congr (x := a) (fun t ht => h t (Or.inl ht)), ev_congr (x := b) (fun t ht => h t (Or.inr ht))]
  | eq n d a b => simp only [ROp.tmps, List.mem_append] at h; simp only [ROp.exec, ev_congr (x := a) (fun t ht => h t (Or.inl ht)), ev_congr (x := b) (fun t ht => h t (Or.inr ht))]
  | makeSlice e z y a b => simp only [ROp.tmps, List.mem_append] at h; simp only [ROp.exec, ev_congr (x := a) (fun t ht => h t (Or.inl ht)), ev_congr (x := b) (fun t ht => h t (Or.inr ht))]
  | idxS s a b => simp only [ROp.tmps, List.mem_append] at h; simp only [ROp.exec, ev_congr (x := a) (fun t ht => h t (Or.inl ht)), ev_congr (x := b) (fun t ht => h t (Or.inr ht))]
  | idxA n s a b => simp only [ROp.tmps, List.mem_append] at h; simp only [ROp.exec, ev_congr (x := a) (fun t ht => h t (Or.inl ht)), ev_congr (x := b) (fun t ht => h t (Or.inr ht))]
  | indexA n s g a b => simp only [ROp.tmps, List.mem_append] at h; simp only [ROp.exec, ev_congr (x := a) (fun t ht => h t (Or.inl ht)), ev_congr (x := b) (fun t ht => h t (Or.inr ht))]
  | indexStr a b => simp only [ROp.tmps, List.mem_append] at h; simp only [ROp.exec, ev_congr (x := a) (fun t ht => h t (Or.inl ht)), ev_congr (x := b) (fun t ht => h t (Or.inr ht))]
  | append e s y a b => simp only [ROp.tmps, List.mem_append] at h; simp only [ROp.exec, ev_congr (x := a) (fun t ht => h t (Or.inl ht)), ev_congr (x := b) (fun t ht => h t (Or.inr ht))]
  | appendZ e s y z a b => simp only [ROp.tmps, List.mem_append] at h; simp only [ROp.exec, ev_congr (x := a) (fun t ht => h t (Or.inl ht)), ev_congr (x := b) (fun t ht => h t (Or.inr ht))]
  | copy s a b => simp only [ROp.tmps, List.mem_append] at h; simp only [ROp.exec, ev_congr (x := a) (fun t ht => h t (Or.inl ht)), ev_congr (x := b) (fun t ht => h t (Or.inr ht))]
  | unsafeStr e a b => simp only [ROp.tmps, List.mem_append] at h; simp only [ROp.exec, ev_congr (x := a) (fun t ht => h t (Or.inl ht)), ev_congr (x := b) (fun t ht => h t (Or.inr ht))]
  | lookup d z ok a b => simp only [ROp.tmps, List.mem_append] at h; simp only [ROp.exec, ev_congr (x := a) (fun t ht => h t (Or.inl ht)), ev_congr (x := b) (fun t ht => h t (Or.inr ht))]
  | new e cs => rfl
  | mapLit es => rfl
  | mapSet d a b c =>
    simp only [ROp.tmps, List.mem_append] at h
    simp only [ROp.exec, ev_congr (x := a) (fun t ht => h t (by simp [ht])), ev_congr (x := b) (fun t ht => h t (by simp [ht])), ev_congr (x := c) (fun t ht => h t (by simp [ht]))]
  | lenA n => rfl
  | _ => simp only [ROp.exec, ev_congr (fr := fr) (fr' := fr') (fun t ht => h t (by simpa [ROp.tmps] using ht))]
theorem made_congr {fr fr' : AFrame} {op : ROp} (h : ∀ t ∈ op.tmps, fr t = fr' t) : op.made fr = op.made fr' := by
  cases op with
  | box e x => simp only [ROp.made, ev_congr (x := x) (fr := fr) (fr' := fr') h]
  | buildSlice e s l z ps => simp only [ROp.made, fill_congr (fr := fr) (fr' := fr') h]
  | makeSlice e z y a b => simp only [ROp.tmps, List.mem_append] at h; simp only [ROp.made, ev_congr (x := a) (fun t ht => h t (Or.inl ht)), ev_congr (x := b) (fun t ht => h t (Or.inr ht))]
  | _ => rfl
theorem push_n_ne {H : AHeap} {o : AObj} : (H.push o).n ≠ H.n := by simp [AHeap.push]
theorem aLoad_same {H H' : AHeap} {g : Option Nat} {a v : AVal} (hx : aLoad g a H = some (v, H')) : H' = H := by
  cases a with
  | ptr r off =>
    obtain ⟨⟨cs, rw⟩, H1, h1, h2⟩ := bind_some hx
    obtain ⟨rfl, _⟩ := aRow_some h1
    cases g with
    | none =>
      simp only [] at h2
      cases hq : cs[off]? with
      | none => rw [hq] at h2; exact (fail_some h2).elim
      | some u => rw [hq] at h2; exact (pure_some h2).2
    | some n =>
      simp only [] at h2
      by_cases hq : off + n ≤ cs.length
      · rw [if_pos hq] at h2; exact (pure_some h2).2
      · rw [if_neg hq] at h2; exact (fail_some h2).elim
  | _ => exact (fail_some (H := H) hx).elim
theorem aUptr_same {H H' : AHeap} {t s : Nat} {a v : AVal} (hx : aUptr t s a H = some (v, H')) : H' = H := by
  cases a with
  | nptr => exact (pure_some hx).2
  | ptr r off => exact (aUptr_some hx).1
  | _ => exact (fail_some (H := H) hx).elim
theorem aSliceData_same {H H' : AHeap} {s : Nat} {a v : AVal} (hx : aSliceData s a H = some (v, H')) : H' = H := by
  cases a with
  | nslice => exact (pure_some hx).2
  | slice r off len cap z =>
    cases cap with
    | some c =>
      simp only [aSliceData] at hx
      by_cases hc : c = 0
      · rw [if_pos hc] at hx; exact (fail_some hx).elim
      · rw [if_neg hc] at hx; exact (pure_some hx).2
    | none =>
      simp only [aSliceData] at hx
      obtain ⟨⟨cs, rw⟩, H1, h1, h2⟩ := bind_some hx
      obtain ⟨rfl, _⟩ := aRow_some h1
      simp only [] at h2
      by_cases hc : z = s ∧ 0 < s ∧ off + s ≤ cs.length
      · rw [if_pos hc] at h2; exact (pure_some h2).2
      · rw [if_neg hc] at h2; exact (fail_some h2).elim
  | _ => exact (fail_some (H := H) hx).elim
theorem aBytesToStr_same {H H' : AHeap} {a v : AVal} (hx : aBytesToStr a H = some (v, H')) : H' = H := by
  cases a with
  | nslice => exact (pure_some hx).2
  | slice r off len cap s =>
    simp only [aBytesToStr] at hx
    by_cases hs : s ≠ 1
    · rw [if_pos hs] at hx; exact (fail_some hx).elim
    · rw [if_neg hs] at hx
      obtain ⟨⟨cs, rw⟩, H1, h1, h2⟩ := bind_some hx
      obtain ⟨rfl, _⟩ := aRow_some h1
      simp only [] at h2
      by_cases hq : off + len ≤ cs.length
      · rw [if_pos hq] at h2
        cases hb : bytesOf ((cs.drop off).take len) with
        | none => rw [hb] at h2; exact (fail_some h2).elim
        | some l => rw [hb] at h2; exact (pure_some h2).2
      · rw [if_neg hq] at h2; exact (fail_some h2).elim
  | _ => exact (fail_some (H := H) hx).elim
theorem aSliceS_same {H H' : AHeap} {s : Nat} {x v : AVal} {lo hi mx : Option AVal} (hx : aSliceS s x lo hi mx H = some (v, H')) (hn : H'.n = H.n) : H' = H := by
  cases x with
  | nslice =>
    simp only [aSliceS] at hx
    cases hb : aBounds 0 (some 0) lo hi mx with
    | none => rw [hb] at hx; exact (fail_some hx).elim
    | some l => rw [hb] at hx; exact (pure_some hx).2
  | slice r off len cap z =>
    simp only [aSliceS] at hx
    by_cases hs : z ≠ s
    · rw [if_pos hs] at hx; exact (fail_some hx).elim
    · rw [if_neg hs] at hx
      cases hb : aBounds len cap lo hi mx with
      | none => rw [hb] at hx; exact (fail_some hx).elim
      | some q =>
        obtain ⟨l, h, mm⟩ := q
        rw [hb] at hx
        simp only [] at hx
        cases cap with
        | some c =>
          cases mm with
          | some m => exact (pure_some hx).2
          | none => exact (fail_some (H := H) hx).elim
        | none =>
          simp only [] at hx
          by_cases hz : s = 0
          · rw [if_pos hz] at hx; exact (fail_some hx).elim
          · rw [if_neg hz] at hx
            obtain ⟨⟨cs, rw⟩, H1, h1, h2⟩ := bind_some hx
            obtain ⟨rfl, _⟩ := aRow_some h1
            simp only [] at h2
            by_cases hl : cs.length < off + len * s
            · rw [if_pos hl] at h2; exact (fail_some h2).elim
            · rw [if_neg hl] at h2
              cases mm with
              | some m => exact (pure_some h2).2
              | none =>
                simp only [] at h2
                by_cases hlh : l < h ∨ l = 0
                · rw [if_pos hlh] at h2; exact (pure_some h2).2
                · rw [if_neg hlh] at h2
                  obtain ⟨r', H2, h3, h4⟩ := bind_some h2
                  obtain ⟨rfl, rfl⟩ := aNew_some h3
                  obtain ⟨_, rfl⟩ := pure_some h4
                  exact absurd hn push_n_ne
  | _ => exact (fail_some (H := H) hx).elim
theorem aLookup_same {H H' : AHeap} {d : EqDesc} {z : AVal} {ok : Bool} {x k v : AVal} (hx : aLookup d z ok x k H = some (v, H')) : H' = H := by
  cases x with
  | map r =>
    simp only [aLookup] at hx
    split at hx
    · split at hx
      · cases hx; rfl
      · cases hx
    · cases hx
  | nmap =>
    simp only [aLookup] at hx
    split at hx
    · cases hx; rfl
    · cases hx
  | _ => cases hx
theorem aLenM_same {H H' : AHeap} {x v : AVal} (hx : aLenM x H = some (v, H')) : H' = H := by
  cases x with
  | map r =>
    simp only [aLenM] at hx
    split at hx
    · cases hx; rfl
    · cases hx
  | nmap => simp only [aLenM] at hx; cases hx; rfl
  | _ => cases hx
theorem exec_reads {call : ACall} {fr : AFrame} {op : ROp} {H H' : AHeap} {v : AVal} (hk : op.kind ≤ 1) (hx : op.exec call fr H = some (v, H')) (hn : H'.n = H.n) : H' = H ∧ ∀ call', op.exec call' fr H = some (v, H) := by
  have key : H' = H := by
    cases op <;> simp only [ROp.kind] at hk <;> try omega
    all_goals simp only [ROp.exec] at hx
    case pick c a b => cases hc : c.ev fr <;> rw [hc] at hx <;> first | exact (pure_some hx).2 | exact (fail_some hx).elim
    case build z ps => cases hc : aFill fr z ps <;> rw [hc] at hx <;> first | exact (pure_some hx).2 | exact (fail_some hx).elim
    case eq n d a b => cases hc : aEq d (a.ev fr) (b.ev fr) <;> rw [hc] at hx <;> first | exact (pure_some hx).2 | exact (fail_some hx).elim
    case convInt k x => cases hc : x.ev fr <;> rw [hc] at hx <;> first | exact (pure_some hx).2 | exact (fail_some hx).elim
    case minmax mx xs => cases xs <;> first | exact (ofOption_some hx).2 | exact (fail_some hx).elim
    case load g a => exact aLoad_same hx
    case uptr t sz x => exact aUptr_same hx
    case sliceData sz x => exact aSliceData_same hx
    case bytesToStr x => exact aBytesToStr_same hx
    case sliceS s x lo hi mx => exact aSliceS_same hx hn
    case lookup d z ok x k => exact aLookup_same hx
    case lenM x => exact aLenM_same hx
    all_goals first | exact (pure_some hx).2 | exact (ofOption_some hx).2
  refine ⟨key, fun call' => ?_⟩
  subst key
  cases op <;> simp only [ROp.kind] at hk <;> first | omega | exact hx
theorem exec_pure {call : ACall} {fr : AFrame} {op : ROp} {H H' : AHeap} {v : AVal} (hk : op.kind = 0) (hx : op.exec call fr H = some (v, H')) : ∀ call' H2, op.exec call' fr H2 = some (v, H2) := by
  intro call' H2
  cases op <;> simp only [ROp.kind] at hk <;> try omega
  all_goals simp only [ROp.exec] at hx ⊢
  case pick c a b => cases hc : c.ev fr <;> rw [hc] at hx <;> first | (obtain ⟨rfl, rfl⟩ := pure_some hx; rfl) | exact (fail_some hx).elim
  case build z ps => cases hc : aFill fr z ps <;> rw [hc] at hx <;> first | (obtain ⟨rfl, rfl⟩ := pure_some hx; rfl) | exact (fail_some hx).elim
  case eq n d a b => cases hc : aEq d (a.ev fr) (b.ev fr) <;> rw [hc] at hx <;> first | (obtain ⟨rfl, rfl⟩ := pure_some hx; rfl) | exact (fail_some hx).elim
  case convInt k x => cases hc : x.ev fr <;> rw [hc] at hx <;> first | (obtain ⟨rfl, rfl⟩ := pure_some hx; rfl) | exact (fail_some hx).elim
  case minmax mx xs => cases xs <;> first | (obtain ⟨h, rfl⟩ := ofOption_some hx; simp only [h]; rfl) | exact (fail_some hx).elim
  all_goals first | (obtain ⟨rfl, rfl⟩ := pure_some hx; rfl) | (obtain ⟨h, rfl⟩ := ofOption_some hx; rw [h]; rfl)
theorem kind_le (op : ROp) : op.kind ≤ 3 := by cases op <;> simp [ROp.kind]
def foldF : List DRec → (Nat → Bool) → AFrame → AFrame
  | [], _, fr => fr
  | r :: rs, X, fr => foldF rs (fun i => X (i + 1)) (match X 0 with | true => put fr r.o.dst r.v | false => fr)
def foldH : List DRec → (Nat → Bool) → AHeap → AHeap
  | [], _, H => H
  | r :: rs, X, H => foldH rs (fun i => X (i + 1)) (match X 0 && r.eff with | true => r.hp | false => H)
theorem put_ne {fr : AFrame} {d : Option Nat} {v : AVal} {t : Nat} (h : d ≠ some t) : put fr d v t = fr t := by
  cases d with
  | none => rfl
  | some d =>
    have : t ≠ d := fun e => h (by rw [e])
    simp [put, upd, nbeq_ne this]
theorem put_eq {fr : AFrame} {v : AVal} {t : Nat} : put fr (some t) v t = v := by simp [put, upd]
theorem foldF_agree {t : Nat} : ∀ {R : List DRec} {X Y : Nat → Bool} {fr fr' : AFrame}, fr t = fr' t → (∀ i q, R[i]? = some q → q.o.dst = some t → X i = Y i) → foldF R X fr t = foldF R Y fr' t
  | [], X, Y, fr, fr', h, _ => h
  | r :: rs, X, Y, fr, fr', h, hd => by
    simp only [foldF]
    refine foldF_agree ?_ fun i q hq hqd => hd (i + 1) q (by simpa using hq) hqd
    by_cases hrd : r.o.dst = some t
    · have := hd 0 r rfl hrd
      rw [this]
      cases Y 0
      · exact h
      · simp only []; rw [hrd, put_eq, put_eq]
    · cases X 0 <;> cases Y 0 <;> simp only [] <;> (try rw [put_ne hrd]) <;> (try rw [put_ne hrd]) <;> exact h
theorem foldF_put {d : Option Nat} {v : AVal} {R : List DRec} {X : Nat → Bool} {fr : AFrame} (h : ∀ i q t, R[i]? = some q → X i = true → d = some t → q.o.dst ≠ some t) : foldF R X (put fr d v) = put (foldF R X fr) d v := by
  induction R generalizing X fr with
  | nil => rfl
  | cons r rs ih =>
    simp only [foldF]
    rw [← ih (fun i q t hq hX hd => h (i + 1) q t (by simpa using hq) hX hd)]
    cases hx0 : X 0 with
    | false => rfl
    | true =>
      simp only []
      congr 1
      cases d with
      | none => rfl
      | some t =>
        have hne := h 0 r t rfl hx0 rfl
        cases hrd : r.o.dst with
        | none => rfl
        | some e =>
          have hte : e ≠ t := fun e' => hne (by rw [hrd, e'])
          funext i
          simp only [put, upd]
          by_cases h1 : i = e
          · subst h1; simp [nbeq_ne hte]
          · by_cases h2 : i = t
            · subst h2; simp [nbeq_ne h1]
            · simp [nbeq_ne h1, nbeq_ne h2]
theorem foldF_add {R : List DRec} {X Y : Nat → Bool} {fr : AFrame} {k : Nat} {r : DRec} (hk : R[k]? = some r) (hX : X k = false) (hY : Y k = true) (hYX : ∀ i, i ≠ k → Y i = X i)
    (hlast : ∀ i q t, k < i → R[i]? = some q → X i = true → r.o.dst = some t → q.o.dst ≠ some t) : foldF R Y fr = put (foldF R X fr) r.o.dst r.v := by
  induction R generalizing X Y fr k with
  | nil => simp at hk
  | cons a rs ih =>
    cases k with
    | zero =>
      simp at hk; subst hk
      simp only [foldF, hX, hY]
      have : (fun i => Y (i + 1)) = fun i => X (i + 1) := funext fun i => hYX (i + 1) (by omega)
      rw [this]
      exact foldF_put fun i q t hq hx hd => hlast (i + 1) q t (by omega) (by simpa using hq) hx hd
    | succ k =>
      simp only [foldF]
      rw [hYX 0 (by omega)]
      exact ih (by simpa using hk) hX hY (fun i hi => hYX (i + 1) (by omega)) fun i q t hlt hq hx hd => hlast (i + 1) q t (by omega) (by simpa using hq) hx hd
theorem foldH_agree {R : List DRec} {X Y : Nat → Bool} {H : AHeap} (h : ∀ i q, R[i]? = some q → q.eff = true → X i = Y i) : foldH R X H = foldH R Y H := by
  induction R generalizing X Y H with
  | nil => rfl
  | cons a rs ih =>
    simp only [foldH]
    have h0 : (X 0 && a.eff) = (Y 0 && a.eff) := by
      cases ha : a.eff with
      | false => simp
      | true => rw [h 0 a rfl ha]
    rw [h0]
    exact ih fun i q hq he => h (i + 1) q (by simpa using hq) he
theorem foldH_none {R : List DRec} {X : Nat → Bool} {H : AHeap} (h : ∀ i q, R[i]? = some q → q.eff = true → X i = false) : foldH R X H = H := by
  induction R generalizing X H with
  | nil => rfl
  | cons a rs ih =>
    simp only [foldH]
    have h0 : (X 0 && a.eff) = false := by
      cases ha : a.eff with
      | false => simp
      | true => rw [h 0 a rfl ha]; rfl
    rw [h0]
    exact ih fun i q hq he => h (i + 1) q (by simpa using hq) he
theorem foldH_add {R : List DRec} {X : Nat → Bool} {H : AHeap} {k : Nat} {r : DRec} (hk : R[k]? = some r) (hX : X k = true) (he : r.eff = true)
    (hlast : ∀ i q, k < i → R[i]? = some q → q.eff = true → X i = false) : foldH R X H = r.hp := by
  induction R generalizing X H k with
  | nil => simp at hk
  | cons a rs ih =>
    cases k with
    | zero =>
      simp at hk; subst hk
      simp only [foldH, hX, he]
      exact foldH_none fun i q hq he => hlast (i + 1) q (by omega) (by simpa using hq) he
    | succ k =>
      simp only [foldH]
      exact ih (by simpa using hk) hX fun i q hlt hq he => hlast (i + 1) q (by omega) (by simpa using hq) he
def refs : List DItem → Nat → Nat → Nat
  | _, ref, 0 => ref
  | [], ref, _ + 1 => ref
  | it :: rest, ref, k + 1 => refs rest (nextRef it.cls ref) k
def cnt3 : List DItem → Nat
  | [] => 0
  | it :: rest => (match Nat.beq it.cls 3 with | true => 1 | false => 0) + cnt3 rest
theorem le_nextRef (c ref : Nat) : ref ≤ nextRef c ref := by unfold nextRef; cases Nat.beq c 3 <;> simp
theorem nextRef_eq {c ref : Nat} (h : Nat.beq c 3 = true) : nextRef c ref = ref + 1 := by unfold nextRef; rw [h]
theorem nextRef_le (c ref : Nat) : nextRef c ref ≤ ref + (match Nat.beq c 3 with | true => 1 | false => 0) := by unfold nextRef; cases Nat.beq c 3 <;> simp
theorem refs_ge : ∀ (its : List DItem) (ref k : Nat), ref ≤ refs its ref k
  | its, ref, 0 => by cases its <;> simp [refs]
  | [], ref, k + 1 => by simp [refs]
  | it :: rest, ref, k + 1 => by
    simp only [refs]
    exact Nat.le_trans (le_nextRef _ _) (refs_ge rest _ k)
theorem refs_lt : ∀ (its : List DItem) (ref k : Nat) (it : DItem), its[k]? = some it → Nat.beq it.cls 3 = true → refs its ref k < ref + cnt3 its
  | [], ref, k, it, h, _ => by simp at h
  | a :: rest, ref, 0, it, h, hc => by
    simp only [List.getElem?_cons_zero, Option.some.injEq] at h; subst h
    simp only [refs, cnt3, hc]; omega
  | a :: rest, ref, k + 1, it, h, hc => by
    have h' : rest[k]? = some it := by simpa using h
    simp only [refs, cnt3]
    have h1 := refs_lt rest (nextRef a.cls ref) k it h' hc
    have h2 := nextRef_le a.cls ref
    omega
theorem refs_strict : ∀ (its : List DItem) (ref k k' : Nat) (it : DItem), its[k]? = some it → Nat.beq it.cls 3 = true → k < k' → refs its ref k < refs its ref k'
  | [], ref, k, k', it, h, _, _ => by simp at h
  | _ :: _, ref, k, 0, it, h, _, hlt => absurd hlt (Nat.not_lt_zero _)
  | a :: rest, ref, 0, k' + 1, it, h, hc, _ => by
    simp only [List.getElem?_cons_zero, Option.some.injEq] at h; subst h
    simp only [refs, nextRef_eq hc]
    exact refs_ge rest (ref + 1) k'
  | a :: rest, ref, k + 1, k' + 1, it, h, hc, hlt => by
    simp only [refs]
    exact refs_strict rest _ k k' it (by simpa using h) hc (by omega)
theorem oracle_length : ∀ (its : List DItem) (ref : Nat) (fr : AFrame) (H : AHeap), (oracle its ref fr H).length = cnt3 its
  | [], ref, fr, H => rfl
  | it :: rest, ref, fr, H => by
    simp only [oracle, cnt3]
    cases Nat.beq it.cls 3 <;> simp only []
    · cases it.pre <;> simp only []
      · rw [oracle_length]; omega
      · cases it.o.wanted fr <;> simp only []
        · rw [oracle_length]; omega
        · cases it.o.op.exec noCall fr H <;> simp only [] <;> rw [oracle_length] <;> omega
    · cases it.o.wanted fr <;> simp only []
      · simp only [List.length_cons]; rw [oracle_length]; omega
      · cases it.o.op.made fr <;> simp only [List.length_cons] <;> rw [oracle_length] <;> omega
theorem pushAll_n : ∀ (os : List AObj) (H : AHeap), (pushAll H os).n = H.n + os.length
  | [], H => rfl
  | o :: os, H => by
    simp only [pushAll, List.length_cons]
    rw [pushAll_n os (H.push o)]
    simp only [AHeap.push]; omega
structure RecOk (call : ACall) (it : DItem) (ref : Nat) (F : AFrame) (H : AHeap) (r : DRec) : Prop where
  o : r.o = it.o
  b : r.b = it.b
  cls : r.cls = it.cls
  fr : r.fr = F
  rf : r.ref = ref
  want : r.want = it.o.wanted F
  no : r.want = false → r.v = aundef ∧ r.eff = false
  yes : r.want = true → dstep call it ref F H = some (r.v, r.eff, r.hp)
theorem look_cases {fr : AFrame} {op : ROp} {H : AHeap} {v : AVal} (h : op.look fr H = some v) : (∃ H1, op.exec noCall fr H = some (v, H1) ∧ H1.n = H.n) ∨
    ∃ sz x lo hi mx u H1, op = .sliceS sz x lo hi mx ∧ op.exec noCall fr H = some (u, H1) ∧ H1.n ≠ H.n ∧ aSliceE sz (x.ev fr) (lo.map (·.ev fr)) (hi.map (·.ev fr)) (mx.map (·.ev fr)) = some v := by
  unfold ROp.look at h
  cases hx : op.exec noCall fr H with
  | none => rw [hx] at h; cases h
  | some q =>
    obtain ⟨u, H1⟩ := q
    rw [hx] at h
    simp only [] at h
    cases hn : Nat.beq H1.n H.n with
    | true => rw [hn] at h; cases h; exact Or.inl ⟨H1, rfl, Nat.eq_of_beq_eq_true hn⟩
    | false =>
      rw [hn] at h
      have hne : H1.n ≠ H.n := fun e => by rw [e, Nat.beq_refl] at hn; cases hn
      cases op <;> simp only [] at h <;> try (cases h; done)
      rename_i sz x lo hi mx
      exact Or.inr ⟨sz, x, lo, hi, mx, u, H1, rfl, rfl, hne, h⟩
theorem look_congr {fr fr' : AFrame} {op : ROp} {H : AHeap} (h : ∀ t ∈ op.tmps, fr t = fr' t) : op.look fr H = op.look fr' H := by
  unfold ROp.look
  rw [exec_congr (call := noCall) h]
  cases op <;> try rfl
  rename_i sz x lo hi mx
  have h1 : x.ev fr = x.ev fr' := ev_congr fun t ht => h t (by simp [ROp.tmps, ht])
  have h2 : lo.map (·.ev fr) = lo.map (·.ev fr') := opt_congr fun t ht => h t (by simp [ROp.tmps, ht])
  have h3 : hi.map (·.ev fr) = hi.map (·.ev fr') := opt_congr fun t ht => h t (by simp [ROp.tmps, ht])
  have h4 : mx.map (·.ev fr) = mx.map (·.ev fr') := opt_congr fun t ht => h t (by simp [ROp.tmps, ht])
  simp only [h1, h2, h3, h4]
theorem dstep_same {call : ACall} {it : DItem} {ref : Nat} {fr : AFrame} {H H1 : AHeap} {v : AVal} (h : dstep call it ref fr H = some (v, false, H1)) : H1 = H := by
  unfold dstep at h
  cases h2 : Nat.beq it.cls 2 with
  | true =>
    rw [h2] at h
    simp only [] at h
    cases hx : it.o.op.exec call fr H with
    | none => rw [hx] at h; cases h
    | some q => obtain ⟨a, b⟩ := q; rw [hx] at h; simp at h
  | false =>
    rw [h2] at h
    simp only [] at h
    cases h3 : Nat.beq it.cls 3 with
    | true =>
      rw [h3] at h
      simp only [] at h
      cases hx : it.o.op.made fr with
      | none => rw [hx] at h; cases h
      | some q =>
        obtain ⟨cs, e, k⟩ := q
        rw [hx] at h
        simp only [] at h
        cases hg : ghostIs H ref cs e with
        | true => rw [hg] at h; cases h; rfl
        | false => rw [hg] at h; cases h
    | false =>
      rw [h3] at h
      simp only [] at h
      cases hx : it.o.op.look fr H with
      | none => rw [hx] at h; cases h
      | some v => rw [hx] at h; cases h; rfl
theorem dtext_get {call : ACall} : ∀ (its : List DItem) (ref : Nat) (fr fr' : AFrame) (H H' : AHeap) (R : List DRec), dtext call its ref fr H = some (R, fr', H') →
    R.length = its.length ∧ fr' = foldF R (fun _ => true) fr ∧ H' = foldH R (fun _ => true) H ∧
    ∀ k it, its[k]? = some it → ∃ r, R[k]? = some r ∧ RecOk call it (refs its ref k) (foldF R (fun i => decide (i < k)) fr) (foldH R (fun i => decide (i < k)) H) r
  | [], ref, fr, fr', H, H', R, h => by
    simp only [dtext] at h; cases h
    exact ⟨rfl, rfl, rfl, fun k it hk => by simp at hk⟩
  | it :: rest, ref, fr, fr', H, H', R, h => by
    simp only [dtext] at h
    have none_at : ∀ (rs : List DRec) (f : AFrame), foldF rs (fun i => decide (i + 1 < 0)) f = f := fun rs => by
      induction rs with
      | nil => intro f; rfl
      | cons r rs ih => intro f; simpa [foldF] using ih f
    have none_f : ∀ (rs : List DRec) (f : AFrame), foldF rs (fun i => decide (i < 0)) f = f := fun rs f => by
      cases rs with
      | nil => rfl
      | cons r rs => simpa [foldF] using none_at rs f
    have none_h : ∀ (rs : List DRec) (h : AHeap), foldH rs (fun i => decide (i < 0)) h = h := fun rs h => foldH_none fun i q _ _ => by simp
    cases hw : it.o.wanted fr with
    | false =>
      rw [hw] at h
      simp only [] at h
      cases hd : dtext call rest (nextRef it.cls ref) (put fr it.o.dst aundef) H with
      | none => rw [hd] at h; cases h
      | some q =>
        obtain ⟨R', f', h'⟩ := q
        rw [hd] at h; cases h
        obtain ⟨h1, h2, h3, h4⟩ := dtext_get rest _ _ _ _ _ _ hd
        refine ⟨by simp [h1], by simpa [foldF] using h2, by simpa [foldH] using h3, fun k it' hk => ?_⟩
        cases k with
        | zero =>
          simp only [List.getElem?_cons_zero, Option.some.injEq] at hk; subst hk
          exact ⟨_, rfl, rfl, rfl, rfl, (none_f _ _).symm, rfl, by rw [none_f]; exact hw.symm, fun _ => ⟨rfl, rfl⟩, fun h => (by cases h)⟩
        | succ k =>
          obtain ⟨r, hr, hok⟩ := h4 k it' (by simpa using hk)
          refine ⟨r, by simpa using hr, ?_⟩
          simpa [foldF, foldH, refs] using hok
    | true =>
      rw [hw] at h
      simp only [] at h
      cases hs : dstep call it ref fr H with
      | none => rw [hs] at h; cases h
      | some q =>
        obtain ⟨v, eff, H1⟩ := q
        rw [hs] at h
        simp only [] at h
        cases hd : dtext call rest (nextRef it.cls ref) (put fr it.o.dst v) H1 with
        | none => rw [hd] at h; cases h
        | some q =>
          obtain ⟨R', f', h'⟩ := q
          rw [hd] at h; cases h
          obtain ⟨h1, h2, h3, h4⟩ := dtext_get rest _ _ _ _ _ _ hd
          refine ⟨by simp [h1], by simpa [foldF] using h2, ?_, fun k it' hk => ?_⟩
          · cases eff with
            | true => simpa [foldH] using h3
            | false => obtain rfl := dstep_same hs; simpa [foldH] using h3
          cases k with
          | zero =>
            simp only [List.getElem?_cons_zero, Option.some.injEq] at hk; subst hk
            exact ⟨_, rfl, rfl, rfl, rfl, (none_f _ _).symm, rfl, by rw [none_f]; exact hw.symm, fun h => (by cases h), fun _ => by rw [none_f, none_h]; exact hs⟩
          | succ k =>
            obtain ⟨r, hr, hok⟩ := h4 k it' (by simpa using hk)
            refine ⟨r, by simpa using hr, ?_⟩
            cases eff with
            | true => simpa [foldF, foldH, refs] using hok
            | false => obtain rfl := dstep_same hs; simpa [foldF, foldH, refs] using hok
end Go.Am

namespace Go.Am
open Go Go.RowKit
theorem chk_okAt {r : DRec} {k : Nat} : ∀ (es : List DRec) (X : Nat → Bool) (i : Nat) (cur : AHeap) (may : Bool), r.chk k es i cur may = true →
    (∀ j e, es[j]? = some e → e.eff = true → X j = true → e.b.testBit k = false) →
    (∀ j e, es[j]? = some e → e.eff = true → r.b.testBit (i + j) = true → X j = true) →
    (∀ j j' e e', es[j]? = some e → es[j']? = some e' → e.eff = true → e'.eff = true → j < j' → X j' = true → X j = true) →
    (may = true ∨ ∃ j e, es[j]? = some e ∧ e.eff = true ∧ X j = true) → r.okAt (foldH es X cur) = true
  | [], X, i, cur, may, h, _, _, _, h4 => by
    rcases h4 with h4 | ⟨j, e, hj, _⟩
    · subst h4; simpa [DRec.chk, foldH] using h
    · simp at hj
  | e :: es, X, i, cur, may, h, h1, h2, h3, h4 => by
    simp only [DRec.chk] at h
    have h1' : ∀ j e', es[j]? = some e' → e'.eff = true → X (j + 1) = true → e'.b.testBit k = false := fun j e' hj he hX => h1 (j + 1) e' (by simpa using hj) he hX
    have h2' : ∀ j e', es[j]? = some e' → e'.eff = true → r.b.testBit (i + 1 + j) = true → X (j + 1) = true := fun j e' hj he hb => h2 (j + 1) e' (by simpa using hj) he (by rw [show i + (j + 1) = i + 1 + j by omega]; exact hb)
    have h3' : ∀ j j' a b, es[j]? = some a → es[j']? = some b → a.eff = true → b.eff = true → j < j' → X (j' + 1) = true → X (j + 1) = true := fun j j' a b ha hb h5 h6 h7 h8 => h3 (j + 1) (j' + 1) a b (by simpa using ha) (by simpa using hb) h5 h6 (by omega) h8
    cases heff : e.eff with
    | false =>
      rw [heff] at h
      simp only [] at h
      have := chk_okAt es (fun j => X (j + 1)) (i + 1) cur may h h1' h2' h3' (by
        rcases h4 with h4 | ⟨j, e', hj, he, hX⟩
        · exact Or.inl h4
        · cases j with
          | zero => simp only [List.getElem?_cons_zero, Option.some.injEq] at hj; subst hj; rw [heff] at he; cases he
          | succ j => exact Or.inr ⟨j, e', by simpa using hj, he, hX⟩)
      simpa [foldH, heff] using this
    | true =>
      rw [heff] at h
      simp only [Bool.and_eq_true] at h
      cases hX0 : X 0 with
      | true =>
        have := chk_okAt es (fun j => X (j + 1)) (i + 1) e.hp _ h.2 h1' h2' h3' (Or.inl (by rw [h1 0 e rfl heff hX0]; rfl))
        simpa [foldH, heff, hX0] using this
      | false =>
        have hno : ∀ j e', es[j]? = some e' → e'.eff = true → X (j + 1) = false := fun j e' hj he => by
          cases hx : X (j + 1) with
          | false => rfl
          | true =>
            have := h3 0 (j + 1) e e' rfl (by simpa using hj) heff he (by omega) hx
            rw [hX0] at this; cases this
        have hmay : may = true := by
          rcases h4 with h4 | ⟨j, e', hj, he, hX⟩
          · exact h4
          · cases j with
            | zero => rw [hX0] at hX; cases hX
            | succ j => rw [hno j e' (by simpa using hj) he] at hX; cases hX
        have hbit : r.b.testBit i = false := by
          cases hb : r.b.testBit i with
          | false => rfl
          | true => have := h2 0 e rfl heff (by simpa using hb); rw [hX0] at this; cases this
        have h5 := h.1
        rw [hmay, hbit] at h5
        simp only [foldH, hX0, Bool.false_and]
        rw [foldH_none hno]
        simpa using h5
structure Reg (P : Program) (nt : Nat) (ops : Array Oper) (its : List DItem) : Prop where
  len : its.length = ops.size
  op : ∀ k o, ops[k]? = some o → ∃ it, its[k]? = some it ∧ cOp P nt o = some it.o.op ∧ cDst nt o.dst = some it.o.dst ∧ cGuard nt ops o.guard = some it.o.guard ∧
    (it.cls = it.o.op.kind ∨ it.cls = 2) ∧ (∀ e ∈ o.after, Region.binds .any e = true → e.on < k) ∧
    (∀ i, i < ops.size → it.b.testBit i = true → ∃ e ∈ o.after, Region.binds .any e = true ∧ e.on < k ∧ (e.on = i ∨ ∃ it', its[e.on]? = some it' ∧ it'.b.testBit i = true))
  clash : ∀ i j x y, i < j → its[i]? = some x → its[j]? = some y → clash x y = true → y.b.testBit i = true
theorem Reg.below {P : Program} {nt : Nat} {ops : Array Oper} {its : List DItem} (g : Reg P nt ops its) {X : Nat → Bool} (hX : ∀ k o, X k = true → ops[k]? = some o → ∀ e ∈ o.after, Region.binds .any e = true → X e.on = true) :
    ∀ (k : Nat) (o : Oper) (it : DItem), ops[k]? = some o → its[k]? = some it → (∀ e ∈ o.after, Region.binds .any e = true → X e.on = true) → ∀ i, i < ops.size → it.b.testBit i = true → X i = true := by
  intro k
  induction k using Nat.strongRecOn with
  | _ k ih =>
    intro o it ho hit hedge i hin hi
    obtain ⟨it', hit', _, _, _, _, _, hb⟩ := g.op k o ho
    rw [hit] at hit'; cases hit'
    obtain ⟨e, he, hbind, hlt, hor⟩ := hb i hin hi
    rcases hor with rfl | ⟨it2, hit2, hb2⟩
    · exact hedge e he hbind
    · have hlt2 : e.on < ops.size := by rw [← g.len]; exact (List.getElem?_eq_some_iff.1 hit2).1
      obtain ⟨o2, ho2⟩ : ∃ o2, ops[e.on]? = some o2 := ⟨ops[e.on], by simp [hlt2]⟩
      exact ih e.on hlt o2 it2 ho2 hit2 (hX e.on o2 (hedge e he hbind) ho2) i hin hb2
def leftN (X : Nat → Bool) : Nat → Nat
  | 0 => 0
  | n + 1 => leftN X n + (match X n with | true => 0 | false => 1)
theorem leftN_zero {X : Nat → Bool} : ∀ {n : Nat}, leftN X n = 0 → ∀ i, i < n → X i = true
  | n + 1, h, i, hi => by
    simp only [leftN] at h
    by_cases hin : i = n
    · subst hin
      cases hx : X i with
      | true => rfl
      | false => rw [hx] at h; simp at h
    · exact leftN_zero (n := n) (by omega) i (by omega)
theorem leftN_same {X Y : Nat → Bool} : ∀ {n : Nat}, (∀ i, i < n → X i = Y i) → leftN X n = leftN Y n
  | 0, _ => rfl
  | n + 1, h => by simp only [leftN]; rw [leftN_same (n := n) fun i hi => h i (by omega), h n (by omega)]
theorem leftN_add {X Y : Nat → Bool} {k : Nat} (hX : X k = false) (hY : Y k = true) (hXY : ∀ i, i ≠ k → Y i = X i) : ∀ {n : Nat}, k < n → leftN X n = leftN Y n + 1
  | n + 1, h => by
    simp only [leftN]
    by_cases hk : k = n
    · subst hk
      rw [hX, hY, leftN_same (X := X) (Y := Y) (n := k) fun i hi => (hXY i (by omega)).symm]
      rfl
    · rw [hXY n (by omega), leftN_add hX hY hXY (n := n) (by omega)]
      omega
theorem cOpers_get {P : Program} {nt : Nat} {ops : Array Oper} : ∀ {os : List Oper} {l : List ROper}, cOpers P nt ops os = some l → l.length = os.length ∧
    ∀ (k : Nat) (o : Oper), os[k]? = some o → ∃ ro : ROper, l[k]? = some ro ∧ cOp P nt o = some ro.op ∧ cDst nt o.dst = some ro.dst ∧ cGuard nt ops o.guard = some ro.guard
  | [], l, h => by simp only [cOpers] at h; cases h; exact ⟨rfl, fun k o hk => by simp at hk⟩
  | a :: os, l, h => by
    simp only [cOpers] at h
    split at h
    · rename_i op dst guard l' h1 h2 h3 h4; cases h
      obtain ⟨h5, h6⟩ := cOpers_get h4
      refine ⟨by simp [h5], fun k o hk => ?_⟩
      cases k with
      | zero => simp only [List.getElem?_cons_zero, Option.some.injEq] at hk; subst hk; exact ⟨_, rfl, h1, h2, h3⟩
      | succ k => obtain ⟨ro, h7⟩ := h6 k o (by simpa using hk); exact ⟨ro, by simpa using h7⟩
    · cases h
theorem items_get {ef : Bool} : ∀ (l : List ROper) (masks : List Nat) (bad : List Nat), masks.length = l.length → (items ef l masks bad).length = l.length ∧
    ∀ k ro, l[k]? = some ro → ∃ it, (items ef l masks bad)[k]? = some it ∧ it.o = ro ∧ it.b = masks.getD k 0
  | [], [], bad, _ => ⟨rfl, fun k ro hk => by simp at hk⟩
  | [], _ :: _, bad, h => by simp at h
  | _ :: _, [], bad, h => by simp at h
  | o :: os, b :: bs, bad, h => by
    simp only [items]
    have := items_get (ef := ef) os bs (if (!(Nat.beq o.op.kind 2) && o.looks.all fun t => !(bad.contains t)) then bad else match o.dst with | some d => d :: bad | none => bad) (by simpa using h)
    refine ⟨by simp only [List.length_cons]; exact congrArg (· + 1) this.1, fun k ro hk => ?_⟩
    cases k with
    | zero => simp only [List.getElem?_cons_zero, Option.some.injEq] at hk; subst hk; exact ⟨_, rfl, rfl, by simp⟩
    | succ k =>
      obtain ⟨it, h1, h2, h3⟩ := this.2 k ro (by simpa using hk)
      exact ⟨it, by rw [List.getElem?_cons_succ]; exact h1, h2, by simpa using h3⟩
theorem masksOk_get {masks : List Nat} : ∀ {os : List Oper} {j : Nat}, masksOk masks os j = true → ∀ k o, os[k]? = some o → maskOk masks o.after.toList (j + k) = true
  | [], j, _, k, o, hk => by simp at hk
  | a :: os, j, h, k, o, hk => by
    simp only [masksOk, Bool.and_eq_true] at h
    cases k with
    | zero => simp only [List.getElem?_cons_zero, Option.some.injEq] at hk; subst hk; exact h.1
    | succ k => have := masksOk_get h.2 k o (by simpa using hk); rwa [show j + 1 + k = j + (k + 1) by omega] at this
theorem clashes_get {y : DItem} : ∀ {xs : List DItem} {i : Nat}, clashes y xs i = true → ∀ m x, xs[m]? = some x → clash x y = true → y.b.testBit (i + m) = true
  | [], i, _, m, x, hm, _ => by simp at hm
  | a :: xs, i, h, m, x, hm, hc => by
    simp only [clashes, Bool.and_eq_true, Bool.or_eq_true, Bool.not_eq_true'] at h
    cases m with
    | zero =>
      simp only [List.getElem?_cons_zero, Option.some.injEq] at hm; subst hm
      rcases h.1 with h1 | h1
      · rw [hc] at h1; cases h1
      · simpa using h1
    | succ m => have := clashes_get h.2 m x (by simpa using hm) hc; rwa [show i + 1 + m = i + (m + 1) by omega] at this
theorem orderOk_get : ∀ {its before : List DItem}, orderOk its before = true → ∀ j y, its[j]? = some y →
    (y.cls = y.o.op.kind ∨ y.cls = 2) ∧ clashes y (before ++ its.take j) 0 = true
  | [], before, _, j, y, hj => by simp at hj
  | a :: its, before, h, j, y, hj => by
    simp only [orderOk, Bool.and_eq_true, Bool.or_eq_true] at h
    cases j with
    | zero =>
      simp only [List.getElem?_cons_zero, Option.some.injEq] at hj; subst hj
      refine ⟨?_, by simpa using h.1.1⟩
      rcases h.1.2 with h1 | h1
      · exact Or.inl (Nat.eq_of_beq_eq_true h1)
      · exact Or.inr (Nat.eq_of_beq_eq_true h1)
    | succ j =>
      obtain ⟨h1, h2⟩ := orderOk_get h.2 j y (by simpa using hj)
      exact ⟨h1, by simpa using h2⟩
theorem reg_of1 {P : Program} {nt : Nat} {ops : Array Oper} {l : List ROper} {masks : List Nat} {ef : Bool} (hl : cOpers P nt ops ops.toList = some l) (hc : drawOk ef ops.toList masks l = true) : Reg P nt ops (items ef l masks []) := by
    unfold drawOk at hc
    simp only [Bool.and_eq_true] at hc
    obtain ⟨⟨hc1, hc2⟩, hc3⟩ := hc
    have hml : masks.length = ops.size := by have := Nat.eq_of_beq_eq_true hc1; simpa using this
    obtain ⟨h1, h2⟩ := cOpers_get hl
    have hll : l.length = ops.size := by simpa using h1
    obtain ⟨h3, h4⟩ := items_get (ef := ef) l masks [] (by omega)
    refine ⟨by rw [h3]; exact hll, ?_, ?_⟩
    · intro k o ho
      have hol : ops.toList[k]? = some o := by simpa using ho
      obtain ⟨ro, h5, h6, h7, h8⟩ := h2 k o hol
      obtain ⟨it, h9, h10, h11⟩ := h4 k ro h5
      obtain ⟨h12, _⟩ := orderOk_get hc3 k it h9
      have hm := masksOk_get hc2 k o hol
      simp only [maskOk, Nat.zero_add, Bool.and_eq_true, List.all_eq_true, Bool.or_eq_true, Bool.not_eq_true', decide_eq_true_eq, List.mem_range, List.any_eq_true] at hm
      subst h10
      refine ⟨it, h9, h6, h7, h8, h12, ?_, ?_⟩
      · intro e he hb
        rcases hm.1 e (by simpa using he) with h | h
        · rw [hb] at h; cases h
        · exact h
      · intro i hi hbit
        rcases hm.2 i (by omega) with h | ⟨e, he, h⟩
        · rw [← h11] at h; rw [hbit] at h; cases h
        · obtain ⟨⟨hb, hlt⟩, hor⟩ := h
          refine ⟨e, by simpa using he, hb, hlt, ?_⟩
          rcases hor with h | h
          · exact Or.inl (Nat.eq_of_beq_eq_true h)
          · right
            have hk : k < ops.size := (Array.getElem?_eq_some_iff.1 ho).1
            obtain ⟨o2, ho2⟩ : ∃ o2, ops.toList[e.on]? = some o2 := ⟨ops.toList[e.on]'(by simp; omega), by simp⟩
            obtain ⟨ro2, h13, _⟩ := h2 e.on o2 ho2
            obtain ⟨it2, h14, _, h16⟩ := h4 e.on ro2 h13
            exact ⟨it2, h14, by rw [h16]; exact h⟩
    · intro i j x y hij hx hy hcl
      obtain ⟨_, h5⟩ := orderOk_get hc3 j y hy
      have := clashes_get h5 i x (by simp [hij, hx]) hcl
      simpa using this
theorem reg_of {P : Program} {nt : Nat} {ops : Array Oper} {l : List ROper} {masks : List Nat} {rc : RCode} (hl : cOpers P nt ops ops.toList = some l) (h : cDraw ops.toList masks l = some rc) :
    ∃ its, rc = .dregion its ∧ Reg P nt ops its := by
  unfold cDraw at h
  cases h1 : drawOk true ops.toList masks l with
  | true => rw [h1] at h; cases h; exact ⟨_, rfl, reg_of1 hl h1⟩
  | false =>
    rw [h1] at h
    cases h2 : drawOk false ops.toList masks l with
    | true => rw [h2] at h; cases h; exact ⟨_, rfl, reg_of1 hl h2⟩
    | false => rw [h2] at h; cases h
end Go.Am

namespace Go.Am
open Go Go.RowKit
section
variable {P : Program} {S : Base} {call : ACall} {nt : Nat} {ops : Array Oper} {its : List DItem} {R : List DRec} {fr fr' : AFrame} {H0 H' : AHeap} {ref0 : Nat}
def ghosts (R : List DRec) (X : Nat → Bool) (r : Nat) : Prop := ∃ (k : Nat) (q : DRec), R[k]? = some q ∧ Nat.beq q.cls 3 = true ∧ q.want = true ∧ X k = false ∧ r = q.ref
theorem clash_dst {x y : DItem} {t : Nat} (hx : x.o.dst = some t) (hy : y.o.dst = some t) : clash x y = true := by simp [clash, hx, hy]
theorem clash_look {x y : DItem} {t : Nat} (hx : x.o.dst = some t) (hy : t ∈ y.o.looks) : clash x y = true := by simp [clash, hx, hy]
theorem clash_look' {x y : DItem} {t : Nat} (hx : y.o.dst = some t) (hy : t ∈ x.o.looks) : clash x y = true := by simp [clash, hx, hy]
theorem clash_eff {x y : DItem} (hx : Nat.beq x.cls 2 = true) (hy : Nat.beq y.cls 2 = true) : clash x y = true := by simp [clash, hx, hy]
structure Run (P : Program) (S : Base) (call : ACall) (nt : Nat) (ops : Array Oper) (its : List DItem) (R : List DRec) (fr : AFrame) (H0 : AHeap) (ref0 : Nat) : Prop where
  reg : Reg P nt ops its
  len : R.length = its.length
  get : ∀ (k : Nat) (it : DItem), its[k]? = some it → ∃ r, R[k]? = some r ∧ RecOk call it (refs its ref0 k) (foldF R (fun i => decide (i < k)) fr) (foldH R (fun i => decide (i < k)) H0) r
  chk : ∀ (k : Nat) (r : DRec), R[k]? = some r → r.want = true → (Nat.beq r.cls 1 || Nat.beq r.cls 3) = true → r.chk k R 0 H0 true = true
  base : ∀ r, S.ghost r → r < ref0
theorem Run.item (g : Run P S call nt ops its R fr H0 ref0) {k : Nat} {r : DRec} (hr : R[k]? = some r) : ∃ it, its[k]? = some it ∧ RecOk call it (refs its ref0 k) (foldF R (fun i => decide (i < k)) fr) (foldH R (fun i => decide (i < k)) H0) r := by
  have hk : k < its.length := by rw [← g.len]; exact (List.getElem?_eq_some_iff.1 hr).1
  obtain ⟨it, hit⟩ : ∃ it, its[k]? = some it := ⟨its[k], by simp [hk]⟩
  obtain ⟨r', hr', hok⟩ := g.get k it hit
  rw [hr] at hr'; cases hr'
  exact ⟨it, hit, hok⟩
theorem Run.eff (g : Run P S call nt ops its R fr H0 ref0) {k : Nat} {r : DRec} {it : DItem} (hr : R[k]? = some r) (hit : its[k]? = some it) (he : r.eff = true) : Nat.beq it.cls 2 = true := by
  obtain ⟨it', hit', hok⟩ := g.item hr
  rw [hit] at hit'; cases hit'
  cases hw : r.want with
  | false => have := (hok.no hw).2; rw [he] at this; cases this
  | true =>
    have := hok.yes hw
    rw [he] at this
    cases h2 : Nat.beq it.cls 2 with
    | true => rfl
    | false =>
      exfalso
      unfold dstep at this
      rw [h2] at this
      simp only [] at this
      cases h3 : Nat.beq it.cls 3 with
      | true =>
        rw [h3] at this
        simp only [] at this
        cases hx : it.o.op.made (foldF R (fun i => decide (i < k)) fr) with
        | none => rw [hx] at this; cases this
        | some q =>
          obtain ⟨cs, e, kk⟩ := q
          rw [hx] at this
          simp only [] at this
          cases hg : ghostIs (foldH R (fun i => decide (i < k)) H0) (refs its ref0 k) cs e with
          | true => rw [hg] at this; simp at this
          | false => rw [hg] at this; cases this
      | false =>
        rw [h3] at this
        simp only [] at this
        cases hx : it.o.op.look (foldF R (fun i => decide (i < k)) fr) (foldH R (fun i => decide (i < k)) H0) with
        | none => rw [hx] at this; cases this
        | some v => rw [hx] at this; simp at this
structure At (X : Nat → Bool) (R : List DRec) (fr : AFrame) (H0 : AHeap) (nt : Nat) (S : Base) (m : RMap) (ds : List Deferred) (a : Act) (w : World) : Prop where
  fr : ∃ m', Le m m' ∧ FRel nt m' (foldF R X fr) a.tmps ∧ HRel { S with ghost := fun r => S.ghost r ∨ ghosts R X r } m' (foldH R X H0) w
  ds : a.defers = ds
theorem step_any {ro : Option Nat} (hG : S.G = P.globals.size) (hcall : ∀ g, CallSim P { S with ghost := g } call) (g : Run P S call nt ops its R fr H0 ref0) {X Y : Nat → Bool} {k : Nat} {o : Oper} (ho : ops[k]? = some o) (hXk : X k = false) (hYk : Y k = true) (hYX : ∀ i, i ≠ k → Y i = X i)
    (hclosed : ∀ k o, X k = true → ops[k]? = some o → ∀ e ∈ o.after, Region.binds .any e = true → X e.on = true) (hready : ∀ e ∈ o.after, Region.binds .any e = true → X e.on = true)
    {m : RMap} {ds : List Deferred} {a : Act} {w : World} (hat : At X R fr H0 nt S m ds a w) {K : Act → World → Prop} {Q : Exit → Act → World → Prop} (hK : ∀ a w, At Y R fr H0 nt S m ds a w → K a w) : wpOpIn (wid ro) 0 P ops Q k K a w := by
  obtain ⟨it, hit, hop, hdst, hguard, hcls, -, -⟩ := g.reg.op k o ho
  obtain ⟨r, hr, hok⟩ := g.get k it hit
  have hkn : k < ops.size := (Array.getElem?_eq_some_iff.1 ho).1
  -- below k in X; nothing of X must follow k
  have hb : ∀ i, i < ops.size → it.b.testBit i = true → X i = true := g.reg.below hclosed k o it ho hit hready
  have hnb : ∀ i y, its[i]? = some y → X i = true → y.b.testBit k = false := fun i y hy hXi => by
    cases hbit : y.b.testBit k with
    | false => rfl
    | true =>
      have hin : i < ops.size := by rw [← g.reg.len]; exact (List.getElem?_eq_some_iff.1 hy).1
      obtain ⟨o2, ho2⟩ : ∃ o2, ops[i]? = some o2 := ⟨ops[i], by simp [hin]⟩
      have := g.reg.below hclosed i o2 y ho2 hy (hclosed i o2 hXi ho2) k hkn hbit
      rw [hXk] at this; cases this
  have hxi : ∀ {i q}, R[i]? = some q → i < ops.size := fun hq => by rw [← g.reg.len, ← g.len]; exact (List.getElem?_eq_some_iff.1 hq).1
  -- the temporaries that k looks at
  have hagree : ∀ t ∈ it.o.looks, foldF R X fr t = foldF R (fun i => decide (i < k)) fr t := fun t ht => by
    refine foldF_agree rfl fun i q hq hqd => ?_
    obtain ⟨y, hy, hyok⟩ := g.item hq
    rw [hyok.o] at hqd
    rcases Nat.lt_trichotomy i k with h | h | h
    · simp only [h, decide_true]
      exact hb i (hxi hq) (g.reg.clash i k y it h hy hit (clash_look hqd ht))
    · subst h; simp [hXk]
    · have : ¬ i < k := by omega
      simp only [this, decide_false]
      cases hXi : X i with
      | false => rfl
      | true =>
        have h1 := g.reg.clash k i it y h hit hy (clash_look' hqd ht)
        rw [hnb i y hy hXi] at h1; cases h1
  have hlast : ∀ i q t, k < i → R[i]? = some q → X i = true → r.o.dst = some t → q.o.dst ≠ some t := fun i q t hlt hq hXi hrd hqd => by
    obtain ⟨y, hy, hyok⟩ := g.item hq
    rw [hyok.o] at hqd; rw [hok.o] at hrd
    have h1 := g.reg.clash k i it y hlt hit hy (clash_dst hrd hqd)
    rw [hnb i y hy hXi] at h1; cases h1
  have haddF : foldF R Y fr = put (foldF R X fr) it.o.dst r.v := by rw [foldF_add hr hXk hYk hYX hlast, hok.o]
  have hghost : ∀ x, ghosts R Y x → ghosts R X x := fun x ⟨i, q, h1, h2, h3, h4, h5⟩ => by
    by_cases hik : i = k
    · subst hik; rw [hYk] at h4; cases h4
    · exact ⟨i, q, h1, h2, h3, by rw [← hYX i hik]; exact h4, h5⟩
  have haddH : r.eff = false → foldH R Y H0 = foldH R X H0 := fun he => foldH_agree fun i q hq hqe => by
    by_cases hik : i = k
    · subst hik; rw [hr] at hq; cases hq; rw [he] at hqe; cases hqe
    · exact hYX i hik
  obtain ⟨⟨m', hm', hfr, hrel⟩, hds⟩ := hat
  have hwant : Region.wanted o (yielded ops a.tmps) = r.want := by
    rw [wanted_eq hfr hguard (ro := it.o) rfl, hok.want]
    unfold ROper.wanted
    cases hgd : it.o.guard with
    | none => rfl
    | some tw =>
      obtain ⟨t, wn⟩ := tw
      simp only []
      rw [hagree t (by simp [ROper.looks, hgd])]
  unfold wpOpIn
  simp only [ho]
  rw [hwant]
  cases hw : r.want with
  | false =>
    simp only [Bool.false_eq_true, if_false]
    refine ⟨fun _ _ => trivial, ?_⟩
    obtain ⟨hv, he⟩ := hok.no hw
    refine hK _ _ ⟨⟨m', hm', ?_, ?_⟩, by rw [put_defers]; exact hds⟩
    · rw [haddF, hv]; exact hfr.put hdst undef_emb
    · rw [haddH he]; exact hrel.less _ fun x hx => hx.imp id (hghost x)
  | true =>
    simp only [if_true]
    have hstep := hok.yes hw
    have htm : ∀ t ∈ it.o.op.tmps, foldF R X fr t = foldF R (fun i => decide (i < k)) fr t := fun t ht => hagree t (by simp [ROper.looks, ht])
    unfold dstep at hstep
    cases h2 : Nat.beq it.cls 2 with
    | true =>
      rw [h2] at hstep
      simp only [] at hstep
      have hHX : foldH R X H0 = foldH R (fun i => decide (i < k)) H0 := foldH_agree fun i q hq hqe => by
        obtain ⟨y, hy, hyok⟩ := g.item hq
        have hc2 := g.eff hq hy hqe
        rcases Nat.lt_trichotomy i k with h | h | h
        · simp only [h, decide_true]
          exact hb i (hxi hq) (g.reg.clash i k y it h hy hit (clash_eff hc2 h2))
        · subst h; simp [hXk]
        · have : ¬ i < k := by omega
          simp only [this, decide_false]
          cases hXi : X i with
          | false => rfl
          | true =>
            have h1 := g.reg.clash k i it y h hit hy (clash_eff h2 hc2)
            rw [hnb i y hy hXi] at h1; cases h1
      cases hx : it.o.op.exec call (foldF R (fun i => decide (i < k)) fr) (foldH R (fun i => decide (i < k)) H0) with
      | none => rw [hx] at hstep; cases hstep
      | some q =>
        obtain ⟨v, H1⟩ := q
        rw [hx] at hstep
        simp only [Option.some.injEq, Prod.mk.injEq] at hstep
        obtain ⟨hv, he, hh⟩ := hstep
        rw [← hHX, ← exec_congr (call := call) htm] at hx
        refine wpIn_of_yields (cOp_plain hop) (sim_op hop hfr hrel hG (hcall _) hx) fun x w' ⟨m2, hm2, hxv, hrel2⟩ => hK _ _ ⟨⟨m2, Le.trans hm' hm2, ?_, ?_⟩, by rw [put_defers]; exact hds⟩
        · rw [haddF, ← hv]; exact (hfr.mono hm2).put hdst hxv
        · rw [foldH_add hr hYk he.symm fun i q hlt hq hqe => ?_, ← hh]
          · exact hrel2.less _ fun x hx => hx.imp id (hghost x)
          · obtain ⟨y, hy, hyok⟩ := g.item hq
            have hc2 := g.eff hq hy hqe
            rw [hYX i (by omega)]
            cases hXi : X i with
            | false => rfl
            | true =>
              have h1 := g.reg.clash k i it y hlt hit hy (clash_eff h2 hc2)
              rw [hnb i y hy hXi] at h1; cases h1
    | false =>
      rw [h2] at hstep
      simp only [] at hstep
      have hckind : it.cls = it.o.op.kind := by
        rcases hcls with h | h
        · exact h
        · rw [h] at h2; cases h2
      -- what k reads is there
      have hchk : (Nat.beq r.cls 1 || Nat.beq r.cls 3) = true → r.okAt (foldH R X H0) = true := fun hc => by
        refine chk_okAt (k := k) R X 0 H0 true (g.chk k r hr hw hc) ?_ ?_ ?_ (Or.inl rfl)
        · intro j e hj he hXj
          obtain ⟨y, hy, hyok⟩ := g.item hj
          rw [hyok.b]; exact hnb j y hy hXj
        · intro j e hj he hbit
          rw [hok.b] at hbit
          exact hb j (hxi hj) (by simpa using hbit)
        · intro j j' e e' hj hj' he he' hlt hXj'
          obtain ⟨y, hy, _⟩ := g.item hj
          obtain ⟨y', hy', _⟩ := g.item hj'
          have hbit := g.reg.clash j j' y y' hlt hy hy' (clash_eff (g.eff hj hy he) (g.eff hj' hy' he'))
          have hin := hxi hj'
          obtain ⟨o2, ho2⟩ : ∃ o2, ops[j']? = some o2 := ⟨ops[j'], by simp [hin]⟩
          exact g.reg.below hclosed j' o2 y' ho2 hy' (hclosed j' o2 hXj' ho2) j (hxi hj) hbit
      cases h3 : Nat.beq it.cls 3 with
      | true =>
        rw [h3] at hstep
        simp only [] at hstep
        cases hmd : it.o.op.made (foldF R (fun i => decide (i < k)) fr) with
        | none => rw [hmd] at hstep; cases hstep
        | some q =>
          obtain ⟨cs, e, kk⟩ := q
          rw [hmd] at hstep
          simp only [] at hstep
          cases hg : ghostIs (foldH R (fun i => decide (i < k)) H0) (refs its ref0 k) cs e with
          | false => rw [hg] at hstep; cases hstep
          | true =>
            rw [hg] at hstep
            simp only [Option.some.injEq, Prod.mk.injEq] at hstep
            obtain ⟨hv, he, hh⟩ := hstep
            have hat := hchk (by rw [hok.cls, h3, Bool.or_true])
            unfold DRec.okAt at hat
            rw [hok.cls, h3, hok.o, hok.fr, hmd] at hat
            simp only [] at hat
            rw [hok.rf] at hat
            have hglob : Globs P.globals.size m' := by rw [← hG]; exact hrel.glob
            obtain ⟨xs, hxs, hrun⟩ := sim_made (P := P) (m := m') hop hfr hglob (by rw [made_congr htm]; exact hmd)
            obtain ⟨x, hx1, hx2⟩ := hrun w
            unfold ghostIs at hat
            simp only [Bool.and_eq_true] at hat
            obtain ⟨hlt, hrow⟩ := hat
            have hlt' : refs its ref0 k < (foldH R X H0).n := by simpa [Nat.blt_eq] using hlt
            obtain ⟨e2, hge⟩ : ∃ e2, (foldH R X H0).get (refs its ref0 k) = .row cs true (2 * e2) ∧ e2 = e := by
              cases hq : (foldH R X H0).get (refs its ref0 k) with
              | row cs' rw' e' =>
                rw [hq] at hrow
                cases rw' with
                | false => simp at hrow
                | true =>
                  simp only [Bool.and_eq_true] at hrow
                  exact ⟨e, by rw [abeqL_eq hrow.1, Nat.eq_of_beq_eq_true hrow.2], rfl⟩
              | _ => rw [hq] at hrow; cases hrow
            obtain ⟨hget, rfl⟩ := hge
            have hgk : ghosts R X (refs its ref0 k) := ⟨k, r, hr, by rw [hok.cls]; exact h3, hw, hXk, hok.rf.symm⟩
            have haway := hrel.away _ (Or.inr hgk)
            have hless := hrel.less (fun x => S.ghost x ∨ ghosts R Y x) fun x hx => hx.imp id (hghost x)
            have hnot : ¬ (S.ghost (refs its ref0 k) ∨ ghosts R Y (refs its ref0 k)) := by
              rintro (h | ⟨i, q, h1, h4, h5, h6, h7⟩)
              · have := g.base _ h
                have := refs_ge its ref0 k
                omega
              · obtain ⟨y, hy, hyok⟩ := g.item h1
                rw [hyok.rf] at h7
                rw [hyok.cls] at h4
                rcases Nat.lt_trichotomy i k with h | h | h
                · have := refs_strict its ref0 i k y hy h4 h; omega
                · subst h; rw [hYk] at h6; cases h6
                · have := refs_strict its ref0 k i it hit h3 h; omega
            have hborn := hless.born hlt' hget haway.1 hnot hxs
            have hle := le_add (m := m') (⟨w.heap.size, 0, none⟩, xs.length) haway.1
            refine wpIn_of_yields (cOp_plain hop) (R := fun y w' => y = x ∧ w' = w.alloc (.cells xs.toArray e2)) ?_ ?_
            · unfold Yields; rw [hx1]; exact ⟨rfl, rfl⟩
            · rintro y w' ⟨rfl, rfl⟩
              refine hK _ _ ⟨⟨_, Le.trans hm' hle, ?_, ?_⟩, by rw [put_defers]; exact hds⟩
              · rw [haddF, ← hv]
                exact (hfr.mono hle).put hdst (hx2 _ _ add_eq)
              · rw [haddH he.symm]; exact hborn
      | false =>
        rw [h3] at hstep
        simp only [] at hstep
        cases hx : it.o.op.look (foldF R (fun i => decide (i < k)) fr) (foldH R (fun i => decide (i < k)) H0) with
        | none => rw [hx] at hstep; cases hstep
        | some v =>
            rw [hx] at hstep
            simp only [Option.some.injEq, Prod.mk.injEq] at hstep
            obtain ⟨hv, he, hh⟩ := hstep
            have h4 := kind_le it.o.op
            have hk1 : it.o.op.kind = 0 ∨ it.o.op.kind = 1 := by
              rw [hckind] at h2 h3
              have h5 : it.o.op.kind ≠ 2 := fun e => by rw [e] at h2; cases h2
              have h6 : it.o.op.kind ≠ 3 := fun e => by rw [e] at h3; cases h3
              omega
            have hlook : it.o.op.look (foldF R X fr) (foldH R X H0) = some r.v := by
              rw [look_congr htm]
              rcases hk1 with hk0 | hk1
              · rcases look_cases hx with ⟨H1, hx1, hn1⟩ | ⟨_, _, _, _, _, _, _, e, _⟩
                · rw [← hv]
                  exact look_of (exec_pure hk0 hx1 noCall _) rfl
                · rw [e] at hk0; cases hk0
              · have hat := hchk (by rw [hok.cls, hckind, hk1]; rfl)
                unfold DRec.okAt at hat
                rw [hok.cls, h3, hok.o, hok.fr] at hat
                simp only [] at hat
                cases hx2 : it.o.op.look (foldF R (fun i => decide (i < k)) fr) (foldH R X H0) with
                | none => rw [hx2] at hat; cases hat
                | some v2 =>
                  rw [hx2] at hat
                  rw [abeq_eq hat]
            have hsim : Yields P (execOp a.eval o) w (Out { S with ghost := fun r => S.ghost r ∨ ghosts R X r } m' r.v (foldH R X H0)) := by
              rcases look_cases hlook with ⟨H1, hx1, hn1⟩ | ⟨sz, xx, lo, hi, mx, u, H1, e, hx1, hn1, he1⟩
              · obtain ⟨rfl, hcall1⟩ := exec_reads (by omega) hx1 hn1
                exact sim_op hop hfr hrel hG (hcall _) (hcall1 call)
              · rw [e] at hop hx1
                exact sim_soft hop hfr hrel hG hx1 hn1 he1
            refine wpIn_of_yields (cOp_plain hop) hsim fun x w' ⟨m2, hm2, hxv, hrel2⟩ => hK _ _ ⟨⟨m2, Le.trans hm' hm2, ?_, ?_⟩, by rw [put_defers]; exact hds⟩
            · rw [haddF]; exact (hfr.mono hm2).put hdst hxv
            · rw [haddH he.symm]; exact hrel2.less _ fun x hx => hx.imp id (hghost x)
end
end Go.Am

namespace Go.Am
open Go Go.RowKit
theorem litScan_get {P : Program} {nt dm : Nat} {tm : TypeId} : ∀ {os : List Oper} {done L : List LIt}, litScan P nt dm tm os done = some L →
    L.length = done.length + os.length ∧ (∀ k, k < done.length → L[k]? = done[k]?) ∧ ∀ k o, os[k]? = some o → ∃ it, L[done.length + k]? = some it ∧ litOp P nt dm tm (L.take (done.length + k)) o = some it
  | [], done, L, h => by simp only [litScan] at h; cases h; exact ⟨by simp, fun k _ => rfl, fun k o hk => by simp at hk⟩
  | o :: os, done, L, h => by
    simp only [litScan] at h
    cases hi : litOp P nt dm tm done o with
    | none => rw [hi] at h; cases h
    | some it =>
      rw [hi] at h
      obtain ⟨h1, h2, h3⟩ := litScan_get h
      simp only [List.length_append, List.length_cons, List.length_nil, Nat.zero_add] at h1 h2 h3
      have hpre : ∀ k, k < done.length → L[k]? = done[k]? := fun k hk => by rw [h2 k (by omega), List.getElem?_append_left hk]
      have hat : L[done.length]? = some it := by rw [h2 _ (Nat.lt_succ_self _)]; simp
      have htake : L.take done.length = done := by
        apply List.ext_getElem?
        intro i
        rcases Nat.lt_or_ge i done.length with hi | hi
        · rw [List.getElem?_take_of_lt hi, hpre i hi]
        · rw [List.getElem?_eq_none hi, List.getElem?_eq_none (by simp; omega)]
      refine ⟨by simp only [List.length_cons]; omega, hpre, fun k o' hk => ?_⟩
      cases k with
      | zero => simp only [List.getElem?_cons_zero, Option.some.injEq] at hk; subst hk; exact ⟨it, by simpa using hat, by simpa [htake] using hi⟩
      | succ k =>
        obtain ⟨it', h4, h5⟩ := h3 k o' (by simpa using hk)
        rw [show done.length + 1 + k = done.length + (k + 1) by omega] at h4 h5
        exact ⟨it', h4, h5⟩
theorem wr_iff {it : LIt} {t : Nat} : it.wr t = true ↔ it.dst = some t := by
  unfold LIt.wr
  cases h : it.dst with
  | none => simp
  | some d => simp
theorem litDsts_get : ∀ {L : List LIt}, litDsts L = true → ∀ (i j : Nat) (x y : LIt) (d : Nat), i < j → L[i]? = some x → L[j]? = some y → x.dst = some d → y.dst ≠ some d
  | [], _, i, j, x, y, d, _, hx, _, _ => by simp at hx
  | it :: l, h, i, j, x, y, d, hij, hx, hy, hd => by
    simp only [litDsts, Bool.and_eq_true] at h
    cases j with
    | zero => omega
    | succ j =>
      have hy' : l[j]? = some y := by simpa using hy
      cases i with
      | zero =>
        simp only [List.getElem?_cons_zero, Option.some.injEq] at hx; subst hx
        have h1 := h.1
        rw [hd] at h1
        have := List.all_eq_true.1 h1 y (List.mem_of_getElem? hy')
        intro e
        rw [wr_iff.2 e] at this; cases this
      | succ i => exact litDsts_get h.2 i j x y d (by omega) (by simpa using hx) hy' hd
theorem litDsts_eq {L : List LIt} (h : litDsts L = true) {i j : Nat} {x y : LIt} {d : Nat} (hx : L[i]? = some x) (hy : L[j]? = some y) (h1 : x.dst = some d) (h2 : y.dst = some d) : i = j := by
  rcases Nat.lt_trichotomy i j with hlt | he | hlt
  · exact absurd h2 (litDsts_get h i j x y d hlt hx hy h1)
  · exact he
  · exact absurd h1 (litDsts_get h j i y x d hlt hy hx h2)
theorem litReads_get {dm : Nat} {L : List LIt} {masks : List Nat} (h : litReads dm L masks = true) {k : Nat} {it : LIt} {t : Nat} (hk : L[k]? = some it) (ht : t ∈ it.reads dm) : ∃ j x, j < k ∧ L[j]? = some x ∧ x.dst = some t ∧ (masks.getD k 0).testBit j = true := by
  have hlt : k < L.length := (List.getElem?_eq_some_iff.1 hk).1
  have h1 := List.all_eq_true.1 h k (List.mem_range.2 hlt)
  rw [hk] at h1
  obtain ⟨j, hj, h2⟩ := List.any_eq_true.1 (List.all_eq_true.1 h1 t ht)
  simp only [Bool.and_eq_true] at h2
  cases hx : L[j]? with
  | none => rw [hx] at h2; cases h2.1
  | some x => rw [hx] at h2; exact ⟨j, x, List.mem_range.1 hj, hx, wr_iff.1 h2.1, h2.2⟩
theorem litApart_get : ∀ {L : List LIt}, litApart L = true → ∀ (i j : Nat) q rk rv k v q' rk' rv' k' v', i < j → L[i]? = some (LIt.ins q rk rv k v) → L[j]? = some (LIt.ins q' rk' rv' k' v') → aEq q k k' = some false ∧ aEq q' k' k = some false
  | [], _, i, j, _, _, _, _, _, _, _, _, _, _, _, hx, _ => by simp at hx
  | it :: l, h, i, j, q, rk, rv, k, v, q', rk', rv', k', v', hij, hx, hy => by
    cases j with
    | zero => omega
    | succ j =>
      have hy' : l[j]? = some (.ins q' rk' rv' k' v') := by simpa using hy
      cases i with
      | zero =>
        simp only [List.getElem?_cons_zero, Option.some.injEq] at hx; subst hx
        simp only [litApart, Bool.and_eq_true] at h
        have := List.all_eq_true.1 h.1 _ (List.mem_of_getElem? hy')
        simp only [Bool.and_eq_true] at this
        constructor
        · have h1 := this.1
          cases hq : aEq q k k' with
          | none => rw [hq] at h1; cases h1
          | some b => cases b with
            | true => rw [hq] at h1; cases h1
            | false => rfl
        · have h1 := this.2
          cases hq : aEq q' k' k with
          | none => rw [hq] at h1; cases h1
          | some b => cases b with
            | true => rw [hq] at h1; cases h1
            | false => rfl
      | succ i =>
        have hl : litApart l = true := by
          cases it <;> simp only [litApart, Bool.and_eq_true] at h <;> first | exact h | exact h.2
        exact litApart_get hl i j q rk rv k v q' rk' rv' k' v' (by omega) (by simpa using hx) hy'
def LIt.V (r : Nat) : LIt → AVal
  | .make .. | .ref .. => .map r
  | .val _ _ v => v
  | .ins .. => aundef
theorem litCode_exec {call : ACall} {dm r : Nat} : ∀ (L : List LIt) (fr : AFrame) (H : AHeap), fr dm = .map r → (∀ it ∈ L, it.dst ≠ some dm) → (∀ it ∈ L, ∀ d t, it ≠ .make d t) → litDsts L = true →
    ∃ fr', execOps call (litCode dm L) fr H = some (fr', H) ∧ (∀ t, (∀ it ∈ L, it.dst ≠ some t) → fr' t = fr t) ∧ ∀ it ∈ L, ∀ d, it.dst = some d → fr' d = it.V r
  | [], fr, H, _, _, _, _ => ⟨fr, rfl, fun _ _ => rfl, fun it h => by cases h⟩
  | it :: l, fr, H, hd, hne, hnm, hds => by
    have hds' : litDsts l = true := by simp only [litDsts, Bool.and_eq_true] at hds; exact hds.2
    have key : ∀ (d : Nat) (v : AVal), it.dst = some d → it.V r = v → (∀ fr2, execOps call (litCode dm l) (upd fr d v) H = some (fr2, H) → execOps call (litCode dm (it :: l)) fr H = some (fr2, H)) →
        ∃ fr', execOps call (litCode dm (it :: l)) fr H = some (fr', H) ∧ (∀ t, (∀ x ∈ it :: l, x.dst ≠ some t) → fr' t = fr t) ∧ ∀ x ∈ it :: l, ∀ d, x.dst = some d → fr' d = x.V r := by
      intro d v h1 h2 h3
      have hdd : d ≠ dm := fun e => hne it (by simp) (by rw [h1, e])
      obtain ⟨fr2, a1, a2, a3⟩ := litCode_exec (call := call) (r := r) l (upd fr d v) H (by simp [upd, nbeq_ne (Ne.symm hdd), hd]) (fun x hx => hne x (by simp [hx])) (fun x hx => hnm x (by simp [hx])) hds'
      refine ⟨fr2, h3 fr2 a1, fun t ht => ?_, fun x hx d' hd' => ?_⟩
      · have htd : t ≠ d := fun e => ht it (by simp) (by rw [h1, e])
        rw [a2 t fun x hx => ht x (by simp [hx])]
        simp [upd, nbeq_ne htd]
      · rcases List.mem_cons.1 hx with rfl | hx
        · rw [h1] at hd'; cases hd'
          rw [a2 d fun y hy => ?_]
          · simp [upd, h2]
          · obtain ⟨j, hj⟩ := List.getElem?_of_mem hy
            exact litDsts_get hds 0 (j + 1) _ y d (by omega) rfl (by simpa using hj) h1
        · exact a3 x hx d' hd'
    cases it with
    | make d t => exact absurd rfl (hnm _ (by simp) d t)
    | ins q rk rv k v =>
      obtain ⟨fr2, a1, a2, a3⟩ := litCode_exec (call := call) (r := r) l fr H hd (fun x hx => hne x (by simp [hx])) (fun x hx => hnm x (by simp [hx])) hds'
      refine ⟨fr2, a1, fun t ht => a2 t fun x hx => ht x (by simp [hx]), fun x hx d' hd' => ?_⟩
      rcases List.mem_cons.1 hx with rfl | hx
      · cases hd'
      · exact a3 x hx d' hd'
    | val ro d v => exact key d v rfl rfl fun fr2 h => h
    | ref d x =>
      refine key d (.map r) rfl rfl fun fr2 h => ?_
      simp only [litCode]
      rw [← hd] at h
      exact h
def entsX (X : Nat → Bool) : Nat → List LIt → List (AVal × AVal)
  | _, [] => []
  | i, .ins _ _ _ k v :: l => match X i with | true => (k, v) :: entsX X (i + 1) l | false => entsX X (i + 1) l
  | i, _ :: l => entsX X (i + 1) l
theorem entsX_congr {X Y : Nat → Bool} : ∀ {L : List LIt} {i : Nat}, (∀ (j : Nat) q rk rv k v, L[j]? = some (LIt.ins q rk rv k v) → X (i + j) = Y (i + j)) → entsX X i L = entsX Y i L
  | [], i, _ => rfl
  | it :: l, i, h => by
    have ih := entsX_congr (X := X) (Y := Y) (L := l) (i := i + 1) fun j q rk rv k v hj => by
      have := h (j + 1) q rk rv k v (by simpa using hj)
      rwa [show i + (j + 1) = i + 1 + j by omega] at this
    cases it with
    | ins q rk rv k v =>
      have h0 := h 0 q rk rv k v rfl
      simp only [Nat.add_zero] at h0
      simp only [entsX, h0, ih]
    | _ => simp only [entsX, ih]
theorem entsX_add {X Y : Nat → Bool} : ∀ {L : List LIt} {i n : Nat} {q : EqDesc} {rk rv : ROpd} {k v : AVal}, L[n]? = some (LIt.ins q rk rv k v) → X (i + n) = false → Y (i + n) = true → (∀ j, j ≠ i + n → Y j = X j) → List.Perm (entsX Y i L) ((k, v) :: entsX X i L)
  | [], i, n, _, _, _, _, _, h, _, _, _ => by simp at h
  | it :: l, i, 0, q, rk, rv, k, v, h, hX, hY, hXY => by
    simp only [List.getElem?_cons_zero, Option.some.injEq] at h; subst h
    simp only [Nat.add_zero] at hX hY hXY
    simp only [entsX, hX, hY]
    rw [entsX_congr (X := Y) (Y := X) fun j _ _ _ _ _ _ => hXY _ (by omega)]
  | it :: l, i, n + 1, q, rk, rv, k, v, h, hX, hY, hXY => by
    have ih := entsX_add (L := l) (i := i + 1) (n := n) (by simpa using h) (by rwa [show i + 1 + n = i + (n + 1) by omega]) (by rwa [show i + 1 + n = i + (n + 1) by omega]) (fun j hj => hXY j (by omega))
    have hi : Y i = X i := hXY i (by omega)
    cases it with
    | ins q' rk' rv' k' v' =>
      simp only [entsX, hi]
      cases X i with
      | true => exact (ih.cons _).trans (List.Perm.swap _ _ _)
      | false => exact ih
    | _ => exact ih
theorem entsX_all {X : Nat → Bool} : ∀ {L : List LIt} {i : Nat}, (∀ j, j < L.length → X (i + j) = true) → entsX X i L = litEnts L
  | [], i, _ => rfl
  | it :: l, i, h => by
    have ih := entsX_all (X := X) (L := l) (i := i + 1) fun j hj => by
      have := h (j + 1) (by simp only [List.length_cons]; omega)
      rwa [show i + (j + 1) = i + 1 + j by omega] at this
    have h0 := h 0 (by simp)
    simp only [Nat.add_zero] at h0
    cases it <;> simp only [entsX, litEnts, h0, ih]
theorem entsX_none {X : Nat → Bool} : ∀ {L : List LIt} {i : Nat}, (∀ (j : Nat) q rk rv k v, L[j]? = some (LIt.ins q rk rv k v) → X (i + j) = false) → entsX X i L = []
  | [], i, _ => rfl
  | it :: l, i, h => by
    have ih := entsX_none (X := X) (L := l) (i := i + 1) fun j q rk rv k v hj => by
      have := h (j + 1) q rk rv k v (by simpa using hj)
      rwa [show i + (j + 1) = i + 1 + j by omega] at this
    cases it with
    | ins q rk rv k v =>
      have h0 := h 0 q rk rv k v rfl
      simp only [Nat.add_zero] at h0
      simp only [entsX, h0, ih]
    | _ => simp only [entsX, ih]
theorem entsX_mem {X : Nat → Bool} : ∀ {L : List LIt} {i : Nat} {p : AVal × AVal}, p ∈ entsX X i L → ∃ (j : Nat) (q : EqDesc) (rk rv : ROpd), L[j]? = some (LIt.ins q rk rv p.1 p.2) ∧ X (i + j) = true
  | [], i, p, h => by simp [entsX] at h
  | it :: l, i, p, h => by
    have tail : p ∈ entsX X (i + 1) l → ∃ (j : Nat) (q : EqDesc) (rk rv : ROpd), (it :: l)[j]? = some (LIt.ins q rk rv p.1 p.2) ∧ X (i + j) = true := fun h => by
      obtain ⟨j, q, rk, rv, h1, h2⟩ := entsX_mem h
      exact ⟨j + 1, q, rk, rv, by simpa using h1, by rwa [show i + (j + 1) = i + 1 + j by omega]⟩
    cases it with
    | ins q rk rv k v =>
      simp only [entsX] at h
      cases hX : X i with
      | true =>
        rw [hX] at h
        rcases List.mem_cons.1 h with rfl | h
        · exact ⟨0, q, rk, rv, rfl, by simpa using hX⟩
        · exact tail h
      | false => rw [hX] at h; exact tail h
    | _ => exact tail h
section
variable {P : Program} {S : Base} {m : RMap} {H H' : AHeap} {w : World}
theorem HRel.setMap {es : List (AVal × AVal)} (h : HRel S m (H.push (.mapo es)) w) {p : Addr × Nat} (hp : m H.n = some p) {es' es2 : Array MapEntry} {c c2 : Nat} (hb : w.heap[p.1.block]? = some (.map es' c)) {es3 : List (AVal × AVal)} {xs : List (Value × Value)} (h3 : embE m es3 = some xs) (hperm : List.Perm (es2.toList.map fun e => (e.key, e.val)) xs) :
    HRel S m (H.push (.mapo es3)) { w with heap := w.heap.setIfInBounds p.1.block (.map es2 c2) } := by
  obtain ⟨hsame, hother⟩ := MapKept.heap_set (o' := .map es2 c2) hb
  have hB := (h.loops.maps.ok H.n es p (by simp [AHeap.push]) push_get_eq hp).1
  have hcell : ∀ a : Addr, World.cell? { w with heap := w.heap.setIfInBounds p.1.block (.map es2 c2) } a = w.cell? a := fun a => by
    unfold World.cell?
    by_cases e : a.block = p.1.block
    · simp only [e, hsame, hb]
    · simp only [hother _ e]
  have hfz : ∀ a : Addr, World.frozen? { w with heap := w.heap.setIfInBounds p.1.block (.map es2 c2) } a = w.frozen? a := fun a => by
    unfold World.frozen?
    by_cases e : a.block = p.1.block
    · simp only [e, hsame, hb]
    · simp only [hother _ e]
  have hk : ∀ k, Keeps w { w with heap := w.heap.setIfInBounds p.1.block (.map es2 c2) } k := fun k c' e fz hk => by
    have hne : k ≠ p.1.block := fun e => by rw [e, hb] at hk; cases hk
    exact ⟨c', fz, by show (w.heap.setIfInBounds _ _)[k]? = _; rw [hother _ hne]; exact hk, rfl⟩
  have key : ∀ s cs rw e, (H.push (.mapo es3)).get s = .row cs rw e → (H.push (.mapo es)).get s = .row cs rw e := by
    intro s cs rw e hg
    by_cases hs : s = H.n
    · subst hs; rw [push_get_eq] at hg; cases hg
    · simp only [AHeap.push, nbeq_ne hs] at hg ⊢; exact hg
  have keyL : ∀ s R, (H.push (.mapo es3)).get s = .loop R → (H.push (.mapo es)).get s = .loop R := by
    intro s R hg
    by_cases hs : s = H.n
    · subst hs; rw [push_get_eq] at hg; cases hg
    · simp only [AHeap.push, nbeq_ne hs] at hg ⊢; exact hg
  have keyM : ∀ s es', (H.push (.mapo es3)).get s = .mapo es' → ∃ es0, (H.push (.mapo es)).get s = .mapo es0 ∧ (s ≠ H.n → es0 = es') := by
    intro s es' hg
    by_cases hs : s = H.n
    · subst hs; exact ⟨es, push_get_eq, fun e => absurd rfl e⟩
    · refine ⟨es', ?_, fun _ => rfl⟩
      simp only [AHeap.push, nbeq_ne hs] at hg ⊢; exact hg
  refine ⟨h.below.trans ⟨rfl, rfl, rfl, by simp, fun k hk => hother k (by omega)⟩, by simpa using h.size, h.glob, h.fresh, h.away, fun s cs rw e q hs hg hq => (h.row s cs rw e q hs (key _ _ _ _ hg) hq).mono (Le.refl _) (hk _) (fun i => hcell _) fun i => hfz _, fun s t cs1 rw1 e1 cs2 e2 q1 q2 hs ht hne hg1 hg2 => h.apart s t cs1 rw1 e1 cs2 e2 q1 q2 hs ht hne (key _ _ _ _ hg1) (key _ _ _ _ hg2),
    ⟨fun s R q hs hg hq => ?_, fun s t R R' q1 q2 L L' hs ht hne hg1 hg2 hq1 hq2 hl1 hl2 => ?_, ⟨fun s es' q hs hg hq => ?_, fun s t es1 es2 q1 q2 hs ht hne hg1 hg2 hq1 hq2 => ?_⟩, h.loops.keepIters (fun b s k e => by show (w.heap.setIfInBounds _ _)[_]? = _; rw [hother _ (fun e2 => by rw [e2, hb] at e; cases e)]; exact e) fun r s k q hr hg hq => ⟨hr, by by_cases hs : r = H.n <;> first | (subst hs; rw [push_get_eq] at hg; cases hg; done) | (simp only [AHeap.push, nbeq_ne hs] at hg ⊢; exact hg), hq⟩⟩⟩
  · obtain ⟨L, k⟩ := h.loops.ok s R q hs (keyL _ _ hg) hq
    have n1 : q.1.block ≠ p.1.block := fun e => by have := k.obj; rw [e, hb] at this; cases this
    have n2 : L.defers ≠ p.1.block := fun e => by have := k.defers; rw [e, hb] at this; cases this
    exact ⟨L, by show (w.heap.setIfInBounds _ _)[_]? = _; rw [hother _ n1]; exact k.obj, k.low, k.st, k.pend, k.ps, k.fr, k.assign, k.body, k.dlow, k.blk, by show (w.heap.setIfInBounds _ _)[_]? = _; rw [hother _ n2]; exact k.defers⟩
  · have back : ∀ (b : Nat) (L : Loop), (w.heap.setIfInBounds p.1.block (.map es2 c2))[b]? = some (.loop L) → w.heap[b]? = some (.loop L) := fun b L hl => by
      by_cases e : b = p.1.block
      · rw [e, hsame] at hl; cases hl
      · rwa [hother _ e] at hl
    exact h.loops.apart s t R R' q1 q2 L L' hs ht hne (keyL _ _ hg1) (keyL _ _ hg2) hq1 hq2 (back _ _ hl1) (back _ _ hl2)
  · by_cases hsn : s = H.n
    · subst hsn
      rw [push_get_eq] at hg; cases hg
      rw [hp] at hq; cases hq
      exact ⟨hB, es2, c2, xs, hsame, h3, hperm⟩
    · obtain ⟨es0, k1, k2⟩ := keyM s es' hg
      obtain rfl := k2 hsn
      obtain ⟨j1, j2⟩ := h.loops.maps.ok s es0 q hs k1 hq
      have hne := h.loops.maps.apart s H.n es0 es q p hs (by simp [AHeap.push]) hsn k1 push_get_eq hq hp
      exact ⟨j1, j2.mono (Le.refl _) fun es c e => by show (w.heap.setIfInBounds _ _)[_]? = _; rw [hother _ hne]; exact e⟩
  · obtain ⟨a1, k1, _⟩ := keyM s _ hg1
    obtain ⟨a2, k2, _⟩ := keyM t _ hg2
    exact h.loops.maps.apart s t a1 a2 q1 q2 hs ht hne k1 k2 hq1 hq2
end
end Go.Am

namespace Go.Am
open Go Go.RowKit
structure LitRun (P : Program) (nt : Nat) (ops : Array Oper) (L : List LIt) (dm : Nat) (tm : TypeId) (masks : List Nat) : Prop where
  len : L.length = ops.size
  lt : dm < nt
  head : ∃ o, ops[0]? = some o ∧ o.guard = none ∧ o.op = .makeMap tm none ∧ o.dst = some dm ∧ L[0]? = some (.make dm tm)
  item : ∀ k o, 0 < k → ops[k]? = some o → ∃ it, L[k]? = some it ∧ litOp P nt dm tm (L.take k) o = some it
  edge : ∀ k o, ops[k]? = some o → ∀ e ∈ o.after, Region.binds .any e = true → e.on < k
  bit : ∀ k o i, ops[k]? = some o → i < ops.size → (masks.getD k 0).testBit i = true → ∃ e ∈ o.after, Region.binds .any e = true ∧ e.on < k ∧ (e.on = i ∨ (masks.getD e.on 0).testBit i = true)
  reads : litReads dm L masks = true
  dsts : litDsts L = true
  apart : litApart L = true
theorem litRun_of {P : Program} {nt : Nat} {ops : Array Oper} {masks : List Nat} {rc : RCode} (h : cLit P nt ops.toList masks = some rc) :
    ∃ dm tm L, rc = .region (⟨some dm, .mapLit (litEnts L), none⟩ :: litCode dm (L.drop 1)) ∧ LitRun P nt ops L dm tm masks := by
  unfold cLit at h
  cases hops : ops.toList with
  | nil => rw [hops] at h; cases h
  | cons o os =>
    rw [hops] at h
    simp only [] at h
    split at h
    · rename_i t d hgd hop hdst
      cases hs : litScan P nt d t os [.make d t] with
      | none => rw [hs] at h; cases h
      | some L =>
        rw [hs] at h
        simp only [] at h
        split at h
        · rename_i hcond
          obtain ⟨c1, c2, c3, c4, c5, c6⟩ := hcond
          cases h
          obtain ⟨s1, s2, s3⟩ := litScan_get hs
          simp only [List.length_cons, List.length_nil, Nat.zero_add] at s1 s2 s3
          have hsz : ops.size = os.length + 1 := by rw [← Array.length_toList, hops]; rfl
          have hget : ∀ k, ops[k]? = (o :: os)[k]? := fun k => by rw [← hops, Array.getElem?_toList]
          refine ⟨d, t, L, rfl, ⟨by omega, c1, ⟨o, by rw [hget]; rfl, hgd, hop, hdst, by rw [s2 0 (by omega)]; rfl⟩, ?_, ?_, ?_, c4, c5, c6⟩⟩
          · intro k o' hk ho'
            obtain ⟨k, rfl⟩ : ∃ j, k = j + 1 := ⟨k - 1, by omega⟩
            rw [hget, List.getElem?_cons_succ] at ho'
            have := s3 k o' ho'
            rwa [Nat.add_comm 1 k] at this
          · intro k o' ho' e he hb
            have hm := masksOk_get c3 k o' (by rw [← hget]; exact ho')
            simp only [maskOk, Nat.zero_add, Bool.and_eq_true, List.all_eq_true, Bool.or_eq_true, Bool.not_eq_true', decide_eq_true_eq, List.mem_range, List.any_eq_true] at hm
            rcases hm.1 e (by simpa using he) with h | h
            · rw [hb] at h; cases h
            · exact h
          · intro k o' i ho' hi hbit
            have hm := masksOk_get c3 k o' (by rw [← hget]; exact ho')
            simp only [maskOk, Nat.zero_add, Bool.and_eq_true, List.all_eq_true, Bool.or_eq_true, Bool.not_eq_true', decide_eq_true_eq, List.mem_range, List.any_eq_true] at hm
            have hml : masks.length = ops.size := by have := Nat.eq_of_beq_eq_true c2; simp only [List.length_cons] at this; omega
            rcases hm.2 i (by omega) with h | ⟨e, he, h⟩
            · rw [hbit] at h; cases h
            · obtain ⟨⟨hb, hlt⟩, hor⟩ := h
              refine ⟨e, by simpa using he, hb, hlt, ?_⟩
              rcases hor with h | h
              · exact Or.inl (Nat.eq_of_beq_eq_true h)
              · exact Or.inr h
        · cases h
    · cases h
section
variable {P : Program} {S : Base} {call : ACall} {nt : Nat} {ops : Array Oper} {L : List LIt} {dm : Nat} {tm : TypeId} {masks : List Nat} {fr : AFrame} {H : AHeap} {m : RMap} {ds : List Deferred}
theorem LitRun.below (g : LitRun P nt ops L dm tm masks) {X : Nat → Bool} (hX : ∀ k o, X k = true → ops[k]? = some o → ∀ e ∈ o.after, Region.binds .any e = true → X e.on = true) :
    ∀ (k : Nat) (o : Oper), ops[k]? = some o → (∀ e ∈ o.after, Region.binds .any e = true → X e.on = true) → ∀ i, i < ops.size → (masks.getD k 0).testBit i = true → X i = true := by
  intro k
  induction k using Nat.strongRecOn with
  | _ k ih =>
    intro o ho hedge i hin hi
    obtain ⟨e, he, hbind, hlt, hor⟩ := g.bit k o i ho hin hi
    rcases hor with rfl | hb2
    · exact hedge e he hbind
    · have hk : k < ops.size := (Array.getElem?_eq_some_iff.1 ho).1
      obtain ⟨o2, ho2⟩ : ∃ o2, ops[e.on]? = some o2 := ⟨ops[e.on], by simp⟩
      exact ih e.on hlt o2 ho2 (hX e.on o2 (hedge e he hbind) ho2) i hin hb2
theorem litOp_dst {nt dm : Nat} {tm : TypeId} {done : List LIt} {o : Oper} {it : LIt} {d : Nat} (h : litOp P nt dm tm done o = some it) (hd : it.dst = some d) : d < nt := by
  unfold litOp at h
  split at h
  · cases h
  · split at h
    · split at h
      · unfold litIns at h
        repeat' split at h
        all_goals first | (cases h; done) | (cases h; cases hd; done)
      · cases h
    · split at h
      · split at h
        · rename_i hr
          cases h
          unfold litRef at hr
          repeat' split at hr
          all_goals first | (cases hr; done) | (cases hr; cases hd; assumption)
        · unfold litVal at h
          split at h
          · split at h
            · rename_i hc
              split at h
              · cases h; cases hd; exact hc.1
              · cases h
            · cases h
          · cases h
      · cases h
theorem litCode_mem {dm : Nat} : ∀ {l : List LIt} {o : ROper}, o ∈ litCode dm l → ∃ it ∈ l, it.dst = o.dst
  | [], o, h => by cases h
  | it :: l, o, h => by
    have tail : o ∈ litCode dm l → ∃ x ∈ it :: l, x.dst = o.dst := fun h => by
      obtain ⟨x, h1, h2⟩ := litCode_mem h
      exact ⟨x, by simp [h1], h2⟩
    cases it with
    | val ro d v =>
      rcases List.mem_cons.1 h with rfl | h
      · exact ⟨.val ro d v, by simp, rfl⟩
      · exact tail h
    | ref d x =>
      rcases List.mem_cons.1 h with rfl | h
      · exact ⟨.ref d x, by simp, rfl⟩
      · exact tail h
    | _ => exact tail h
theorem LitRun.rops_dst (g : LitRun P nt ops L dm tm masks) : ∀ o ∈ (⟨some dm, .mapLit (litEnts L), none⟩ :: litCode dm (L.drop 1) : List ROper), ∀ d, o.dst = some d → d < nt := fun o ho d hd => by
  rcases List.mem_cons.1 ho with rfl | ho
  · cases hd; exact g.lt
  · obtain ⟨it, h1, h2⟩ := litCode_mem ho
    obtain ⟨j, hj⟩ := List.getElem?_of_mem h1
    rw [List.getElem?_drop] at hj
    have hjl : 1 + j < ops.size := by rw [← g.len]; exact (List.getElem?_eq_some_iff.1 hj).1
    obtain ⟨oj, hoj⟩ : ∃ oj, ops[1 + j]? = some oj := ⟨ops[1 + j], by simp [hjl]⟩
    obtain ⟨it', h3, h4⟩ := g.item (1 + j) oj (by omega) hoj
    rw [hj] at h3; cases h3
    exact litOp_dst h4 (h2.trans hd)
structure LAt (X : Nat → Bool) (L : List LIt) (fr : AFrame) (H : AHeap) (nt : Nat) (S : Base) (m : RMap) (ds : List Deferred) (a : Act) (w : World) : Prop where
  it : ∃ m' g, Le m m' ∧ FRel nt m' g a.tmps ∧ (∀ (k : Nat) (it : LIt) (d : Nat), L[k]? = some it → X k = true → it.dst = some d → g d = it.V H.n) ∧ (∀ t, (∀ (k : Nat) (it : LIt), L[k]? = some it → X k = true → it.dst ≠ some t) → g t = fr t) ∧
    ((X 0 = false ∧ HRel S m' H w) ∨ (X 0 = true ∧ ∃ es p, List.Perm es (entsX X 0 L) ∧ m' H.n = some p ∧ HRel S m' (H.push (.mapo es)) w))
  ds : a.defers = ds
theorem cDst_of {d : Nat} (h : d < nt) : cDst nt (some d) = some (some d) := by simp [cDst, h]
theorem lit_step {ro : Option Nat} (hG : S.G = P.globals.size) (hcall : CallSim P S call) (g : LitRun P nt ops L dm tm masks) {X Y : Nat → Bool} {k : Nat} {o : Oper} (ho : ops[k]? = some o) (hXk : X k = false) (hYk : Y k = true) (hYX : ∀ i, i ≠ k → Y i = X i)
    (hclosed : ∀ k o, X k = true → ops[k]? = some o → ∀ e ∈ o.after, Region.binds .any e = true → X e.on = true) (hready : ∀ e ∈ o.after, Region.binds .any e = true → X e.on = true)
    {a : Act} {w : World} (hat : LAt X L fr H nt S m ds a w) {K : Act → World → Prop} {Q : Exit → Act → World → Prop} (hK : ∀ a w, LAt Y L fr H nt S m ds a w → K a w) : wpOpIn (wid ro) 0 P ops Q k K a w := by
  have hkn : k < ops.size := (Array.getElem?_eq_some_iff.1 ho).1
  have hb := g.below hclosed k o ho hready
  obtain ⟨⟨m', f, hm', hfr, hf1, hf2, hw⟩, hds⟩ := hat
  obtain ⟨o0, h00, h01, h02, h03, h04⟩ := g.head
  -- what is read is there
  have hread : ∀ it t, L[k]? = some it → t ∈ it.reads dm → ∃ (j : Nat) (x : LIt), j < k ∧ L[j]? = some x ∧ x.dst = some t ∧ X j = true := fun it t hk ht => by
    obtain ⟨j, x, h1, h2, h3, h4⟩ := litReads_get g.reads hk ht
    exact ⟨j, x, h1, h2, h3, hb j (by omega) h4⟩
  -- the frame behind the operation
  have next1 : ∀ (it : LIt), L[k]? = some it → (∀ (j : Nat) (y : LIt) (d : Nat), L[j]? = some y → Y j = true → y.dst = some d → put f it.dst (it.V H.n) d = y.V H.n) := fun it hit j y d hj hY hd => by
    by_cases hjk : j = k
    · subst hjk; rw [hit] at hj; cases hj; rw [hd]; simp [put, upd]
    · rw [put_ne (fun e => hjk (litDsts_eq g.dsts hj hit hd e))]
      exact hf1 j y d hj (by rw [← hYX j hjk]; exact hY) hd
  have next2 : ∀ (it : LIt), L[k]? = some it → (∀ t, (∀ (j : Nat) (y : LIt), L[j]? = some y → Y j = true → y.dst ≠ some t) → put f it.dst (it.V H.n) t = fr t) := fun it hit t ht => by
    rw [put_ne (ht k it hit hYk)]
    exact hf2 t fun j y hj hX => ht j y hj (by by_cases hjk : j = k
                                               · subst hjk; exact hYk
                                               · rw [hYX j hjk]; exact hX)
  by_cases hk0 : k = 0
  · subst hk0
    have ho' := ho
    rw [h00] at ho'; obtain rfl := Option.some.inj ho'; clear ho'
    have hw0 : HRel S m' H w := by
      rcases hw with ⟨_, h⟩ | ⟨h, _⟩
      · exact h
      · rw [hXk] at h; cases h
    have hwant : Region.wanted o0 (yielded ops a.tmps) = true := by simp [Region.wanted, h01]
    unfold wpOpIn
    simp only [h00, hwant, if_true]
    have hle := le_add (m := m') (⟨w.heap.size, 0, none⟩, 0) (hw0.fresh H.n (Nat.le_refl _))
    refine wpIn_of_yields (R := fun y w' => y = .map (some w.heap.size) ∧ w' = w.alloc (.map #[] 0)) (by intro c; rw [h02]; intro e; cases e) ?_ ?_
    · have : execOp a.eval o0 = (do pure (.value (← Instr.makeMap tm none))) := by
        obtain ⟨_, op, _, _, _, _⟩ := o0
        simp only at h02
        subst h02
        rfl
      rw [this]
      exact yields_v (run_makeMap_plain w tm) ⟨rfl, rfl⟩
    · rintro y w' ⟨rfl, rfl⟩
      refine hK _ _ ⟨⟨m'.add H.n (⟨w.heap.size, 0, none⟩, 0), put f (some dm) (.map H.n), Le.trans hm' hle, ?_, next1 _ h04, next2 _ h04, Or.inr ⟨hYk, [], _, ?_, add_eq, hw0.pushMap⟩⟩, by rw [put_defers]; exact hds⟩
      · exact (hfr.mono hle).put (by rw [h03]; exact cDst_of g.lt) (by simp [emb, add_eq])
      · rw [entsX_none]
        intro j q rk rv kk vv hj
        simp only [Nat.zero_add]
        have hj0 : j ≠ 0 := fun e => by rw [e, h04] at hj; cases hj
        rw [hYX j hj0]
        cases hXj : X j with
        | false => rfl
        | true =>
          exfalso
          have hjl : j < ops.size := by rw [← g.len]; exact (List.getElem?_eq_some_iff.1 hj).1
          obtain ⟨oj, hoj⟩ : ∃ oj, ops[j]? = some oj := ⟨ops[j], by simp [hjl]⟩
          obtain ⟨i, x, hi1, hi2, hi3, hi4⟩ := litReads_get (t := dm) g.reads hj (by simp [LIt.reads])
          have hi0 : i = 0 := litDsts_eq g.dsts hi2 h04 hi3 rfl
          subst hi0
          have := g.below hclosed j oj hoj (hclosed j oj hXj hoj) 0 (by omega) hi4
          rw [hXk] at this; cases this
  · obtain ⟨it, hit, hop⟩ := g.item k o (by omega) ho
    unfold litOp at hop
    cases hgd : o.guard with
    | some q => rw [hgd] at hop; cases hop
    | none =>
    rw [hgd] at hop
    simp only [] at hop
    have hwant : Region.wanted o (yielded ops a.tmps) = true := by simp [Region.wanted, hgd]
    -- temporaries of constants
    have hval : ∀ t, t ∈ it.reads dm → (litC (L.take k) t).isSome = true → f t = litF (L.take k) t := fun t ht hs => by
      unfold litF
      unfold litC at hs ⊢
      cases hfd : (L.take k).find? (LIt.wr t) with
      | none => rw [hfd] at hs; cases hs
      | some y =>
        rw [hfd] at hs
        have hy1 := List.find?_some hfd
        obtain ⟨i, hi⟩ := List.getElem?_of_mem (List.mem_of_find?_eq_some hfd)
        have hik : i < k := by
          have := (List.getElem?_eq_some_iff.1 hi).1
          simp at this; omega
        rw [List.getElem?_take_of_lt hik] at hi
        obtain ⟨j, x, h1, h2, h3, h4⟩ := hread it t hit ht
        have hij : i = j := litDsts_eq g.dsts hi h2 (wr_iff.1 hy1) h3
        subst hij
        rw [hi] at h2; cases h2
        cases y with
        | val ro d v => exact hf1 i _ t hi h4 h3
        | _ => cases hs
    have hmap : ∀ t, t ∈ it.reads dm → litMap (L.take k) t = true → f t = .map H.n := fun t ht hs => by
      unfold litMap at hs
      cases hfd : (L.take k).find? (LIt.wr t) with
      | none => rw [hfd] at hs; cases hs
      | some y =>
        rw [hfd] at hs
        have hy1 := List.find?_some hfd
        obtain ⟨i, hi⟩ := List.getElem?_of_mem (List.mem_of_find?_eq_some hfd)
        have hik : i < k := by
          have := (List.getElem?_eq_some_iff.1 hi).1
          simp at this; omega
        rw [List.getElem?_take_of_lt hik] at hi
        obtain ⟨j, x, h1, h2, h3, h4⟩ := hread it t hit ht
        have hij : i = j := litDsts_eq g.dsts hi h2 (wr_iff.1 hy1) h3
        subst hij
        rw [hi] at h2; cases h2
        cases y with
        | make d t' => exact hf1 i _ t hi h4 h3
        | ref d x => exact hf1 i _ t hi h4 h3
        | _ => cases hs
    -- an operation of the frame alone
    have pureStep : ∀ (rop : ROp) (d : Nat), cOp P nt o = some rop → o.dst = some d → d < nt → it.dst = some d → (∀ H1, rop.exec call f H1 = some (it.V H.n, H1)) → (∀ q rk rv kk vv, it ≠ .ins q rk rv kk vv) → wpOpIn (wid ro) 0 P ops Q k K a w := fun rop d hc hod hdn hitd hx hni => by
      have hents : entsX Y 0 L = entsX X 0 L := entsX_congr fun j q rk rv kk vv hj => by
        simp only [Nat.zero_add]
        exact hYX j fun e => by subst e; rw [hit] at hj; cases hj; exact hni _ _ _ _ _ rfl
      unfold wpOpIn
      simp only [ho, hwant, if_true]
      have hput : ∀ {m2 : RMap} {x : Value}, Le m' m2 → emb m2 (it.V H.n) = some x → FRel nt m2 (put f it.dst (it.V H.n)) (a.put o.dst x).tmps := fun hm2 hx2 => (hfr.mono hm2).put (by rw [hod, hitd]; exact cDst_of hdn) hx2
      rcases hw with ⟨hX0, hrel⟩ | ⟨hX0, es, p, hperm, hp, hrel⟩
      · refine wpIn_of_yields (cOp_plain hc) (sim_op hc hfr hrel hG hcall (hx H)) fun x w' ⟨m2, hm2, hx2, hr2⟩ => hK _ _ ⟨⟨m2, _, Le.trans hm' hm2, hput hm2 hx2, next1 it hit, next2 it hit, Or.inl ⟨by rw [hYX 0 (Ne.symm hk0)]; exact hX0, hr2⟩⟩, by rw [put_defers]; exact hds⟩
      · refine wpIn_of_yields (cOp_plain hc) (sim_op hc hfr hrel hG hcall (hx _)) fun x w' ⟨m2, hm2, hx2, hr2⟩ => hK _ _ ⟨⟨m2, _, Le.trans hm' hm2, hput hm2 hx2, next1 it hit, next2 it hit, Or.inr ⟨by rw [hYX 0 (Ne.symm hk0)]; exact hX0, es, p, by rw [hents]; exact hperm, hm2 _ _ hp, hr2⟩⟩, by rw [put_defers]; exact hds⟩
    have other : ∀ rop, cOp P nt o = some rop → (match litRef nt (L.take k) o rop with | some it => some it | none => litVal nt (L.take k) o rop) = some it → wpOpIn (wid ro) 0 P ops Q k K a w := fun rop hc h => by
      cases hr : litRef nt (L.take k) o rop with
      | some it' =>
        rw [hr] at h
        simp only [Option.some.injEq] at h
        subst h
        unfold litRef at hr
        split at hr
        · rename_i x
          split at hr
          · rename_i d hmp hod
            split at hr
            · rename_i hdn
              cases hr
              refine pureStep _ d hc hod hdn rfl (fun H1 => ?_) (fun _ _ _ _ _ e => by cases e)
              have : f x = .map H.n := hmap x (by simp [LIt.reads]) hmp
              show some (f x, H1) = _
              rw [this]; rfl
            · cases hr
          · cases hr
        · cases hr
      | none =>
        rw [hr] at h
        simp only [] at h
        unfold litVal at h
        split at h
        · rename_i d hod
          split at h
          · rename_i hcond
            obtain ⟨hdn, hk, hkn⟩ := hcond
            cases hx : rop.exec noCall (litF (L.take k)) emptyHeap with
            | none => rw [hx] at h; cases h
            | some q =>
              obtain ⟨v, H2⟩ := q
              rw [hx] at h
              simp only [Option.some.injEq] at h
              subst h
              refine pureStep rop d hc hod hdn rfl (fun H1 => ?_) (fun _ _ _ _ _ e => by cases e)
              have hcg : rop.exec call f = rop.exec call (litF (L.take k)) := exec_congr fun t ht => hval t (by simpa [LIt.reads] using ht) (List.all_eq_true.1 hkn t ht)
              rw [hcg]
              exact exec_pure (Nat.eq_of_beq_eq_true hk) hx call H1
          · cases h
        · cases h
    split at hop
    · rename_i t mt kk vv hoo
      split at hop
      · rename_i hod
        unfold litIns at hop
        split at hop
        · rename_i m0 kt e rk rv hu h1 h2
          split at hop
          · rename_i q hq
            split at hop
            · rename_i hcond
              obtain ⟨rfl, rfl, hkey, hknown, hself⟩ := hcond
              cases hop
              have hX0 : X 0 = true := by
                obtain ⟨j, x, hj1, hj2, hj3, hj4⟩ := hread _ m0 hit (by simp [LIt.reads])
                have hj0 : j = 0 := litDsts_eq g.dsts hj2 h04 hj3 rfl
                subst hj0; exact hj4
              obtain ⟨es, p, hperm, hp, hrel⟩ : ∃ es p, List.Perm es (entsX X 0 L) ∧ m' H.n = some p ∧ HRel S m' (H.push (.mapo es)) w := by
                rcases hw with ⟨h, _⟩ | ⟨_, h⟩
                · rw [hX0] at h; cases h
                · exact h
              have hgl : Globs P.globals.size m' := by rw [← hG]; exact hrel.glob
              have hfm : f m0 = .map H.n := hf1 0 _ m0 h04 hX0 rfl
              have em : a.eval (.tmp m0) = .map (some p.1.block) := by
                have := cOpd_ev (G := P.globals.size) (x := .tmp m0) (r := .tmp m0) (by simp [cOpd, g.lt]) hfr hgl
                simp only [ROpd.ev, hfm] at this
                simp only [emb, hp] at this
                exact (Option.some.inj this).symm
              have hkn2 : ∀ t, t ∈ rk.tmps ++ rv.tmps → f t = litF (L.take k) t := fun t ht => hval t (by simp only [LIt.reads, List.mem_cons]; exact Or.inr ht) (List.all_eq_true.1 hknown t ht)
              have ek := cOpd_ev h1 hfr hgl
              have ev := cOpd_ev h2 hfr hgl
              rw [ev_congr (fr' := litF (L.take k)) fun t ht => hkn2 t (List.mem_append_left _ ht)] at ek
              rw [ev_congr (fr' := litF (L.take k)) fun t ht => hkn2 t (List.mem_append_right _ ht)] at ev
              obtain ⟨hB, es', c, xs, hbk, hE, hpm⟩ := hrel.loops.maps.ok H.n es p (by simp [AHeap.push]) push_get_eq hp
              obtain ⟨z1, _⟩ := ents_mem hE
              have hdk : ∃ dk, P.underlying kt = some dk := by
                unfold cKey at hkey
                cases hu2 : P.underlying kt with
                | none => rw [hu2] at hkey; cases hkey
                | some dk => exact ⟨dk, rfl⟩
              obtain ⟨dk, hdk⟩ := hdk
              have hfalse : ∀ en ∈ es'.toList, (Op.equal kt (a.eval kk) en.key).run P w = .ok false w := fun en hen => by
                obtain ⟨x, hx1, hx2, hx3⟩ := z1 _ (hpm.mem_iff.1 (List.mem_map.2 ⟨en, hen, rfl⟩))
                obtain ⟨j, qj, rkj, rvj, hj1, hj2⟩ := entsX_mem (hperm.mem_iff.1 hx1)
                simp only [Nat.zero_add] at hj2
                have hjk : j ≠ k := fun e => by rw [e, hXk] at hj2; cases hj2
                have he : aEq q (rk.ev (litF (L.take k))) x.1 = some false := by
                  rcases Nat.lt_or_ge j k with h | h
                  · exact (litApart_get g.apart j k _ _ _ _ _ _ _ _ _ _ h hj1 hit).2
                  · exact (litApart_get g.apart k j _ _ _ _ _ _ _ _ _ _ (by omega) hit hj1).1
                exact (sim_eqs (P := P) (m := m') 60 w).1 kt q _ x.1 false (a.eval kk) en.key 10000 hq he ek hx2 (by decide)
              have hask : (Instr.findAsking kt (a.eval kk) es'.toList 0).run P w = .ok none w := by
                rcases asks (P := P) (m := m') (w := w) (f := none) es'.toList 0 (fun en hen => ⟨false, hfalse en hen, fun e => by cases e⟩) with ⟨_, v, _, _, h, _⟩ | ⟨h, _⟩
                · cases h
                · exact h
              have hck := (run_checkKeys (P := P) (m := m') false w 60).1 kt q _ (a.eval kk) 10000 hq hkey hself ek (by decide)
              have hrun : (Instr.mapUpdate t (a.eval (.tmp m0)) (a.eval kk) (a.eval vv)).run P w = .ok () { w with heap := w.heap.setIfInBounds p.1.block (.map (es'.push { key := a.eval kk, val := a.eval vv, born := c }) (c + 1)) } := by
                rw [em]
                simp [Instr.mapUpdate, run_underlying hu, MapKept.run_getObj_map hbk, hck, findKey_asking hdk hask, MapKept.run_setObj_map _ hbk]
              unfold wpOpIn
              simp only [ho, hwant, if_true]
              refine wpIn_of_yields (R := fun y w' => y = undef ∧ w' = { w with heap := w.heap.setIfInBounds p.1.block (.map (es'.push { key := a.eval kk, val := a.eval vv, born := c }) (c + 1)) }) (by intro c; rw [hoo]; intro e; cases e) ?_ ?_
              · have : execOp a.eval o = (do Instr.mapUpdate t (a.eval (.tmp m0)) (a.eval kk) (a.eval vv); pure .skip) := by
                  obtain ⟨_, op, _, _, _, _⟩ := o
                  simp only at hoo
                  subst hoo
                  rfl
                rw [this]
                exact yields_u hrun ⟨rfl, rfl⟩
              · rintro y w' ⟨rfl, rfl⟩
                have hE2 : embE m' ((rk.ev (litF (L.take k)), rv.ev (litF (L.take k))) :: es) = some ((a.eval kk, a.eval vv) :: xs) := embE_mk ek ev hE
                refine hK _ _ ⟨⟨m', f, hm', ?_, ?_, ?_, Or.inr ⟨by rw [hYX 0 (Ne.symm hk0)]; exact hX0, _, p, ?_, hp, hrel.setMap hp hbk hE2 ?_⟩⟩, by rw [put_defers]; exact hds⟩
                · have := hfr.put (d := none) (d' := o.dst) (v := aundef) (x := undef) (by rw [hod]; rfl) undef_emb
                  exact this
                · exact next1 _ hit
                · exact next2 _ hit
                · exact (hperm.cons _).trans (entsX_add (i := 0) hit (by simpa using hXk) (by simpa using hYk) fun j hj => hYX j (by omega)).symm
                · rw [Array.toList_push, List.map_append]
                  exact (List.perm_append_singleton _ _).trans (hpm.cons _)
            · cases hop
          · cases hop
        · cases hop
      · cases hop
    · cases hc : cOp P nt o with
      | none => rw [hc] at hop; cases hop
      | some rop => rw [hc] at hop; exact other rop hc hop
end
end Go.Am

namespace Go.Am
open Go Go.RowKit
theorem foldF_all {R : List DRec} {X : Nat → Bool} {fr : AFrame} (h : ∀ i, i < R.length → X i = true) : foldF R X fr = foldF R (fun _ => true) fr :=
  funext fun _ => foldF_agree rfl fun i _ hq _ => h i (List.getElem?_eq_some_iff.1 hq).1
theorem foldH_all {R : List DRec} {X : Nat → Bool} {H : AHeap} (h : ∀ i, i < R.length → X i = true) : foldH R X H = foldH R (fun _ => true) H :=
  foldH_agree fun i _ hq _ => h i (List.getElem?_eq_some_iff.1 hq).1
theorem foldF_nothing : ∀ (R : List DRec) (fr : AFrame), foldF R (fun _ => false) fr = fr
  | [], fr => rfl
  | r :: rs, fr => by simp only [foldF]; exact foldF_nothing rs fr
theorem dcheck_get {R : List DRec} {H0 : AHeap} : ∀ {rs : List DRec} {k : Nat}, dcheck R H0 rs k = true → ∀ (j : Nat) (r : DRec), rs[j]? = some r → r.want = true → (Nat.beq r.cls 1 || Nat.beq r.cls 3) = true → r.chk (k + j) R 0 H0 true = true
  | [], k, _, j, r, hj, _, _ => by simp at hj
  | a :: rs, k, h, j, r, hj, hw, hc => by
    simp only [dcheck, Bool.and_eq_true] at h
    cases j with
    | zero =>
      simp only [List.getElem?_cons_zero, Option.some.injEq] at hj; subst hj
      have := h.1
      rw [hw, hc] at this
      exact this
    | succ j => have := dcheck_get h.2 j r (by simpa using hj) hw hc; rwa [show k + 1 + j = k + (j + 1) by omega] at this
section
variable {P : Program} {S : Base} {call : ACall} {nt : Nat} {ops : Array Oper} {its : List DItem} {R : List DRec} {fr fr' : AFrame} {H0 H' : AHeap} {ref0 : Nat}
theorem draw_all {ro : Option Nat} (hG : S.G = P.globals.size) (hcall : ∀ g, CallSim P { S with ghost := g } call) (g : Run P S call nt ops its R fr H0 ref0) {m : RMap} {ds : List Deferred} {Q : Exit → Act → World → Prop}
    (hQ : ∀ X a w, (∀ i, i < ops.size → X i = true) → At X R fr H0 nt S m ds a w → Q .normal a w) :
    ∀ (fuel : Nat) (X : Nat → Bool) (listed : Array Bool) (a : Act) (w : World), listed.size = ops.size → (∀ i, X i = listed.getD i false) →
      (∀ k o, X k = true → ops[k]? = some o → ∀ e ∈ o.after, Region.binds .any e = true → X e.on = true) → At X R fr H0 nt S m ds a w → leftN X ops.size ≤ fuel → wpAnyIn (wid ro) 0 P .any ops Q fuel listed a w := by
  intro fuel
  have hnone : ∀ (X : Nat → Bool) (listed : Array Bool), listed.size = ops.size → (∀ i, X i = listed.getD i false) → (∀ i, i < ops.size → X i = true) → Region.ready .any ops listed = [] := fun X listed hs hX hall => by
    refine List.eq_nil_iff_forall_not_mem.2 fun j hj => ?_
    obtain ⟨h1, o, ho, _⟩ := mem_ready.1 hj
    have hjn : j < ops.size := (Array.getElem?_eq_some_iff.1 ho).1
    have h2 := hall j hjn
    rw [hX] at h2
    have hjl : j < listed.size := by omega
    simp [Array.getD, hjl] at h1 h2
    rw [h1] at h2; cases h2
  induction fuel with
  | zero =>
    intro X listed a w hs hX hcl hat hleft
    have hall := leftN_zero (Nat.le_zero.1 hleft)
    exact ⟨hnone X listed hs hX hall, hQ X a w hall hat⟩
  | succ fuel ih =>
    intro X listed a w hs hX hcl hat hleft
    refine ⟨fun hr => hQ X a w ?_ hat, fun k hk => ?_⟩
    · intro i
      induction i using Nat.strongRecOn with
      | _ i ihi =>
        intro hi
        cases hXi : X i with
        | true => rfl
        | false =>
          exfalso
          obtain ⟨o, ho⟩ : ∃ o, ops[i]? = some o := ⟨ops[i], by simp [hi]⟩
          obtain ⟨it, hit, _, _, _, _, hedge, _⟩ := g.reg.op i o ho
          have : i ∈ Region.ready .any ops listed := mem_ready.2 ⟨by
            rw [hX] at hXi
            have hil : i < listed.size := by omega
            simp [Array.getD, hil] at hXi ⊢; exact hXi, o, ho, fun e he hb => by
              have hlt := hedge e he hb
              rw [← hX]; exact ihi e.on hlt (by omega)⟩
          rw [hr] at this; cases this
    · obtain ⟨h1, o, ho, hedge⟩ := mem_ready.1 hk
      have hkn : k < ops.size := (Array.getElem?_eq_some_iff.1 ho).1
      have hkl : k < listed.size := by omega
      have hXk : X k = false := by rw [hX]; simp [Array.getD, hkl] at h1 ⊢; exact h1
      have hY : ∀ i, (if i = k then true else X i) = (listed.setIfInBounds k true).getD i false := fun i => by
        by_cases hik : i = k
        · subst hik; simp [hkl]
        · rw [getD_set_ne false (Ne.symm hik), ← hX, if_neg hik]
      have hready : ∀ e ∈ o.after, Region.binds .any e = true → X e.on = true := fun e he hb => by rw [hX]; exact hedge e he hb
      refine step_any hG hcall g (Y := fun i => if i = k then true else X i) ho hXk (by simp) (fun i hi => by simp [hi]) hcl hready hat fun a' w' hat' => ?_
      refine ih _ _ a' w' (by simpa using hs) hY ?_ hat' ?_
      · intro j o2 hj ho2 e he hb
        by_cases hek : e.on = k
        · simp [hek]
        · simp only [hek, if_false]
          by_cases hjk : j = k
          · subst hjk; rw [ho] at ho2; cases ho2; exact hready e he hb
          · simp only [hjk, if_false] at hj
            exact hcl j o2 hj ho2 e he hb
      · have := leftN_add (X := X) (Y := fun i => if i = k then true else X i) hXk (by simp) (fun i hi => by simp [hi]) hkn
        omega
theorem lit_all {ro : Option Nat} (hG : S.G = P.globals.size) (hcall : CallSim P S call) {L : List LIt} {dm : Nat} {tm : TypeId} {masks : List Nat} (g : LitRun P nt ops L dm tm masks) {H : AHeap} {m : RMap} {ds : List Deferred} {Q : Exit → Act → World → Prop}
    (hQ : ∀ X a w, (∀ i, i < ops.size → X i = true) → LAt X L fr H nt S m ds a w → Q .normal a w) :
    ∀ (fuel : Nat) (X : Nat → Bool) (listed : Array Bool) (a : Act) (w : World), listed.size = ops.size → (∀ i, X i = listed.getD i false) →
      (∀ k o, X k = true → ops[k]? = some o → ∀ e ∈ o.after, Region.binds .any e = true → X e.on = true) → LAt X L fr H nt S m ds a w → leftN X ops.size ≤ fuel → wpAnyIn (wid ro) 0 P .any ops Q fuel listed a w := by
  intro fuel
  have hnone : ∀ (X : Nat → Bool) (listed : Array Bool), listed.size = ops.size → (∀ i, X i = listed.getD i false) → (∀ i, i < ops.size → X i = true) → Region.ready .any ops listed = [] := fun X listed hs hX hall => by
    refine List.eq_nil_iff_forall_not_mem.2 fun j hj => ?_
    obtain ⟨h1, o, ho, _⟩ := mem_ready.1 hj
    have hjn : j < ops.size := (Array.getElem?_eq_some_iff.1 ho).1
    have h2 := hall j hjn
    rw [hX] at h2
    have hjl : j < listed.size := by omega
    simp [Array.getD, hjl] at h1 h2
    rw [h1] at h2; cases h2
  induction fuel with
  | zero =>
    intro X listed a w hs hX hcl hat hleft
    have hall := leftN_zero (Nat.le_zero.1 hleft)
    exact ⟨hnone X listed hs hX hall, hQ X a w hall hat⟩
  | succ fuel ih =>
    intro X listed a w hs hX hcl hat hleft
    refine ⟨fun hr => hQ X a w ?_ hat, fun k hk => ?_⟩
    · intro i
      induction i using Nat.strongRecOn with
      | _ i ihi =>
        intro hi
        cases hXi : X i with
        | true => rfl
        | false =>
          exfalso
          obtain ⟨o, ho⟩ : ∃ o, ops[i]? = some o := ⟨ops[i], by simp [hi]⟩
          have hedge := g.edge i o ho
          have : i ∈ Region.ready .any ops listed := mem_ready.2 ⟨by
            rw [hX] at hXi
            have hil : i < listed.size := by omega
            simp [Array.getD, hil] at hXi ⊢; exact hXi, o, ho, fun e he hb => by
              have hlt := hedge e he hb
              rw [← hX]; exact ihi e.on hlt (by omega)⟩
          rw [hr] at this; cases this
    · obtain ⟨h1, o, ho, hedge⟩ := mem_ready.1 hk
      have hkn : k < ops.size := (Array.getElem?_eq_some_iff.1 ho).1
      have hkl : k < listed.size := by omega
      have hXk : X k = false := by rw [hX]; simp [Array.getD, hkl] at h1 ⊢; exact h1
      have hY : ∀ i, (if i = k then true else X i) = (listed.setIfInBounds k true).getD i false := fun i => by
        by_cases hik : i = k
        · subst hik; simp [hkl]
        · rw [getD_set_ne false (Ne.symm hik), ← hX, if_neg hik]
      have hready : ∀ e ∈ o.after, Region.binds .any e = true → X e.on = true := fun e he hb => by rw [hX]; exact hedge e he hb
      refine lit_step hG hcall g (Y := fun i => if i = k then true else X i) ho hXk (by simp) (fun i hi => by simp [hi]) hcl hready hat fun a' w' hat' => ?_
      refine ih _ _ a' w' (by simpa using hs) hY ?_ hat' ?_
      · intro j o2 hj ho2 e he hb
        by_cases hek : e.on = k
        · simp [hek]
        · simp only [hek, if_false]
          by_cases hjk : j = k
          · subst hjk; rw [ho] at ho2; cases ho2; exact hready e he hb
          · simp only [hjk, if_false] at hj
            exact hcl j o2 hj ho2 e he hb
      · have := leftN_add (X := X) (Y := fun i => if i = k then true else X i) hXk (by simp) (fun i hi => by simp [hi]) hkn
        omega
theorem arr_set_same {α : Type} {x : Array α} {i : Nat} {o : α} (h : x[i]? = some o) : x.setIfInBounds i o = x := by
  apply Array.ext_getElem?
  intro j
  rw [Array.getElem?_setIfInBounds]
  split
  · rename_i e; subst e
    have := (Array.getElem?_eq_some_iff.1 h).1
    rw [if_pos this]; exact h.symm
  · rfl
theorem HRel.permMap {m : RMap} {H : AHeap} {w : World} {es es2 : List (AVal × AVal)} (h : HRel S m (H.push (.mapo es)) w) {p : Addr × Nat} (hp : m H.n = some p) (hperm : List.Perm es es2) : HRel S m (H.push (.mapo es2)) w := by
  obtain ⟨hB, es', c, xs, hbk, hE, hpm⟩ := h.loops.maps.ok H.n es p (by simp [AHeap.push]) push_get_eq hp
  obtain ⟨xs2, h1, h2⟩ := embE_perm hperm hE
  have := h.setMap hp hbk (es2 := es') (c2 := c) h1 (hpm.trans h2)
  rwa [arr_set_same hbk] at this
theorem dlit (hm : P.follows .mixedOrders = true) (hG : S.G = P.globals.size) (hcall : CallSim P S call) {lf : Nat} {ro : Option Nat} {nt id : Nat} {ops : Array Oper} {rc : RCode} {fr fr' : AFrame} {H H' : AHeap} {x : RExit} {m : RMap} {a : Act} {w : World} {ds : List Deferred} {Q : Exit → Act → World → Prop}
    (hc : cLit P nt ops.toList (Region.before ops).toList = some rc) (hx : rc.exec call lf fr H = some ((x, fr'), H')) (hf : FRel nt m fr a.tmps) (hd : a.defers = ds) (h : HRel S m H w) (hQ : Post S nt m x fr' H' ds Q) : (Code.region id ops true).wpIn (wid ro) 0 P Q a w := by
  obtain ⟨dm, tm, L, rfl, g⟩ := litRun_of hc
  obtain ⟨o0, h00, h01, h02, h03, h04⟩ := g.head
  simp only [RCode.exec] at hx
  obtain ⟨fr1, H1, hx1, hx2⟩ := bind_some hx
  obtain ⟨e, rfl⟩ := pure_some hx2; cases e
  have hL : ∃ l, L = .make dm tm :: l := by
    cases L with
    | nil => simp at h04
    | cons it l => simp only [List.getElem?_cons_zero, Option.some.injEq] at h04; exact ⟨l, by rw [h04]⟩
  obtain ⟨l, rfl⟩ := hL
  have hnm : ∀ it ∈ l, ∀ d t, it ≠ .make d t := fun it hit d t e => by
    subst e
    obtain ⟨j, hj⟩ := List.getElem?_of_mem hit
    have hjl : j + 1 < ops.size := by rw [← g.len]; have := (List.getElem?_eq_some_iff.1 hj).1; simp only [List.length_cons]; omega
    obtain ⟨oj, hoj⟩ : ∃ oj, ops[j + 1]? = some oj := ⟨ops[j + 1], by simp [hjl]⟩
    obtain ⟨it', h1, h2⟩ := g.item (j + 1) oj (by omega) hoj
    simp only [List.getElem?_cons_succ, hj, Option.some.injEq] at h1
    subst h1
    unfold litOp at h2
    split at h2
    · cases h2
    · split at h2
      · split at h2
        · unfold litIns at h2
          repeat' split at h2
          all_goals first | (cases h2; done) | (simp at h2; done)
        · cases h2
      · split at h2
        · split at h2
          · rename_i hr
            cases h2
            unfold litRef at hr
            repeat' split at hr
            all_goals first | (cases hr; done) | (simp at hr; done)
          · unfold litVal at h2
            repeat' split at h2
            all_goals first | (cases h2; done) | (simp at h2; done)
        · cases h2
  have hne : ∀ it ∈ l, it.dst ≠ some dm := fun it hit => by
    obtain ⟨j, hj⟩ := List.getElem?_of_mem hit
    exact litDsts_get g.dsts 0 (j + 1) _ it dm (by omega) rfl (by simpa using hj) rfl
  have hdl : litDsts l = true := by have := g.dsts; simp only [litDsts, Bool.and_eq_true] at this; exact this.2
  obtain ⟨fr2, k1, k2, k3⟩ := litCode_exec (call := call) (r := H.n) l (put fr (some dm) (.map H.n)) (H.push (.mapo (litEnts (.make dm tm :: l)))) (by simp [put, upd]) hne hnm hdl
  have hex : execOps call (⟨some dm, .mapLit (litEnts (.make dm tm :: l)), none⟩ :: litCode dm ((LIt.make dm tm :: l).drop 1)) fr H = some (fr2, H.push (.mapo (litEnts (.make dm tm :: l)))) := k1
  rw [hex] at hx1
  obtain ⟨rfl, rfl⟩ : fr2 = fr' ∧ H.push (.mapo (litEnts (.make dm tm :: l))) = H' := by simpa using hx1
  refine wpIn_region_any hm (lit_all hG hcall g (fr := fr) (H := H) (m := m) (ds := ds) (fun X a w hall hat => ?_) ops.size (fun _ => false) _ a _ (by simp) (fun i => ?_) (fun k o hk => by cases hk) ?_ ?_)
  · obtain ⟨⟨m', f, hm', hfr, hf1, hf2, hw⟩, hds⟩ := hat
    have hall' : ∀ i, i < (LIt.make dm tm :: l).length → X i = true := fun i hi => hall i (by rw [← g.len]; exact hi)
    have h0 : X 0 = true := hall' 0 (by simp)
    obtain ⟨es, p, hperm, hp, hrel⟩ : ∃ es p, List.Perm es (entsX X 0 (.make dm tm :: l)) ∧ m' H.n = some p ∧ HRel S m' (H.push (.mapo es)) w := by
      rcases hw with ⟨h, _⟩ | ⟨_, h⟩
      · rw [h0] at h; cases h
      · exact h
    rw [entsX_all fun j hj => by rw [Nat.zero_add]; exact hall' j hj] at hperm
    refine hQ m' a w ⟨hfr.1, fun i hi => ?_⟩ hds (hrel.permMap hp hperm) hm'
    have hfe : fr2 i = f i := by
      by_cases hex : ∃ it ∈ (LIt.make dm tm :: l), it.dst = some i
      · obtain ⟨it, hit, hid⟩ := hex
        obtain ⟨j, hj⟩ := List.getElem?_of_mem hit
        rw [hf1 j it i hj (hall' j (List.getElem?_eq_some_iff.1 hj).1) hid]
        rcases List.mem_cons.1 hit with rfl | hit
        · cases hid
          rw [k2 _ hne]; simp [put, upd, LIt.V]
        · exact k3 it hit i hid
      · have hno : ∀ it ∈ (LIt.make dm tm :: l), it.dst ≠ some i := fun it hit e => hex ⟨it, hit, e⟩
        rw [hf2 i fun j it hj _ => hno it (List.mem_of_getElem? hj), k2 i fun it hit => hno it (by simp [hit])]
        exact put_ne (hno (.make dm tm) (by simp))
    rw [hfe]; exact hfr.2 i hi
  · by_cases hi : i < ops.size
    · simp [Array.getD, hi]
    · simp [Array.getD, hi]
  · exact ⟨⟨m, fr, Le.refl _, hf, (fun _ _ _ _ hX => by cases hX), (fun _ _ => rfl), Or.inl ⟨rfl, h.drew⟩⟩, hd⟩
  · have : ∀ n, leftN (fun _ => false) n ≤ n := fun n => by
      induction n with
      | zero => simp [leftN]
      | succ n ih => simp only [leftN]; omega
    exact this _
theorem HRel.pushAll {m : RMap} {w : World} : ∀ (os : List AObj) (H : AHeap), HRel S m H w → HRel S m (Go.Am.pushAll H os) w
  | [], H, h => h
  | o :: os, H, h => HRel.pushAll os (H.push o) (h.ghost o)
theorem dsim (hm : P.follows .mixedOrders = true) (hG : S.G = P.globals.size) (hcall : ∀ g, CallSim P { S with ghost := g } call) (lf : Nat) : DSim P S call lf := by
  intro ro nt id ops rc fr fr' H H' x m a w ds Q hc hx hf hd h hQ
  simp only [cCode] at hc
  cases hl : cOpers P nt ops ops.toList with
  | none =>
    rw [hl] at hc
    simp only [] at hc
    cases hlt : cLit P nt ops.toList (Region.before ops).toList with
    | none => rw [hlt] at hc; cases hc; exact (fail_some hx).elim
    | some rc' =>
      rw [hlt] at hc; cases hc
      exact dlit hm hG (by have := hcall S.ghost; exact this) hlt hx hf hd h hQ
  | some l =>
    rw [hl] at hc
    simp only [] at hc
    cases hdr : cDraw ops.toList (Region.before ops).toList l with
    | none => rw [hdr] at hc; cases hc; exact (fail_some hx).elim
    | some rc' =>
    rw [hdr] at hc
    cases hc
    obtain ⟨its, rfl, hreg⟩ := reg_of hl hdr
    simp only [RCode.exec] at hx
    cases hdt : dtext call its H.n fr (Go.Am.pushAll H (oracle its H.n fr H)) with
    | none => rw [hdt] at hx; cases hx
    | some q =>
      obtain ⟨R, f1, H1⟩ := q
      rw [hdt] at hx
      simp only [] at hx
      cases hck : dcheck R (Go.Am.pushAll H (oracle its H.n fr H)) R 0 with
      | false => rw [hck] at hx; cases hx
      | true =>
        rw [hck] at hx
        cases hx
        obtain ⟨h1, h2, h3, h4⟩ := dtext_get its _ _ _ _ _ _ hdt
        have g : Run P S call nt ops its R fr (Go.Am.pushAll H (oracle its H.n fr H)) H.n :=
          ⟨hreg, h1, h4, fun k r hr hw hcc => by have := dcheck_get hck k r hr hw hcc; simpa using this, fun r hr => (h.away r hr).2⟩
        have hn0 : (Go.Am.pushAll H (oracle its H.n fr H)).n = H.n + cnt3 its := by rw [pushAll_n, oracle_length]
        refine wpIn_region_any hm (draw_all hG hcall g (m := m) (ds := ds) (fun X a w hall hat => ?_) ops.size (fun _ => false) _ a _ (by simp) (fun i => ?_) (fun k o hk => by cases hk) ?_ ?_)
        · obtain ⟨⟨m', hm', hfr, hrel⟩, hds⟩ := hat
          have hall' : ∀ i, i < R.length → X i = true := fun i hi => hall i (by rw [← hreg.len, ← h1]; exact hi)
          rw [foldF_all hall', ← h2] at hfr
          rw [foldH_all hall', ← h3] at hrel
          have := hrel.less S.ghost fun r hr => Or.inl hr
          exact hQ m' a w hfr hds this hm'
        · by_cases hi : i < ops.size
          · simp [Array.getD, hi]
          · simp [Array.getD, hi]
        · refine ⟨⟨m, Le.refl _, by rw [foldF_nothing]; exact hf, ?_⟩, hd⟩
          rw [foldH_none fun _ _ _ _ => rfl]
          have hp := (HRel.pushAll (oracle its H.n fr H) H h).drew
          refine hp.more _ fun r hr => ?_
          rcases hr with hr | ⟨k, q, hq1, hq2, hq3, _, rfl⟩
          · have := h.away r hr
            exact ⟨this.1, by rw [hn0]; omega⟩
          · obtain ⟨it, hit, hok⟩ := g.item hq1
            rw [hok.rf]
            rw [hok.cls] at hq2
            have hlt := refs_lt its H.n k it hit hq2
            have hge := refs_ge its H.n k
            exact ⟨h.fresh _ hge, by rw [hn0]; exact hlt⟩
        · have : ∀ n, leftN (fun _ => false) n ≤ n := fun n => by
            induction n with
            | zero => simp [leftN]
            | succ n ih => simp only [leftN]; omega
          exact this _
end
end Go.Am

namespace Go.Am
open Go Go.RowKit
section
variable {P : Program} {S : Base} {m : RMap} {H H' : AHeap} {w : World}
theorem cell_putObj {b : Nat} {L L' : Loop} (hb : w.heap[b]? = some (.loop L)) (a : Addr) : (w.putObj b (.loop L')).cell? a = w.cell? a := by
  unfold World.cell?
  by_cases h : a.block = b
  · rw [h, World.putObj_heap_same (Array.getElem?_eq_some_iff.1 hb).1, hb]
  · rw [World.putObj_heap_other h]
theorem frozen_putObj {b : Nat} {L L' : Loop} (hb : w.heap[b]? = some (.loop L)) (a : Addr) : (w.putObj b (.loop L')).frozen? a = w.frozen? a := by
  unfold World.frozen?
  by_cases h : a.block = b
  · rw [h, World.putObj_heap_same (Array.getElem?_eq_some_iff.1 hb).1, hb]
  · rw [World.putObj_heap_other h]
theorem keeps_putObj {b : Nat} {L L' : Loop} (hb : w.heap[b]? = some (.loop L)) (k : Nat) : Keeps w (w.putObj b (.loop L')) k := fun c e fz h => by
  have hne : k ≠ b := fun e => by rw [e, hb] at h; cases h
  exact ⟨c, fz, by rw [World.putObj_heap_other hne]; exact h, rfl⟩
theorem HRel.setLoop (h : HRel S m H w) {r : Nat} {R R' : RLoop} {p : Addr × Nat} (hr : r < H.n) (hg : H.get r = .loop R) (hp : m r = some p) {L L' : Loop} (ok : LoopOk S m w p.1.block R L) (h4 : R.st ≠ 4) (h4' : R'.st ≠ 4)
    (e1 : R' = { R with st := R'.st, pend := R'.pend }) (e2 : L' = { L with state := stOf R'.st, pending := R'.pend.jump }) : HRel S m (H.set r (.loop R')) (w.putObj p.1.block (.loop L')) := by
  have hb := ok.obj
  have hlt := (Array.getElem?_eq_some_iff.1 hb).1
  have key : ∀ s cs rw e, (H.set r (.loop R')).get s = .row cs rw e → H.get s = .row cs rw e := fun s cs rw e hs => by
    by_cases hsr : s = r
    · subst hsr; rw [set_get_eq] at hs; cases hs
    · rwa [set_get_ne hsr] at hs
  have hd : L.defers ≠ p.1.block := fun e => by
    have := ok.defers
    rw [e, hb] at this; cases this
  have hL' : L'.defers = L.defers := by rw [e2]
  refine ⟨h.below.trans ⟨rfl, rfl, rfl, by simp, fun k hk => World.putObj_heap_other (by have := ok.low; omega)⟩, by simpa using h.size, h.glob, h.fresh, h.away, fun s cs rw e q hs hgs hq => ?_, fun s t cs1 rw1 e1 cs2 e2 q1 q2 hs ht hne hg1 hg2 hq1 hq2 => ?_, ⟨fun s R1 q hs hgs hq => ?_, fun s t R1 R2 q1 q2 L1 L2 hs ht hne hg1 hg2 hq1 hq2 hl1 hl2 => ?_, h.loops.keepMaps (Le.refl _) (fun k es c hk => by rw [World.putObj_heap_other (fun e => by rw [e, hb] at hk; cases hk)]; exact hk) fun s es q hs hgs hq => ⟨hs, by by_cases hsr : s = r <;> first | (subst hsr; rw [set_get_eq] at hgs; cases hgs; done) | (rwa [set_get_ne hsr] at hgs), hq⟩, h.loops.keepIters (fun k es c hk => by rw [World.putObj_heap_other (fun e => by rw [e, hb] at hk; cases hk)]; exact hk) fun s es k q hs hgs hq => ⟨hs, by by_cases hsr : s = r <;> first | (subst hsr; rw [set_get_eq] at hgs; cases hgs; done) | (rwa [set_get_ne hsr] at hgs), hq⟩⟩⟩
  · exact (h.row s cs rw e q hs (key _ _ _ _ hgs) hq).mono (Le.refl _) (keeps_putObj hb _) (fun i => cell_putObj hb _) fun i => frozen_putObj hb _
  · exact h.apart s t cs1 rw1 e1 cs2 e2 q1 q2 hs ht hne (key _ _ _ _ hg1) (key _ _ _ _ hg2) hq1 hq2
  · by_cases hsr : s = r
    · subst hsr
      rw [set_get_eq] at hgs; cases hgs
      rw [hp] at hq; cases hq
      refine ⟨L', World.putObj_heap_same hlt, ok.low, by rw [e2], by rw [e2], ?_, ?_, ?_, ?_, by rw [hL']; exact ok.dlow, ?_, ?_⟩
      · rw [e2, e1]; exact ok.ps
      · rw [e2, e1]; exact ok.fr
      · rw [e2, e1]; exact ok.assign
      · rw [e2, e1]; exact ok.body
      · rw [hL', e1]; exact ok.blk
      · rw [hL', World.putObj_heap_other hd, ok.defers, if_neg h4, if_neg h4']
    · rw [set_get_ne hsr] at hgs
      obtain ⟨L1, k⟩ := h.loops.ok s R1 q hs hgs hq
      have hap := h.loops.apart s r R1 R q p L1 L hs hr hsr hgs hg hq hp k.obj hb
      have hd1 : L1.defers ≠ p.1.block := fun e => by
        have := k.defers
        rw [e, hb] at this; cases this
      exact ⟨L1, by rw [World.putObj_heap_other hap.1]; exact k.obj, k.low, k.st, k.pend, k.ps, k.fr, k.assign, k.body, k.dlow, k.blk, by rw [World.putObj_heap_other hd1]; exact k.defers⟩
  · have old : ∀ s R1 q L1, s < H.n → (H.set r (.loop R')).get s = .loop R1 → m s = some q → (w.putObj p.1.block (.loop L')).heap[q.1.block]? = some (.loop L1) → ∃ R0 L0, H.get s = .loop R0 ∧ w.heap[q.1.block]? = some (.loop L0) ∧ L0.defers = L1.defers := by
      intro s R1 q L1 hs hgs hq hl
      by_cases hsr : s = r
      · subst hsr
        rw [hp] at hq; cases hq
        rw [World.putObj_heap_same hlt] at hl; cases hl
        exact ⟨R, L, hg, hb, hL'.symm⟩
      · rw [set_get_ne hsr] at hgs
        obtain ⟨L0, k⟩ := h.loops.ok s R1 q hs hgs hq
        have hap := h.loops.apart s r R1 R q p L0 L hs hr hsr hgs hg hq hp k.obj hb
        rw [World.putObj_heap_other hap.1] at hl
        exact ⟨R1, L1, hgs, hl, rfl⟩
    obtain ⟨R3, L3, a1, a2, a3⟩ := old s R1 q1 L1 hs hg1 hq1 hl1
    obtain ⟨R4, L4, b1, b2, b3⟩ := old t R2 q2 L2 ht hg2 hq2 hl2
    have := h.loops.apart s t R3 R4 q1 q2 L3 L4 hs ht hne a1 b1 hq1 hq2 a2 b2
    rw [a3, b3] at this
    exact this
theorem FRel.upd {nt : Nat} {fr : AFrame} {tmps : Array Value} (h : FRel nt m fr tmps) {t : Nat} (ht : t < nt) {v : AVal} {x : Value} (hv : emb m v = some x) : FRel nt m (Go.Am.upd fr t v) (tmps.setIfInBounds t x) := by
  refine ⟨by simp [h.1], fun i hi => ?_⟩
  by_cases hit : i = t
  · subst hit
    exact ⟨x, by simp [Go.Am.upd, hv], by simp [h.1, hi]⟩
  · obtain ⟨y, h1, h2⟩ := h.2 i hi
    exact ⟨y, by simp [Go.Am.upd, nbeq_ne hit, h1], by simp [Ne.symm hit, h2]⟩
theorem FRel.setAll {nt : Nat} : ∀ {ps : List Nat} {args : List AVal} {vargs : List Value} {fr : AFrame} {tmps : Array Value}, FRel nt m fr tmps → (∀ t ∈ ps, t < nt) → embL m args = some vargs →
    FRel nt m (Go.Am.setAll fr (ps.zip args)) ((ps.zip vargs).foldl (fun tmps q => tmps.setIfInBounds q.1 q.2) tmps)
  | [], args, vargs, fr, tmps, h, _, _ => by simpa [Go.Am.setAll] using h
  | t :: ps, [], vargs, fr, tmps, h, _, ha => by simp [embL] at ha; subst ha; simpa [Go.Am.setAll] using h
  | t :: ps, v :: args, vargs, fr, tmps, h, hp, ha => by
    obtain ⟨x, xs, h1, h2, rfl⟩ := embL_cons ha
    simp only [List.zip_cons_cons, Go.Am.setAll, List.foldl_cons]
    exact FRel.setAll (h.upd (hp t (by simp)) h1) (fun t ht => hp t (by simp [ht])) h2
theorem sim_round (hm : P.follows .mixedOrders = true) (hC : S.code = cCode P) (hG : S.G = P.globals.size) {call : ACall} (hcall : ∀ g, CallSim P { S with ghost := g } call) {lf r : Nat} {args : List AVal} {vargs : List Value} {v : AVal} {p : Addr × Nat}
    (hx : roundRun call lf r args H = some (v, H')) (h : HRel S m H w) (hp : m r = some p) (ha : embL m args = some vargs) : Yields P (Instr.yield p.1.block vargs.toArray) w (Out S m v H') := by
  unfold roundRun at hx
  cases hlt : Nat.blt r H.n with
  | false => simp only [hlt] at hx; cases hx
  | true =>
  cases hg : H.get r with
  | loop R =>
    simp only [hlt, hg] at hx
    have hrn : r < H.n := by simpa using hlt
    obtain ⟨L, ok⟩ := h.loops.ok r R p hrn hg hp
    cases hck : (Nat.beq args.length R.ps.length && R.ps.all (fun t => Nat.blt t R.nt)) with
    | false => rw [hck] at hx; cases hx
    | true =>
    rw [hck] at hx
    simp only [Bool.and_eq_true] at hck
    have hal : args.length = R.ps.length := Nat.eq_of_beq_eq_true hck.1
    have hps : ∀ t ∈ R.ps, t < R.nt := fun t ht => by have := List.all_eq_true.1 hck.2 t ht; simpa using this
    have hvl := embL_length ha
    have hpl : L.params.size = R.ps.length := by rw [← ok.ps]; simp
    have hrun := run_yield (P := P) (args := vargs.toArray) ok.obj (by simp only [List.size_toArray]; omega)
    have hfr : FRel R.nt m (Go.Am.setAll R.fr (R.ps.zip args)) ((L.params.zip vargs.toArray).foldl (fun tmps (x : Tmp × Value) => tmps.setIfInBounds x.1 x.2) L.tmps) := by
      have := ok.fr.setAll hps ha
      rw [← Array.foldl_toList, Array.toList_zip, ok.ps]
      exact this
    simp only [] at hx
    cases hx1 : R.assign.exec call lf (Go.Am.setAll R.fr (R.ps.zip args)) H with
    | none => rw [hx1] at hx; cases hx
    | some q =>
    obtain ⟨⟨x1, fr1⟩, H1⟩ := q
    rw [hx1] at hx
    cases x1 with
    | exit id => cases hx
    | ret => cases hx
    | normal =>
    simp only [] at hx
    cases hg1 : H1.get r with
    | loop R1 =>
      rw [hg1] at hx
      simp only [] at hx
      cases hs0 : Nat.beq R1.st 0 with
      | false => rw [hs0] at hx; cases hx
      | true =>
      rw [hs0] at hx
      simp only [] at hx
      have hst0 : R1.st = 0 := Nat.eq_of_beq_eq_true hs0
      cases hx2 : R.body.exec call lf fr1 (H1.set r (.loop { R1 with st := 1 })) with
      | none => rw [hx2] at hx; cases hx
      | some q =>
      obtain ⟨⟨x, fr2⟩, H2⟩ := q
      rw [hx2] at hx
      simp only [] at hx
      cases hg2 : H2.get r with
      | loop R2 =>
        rw [hg2] at hx
        simp only [] at hx
        cases hs1 : Nat.beq R2.st 1 with
        | false => rw [hs1] at hx; cases hx
        | true =>
        rw [hs1] at hx
        have hst1 : R2.st = 1 := Nat.eq_of_beq_eq_true hs1
        unfold Yields
        rw [hrun]
        simp only []
        refine roundIn_of_wpIn (F := Fence.wide) (n := 0) trivial ?_
        have hD := dsim (S := S) hm hG hcall lf
        have hc := hcall S.ghost
        refine sim_code (ro := some p.1.block) (nt := R.nt) hG hc hD (ds := []) L.assign R.assign _ fr1 H H1 .normal m _ w _ (by rw [← hC]; exact ok.assign) hx1 hfr rfl h ?_
        intro m1 a1 w1 hf1 hd1 hr1 hm1
        have hp1 := hm1 r p hp
        have hrn1 : r < H1.n := by
          rcases Nat.lt_or_ge r H1.n with h' | h'
          · exact h'
          · rw [hr1.fresh r h'] at hp1; cases hp1
        obtain ⟨L1, ok1⟩ := hr1.loops.ok r R1 p hrn1 hg1 hp1
        refine ⟨_, run_beginRound ok1.obj (by rw [ok1.st, hst0]; rfl), ?_⟩
        have hr2 := hr1.setLoop (R' := { R1 with st := 1 }) (L' := { L1 with state := .busy }) hrn1 hg1 hp1 ok1 (by rw [hst0]; decide) (by simp) rfl (by rw [← ok1.pend]; rfl)
        refine sim_code (ro := some p.1.block) (nt := R.nt) hG hc hD (ds := []) L.body R.body fr1 fr2 _ H2 x m1 a1 _ _ (by rw [← hC]; exact ok.body) hx2 hf1 hd1 hr2 ?_
        intro m2 a2 w2 hf2 hd2 hr3 hm2
        have hp2 := hm2 r p hp1
        have hrn2 : r < H2.n := by
          rcases Nat.lt_or_ge r H2.n with h' | h'
          · exact h'
          · rw [hr3.fresh r h'] at hp2; cases hp2
        obtain ⟨L2, ok2⟩ := hr3.loops.ok r R2 p hrn2 hg2 hp2
        cases hx
        cases x with
        | normal => exact ⟨_, _, run_endRound none ok2.obj, _, rfl, m2, Le.trans hm1 hm2, rfl, hr3.setLoop hrn2 hg2 hp2 ok2 (by rw [hst1]; decide) (by simp) rfl rfl⟩
        | exit id => exact ⟨_, _, run_endRound (some (.exit id)) ok2.obj, _, rfl, m2, Le.trans hm1 hm2, rfl, hr3.setLoop hrn2 hg2 hp2 ok2 (by rw [hst1]; decide) (by simp) rfl rfl⟩
        | ret => exact ⟨_, _, run_endRound (some .ret) ok2.obj, _, rfl, m2, Le.trans hm1 hm2, rfl, hr3.setLoop hrn2 hg2 hp2 ok2 (by rw [hst1]; decide) (by simp) rfl rfl⟩
      | _ => rw [hg2] at hx; cases hx
    | _ => rw [hg1] at hx; cases hx
  | _ => simp only [hlt, hg] at hx; cases hx
end
end Go.Am

namespace Go.Am
open Go Go.RowKit
section
variable {P : Program} {S : Base} {m : RMap} {H H' : AHeap} {w : World}
theorem HRel.pushLoop (h : HRel S m H w) {R : RLoop} {fn : FuncId} {tmps : Array Value} {ps : Array Tmp} {assign body : Code} (hst : R.st = 0) (hpd : R.pend = .normal) (hps : ps.toList = R.ps) (hfr : FRel R.nt m R.fr tmps) (ha : S.code R.nt assign = some R.assign) (hb : S.code R.nt body = some R.body) {k0 : Nat} (hd0 : m R.d = some (⟨w.heap.size, 0, none⟩, k0)) :
    HRel S (m.add H.n (⟨w.heap.size + 1, 0, none⟩, 0)) (H.push (.loop R)) ((w.alloc (.deferred (some []))).alloc (.loop { state := .ready, pending := none, fn, tmps, params := ps, assign, body, defers := w.heap.size })) := by
  have hle := le_add (m := m) (⟨w.heap.size + 1, 0, none⟩, 0) (h.fresh H.n (Nat.le_refl _))
  have hs1 : (w.alloc (.deferred (some []))).heap.size = w.heap.size + 1 := World.size_alloc ..
  have st2 : ∀ (o2 : Obj) (b : Nat) (o : Obj), notCells o → w.heap[b]? = some o → ((w.alloc (.deferred (some []))).alloc o2).heap[b]? = some o := fun o2 b o hn e => still_alloc _ b o hn (still_alloc _ b o hn e)
  have newL : ∀ L : Loop, ((w.alloc (.deferred (some []))).alloc (.loop L)).heap[w.heap.size + 1]? = some (.loop L) := fun L => by
    have := World.alloc_heap_new (w.alloc (.deferred (some []))) (.loop L)
    rwa [hs1] at this
  have newD : ∀ L : Loop, ((w.alloc (.deferred (some []))).alloc (.loop L)).heap[w.heap.size]? = some (.deferred (some [])) := fun L =>
    still_alloc _ _ _ (fun c t fz e => by cases e) (World.alloc_heap_new w _)
  have old : ∀ r R' p, r < H.n → H.get r = .loop R' → m r = some p → ∃ L, LoopOk S m w p.1.block R' L ∧ p.1.block < w.heap.size ∧ L.defers < w.heap.size := fun r R' p h1 h2 h3 => by
    obtain ⟨L, k⟩ := h.loops.ok r R' p h1 h2 h3
    exact ⟨L, k, (Array.getElem?_eq_some_iff.1 k.obj).1, (Array.getElem?_eq_some_iff.1 k.defers).1⟩
  have nl : ∀ L, notCells (.loop L) := fun L c t fz e => by cases e
  have nd : ∀ L, notCells (.deferred L) := fun L c t fz e => by cases e
  refine ⟨(h.below.alloc h.size _).alloc (by rw [hs1]; have := h.size; omega) _, by rw [World.size_alloc, hs1]; have := h.size; omega, fun g hg => by obtain ⟨k, hk⟩ := h.glob g hg; exact ⟨k, get_mono hle hk⟩, fun r hr => ?_, fun r hr => ?_, fun r cs rw e p hr hg hp => ?_, fun r s cs rw e cs' e' p q hr hs hne hg1 hg2 hp hq => ?_, ⟨fun r R' p hr hg hp => ?_, fun r s R1 R2 p q L1 L2 hr hs hne hg1 hg2 hp hq hl1 hl2 => ?_, h.loops.keepMaps hle (fun k es c hk => st2 _ _ _ (fun _ _ _ e => by cases e) hk) fun r es q hr hg hq => ?_, h.loops.keepIters (fun k es c hk => st2 _ _ _ (fun _ _ _ e => by cases e) hk) fun r s k q hr hg hq => ?_⟩⟩
  · simp only [AHeap.push] at hr
    rw [add_ne (by omega)]; exact h.fresh r (by omega)
  · have := h.away r hr
    exact ⟨by rw [add_ne (by omega)]; exact this.1, by simp only [AHeap.push]; omega⟩
  · by_cases hrn : r = H.n
    · subst hrn; rw [push_get_eq] at hg; cases hg
    · have hr' : r < H.n := by simp [AHeap.push] at hr; omega
      rw [push_get_lt hr'] at hg
      rw [add_ne hrn] at hp
      exact ((h.row r cs rw e p hr' hg hp).alloc hle _).alloc (Le.refl _) _
  · by_cases hrn : r = H.n
    · subst hrn; rw [push_get_eq] at hg1; cases hg1
    by_cases hsn : s = H.n
    · subst hsn; rw [push_get_eq] at hg2; cases hg2
    have hr' : r < H.n := by simp [AHeap.push] at hr; omega
    have hs' : s < H.n := by simp [AHeap.push] at hs; omega
    rw [push_get_lt hr'] at hg1; rw [push_get_lt hs'] at hg2
    rw [add_ne hrn] at hp; rw [add_ne hsn] at hq
    exact h.apart r s cs rw e cs' e' p q hr' hs' hne hg1 hg2 hp hq
  · by_cases hrn : r = H.n
    · subst hrn
      rw [push_get_eq] at hg; cases hg
      rw [add_eq] at hp; cases hp
      have hB := h.size
      exact ⟨_, newL _, by simp only; omega, by rw [hst]; rfl, by rw [hpd]; rfl, hps, hfr.mono hle, ha, hb, hB, ⟨k0, hle _ _ hd0⟩, by rw [hst]; exact newD _⟩
    · have hr' : r < H.n := by simp [AHeap.push] at hr; omega
      rw [push_get_lt hr'] at hg
      rw [add_ne hrn] at hp
      obtain ⟨L, k, _, _⟩ := old r R' p hr' hg hp
      exact ⟨L, st2 _ _ _ (nl _) k.obj, k.low, k.st, k.pend, k.ps, k.fr.mono hle, k.assign, k.body, k.dlow, by obtain ⟨k', q⟩ := k.blk; exact ⟨k', hle _ _ q⟩, st2 _ _ _ (nd _) k.defers⟩
  · by_cases hrn : r = H.n
    · subst hrn
      have hsn : s ≠ H.n := fun e => hne e.symm
      have hs' : s < H.n := by simp [AHeap.push] at hs; omega
      rw [push_get_lt hs'] at hg2
      rw [add_ne hsn] at hq
      rw [add_eq] at hp; cases hp
      obtain ⟨L, k, k1, k2⟩ := old s R2 q hs' hg2 hq
      simp only at hl1
      rw [newL] at hl1; cases hl1
      rw [st2 _ _ _ (nl _) k.obj] at hl2; cases hl2
      exact ⟨by simp only; omega, by simp only; omega⟩
    · have hr' : r < H.n := by simp [AHeap.push] at hr; omega
      rw [push_get_lt hr'] at hg1
      rw [add_ne hrn] at hp
      obtain ⟨L, k, k1, k2⟩ := old r R1 p hr' hg1 hp
      rw [st2 _ _ _ (nl _) k.obj] at hl1; cases hl1
      by_cases hsn : s = H.n
      · subst hsn
        rw [add_eq] at hq; cases hq
        simp only at hl2
        rw [newL] at hl2; cases hl2
        exact ⟨by simp only; omega, by simp only; omega⟩
      · have hs' : s < H.n := by simp [AHeap.push] at hs; omega
        rw [push_get_lt hs'] at hg2
        rw [add_ne hsn] at hq
        obtain ⟨L', k', _, _⟩ := old s R2 q hs' hg2 hq
        rw [st2 _ _ _ (nl _) k'.obj] at hl2; cases hl2
        exact h.loops.apart r s R1 R2 p q _ _ hr' hs' hne hg1 hg2 hp hq k.obj k'.obj
  · by_cases hrn : r = H.n
    · subst hrn; rw [push_get_eq] at hg; cases hg
    · have hr' : r < H.n := by simp [AHeap.push] at hr; omega
      rw [push_get_lt hr'] at hg
      rw [add_ne hrn] at hq
      exact ⟨hr', hg, hq⟩
  · by_cases hrn : r = H.n
    · subst hrn; rw [push_get_eq] at hg; cases hg
    · have hr' : r < H.n := by simp [AHeap.push] at hr; omega
      rw [push_get_lt hr'] at hg
      rw [add_ne hrn] at hq
      exact ⟨hr', hg, hq⟩
theorem cell_putDef {b : Nat} {ds ds' : Option (List Deferred)} (hb : w.heap[b]? = some (.deferred ds)) (a : Addr) : (w.putObj b (.deferred ds')).cell? a = w.cell? a := by
  unfold World.cell?
  by_cases h : a.block = b
  · rw [h, World.putObj_heap_same (Array.getElem?_eq_some_iff.1 hb).1, hb]
  · rw [World.putObj_heap_other h]
theorem frozen_putDef {b : Nat} {ds ds' : Option (List Deferred)} (hb : w.heap[b]? = some (.deferred ds)) (a : Addr) : (w.putObj b (.deferred ds')).frozen? a = w.frozen? a := by
  unfold World.frozen?
  by_cases h : a.block = b
  · rw [h, World.putObj_heap_same (Array.getElem?_eq_some_iff.1 hb).1, hb]
  · rw [World.putObj_heap_other h]
theorem HRel.shutLoop (h : HRel S m H w) {r : Nat} {R : RLoop} {p : Addr × Nat} (hr : r < H.n) (hg : H.get r = .loop R) (hp : m r = some p) {L : Loop} (ok : LoopOk S m w p.1.block R L) (h3 : R.st = 3) :
    HRel S m (H.set r (.loop { R with st := 4 })) (w.putObj L.defers (.deferred none)) := by
  have hd := ok.defers
  rw [h3] at hd
  have hlt := (Array.getElem?_eq_some_iff.1 hd).1
  have key : ∀ s cs rw e, (H.set r (.loop { R with st := 4 })).get s = .row cs rw e → H.get s = .row cs rw e := fun s cs rw e hs => by
    by_cases hsr : s = r
    · subst hsr; rw [set_get_eq] at hs; cases hs
    · rwa [set_get_ne hsr] at hs
  have ne : ∀ {b : Nat} {L1 : Loop}, w.heap[b]? = some (.loop L1) → b ≠ L.defers := fun e1 e => by
    rw [e, hd] at e1; cases e1
  have kp : ∀ k, Keeps w (w.putObj L.defers (.deferred none)) k := fun k c e fz hk => by
    have hne : k ≠ L.defers := fun e => by rw [e, hd] at hk; cases hk
    exact ⟨c, fz, by rw [World.putObj_heap_other hne]; exact hk, rfl⟩
  refine ⟨h.below.trans ⟨rfl, rfl, rfl, by simp, fun k hk => World.putObj_heap_other (by have := ok.dlow; omega)⟩, by simpa using h.size, h.glob, h.fresh, h.away, fun s cs rw e q hs hgs hq => ?_, fun s t cs1 rw1 e1 cs2 e2 q1 q2 hs ht hne hg1 hg2 hq1 hq2 => ?_, ⟨fun s R1 q hs hgs hq => ?_, fun s t R1 R2 q1 q2 L1 L2 hs ht hne hg1 hg2 hq1 hq2 hl1 hl2 => ?_, h.loops.keepMaps (Le.refl _) (fun k es c hk => by rw [World.putObj_heap_other (fun e => by rw [e, hd] at hk; cases hk)]; exact hk) fun s es q hs hgs hq => ⟨hs, by by_cases hsr : s = r <;> first | (subst hsr; rw [set_get_eq] at hgs; cases hgs; done) | (rwa [set_get_ne hsr] at hgs), hq⟩, h.loops.keepIters (fun k es c hk => by rw [World.putObj_heap_other (fun e => by rw [e, hd] at hk; cases hk)]; exact hk) fun s es k q hs hgs hq => ⟨hs, by by_cases hsr : s = r <;> first | (subst hsr; rw [set_get_eq] at hgs; cases hgs; done) | (rwa [set_get_ne hsr] at hgs), hq⟩⟩⟩
  · exact (h.row s cs rw e q hs (key _ _ _ _ hgs) hq).mono (Le.refl _) (kp _) (fun i => cell_putDef hd _) fun i => frozen_putDef hd _
  · exact h.apart s t cs1 rw1 e1 cs2 e2 q1 q2 hs ht hne (key _ _ _ _ hg1) (key _ _ _ _ hg2) hq1 hq2
  · by_cases hsr : s = r
    · subst hsr
      rw [set_get_eq] at hgs; cases hgs
      rw [hp] at hq; cases hq
      exact ⟨L, by rw [World.putObj_heap_other (ne ok.obj)]; exact ok.obj, ok.low, by rw [ok.st, h3]; rfl, ok.pend, ok.ps, ok.fr, ok.assign, ok.body, ok.dlow, ok.blk, World.putObj_heap_same hlt⟩
    · rw [set_get_ne hsr] at hgs
      obtain ⟨L1, k⟩ := h.loops.ok s R1 q hs hgs hq
      have hap := h.loops.apart s r R1 R q p L1 L hs hr hsr hgs hg hq hp k.obj ok.obj
      exact ⟨L1, by rw [World.putObj_heap_other (ne k.obj)]; exact k.obj, k.low, k.st, k.pend, k.ps, k.fr, k.assign, k.body, k.dlow, k.blk, by rw [World.putObj_heap_other hap.2]; exact k.defers⟩
  · have old : ∀ s R1 q L1, s < H.n → (H.set r (.loop { R with st := 4 })).get s = .loop R1 → m s = some q → (w.putObj L.defers (.deferred none)).heap[q.1.block]? = some (.loop L1) → ∃ R0, H.get s = .loop R0 ∧ w.heap[q.1.block]? = some (.loop L1) := by
      intro s R1 q L1 hs hgs hq hl
      have h0 : ∃ R0, H.get s = .loop R0 := by
        by_cases hsr : s = r
        · subst hsr; exact ⟨R, hg⟩
        · rw [set_get_ne hsr] at hgs; exact ⟨R1, hgs⟩
      obtain ⟨R0, hg0⟩ := h0
      obtain ⟨L0, k⟩ := h.loops.ok s R0 q hs hg0 hq
      rw [World.putObj_heap_other (ne k.obj)] at hl
      exact ⟨R0, hg0, hl⟩
    obtain ⟨R3, a1, a2⟩ := old s R1 q1 L1 hs hg1 hq1 hl1
    obtain ⟨R4, b1, b2⟩ := old t R2 q2 L2 ht hg2 hq2 hl2
    exact h.loops.apart s t R3 R4 q1 q2 L1 L2 hs ht hne a1 b1 hq1 hq2 a2 b2
end
end Go.Am
