import Derived.Test.YtdbgdhjcpmacoaaDoorAmBD
set_option linter.unusedSimpArgs false
set_option linter.unusedVariables false
set_option maxHeartbeats 8000000
set_option maxRecDepth 100000
set_option synthInstance.maxHeartbeats 4000000
set_option synthInstance.maxSize 1000000000
namespace Go.Am
open Go
attribute [local irreducible] Wp WpO WpX WpE
def fsStep (f : Int → Int × Int) (s : Int × Int) (k : Int) : Int × Int := bif (f k).2 == 0 then (bif decide ((f k).1 > s.2) then (k, (f k).1) else s) else s
def fsA (f : Int → Int × Int) (acc : List Int) : Int × Int := acc.foldl (fsStep f) (0, -1)
theorem fsA_snoc (f : Int → Int × Int) (acc : List Int) (k : Int) : fsA f (acc ++ [k]) = fsStep f (fsA f acc) k := by simp [fsA]
abbrev skAll : List Int := [0, 1, -1, 2, -2, 3, -3]
def findS (g : Img) : Int × Int := bif g.err == 0 then ((fsA (fwS g) skAll).1, 0) else (0, g.err)
abbrev fsnA : RCode := .region [⟨(some 7), .mov (.tmp 15), none⟩]
abbrev fsnB : RCode := .block 1 (.seq (.region [⟨(some 17), .load (some 3) (.tmp 1), none⟩,
   ⟨(some 18), .mov (.tmp 7), none⟩,
   ⟨(some 19), .call (.val (.func (.func 39) [] [])) [(.tmp 17), (.tmp 18)], none⟩,
   ⟨(some 16), .mov (.tmp 19), none⟩,
   ⟨(some 20), .extract (.tmp 16) 0, none⟩,
   ⟨(some 21), .extract (.tmp 16) 1, none⟩,
   ⟨(some 8), .mov (.tmp 20), none⟩,
   ⟨(some 9), .mov (.tmp 21), none⟩])
  (.seq (.region [⟨(some 22), .mov (.tmp 9), none⟩,
   ⟨(some 23), .bin .eql (.tmp 22) (.val (.int .i64 0)), none⟩,
   ⟨(some 24), .mov (.tmp 23), none⟩,
   ⟨(some 25), .mov (.tmp 8), some (24, true)⟩,
   ⟨(some 26), .load none (.tmp 6), some (24, true)⟩,
   ⟨(some 27), .bin .gtr (.tmp 25) (.tmp 26), some (24, true)⟩,
   ⟨(some 28), .pick (.tmp 24) (.tmp 27) (.val (.bool false)), none⟩])
  (.cond (.tmp 28) (.region [⟨(some 29), .mov (.tmp 7), none⟩,
    ⟨(some 30), .mov (.tmp 8), none⟩,
    ⟨none, .store 1 (.tmp 5) (.tmp 29), none⟩,
    ⟨none, .store 1 (.tmp 6) (.tmp 30), none⟩])
  (.skip))))
abbrev fsnL (d : Nat) (fr : AFrame) : RLoop := ⟨d, 32, fr, [15], fsnA, fsnB, 0, .normal⟩
structure JF (f : Int → Int × Int) (Hb : AHeap) (rb rm r : Nat) (R0 : RLoop) (acc : List Int) (H : AHeap) : Prop where
 n : Hb.n ≤ H.n
 get : ∀ s, s < Hb.n → s ≠ rb → s ≠ rm → H.get s = Hb.get s
 best : HasRow H rb [.int .i64 (fsA f acc).1] true (2 * 3)
 most : HasRow H rm [.int .i64 (fsA f acc).2] true (2 * 3)
 loop : HasLoop H r R0
theorem JF.row {f : Int → Int × Int} {Hb H : AHeap} {rb rm r s : Nat} {R0 : RLoop} {acc : List Int} {cs : List AVal} {rw : Bool} {e : TypeId} (h : JF f Hb rb rm r R0 acc H) (k : HasRow Hb s cs rw e) (h1 : s ≠ rb) (h2 : s ≠ rm) : HasRow H s cs rw e := ⟨Nat.lt_of_lt_of_le k.lt h.n, by rw [h.get s k.lt h1 h2]; exact k.get⟩
theorem JF.bytes {f : Int → Int × Int} {Hb H : AHeap} {rb rm r : Nat} {R0 : RLoop} {acc : List Int} {p : AVal} {l : List UInt8} (h : JF f Hb rb rm r R0 acc H) (k : BytesI Hb p l) (h1 : RowNe p rb) (h2 : RowNe p rm) : BytesI H p l := k.keep h.n fun s _ _ _ _ e hs => h.get s hs (h1.ne _ _ _ _ _ e) (h2.ne _ _ _ _ _ e)
theorem round_skew {w h : Int} {l : List UInt8} {p : AVal} {Hb H : AHeap} {r1 rb rm r d n : Nat} {fr : AFrame} {acc : List Int} {k : Int} (h1 : fr 1 = .ptr r1 0) (h5 : fr 5 = .ptr rb 0) (h6 : fr 6 = .ptr rm 0) (k1 : HasRow Hb r1 [.int .i64 w, .int .i64 h, p] true (2 * 29)) (kp : BytesI Hb p l) (n1 : r1 ≠ rb) (n2 : r1 ≠ rm) (n3 : rb ≠ rm) (p1 : RowNe p rb) (p2 : RowNe p rm) (hrb : rb < Hb.n) (hrm : rm < Hb.n) (hr : Hb.n ≤ r) (hJ : JF (fwS ⟨w, h, l⟩) Hb rb rm r (fsnL d fr) acc H) (hn : fuel0 + 8 ≤ n) :
  ∃ H', callN ext prog n yieldId [.yield r, .int .i64 k] H = some (.bool true, H') ∧ JF (fwS ⟨w, h, l⟩) Hb rb rm r (fsnL d fr) (acc ++ [k]) H' := by
 obtain ⟨j, rfl⟩ : ∃ j, n = j + 1 := ⟨n - 1, by omega⟩
 have hn' : fuel0 + 7 ≤ j := by omega
 haveI := hJ.loop
 haveI := hJ.best
 haveI := hJ.most
 haveI := hJ.row k1 n1 n2
 haveI := hJ.bytes kp p1 p2
 haveI := kp.one
 haveI e1 : NeR rb r := ⟨by omega⟩
 haveI e2 : NeR r rb := ⟨by omega⟩
 haveI e3 : NeR rm r := ⟨by omega⟩
 haveI e4 : NeR r rm := ⟨by omega⟩
 haveI e5 : NeR rb rm := ⟨n3⟩
 haveI e6 : NeR rm rb := ⟨Ne.symm n3⟩
 haveI e7 : NeR r1 r := ⟨by have := k1.lt; omega⟩
 haveI e8 : NeR r r1 := ⟨by have := k1.lt; omega⟩
 haveI : RowNe p r := ⟨fun r' off len cap sz q => by have := kp.lt q; omega⟩
 refine round_next (R := fsnL d fr) rfl hJ.loop rfl rfl rfl ?_
 show Wp (callN ext prog j) j fsnA (upd fr 15 (.int .i64 k)) H _
 simp only [h1, h5, h6]
 refine rg fun KF hKF => ?_
 refine mI ?_
 refine nl hKF ?_
 refine ⟨rfl, inferInstance, ?_⟩
 show Wp (callN ext prog j) j fsnB _ _ _
 have hn := hn'
 refine Wp.block ?_
 refine sq ?_
 refine rg fun KF hKF => ?_
 refine Fo.ldN (n := 3) h1 rfl rfl ?_
 cases h0 : ((fwS ⟨w, h, l⟩ k).2 == 0)
 ·have e9 : fsA (fwS ⟨w, h, l⟩) (acc ++ [k]) = fsA (fwS ⟨w, h, l⟩) acc := by rw [fsA_snoc]; simp only [fsStep, h0, cond_false]
  simp only [↓nrmL, nrmZ, Nat.reduceEqDiff, ↓reduceIte, Nat.reduceAdd, Int.reduceBEq, Int.reduceBNe, h0]
  repeat first
   | refine ox ?_
   | refine mI ?_
   | refine mB ?_
   | refine mT ?_
   | (refine bn rfl rfl rfl (by simp only [h0]; rfl) ?_)
   | refine fB ?_
   | refine xt ?_
   | (refine Fo.pcall (v' := ?_) hn rfl (by simp only [↓nrmL, nrmZ, Nat.reduceEqDiff, ↓reduceIte, Nat.reduceAdd, Int.reduceBEq, Int.reduceBNe, h0, List.map]; rfl) rfl ?hv fun _ _ => ?_; case hv => rfl)
   | refine nl hKF ?_
   | refine sq ?_
   | refine rg fun KF hKF => ?_
   | refine cf rfl ?_
   | refine sk ?_
   | dsimp only [cond_true, cond_false]
  rename AHeap => H9
  rename ExtI _ H9 => hx9
  have hn9 := hx9.ext.n
  refine ⟨rfl, inferInstance, Nat.le_trans hJ.n hn9, fun s hs q1 q2 => ?_, by rw [e9]; infer_instance, by rw [e9]; infer_instance, inferInstance⟩
  have hsr : s ≠ r := by omega
  have hsn : s < H.n := Nat.lt_of_lt_of_le hs hJ.n
  rw [set_get_ne hsr, hx9.ext.get s hsn, set_get_ne hsr]
  exact hJ.get s hs q1 q2
 cases h9 : decide ((fwS ⟨w, h, l⟩ k).1 > (fsA (fwS ⟨w, h, l⟩) acc).2)
 ·have e9 : fsA (fwS ⟨w, h, l⟩) (acc ++ [k]) = fsA (fwS ⟨w, h, l⟩) acc := by rw [fsA_snoc]; simp only [fsStep, h0, cond_true, h9, cond_false]
  simp only [↓nrmL, nrmZ, Nat.reduceEqDiff, ↓reduceIte, Nat.reduceAdd, Int.reduceBEq, Int.reduceBNe, h0]
  repeat first
   | refine oy ?_
   | refine mI ?_
   | refine mB ?_
   | refine mT ?_
   | (refine bn rfl rfl rfl (by simp only [h0]; rfl) ?_)
   | refine xt ?_
   | (refine Fo.pcall (v' := ?_) hn rfl (by simp only [↓nrmL, nrmZ, Nat.reduceEqDiff, ↓reduceIte, Nat.reduceAdd, Int.reduceBEq, Int.reduceBNe, h0, List.map]; rfl) rfl ?hv fun _ _ => ?_; case hv => rfl)
   | refine nl hKF ?_
   | refine sq ?_
   | refine rg fun KF hKF => ?_
  refine Fo.ld (off := 0) h6 rfl ?_
  refine oy ?_
  refine bn rfl rfl rfl (by simp only [h9]; rfl) ?_
  refine tB ?_
  refine nl hKF ?_
  refine cf rfl ?_
  refine sk ?_
  dsimp only [cond_true, cond_false]
  rename AHeap => H9
  rename ExtI _ H9 => hx9
  have hn9 := hx9.ext.n
  refine ⟨rfl, inferInstance, Nat.le_trans hJ.n hn9, fun s hs q1 q2 => ?_, by rw [e9]; infer_instance, by rw [e9]; infer_instance, inferInstance⟩
  have hsr : s ≠ r := by omega
  have hsn : s < H.n := Nat.lt_of_lt_of_le hs hJ.n
  rw [set_get_ne hsr, hx9.ext.get s hsn, set_get_ne hsr]
  exact hJ.get s hs q1 q2
 ·have e9 : fsA (fwS ⟨w, h, l⟩) (acc ++ [k]) = (k, (fwS ⟨w, h, l⟩ k).1) := by rw [fsA_snoc]; simp only [fsStep, h0, cond_true, h9]
  simp only [↓nrmL, nrmZ, Nat.reduceEqDiff, ↓reduceIte, Nat.reduceAdd, Int.reduceBEq, Int.reduceBNe, h0]
  repeat first
   | refine oy ?_
   | refine mI ?_
   | refine mB ?_
   | refine mT ?_
   | (refine bn rfl rfl rfl (by simp only [h0]; rfl) ?_)
   | refine xt ?_
   | (refine Fo.pcall (v' := ?_) hn rfl (by simp only [↓nrmL, nrmZ, Nat.reduceEqDiff, ↓reduceIte, Nat.reduceAdd, Int.reduceBEq, Int.reduceBNe, h0, List.map]; rfl) rfl ?hv fun _ _ => ?_; case hv => rfl)
   | refine nl hKF ?_
   | refine sq ?_
   | refine rg fun KF hKF => ?_
  refine Fo.ld (off := 0) h6 rfl ?_
  refine oy ?_
  refine bn rfl rfl rfl (by simp only [h9]; rfl) ?_
  refine tB ?_
  refine nl hKF ?_
  refine ct rfl ?_
  refine rg fun KF hKF => ?_
  refine mI ?_
  refine mI ?_
  refine Fo.stO (v := .int .i64 k) (r := rb) (off := 0) (l := [.int .i64 k]) h5 rfl rfl rfl ?_
  refine Fo.stO (v := .int .i64 (fwS ⟨w, h, l⟩ k).1) (r := rm) (off := 0) (l := [.int .i64 (fwS ⟨w, h, l⟩ k).1]) h6 rfl rfl rfl ?_
  refine nl hKF ?_
  dsimp only [cond_true, cond_false]
  rename AHeap => H9
  rename ExtI _ H9 => hx9
  have hn9 := hx9.ext.n
  refine ⟨rfl, inferInstance, Nat.le_trans hJ.n hn9, fun s hs q1 q2 => ?_, by rw [e9]; infer_instance, by rw [e9]; infer_instance, inferInstance⟩
  have hsr : s ≠ r := by omega
  have hsn : s < H.n := Nat.lt_of_lt_of_le hs hJ.n
  rw [set_get_ne hsr, set_get_ne q2, set_get_ne q1, hx9.ext.get s hsn, set_get_ne hsr]
  exact hJ.get s hs q1 q2
theorem K_skews {r : Nat} {J : List Int → AHeap → Prop} {H : AHeap} {D : Nat} (hD : 1 ≤ D)
  (hy : ∀ acc H, J acc H → ∀ (k : Int) (n : Nat), fuel0 + D ≤ n → ∃ H', callN ext prog n yieldId [.yield r, .int .i64 k] H = some (.bool true, H') ∧ J (acc ++ [k]) H')
  (hJ : J [] H) : Con ext prog (D + 1) 38 [.yield r] H fun _ H' => J skAll H' := by
 refine con_of (show prog 38 = some c38 from rfl) rfl rfl fun n hn => ?_
 obtain ⟨H1, y1, j1⟩ := hy _ _ hJ 0 n (by omega)
 obtain ⟨H2, y2, j2⟩ := hy _ _ j1 1 n (by omega)
 obtain ⟨H3, y3, j3⟩ := hy _ _ j2 (-1) n (by omega)
 obtain ⟨H4, y4, j4⟩ := hy _ _ j3 2 n (by omega)
 obtain ⟨H5, y5, j5⟩ := hy _ _ j4 (-2) n (by omega)
 obtain ⟨H6, y6, j6⟩ := hy _ _ j5 3 n (by omega)
 obtain ⟨H7, y7, j7⟩ := hy _ _ j6 (-3) n (by omega)
 have u1 : IntKind.i64.wrap (0 - 1) = -1 := rfl
 have u2 : IntKind.i64.wrap (0 - 2) = -2 := rfl
 have u3 : IntKind.i64.wrap (0 - 3) = -3 := rfl
 have v1 : IntKind.i64.wrap (1 + 1) = 2 := rfl
 have v2 : IntKind.i64.wrap (2 + 1) = 3 := rfl
 have v3 : IntKind.i64.wrap (3 + 1) = 4 := rfl
 refine sq ?_
 refine sq ?_
 refine rg fun KF hKF => ?_
 refine mv ?_
 refine WpO.do (WpX.yield rfl rfl ⟨_, _, y1, ?_⟩)
 refine Fo.now rfl rfl (by simp only [↓nrmL, nrmZ, Nat.reduceEqDiff, ↓reduceIte, Nat.reduceAdd, Int.reduceBEq, Int.reduceBNe]; rfl) ?_
 refine nl hKF ?_
 refine cf rfl ?_
 refine sk ?_
 refine sq ?_
 refine rg fun KF hKF => ?_
 refine mI ?_
 refine nl hKF ?_
 refine Wp.block ?_
 dsimp only [cond_true, cond_false]
 refine Wp.rounds ?_
 refine WpN.round (by unfold fuel0 at hn; omega) ?_
 repeat first
  | refine mI ?_
  | (refine mv ?_)
  | refine b0 ?_
  | refine nl hKF ?_
  | refine sq ?_
  | refine rg fun KF hKF => ?_
  | refine ct rfl ?_
  | refine sk ?_
  | refine Wp.block ?_
 refine WpO.do (WpX.yield rfl rfl ⟨_, _, y2, ?_⟩)
 repeat first
  | refine oy ?_
  | refine mI ?_
  | refine mB ?_
  | (refine mv ?_)
  | (refine Fo.now rfl rfl (by simp only [u1]; rfl) ?_)
  | (refine Fo.now rfl rfl (by simp only [↓nrmL, nrmZ, Nat.reduceEqDiff, ↓reduceIte, Nat.reduceAdd, Int.reduceBEq, Int.reduceBNe, u1]; rfl) ?_)
 refine WpO.do (WpX.yield rfl rfl ⟨_, _, y3, ?_⟩)
 refine oy ?_
 refine Fo.now rfl rfl (by simp only [↓nrmL, nrmZ, Nat.reduceEqDiff, ↓reduceIte, Nat.reduceAdd, Int.reduceBEq, Int.reduceBNe, v1]; rfl) ?_
 refine fB ?_
 refine nl hKF ?_
 refine cf rfl ?_
 refine sk ?_
 refine rg fun KF hKF => ?_
 refine mI ?_
 refine bn rfl rfl rfl (by simp only [v1]; rfl) ?_
 refine mI ?_
 refine nl hKF ?_
 dsimp only [cond_true, cond_false]
 refine WpN.round (by unfold fuel0 at hn; omega) ?_
 repeat first
  | refine mI ?_
  | (refine mv ?_)
  | refine b0 ?_
  | refine nl hKF ?_
  | refine sq ?_
  | refine rg fun KF hKF => ?_
  | refine ct rfl ?_
  | refine sk ?_
  | refine Wp.block ?_
 refine WpO.do (WpX.yield rfl rfl ⟨_, _, y4, ?_⟩)
 repeat first
  | refine oy ?_
  | refine mI ?_
  | refine mB ?_
  | (refine mv ?_)
  | (refine Fo.now rfl rfl (by simp only [u2]; rfl) ?_)
  | (refine Fo.now rfl rfl (by simp only [↓nrmL, nrmZ, Nat.reduceEqDiff, ↓reduceIte, Nat.reduceAdd, Int.reduceBEq, Int.reduceBNe, u2]; rfl) ?_)
 refine WpO.do (WpX.yield rfl rfl ⟨_, _, y5, ?_⟩)
 refine oy ?_
 refine Fo.now rfl rfl (by simp only [↓nrmL, nrmZ, Nat.reduceEqDiff, ↓reduceIte, Nat.reduceAdd, Int.reduceBEq, Int.reduceBNe, v2]; rfl) ?_
 refine fB ?_
 refine nl hKF ?_
 refine cf rfl ?_
 refine sk ?_
 refine rg fun KF hKF => ?_
 refine mI ?_
 refine bn rfl rfl rfl (by simp only [v2]; rfl) ?_
 refine mI ?_
 refine nl hKF ?_
 dsimp only [cond_true, cond_false]
 refine WpN.round (by unfold fuel0 at hn; omega) ?_
 repeat first
  | refine mI ?_
  | (refine mv ?_)
  | refine b0 ?_
  | refine nl hKF ?_
  | refine sq ?_
  | refine rg fun KF hKF => ?_
  | refine ct rfl ?_
  | refine sk ?_
  | refine Wp.block ?_
 refine WpO.do (WpX.yield rfl rfl ⟨_, _, y6, ?_⟩)
 repeat first
  | refine oy ?_
  | refine mI ?_
  | refine mB ?_
  | (refine mv ?_)
  | (refine Fo.now rfl rfl (by simp only [u3]; rfl) ?_)
  | (refine Fo.now rfl rfl (by simp only [↓nrmL, nrmZ, Nat.reduceEqDiff, ↓reduceIte, Nat.reduceAdd, Int.reduceBEq, Int.reduceBNe, u3]; rfl) ?_)
 refine WpO.do (WpX.yield rfl rfl ⟨_, _, y7, ?_⟩)
 refine oy ?_
 refine Fo.now rfl rfl (by simp only [↓nrmL, nrmZ, Nat.reduceEqDiff, ↓reduceIte, Nat.reduceAdd, Int.reduceBEq, Int.reduceBNe, v3]; rfl) ?_
 refine fB ?_
 refine nl hKF ?_
 refine cf rfl ?_
 refine sk ?_
 refine rg fun KF hKF => ?_
 refine mI ?_
 refine bn rfl rfl rfl (by simp only [v3]; rfl) ?_
 refine mI ?_
 refine nl hKF ?_
 dsimp only [cond_true, cond_false]
 refine WpN.round (by unfold fuel0 at hn; omega) ?_
 refine sq ?_
 refine sq ?_
 refine rg fun KF hKF => ?_
 refine mI ?_
 refine b0 ?_
 refine nl hKF ?_
 refine cf rfl ?_
 refine xi ?_
 dsimp only [cond_true, cond_false]
 refine rz trivial ?_
 exact j7
end Go.Am
namespace Go.Am
open Go
attribute [local irreducible] Wp WpO WpX WpE
theorem JF.start {f : Int → Int × Int} {Hb : AHeap} {rb rm : Nat} {R0 : RLoop} (k1 : HasRow Hb rb [.int .i64 0] true (2 * 3)) (k2 : HasRow Hb rm [.int .i64 (-1)] true (2 * 3)) : JF f Hb rb rm (Hb.n + 1) R0 [] ((Hb.push .dead).push (.loop R0)) :=
 ⟨by simp only [AHeap.push]; omega, fun s hs _ _ => by rw [push_get_lt (by simp only [AHeap.push]; omega), push_get_lt hs],
  (inferInstance : HasRow ((Hb.push .dead).push (.loop R0)) rb [.int .i64 0] true (2 * 3)), (inferInstance : HasRow ((Hb.push .dead).push (.loop R0)) rm [.int .i64 (-1)] true (2 * 3)),
  (inferInstance : HasLoop ((Hb.push .dead).push (.loop R0)) (Hb.push .dead).n R0)⟩
theorem find_run {w h : Int} {l : List UInt8} {p : AVal} {Hb : AHeap} {r1 rb rm n : Nat} {fr : AFrame} (h1 : fr 1 = .ptr r1 0) (h5 : fr 5 = .ptr rb 0) (h6 : fr 6 = .ptr rm 0) [k1 : HasRow Hb r1 [.int .i64 w, .int .i64 h, p] true (2 * 29)] [kp : BytesI Hb p l] (k2 : HasRow Hb rb [.int .i64 0] true (2 * 3)) (k3 : HasRow Hb rm [.int .i64 (-1)] true (2 * 3)) (n1 : r1 ≠ rb) (n2 : r1 ≠ rm) (n3 : rb ≠ rm) (p1 : RowNe p rb) (p2 : RowNe p rm) (hn : fuel0 + 9 ≤ n) {P : AVal → AHeap → RLoop → Prop} (hP : ∀ v H3, JF (fwS ⟨w, h, l⟩) Hb rb rm (Hb.n + 1) (fsnL Hb.n fr) skAll H3 → P v H3 (fsnL Hb.n fr)) :
  ∃ v H3 R, callN ext prog n 38 ([] ++ [.yield (Hb.n + 1)] ++ []) ((Hb.push .dead).push (.loop ⟨Hb.n, 32, fr, [15], fsnA, fsnB, 0, .normal⟩)) = some (v, H3) ∧ H3.get (Hb.n + 1) = .loop R ∧ (Nat.beq R.st 1 || Nat.beq R.st 4) = false ∧ P v H3 R := by
 obtain ⟨v, H3, e3, hJ⟩ := K_skews (r := Hb.n + 1) (J := JF (fwS ⟨w, h, l⟩) Hb rb rm (Hb.n + 1) (fsnL Hb.n fr)) (D := 8) (by decide)
  (fun acc H4 hJ k m hm => round_skew h1 h5 h6 k1 kp n1 n2 n3 p1 p2 k2.lt k3.lt (Nat.le_succ _) hJ hm)
  (JF.start k2 k3) n (by omega)
 exact ⟨v, H3, _, e3, hJ.loop.get, rfl, hP v H3 hJ⟩
instance K_FindSkew {w h : Int} {p : AVal} {H : AHeap} {l : List UInt8} [hp : BytesI H p l] : PureCon ext prog 20 [.agg [.int .i64 w, .int .i64 h, p]] H 11 (.tuple [.int .i64 (findS ⟨w, h, l⟩).1, .int .i64 (findS ⟨w, h, l⟩).2]) := ⟨by
 refine con_ofR (show prog 20 = some c20 from rfl) rfl rfl fun n hn => ?_
 haveI := hp.one
 cases h0 : (Img.err ⟨w, h, l⟩ == 0)
 ·have e1 : findS ⟨w, h, l⟩ = (0, Img.err ⟨w, h, l⟩) := by simp only [findS, h0, cond_false]
  rw [e1]
  simp only [h0, bne]
  repeat first
   | refine mI ?_
   | (refine Fo.ldN rfl rfl (by simp only [↓nrmL, nrmZ, Nat.reduceEqDiff, ↓reduceIte, Nat.reduceAdd, Int.reduceBEq, Int.reduceBNe, h0, bne]; rfl) ?_)
   | (refine bn rfl rfl rfl (by simp only [h0, bne]; rfl) ?_)
   | (refine Fo.pcall (v' := ?_) hn rfl (by simp only [↓nrmL, nrmZ, Nat.reduceEqDiff, ↓reduceIte, Nat.reduceAdd, Int.reduceBEq, Int.reduceBNe, h0, bne, List.map]; rfl) rfl ?hv fun _ _ => ?_; case hv => rfl)
   | refine bA ?_
   | refine nl hKF ?_
   | refine sq ?_
   | refine rg fun KF hKF => ?_
   | refine ct rfl ?_
   | refine rt ?_
   | dsimp only [cond_true, cond_false]
  exact ⟨trivial, _, rfl, _, rfl, rfl, Ext0.ext⟩
 have e1 : findS ⟨w, h, l⟩ = ((fsA (fwS ⟨w, h, l⟩) skAll).1, 0) := by simp only [findS, h0, cond_true]
 rw [e1]
 simp only [h0, bne]
 repeat first
  | refine mI ?_
  | (refine Fo.ldN rfl rfl (by simp only [↓nrmL, nrmZ, Nat.reduceEqDiff, ↓reduceIte, Nat.reduceAdd, Int.reduceBEq, Int.reduceBNe, h0, bne]; rfl) ?_)
  | (refine bn rfl rfl rfl (by simp only [h0, bne]; rfl) ?_)
  | (refine Fo.pcall (v' := ?_) hn rfl (by simp only [↓nrmL, nrmZ, Nat.reduceEqDiff, ↓reduceIte, Nat.reduceAdd, Int.reduceBEq, Int.reduceBNe, h0, bne, List.map]; rfl) rfl ?hv fun _ _ => ?_; case hv => rfl)
  | refine bA ?_
  | refine nw ?_
  | (refine so rfl (rfl : _ = AVal.int _ _) rfl rfl rfl (by simp only [↓nrmL, nrmZ, Nat.reduceEqDiff, ↓reduceIte, Nat.reduceAdd, Int.reduceBEq, Int.reduceBNe, h0, bne]; rfl) ?_)
  | refine nl hKF ?_
  | refine sq ?_
  | refine rg fun KF hKF => ?_
  | refine cf rfl ?_
  | refine sk ?_
  | refine Wp.block ?_
  | dsimp only [cond_true, cond_false]
 rename AHeap => H1
 refine Wp.range (gf := 38) (fi := []) (ca := []) (vs := []) rfl rfl rfl ?_
 rename ExtI _ H1 => hx1
 have hH1 : H.n < H1.n := hx1.ext.n
 obtain ⟨Hb, hHb⟩ : ∃ Hb, (((H1.push (.row [.int .i64 0] true (2 * 3))).push (.row [.int .i64 0] true (2 * 3))).set H1.n (.row [.int .i64 0] true (2 * 3))).set (H1.push (.row [.int .i64 0] true (2 * 3))).n (.row [.int .i64 (-1)] true (2 * 3)) = Hb := ⟨_, rfl⟩
 have c1 : HasRow Hb H.n [.int .i64 w, .int .i64 h, p] true (2 * 29) := by rw [← hHb]; infer_instance
 have c2 : BytesI Hb p l := by rw [← hHb]; infer_instance
 have c3 : HasRow Hb H1.n [.int .i64 0] true (2 * 3) := by rw [← hHb]; infer_instance
 have c4 : HasRow Hb (H1.n + 1) [.int .i64 (-1)] true (2 * 3) := by rw [← hHb]; exact (inferInstance : HasRow (((((H1.push (.row [.int .i64 0] true (2 * 3))).push (.row [.int .i64 0] true (2 * 3))).set H1.n (.row [.int .i64 0] true (2 * 3))).set (H1.push (.row [.int .i64 0] true (2 * 3))).n (.row [.int .i64 (-1)] true (2 * 3)))) (H1.push (.row [.int .i64 0] true (2 * 3))).n [.int .i64 (-1)] true (2 * 3))
 have c5 : Ext H Hb := by rw [← hHb]; exact Ext0.ext
 have c6 : RowNe p H1.n := inferInstance
 have c7 : RowNe p (H1.n + 1) := ⟨fun r off len cap sz q => by have := hp.lt q; omega⟩
 have c8 : Hb.n = H1.n + 2 := by rw [← hHb]; rfl
 rw [hHb]
 refine find_run (w := w) (h := h) (l := l) (r1 := H.n) (rb := H1.n) (rm := H1.n + 1) rfl rfl rfl c3 c4 (by omega) (by omega) (by omega) c6 c7 (by omega) fun v H3 hJ => ?_
 haveI := hJ.loop
 haveI := hJ.best
 haveI : NeR H1.n (Hb.n + 1) := ⟨by omega⟩
 have hHn := c5.n
 have h3n := hJ.n
 refine sq ?_
 refine rg fun KF hKF => ?_
 refine Fo.ld rfl rfl ?_
 refine mI ?_
 refine mI ?_
 refine nl hKF ?_
 refine rt ?_
 dsimp only [cond_true, cond_false]
 refine ⟨trivial, _, takeMarks1 (d := Hb.n) (l := Hb.n + 1) inferInstance rfl rfl, _, rfl, rfl, ?_⟩
 refine ⟨Nat.le_trans hHn h3n, fun s hs => ?_⟩
 rw [set_get_ne (by omega), set_get_ne (by omega), hJ.get s (by omega) (by omega) (by omega)]
 exact c5.get s hs⟩
end Go.Am
namespace Go.Am
open Go
attribute [local irreducible] Wp WpO WpX WpE
theorem full_ok {a b : Nat} {l : List UInt8} (ok : Ok a b l) : fullS ⟨a, b, l⟩ = ((fullN l a b : Int), 0) := by
 simp only [fullS, ok.err, beq_self_eq_true, cond_true, Int.toNat_natCast]
theorem un_no {a b : Nat} {k : Int} {l : List UInt8} (ok : Ok a b l) (hk : skB k = true) (h : ¬ grN a k a ≤ b) : unskewS ⟨a, b, l⟩ k = (.zero, 2) ∧ fwS ⟨a, b, l⟩ k = (0, 2) := by
 have e : unskewS ⟨a, b, l⟩ k = (.zero, 2) := by
  simp only [unskewS, ckS_ok ok hk, beq_self_eq_true, cond_true, Int.toNat_natCast]
  rw [decide_eq_false (by omega)]; rfl
 exact ⟨e, by unfold fwS; rw [e]; rfl⟩
theorem un_ok {a b c : Nat} {k : Int} {l : List UInt8} (ok : Ok a b l) (hk : skB k = true) (h : b = c + grN a k a) : unskewS ⟨a, b, l⟩ k = (⟨a, c, unskewL l a c k⟩, 0) ∧ Ok a c (unskewL l a c k) ∧ fwS ⟨a, b, l⟩ k = ((fullN (unskewL l a c k) a c : Int), 0) := by
 have e : unskewS ⟨a, b, l⟩ k = (⟨a, c, unskewL l a c k⟩, 0) := by
  simp only [unskewS, ckS_ok ok hk, beq_self_eq_true, cond_true, Int.toNat_natCast]
  rw [decide_eq_true (by omega), cond_true, show (b : Int) - (grN a k a : Int) = (c : Int) by omega, show b - grN a k a = c by omega]
 have o := unskewL_ok (k := k) ok h
 exact ⟨e, o, by unfold fwS; rw [e]; exact full_ok o⟩
theorem skAll_in : ∀ i, i < 7 → skB (skAll.getD i 0) = true := by decide
end Go.Am
namespace Go.Am
open Go
def lvU (s : Int × Int) (a b : Int) : Int × Int := bif decide (b - a > s.2) then ((a + b + 1).tdiv 2, b - a) else s
def lvP (c : Nat → Int) : Nat → (Int × Int) × Int
  | 0 => ((128, 0), -1)
  | i + 1 => bif c i == 0 then lvP c i else ((bif decide ((lvP c i).2 ≥ 0) then lvU (lvP c i).1 (lvP c i).2 i else (lvP c i).1), (i : Int))
theorem lvP_bd (c : Nat → Int) : ∀ i, -1 ≤ (lvP c i).2 ∧ (lvP c i).2 < i ∨ ((lvP c i).2 = -1)
  | 0 => Or.inr rfl
  | i + 1 => by
    have := lvP_bd c i
    simp only [lvP]
    cases (c i == 0)
    · left; simp only [cond_false]; omega
    · simp only [cond_true]; omega
def levelS (g : Img) : Int × Int := bif g.sized then ((lvP (fun i => (lv g.px).getD i 0) 256).1.1, 0) else (0, 2)
end Go.Am
namespace Go.Am
open Go
attribute [local irreducible] Wp WpO WpX WpE
theorem lv_get {l : List UInt8} {i : Nat} (h : i < (lv l).length) : (lv l)[i] = (lv l).getD i 0 := by
 rw [List.getD_eq_getElem?_getD, List.getElem?_eq_getElem h, Option.getD_some]
instance K_Level {w h : Int} {p : AVal} {H : AHeap} {l : List UInt8} [hp : BytesI H p l] : PureCon ext prog 18 [.agg [.int .i64 w, .int .i64 h, p]] H 5 (.tuple [.int .i64 (levelS ⟨w, h, l⟩).1, .int .i64 (levelS ⟨w, h, l⟩).2]) := ⟨by
 refine con_of (show prog 18 = some c18 from rfl) rfl rfl fun n hn => ?_
 haveI := hp.one
 cases hs : Img.sized ⟨w, h, l⟩
 ·have e1 : levelS ⟨w, h, l⟩ = (0, 2) := by simp only [levelS, hs, cond_false]
  have e2 : lvSpec ⟨w, h, l⟩ = ([], 2) := by simp [lvSpec, hs]
  rw [e1]
  repeat first
   | refine mI ?_
   | (refine Fo.ldN rfl rfl (by simp only [↓nrmL, nrmZ, Nat.reduceEqDiff, ↓reduceIte, Nat.reduceAdd, Int.reduceBEq, Int.reduceBNe]; rfl) ?_)
   | refine bA ?_
   | refine nl hKF ?_
   | refine sq ?_
   | refine rg fun KF hKF => ?_
  refine WpO.do (WpX.conD hn rfl rfl (by simp only [↓nrmL, nrmZ, Nat.reduceEqDiff, ↓reduceIte, Nat.reduceAdd, Int.reduceBEq, Int.reduceBNe, List.map] <;> rfl) (K_Levels (w := w) (h := h) (l := l)) fun v H1 h5 => ?_)
  rw [e2] at h5
  obtain ⟨q, rfl, hq, hf, hw, hx⟩ := h5
  haveI : ExtI _ H1 := ⟨hx⟩
  haveI := hq.one
  repeat first
   | refine mI ?_
   | refine mT ?_
   | (refine mv ?_)
   | (refine bn rfl rfl rfl (by simp only [↓nrmL, nrmZ, Nat.reduceEqDiff, ↓reduceIte, Nat.reduceAdd, Int.reduceBEq, Int.reduceBNe]; rfl) ?_)
   | refine xt ?_
   | refine nl hKF ?_
   | refine sq ?_
   | refine rg fun KF hKF => ?_
   | refine ct rfl ?_
   | refine rt ?_
   | dsimp only [cond_true, cond_false]
  refine rz trivial ?_
  exact ⟨rfl, Ext0.ext⟩
 have e1 : levelS ⟨w, h, l⟩ = ((lvP (fun i => (lv l).getD i 0) 256).1.1, 0) := by simp only [levelS, hs, cond_true]
 have e2 : lvSpec ⟨w, h, l⟩ = (lv l, 0) := by simp [lvSpec, hs]
 rw [e1]
 repeat first
  | refine mI ?_
  | (refine Fo.ldN rfl rfl (by simp only [↓nrmL, nrmZ, Nat.reduceEqDiff, ↓reduceIte, Nat.reduceAdd, Int.reduceBEq, Int.reduceBNe]; rfl) ?_)
  | refine bA ?_
  | refine nl hKF ?_
  | refine sq ?_
  | refine rg fun KF hKF => ?_
 refine WpO.do (WpX.conD hn rfl rfl (by simp only [↓nrmL, nrmZ, Nat.reduceEqDiff, ↓reduceIte, Nat.reduceAdd, Int.reduceBEq, Int.reduceBNe, List.map] <;> rfl) (K_Levels (w := w) (h := h) (l := l)) fun v H1 h5 => ?_)
 rw [e2] at h5
 obtain ⟨q, rfl, hq, hf, hw, hx⟩ := h5
 haveI : ExtI _ H1 := ⟨hx⟩
 have hq : IntsI H1 q (lv l) := hq
 haveI := hq.one
 have hll := lv_length l
 repeat first
  | refine mI ?_
  | refine mT ?_
  | (refine mv ?_)
  | (refine bn rfl rfl rfl (by simp only [↓nrmL, nrmZ, Nat.reduceEqDiff, ↓reduceIte, Nat.reduceAdd, Int.reduceBEq, Int.reduceBNe]; rfl) ?_)
  | refine xt ?_
  | (refine ln (by simp only [↓nrmL, nrmK, Nat.reduceEqDiff, ↓reduceIte]; rfl) ?_)
  | refine nl hKF ?_
  | refine sq ?_
  | refine rg fun KF hKF => ?_
  | refine cf rfl ?_
  | refine sk ?_
  | refine Wp.block ?_
  | dsimp only [cond_true, cond_false]
 refine Wp.loopS [6, 7, 8, 9, 10, 11, 22, 23, 24, 25, 26, 27, 28, 29, 30, 31, 32, 33, 34, 35, 36, 37, 38, 39, 40, 41, 42, 43, 44, 45, 46, 47, 48] (fun i : Nat => [(22, .int .i64 i), (6, .int .i64 (lvP (fun i => (lv l).getD i 0) i).1.1), (7, .int .i64 (lvP (fun i => (lv l).getD i 0) i).1.2), (8, .int .i64 (lvP (fun i => (lv l).getD i 0) i).2)]) (fun H3 i H2 => i ≤ 256 ∧ H2 = H3) (fun i => 256 - i) 0 rfl (fun _ => rfl) ⟨rfl, rfl, rfl, rfl, trivial⟩ ⟨Nat.zero_le _, rfl⟩ (by unfold fuel0 at hn; omega) ?_
 rintro i g H2 ⟨hi, rfl⟩
 simp only [↓nrmL, nrmZ, Nat.reduceEqDiff, ↓reduceIte, Nat.reduceAdd, Int.reduceBEq, Int.reduceBNe]
 cases hc : decide ((i : Int) < (((lv l).length : Nat) : Int))
 ·have hil : i = 256 := by have := of_decide_eq_false hc; omega
  subst hil
  repeat first
   | refine mI ?_
   | (refine bn rfl rfl rfl (by simp only [hc]; rfl) ?_)
   | refine nl hKF ?_
   | refine sq ?_
   | refine rg fun KF hKF => ?_
   | refine cf rfl ?_
   | refine rt ?_
   | refine xi ?_
   | dsimp only [cond_true, cond_false]
  refine rz trivial ?_
  exact ⟨rfl, Ext0.ext⟩
 have hil : i < 256 := by have := of_decide_eq_true hc; omega
 have hilt : i < (lv l).length := by omega
 have hw1 := wa1 (a := i) (by omega)
 have hge := lv_get hilt
 obtain ⟨P, hP⟩ : ∃ P, lvP (fun i => (lv l).getD i 0) i = P := ⟨_, rfl⟩
 have hbd := lvP_bd (fun i => (lv l).getD i 0) i
 have hnx : lvP (fun i => (lv l).getD i 0) (i + 1) = bif (lv l).getD i 0 == 0 then P else ((bif decide (P.2 ≥ 0) then lvU P.1 P.2 i else P.1), (i : Int)) := by rw [← hP]; rfl
 rw [hP] at hbd
 simp only [hP]
 cases h0 : ((lv l).getD i 0 == 0)
 ·rw [h0, cond_false] at hnx
  cases g1 : decide (P.2 ≥ 0)
  ·rw [g1, cond_false] at hnx
   repeat first
    | refine ox ?_
    | refine mI ?_
    | refine mB ?_
    | (refine bn rfl rfl rfl (by simp only [hc, hge, h0, g1]; rfl) ?_)
    | refine b0 ?_
    | refine fB ?_
    | (refine Fo.idx (by simp only [↓nrmL, nrmK, Nat.reduceEqDiff, ↓reduceIte]; rfl) rfl ?_ (by simp only [↓nrmL, nrmZ, Nat.reduceEqDiff, ↓reduceIte, Nat.reduceAdd, Int.reduceBEq, Int.reduceBNe, hc, hge, h0, g1]; rfl) ?_; (focus omega))
    | (refine Fo.ldI rfl ?_ (by simp only [hc, hge, h0, g1]; rfl) ?_; (focus omega))
    | refine nl hKF ?_
    | refine sq ?_
    | refine rg fun KF hKF => ?_
    | refine ct rfl ?_
    | refine cf rfl ?_
    | refine sk ?_
    | refine Wp.block ?_
    | dsimp only [cond_true, cond_false]
   refine ⟨i + 1, by omega, ⟨by simp only [↓nrmL, nrmZ, Nat.reduceEqDiff, ↓reduceIte, Nat.reduceAdd, Int.reduceBEq, Int.reduceBNe]; rw [hw1], by simp only [↓nrmL, nrmZ, Nat.reduceEqDiff, ↓reduceIte, Nat.reduceAdd, Int.reduceBEq, Int.reduceBNe]; rw [hnx], by simp only [↓nrmL, nrmZ, Nat.reduceEqDiff, ↓reduceIte, Nat.reduceAdd, Int.reduceBEq, Int.reduceBNe]; rw [hnx], by simp only [↓nrmL, nrmZ, Nat.reduceEqDiff, ↓reduceIte, Nat.reduceAdd, Int.reduceBEq, Int.reduceBNe]; rw [hnx], trivial⟩, hil, rfl⟩
  rw [g1, cond_true] at hnx
  have w1 : IntKind.i64.wrap ((i : Int) - P.2) = (i : Int) - P.2 := w64 (by omega)
  cases g2 : decide ((i : Int) - P.2 > P.1.2)
  ·have e3 : lvU P.1 P.2 i = P.1 := by unfold lvU; rw [g2]; rfl
   rw [e3] at hnx
   repeat first
    | refine oy ?_
    | refine mI ?_
    | refine mB ?_
    | (refine bn rfl rfl rfl (by simp only [hc, hge, h0, g1, w1, g2]; rfl) ?_)
    | refine b0 ?_
    | refine tB ?_
    | (refine Fo.idx (by simp only [↓nrmL, nrmK, Nat.reduceEqDiff, ↓reduceIte]; rfl) rfl ?_ (by simp only [↓nrmL, nrmZ, Nat.reduceEqDiff, ↓reduceIte, Nat.reduceAdd, Int.reduceBEq, Int.reduceBNe, hc, hge, h0, g1, w1, g2]; rfl) ?_; (focus omega))
    | (refine Fo.ldI rfl ?_ (by simp only [hc, hge, h0, g1, w1, g2]; rfl) ?_; (focus omega))
    | refine nl hKF ?_
    | refine sq ?_
    | refine rg fun KF hKF => ?_
    | refine ct rfl ?_
    | refine cf rfl ?_
    | refine sk ?_
    | refine Wp.block ?_
    | dsimp only [cond_true, cond_false]
   refine ⟨i + 1, by omega, ⟨by simp only [↓nrmL, nrmZ, Nat.reduceEqDiff, ↓reduceIte, Nat.reduceAdd, Int.reduceBEq, Int.reduceBNe]; rw [hw1], by simp only [↓nrmL, nrmZ, Nat.reduceEqDiff, ↓reduceIte, Nat.reduceAdd, Int.reduceBEq, Int.reduceBNe]; rw [hnx], by simp only [↓nrmL, nrmZ, Nat.reduceEqDiff, ↓reduceIte, Nat.reduceAdd, Int.reduceBEq, Int.reduceBNe]; rw [hnx], by simp only [↓nrmL, nrmZ, Nat.reduceEqDiff, ↓reduceIte, Nat.reduceAdd, Int.reduceBEq, Int.reduceBNe]; rw [hnx], trivial⟩, hil, rfl⟩
  ·have e3 : lvU P.1 P.2 i = ((P.2 + i + 1).tdiv 2, (i : Int) - P.2) := by unfold lvU; rw [g2]; rfl
   rw [e3] at hnx
   have w2 : IntKind.i64.wrap (P.2 + (i : Int)) = P.2 + (i : Int) := w64 (by omega)
   have w3 : IntKind.i64.wrap (P.2 + (i : Int) + 1) = P.2 + (i : Int) + 1 := w64 (by omega)
   have w4 : IntKind.i64.wrap ((P.2 + (i : Int) + 1).tdiv 2) = (P.2 + (i : Int) + 1).tdiv 2 := by
    have := of_decide_eq_true g1
    obtain ⟨z, hz⟩ : ∃ z : Nat, P.2 + (i : Int) + 1 = z := ⟨(P.2 + (i : Int) + 1).toNat, by omega⟩
    rw [hz, show ((z : Nat) : Int).tdiv 2 = ((z / 2 : Nat) : Int) from rfl]
    exact w64 (by omega)
   repeat first
    | refine oy ?_
    | refine mI ?_
    | refine mB ?_
    | (refine bn rfl rfl rfl (by simp only [hc, hge, h0, g1, w1, g2, w2, w3, w4]; rfl) ?_)
    | refine b0 ?_
    | refine tB ?_
    | (refine Fo.idx (by simp only [↓nrmL, nrmK, Nat.reduceEqDiff, ↓reduceIte]; rfl) rfl ?_ (by simp only [↓nrmL, nrmZ, Nat.reduceEqDiff, ↓reduceIte, Nat.reduceAdd, Int.reduceBEq, Int.reduceBNe, hc, hge, h0, g1, w1, g2, w2, w3, w4]; rfl) ?_; (focus omega))
    | (refine Fo.ldI rfl ?_ (by simp only [hc, hge, h0, g1, w1, g2, w2, w3, w4]; rfl) ?_; (focus omega))
    | refine nl hKF ?_
    | refine sq ?_
    | refine rg fun KF hKF => ?_
    | refine ct rfl ?_
    | refine cf rfl ?_
    | refine sk ?_
    | refine Wp.block ?_
    | dsimp only [cond_true, cond_false]
   refine ⟨i + 1, by omega, ⟨by simp only [↓nrmL, nrmZ, Nat.reduceEqDiff, ↓reduceIte, Nat.reduceAdd, Int.reduceBEq, Int.reduceBNe]; rw [hw1], by simp only [↓nrmL, nrmZ, Nat.reduceEqDiff, ↓reduceIte, Nat.reduceAdd, Int.reduceBEq, Int.reduceBNe]; rw [hnx], by simp only [↓nrmL, nrmZ, Nat.reduceEqDiff, ↓reduceIte, Nat.reduceAdd, Int.reduceBEq, Int.reduceBNe]; rw [hnx], by simp only [↓nrmL, nrmZ, Nat.reduceEqDiff, ↓reduceIte, Nat.reduceAdd, Int.reduceBEq, Int.reduceBNe]; rw [hnx], trivial⟩, hil, rfl⟩
 ·rw [h0, cond_true] at hnx
  repeat first
   | refine mI ?_
   | (refine bn rfl rfl rfl (by simp only [hc, hge, h0]; rfl) ?_)
   | refine b0 ?_
   | (refine Fo.idx (by simp only [↓nrmL, nrmK, Nat.reduceEqDiff, ↓reduceIte]; rfl) rfl ?_ (by simp only [↓nrmL, nrmZ, Nat.reduceEqDiff, ↓reduceIte, Nat.reduceAdd, Int.reduceBEq, Int.reduceBNe, hc, hge, h0]; rfl) ?_; (focus omega))
   | (refine Fo.ldI rfl ?_ (by simp only [hc, hge, h0]; rfl) ?_; (focus omega))
   | refine nl hKF ?_
   | refine sq ?_
   | refine rg fun KF hKF => ?_
   | refine ct rfl ?_
   | refine sk ?_
   | refine Wp.block ?_
   | refine xi ?_
   | dsimp only [cond_true, cond_false]
  refine ⟨i + 1, by omega, ⟨by simp only [↓nrmL, nrmZ, Nat.reduceEqDiff, ↓reduceIte, Nat.reduceAdd, Int.reduceBEq, Int.reduceBNe]; rw [hw1], by simp only [↓nrmL, nrmZ, Nat.reduceEqDiff, ↓reduceIte, Nat.reduceAdd, Int.reduceBEq, Int.reduceBNe]; rw [hnx], by simp only [↓nrmL, nrmZ, Nat.reduceEqDiff, ↓reduceIte, Nat.reduceAdd, Int.reduceBEq, Int.reduceBNe]; rw [hnx], by simp only [↓nrmL, nrmZ, Nat.reduceEqDiff, ↓reduceIte, Nat.reduceAdd, Int.reduceBEq, Int.reduceBNe]; rw [hnx], trivial⟩, hil, rfl⟩⟩
class Small (l : List UInt8) : Prop where
 le : l.length ≤ 409600
end Go.Am
namespace Go.Am
open Go
def dxN : Nat → Int
  | 0 => 0 | 1 => 1 | 2 => 1 | 3 => 1 | 4 => 0 | 5 => -1 | 6 => -1 | _ => -1
def dyN : Nat → Int
  | 0 => -1 | 1 => -1 | 2 => 0 | 3 => 1 | 4 => 1 | 5 => 1 | 6 => 0 | _ => -1
theorem dN_opp : ∀ t < 8, dxN ((t + 4) % 8) = -dxN t ∧ dyN ((t + 4) % 8) = -dyN t := by decide
theorem dN_bd : ∀ t < 8, (-1 ≤ dxN t ∧ dxN t ≤ 1) ∧ (-1 ≤ dyN t ∧ dyN t ≤ 1) := by decide
def ringF (a b : Nat) (l : List UInt8) (x y : Int) (k : Nat) : Bool := inkB a b l (x + dxN k) (y + dyN k)
def bN (c : Bool) : Nat := bif c then 1 else 0
def pcN (f : Nat → Bool) : Nat := bN (!f 0 && (f 1 || f 2)) + bN (!f 2 && (f 3 || f 4)) + bN (!f 4 && (f 5 || f 6)) + bN (!f 6 && (f 7 || f 0))
def nbN (f : Nat → Bool) : Nat := bN (f 0) + bN (f 1) + bN (f 2) + bN (f 3) + bN (f 4) + bN (f 5) + bN (f 6) + bN (f 7)
def goesB (f : Nat → Bool) : Bool := (pcN f == 1) && decide (nbN f > 1)
theorem goes_congr {f g : Nat → Bool} (h : ∀ t < 8, f t = g t) : goesB f = goesB g := by
  have e0 := h 0 (by decide); have e1 := h 1 (by decide); have e2 := h 2 (by decide); have e3 := h 3 (by decide)
  have e4 := h 4 (by decide); have e5 := h 5 (by decide); have e6 := h 6 (by decide); have e7 := h 7 (by decide)
  unfold goesB pcN nbN
  rw [e0, e1, e2, e3, e4, e5, e6, e7]
def goesAt (a b : Nat) (l : List UInt8) (k : Nat) : Bool := goesB (ringF a b l ((k % a : Nat) : Int) ((k / a : Nat) : Int))
theorem inkB_true {a b : Nat} {l : List UInt8} {x y : Int} (h : inkB a b l x y = true) : ∃ u v : Nat, x = u ∧ y = v ∧ u < a ∧ v < b ∧ l.getD (v * a + u) 0 = 1 := by
  unfold inkB at h
  simp only [Bool.and_eq_true, decide_eq_true_eq, beq_iff_eq] at h
  obtain ⟨h1, h2, h3, h4, h5⟩ := h
  refine ⟨x.toNat, y.toNat, by omega, by omega, by omega, by omega, ?_⟩
  have e : (y * (a : Int) + x).toNat = y.toNat * a + x.toNat := by
    obtain ⟨u, rfl⟩ : ∃ u : Nat, x = u := ⟨x.toNat, by omega⟩
    obtain ⟨v, rfl⟩ : ∃ v : Nat, y = v := ⟨y.toNat, by omega⟩
    rw [← Int.natCast_mul, ← Int.natCast_add, Int.toNat_natCast, Int.toNat_natCast, Int.toNat_natCast]
  rw [← e]; exact h5
theorem inkB_mk {a b u v : Nat} {l : List UInt8} (hu : u < a) (hv : v < b) : inkB a b l (u : Int) (v : Int) = (l.getD (v * a + u) 0 == 1) := inkB_nat hu hv
theorem inkB_off {a b : Nat} {l m : List UInt8} {x y : Int} (h : ∀ u v : Nat, x = u → y = v → u < a → v < b → l.getD (v * a + u) 0 = m.getD (v * a + u) 0) : inkB a b l x y = inkB a b m x y := by
  by_cases h0 : 0 ≤ x ∧ x < a ∧ 0 ≤ y ∧ y < b
  · obtain ⟨u, rfl⟩ : ∃ u : Nat, x = u := ⟨x.toNat, by omega⟩
    obtain ⟨v, rfl⟩ : ∃ v : Nat, y = v := ⟨y.toNat, by omega⟩
    rw [inkB_mk (by omega) (by omega), inkB_mk (by omega) (by omega), h u v rfl rfl (by omega) (by omega)]
  · have e : ∀ q : List UInt8, inkB a b q x y = false := fun q => by
      cases hq : inkB a b q x y
      · rfl
      · obtain ⟨u, v, rfl, rfl, h1, h2, _⟩ := inkB_true hq
        exact absurd ⟨by omega, by omega, by omega, by omega⟩ h0
    rw [e, e]
def isNb (a b j t k : Nat) : Prop := ∃ u v : Nat, u < a ∧ v < b ∧ (u : Int) = ((j % a : Nat) : Int) + dxN t ∧ (v : Int) = ((j / a : Nat) : Int) + dyN t ∧ k = v * a + u
theorem div_lt {a b k : Nat} (hk : k < a * b) : 0 < a ∧ k % a < a ∧ k / a < b ∧ k = k / a * a + k % a := by
  have ha : 0 < a := by
    rcases Nat.eq_zero_or_pos a with h | h
    · rw [h, Nat.zero_mul] at hk; omega
    · exact h
  refine ⟨ha, Nat.mod_lt _ ha, Nat.div_lt_of_lt_mul hk, ?_⟩
  have := Nat.div_add_mod k a
  rw [Nat.mul_comm] at this
  exact this.symm
theorem at_div {a u v : Nat} (hu : u < a) : (v * a + u) % a = u ∧ (v * a + u) / a = v := by
  constructor
  · rw [Nat.add_comm, Nat.add_mul_mod_self_right, Nat.mod_eq_of_lt hu]
  · rw [Nat.add_comm, Nat.add_mul_div_right _ _ (by omega), Nat.div_eq_of_lt hu, Nat.zero_add]
theorem ring_set {a b j k : Nat} {l : List UInt8} (hk : k < a * b) (h : ∀ t < 8, ¬ isNb a b j t k) {c : UInt8} : ∀ t < 8, ringF a b (l.set j c) ((k % a : Nat) : Int) ((k / a : Nat) : Int) t = ringF a b l ((k % a : Nat) : Int) ((k / a : Nat) : Int) t := by
  intro t ht
  obtain ⟨ha, h1, h2, h3⟩ := div_lt hk
  unfold ringF
  refine inkB_off fun u v hu hv hua hvb => ?_
  by_cases hj : v * a + u = j
  · exfalso
    obtain ⟨e1, e2⟩ := at_div (v := v) hua
    rw [hj] at e1 e2
    obtain ⟨o1, o2⟩ := dN_opp t ht
    refine h ((t + 4) % 8) (Nat.mod_lt _ (by decide)) ⟨k % a, k / a, h1, h2, ?_, ?_, h3⟩
    · rw [e1, o1]; omega
    · rw [e2, o2]; omega
  · rw [List.getD_eq_getElem?_getD, List.getElem?_set_ne (fun e => hj e.symm), ← List.getD_eq_getElem?_getD]
theorem goes_set {a b j k : Nat} {l : List UInt8} (hk : k < a * b) (h : ∀ t < 8, ¬ isNb a b j t k) {c : UInt8} : goesAt a b (l.set j c) k = goesAt a b l k := goes_congr (ring_set hk h)
def stepT (a b : Nat) (l : List UInt8) (k : Nat) : List UInt8 := if l.getD k 0 = 1 ∧ goesAt a b l k = true then l.set k 0 else l
def passT (a b : Nat) (l : List UInt8) : Nat → List UInt8
  | 0 => l
  | k + 1 => stepT a b (passT a b l k) k
theorem pass_skip {a b i : Nat} {r0 : List UInt8} : ∀ j, i ≤ j → (∀ k, i ≤ k → k < j → (passT a b r0 i).getD k 0 = 1 → goesAt a b (passT a b r0 i) k = false) → passT a b r0 j = passT a b r0 i
  | 0, hij, _ => by rw [show i = 0 by omega]
  | j + 1, hij, h => by
    by_cases e : i = j + 1
    · rw [e]
    · have ih := pass_skip j (by omega) fun k h1 h2 => h k h1 (by omega)
      show stepT a b (passT a b r0 j) j = _
      rw [ih, stepT, if_neg]
      rintro ⟨h1, h2⟩
      rw [h j (by omega) (by omega) h1] at h2; cases h2
theorem stay_fix {a b : Nat} {r : List UInt8} (h : ∀ k, k < a * b → r.getD k 0 = 1 → goesAt a b r k = false) : passT a b r (a * b) = r :=
  pass_skip (i := 0) (a * b) (Nat.zero_le _) fun k _ hk h1 => h k hk h1
theorem Ok.set0 {a b k : Nat} {l : List UInt8} (h : Ok a b l) : Ok a b (l.set k 0) := by
  refine ⟨h.wa, h.hb, by rw [List.length_set]; exact h.len, ?_⟩
  have hp := h.px
  unfold pxOk at hp ⊢
  rw [List.all_eq_true] at hp ⊢
  intro x hx
  rcases List.mem_or_eq_of_mem_set hx with h1 | h1
  · exact hp x h1
  · rw [h1]; rfl
theorem Ok.step {a b k : Nat} {l : List UInt8} (h : Ok a b l) : Ok a b (stepT a b l k) := by
  unfold stepT
  split
  · exact h.set0
  · exact h
theorem Ok.pass {a b : Nat} {l : List UInt8} (h : Ok a b l) : ∀ k, Ok a b (passT a b l k)
  | 0 => h
  | k + 1 => (Ok.pass h k).step
theorem cnt_set {l : List UInt8} {k : Nat} (h : l.getD k 0 = 1) : (l.set k 0).count 1 + 1 = l.count 1 := by
  have hk : k < l.length := by
    rcases Nat.lt_or_ge k l.length with h1 | h1
    · exact h1
    · rw [List.getD_eq_getElem?_getD, List.getElem?_eq_none h1] at h; cases h
  have e : l[k] = 1 := by rw [← h]; simp [hk]
  have hpos : 0 < l.count 1 := List.count_pos_iff.2 (by rw [← e]; exact List.getElem_mem hk)
  rw [List.count_set hk, e]
  simp
  omega
theorem cnt_step {a b k : Nat} {l : List UInt8} : (stepT a b l k).count 1 ≤ l.count 1 := by
  unfold stepT
  split
  · rename_i h; have := cnt_set h.1; omega
  · exact Nat.le_refl _
theorem cnt_pass {a b : Nat} {l : List UInt8} : ∀ k, (passT a b l k).count 1 ≤ l.count 1
  | 0 => Nat.le_refl _
  | k + 1 => Nat.le_trans cnt_step (cnt_pass k)
def dstL (a b : Nat) (r : List UInt8) (x y : Int) : Nat → List UInt8 → List UInt8
  | 0, d => d
  | t + 1, d => if ringF a b r x y t = true then (dstL a b r x y t d).set ((y + dyN t) * (a : Int) + (x + dxN t)).toNat 1 else dstL a b r x y t d
theorem dst_length {a b : Nat} {r : List UInt8} {x y : Int} {d : List UInt8} : ∀ t, (dstL a b r x y t d).length = d.length
  | 0 => rfl
  | t + 1 => by
    unfold dstL
    split
    · rw [List.length_set, dst_length t]
    · exact dst_length t
theorem idx_of {a u v : Nat} : (((v : Nat) : Int) * (a : Int) + ((u : Nat) : Int)).toNat = v * a + u := by
  rw [← Int.natCast_mul, ← Int.natCast_add, Int.toNat_natCast]
theorem dst_old {a b : Nat} {r : List UInt8} {x y : Int} {d : List UInt8} {k : Nat} (h : d.getD k 0 = 1) : ∀ t, (dstL a b r x y t d).getD k 0 = 1
  | 0 => h
  | t + 1 => by
    have ih := dst_old (a := a) (b := b) (r := r) (x := x) (y := y) h t
    unfold dstL
    split
    · rw [List.getD_eq_getElem?_getD, List.getElem?_set]
      split
      · split
        · rfl
        · rename_i h1 h2
          rw [List.getD_eq_getElem?_getD, List.getElem?_eq_none (by omega)] at ih; cases ih
      · rw [← List.getD_eq_getElem?_getD]; exact ih
    · exact ih
theorem dst_new {a b j k : Nat} {r d : List UInt8} (hd : d.length = a * b) (hr : r.getD k 0 = 1) : ∀ n, ∀ t < n, isNb a b j t k → (dstL a b r ((j % a : Nat) : Int) ((j / a : Nat) : Int) n d).getD k 0 = 1
  | 0, t, ht, _ => by omega
  | n + 1, t, ht, hn => by
    by_cases e : t = n
    · subst e
      obtain ⟨u, v, hu, hv, e1, e2, rfl⟩ := hn
      have hring : ringF a b r ((j % a : Nat) : Int) ((j / a : Nat) : Int) t = true := by
        unfold ringF
        rw [← e1, ← e2, inkB_mk hu hv, hr]; rfl
      unfold dstL
      rw [if_pos hring, ← e1, ← e2, idx_of]
      have hlt : v * a + u < a * b := by
        have : (v + 1) * a ≤ b * a := Nat.mul_le_mul_right _ hv
        rw [Nat.add_mul, Nat.one_mul, Nat.mul_comm b a] at this
        omega
      rw [List.getD_eq_getElem?_getD, List.getElem?_set_self (by rw [dst_length, hd]; exact hlt)]
      rfl
    · have ih := dst_new (j := j) hd hr n t (by omega) hn
      unfold dstL
      split
      · rw [List.getD_eq_getElem?_getD, List.getElem?_set]
        split
        · split
          · rfl
          · rename_i h1 h2
            rw [List.getD_eq_getElem?_getD, List.getElem?_eq_none (by omega)] at ih; cases ih
        · rw [← List.getD_eq_getElem?_getD]; exact ih
      · exact ih
theorem dst_ink {a b : Nat} {r : List UInt8} {x y : Int} {d : List UInt8} {k : Nat} : ∀ t, (dstL a b r x y t d).getD k 0 = 1 → d.getD k 0 = 1 ∨ r.getD k 0 = 1
  | 0, h => Or.inl h
  | t + 1, h => by
    unfold dstL at h
    split at h
    · rename_i hring
      by_cases e : ((y + dyN t) * (a : Int) + (x + dxN t)).toNat = k
      · obtain ⟨u, v, e1, e2, hu, hv, h3⟩ := inkB_true hring
        rw [e1, e2, idx_of] at e
        rw [← e]; exact Or.inr h3
      · rw [List.getD_eq_getElem?_getD, List.getElem?_set_ne e, ← List.getD_eq_getElem?_getD] at h
        exact dst_ink t h
    · exact dst_ink t h
structure TInv (a b : Nat) (r0 r d : List UInt8) (i : Nat) : Prop where
  ok : Ok a b r
  len : d.length = a * b
  eq : r = passT a b r0 i
  hi : i ≤ a * b
  ink : ∀ k, d.getD k 0 = 1 → r.getD k 0 = 1
  quiet : ∀ k, r.getD k 0 = 1 → d.getD k 0 ≠ 1 → goesAt a b r k = false
  prog : r.count 1 < r0.count 1 ∨ (r = r0 ∧ ∀ k < i, d.getD k 0 ≠ 1)
theorem TInv.first {a b : Nat} {l : List UInt8} (ok : Ok a b l) : TInv a b l l l 0 :=
  ⟨ok, ok.len, rfl, Nat.zero_le _, fun _ h => h, fun _ h1 h2 => absurd h1 h2, Or.inr ⟨rfl, fun k h => by omega⟩⟩
theorem TInv.done {a b : Nat} {r0 r d : List UInt8} {i : Nat} (h : TInv a b r0 r d i) (hn : ∀ k, d.getD k 0 ≠ 1) : passT a b r (a * b) = r :=
  stay_fix fun k _ h1 => h.quiet k h1 (hn k)
theorem TInv.round {a b : Nat} {r0 r d : List UInt8} {i : Nat} (h : TInv a b r0 r d i) (hn : ∀ k, i ≤ k → d.getD k 0 ≠ 1) : passT a b r0 (a * b) = r ∧ TInv a b r r d 0 ∧ (r.count 1 < r0.count 1 ∨ (r = r0 ∧ ∀ k, d.getD k 0 ≠ 1)) := by
  refine ⟨?_, ⟨h.ok, h.len, rfl, Nat.zero_le _, h.ink, h.quiet, Or.inr ⟨rfl, fun k hk => by omega⟩⟩, h.prog.imp id fun q => ⟨q.1, fun k => ?_⟩⟩
  · rw [pass_skip (i := i) (a * b) h.hi fun k h1 _ h3 => ?_, ← h.eq]
    rw [← h.eq] at h3 ⊢
    exact h.quiet k h3 (hn k h1)
  · rcases Nat.lt_or_ge k i with h1 | h1
    · exact q.2 k h1
    · exact hn k h1
theorem TInv.skip {a b : Nat} {r0 r d : List UInt8} {i j : Nat} (h : TInv a b r0 r d i) (hij : i ≤ j) (hj : d.getD j 0 = 1) (hn : ∀ k, i ≤ k → k < j → d.getD k 0 ≠ 1) : j < a * b ∧ r = passT a b r0 j := by
  have hjl : j < a * b := by
    rw [← h.len]
    rcases Nat.lt_or_ge j d.length with h1 | h1
    · exact h1
    · rw [List.getD_eq_getElem?_getD, List.getElem?_eq_none h1] at hj; cases hj
  refine ⟨hjl, ?_⟩
  rw [pass_skip (i := i) j hij fun k h1 h2 h3 => ?_, ← h.eq]
  rw [← h.eq] at h3 ⊢
  exact h.quiet k h3 (hn k h1 h2)
theorem set_ne {d : List UInt8} {j k : Nat} {c : UInt8} (h : (d.set j c).getD k 0 = 1) (hc : c ≠ 1) : k ≠ j ∧ d.getD k 0 = 1 := by
  by_cases e : k = j
  · subst e
    rw [List.getD_eq_getElem?_getD, List.getElem?_set] at h
    rw [if_pos rfl] at h
    split at h
    · exact absurd h hc
    · cases h
  · rw [List.getD_eq_getElem?_getD, List.getElem?_set_ne (fun h => e h.symm), ← List.getD_eq_getElem?_getD] at h
    exact ⟨e, h⟩
theorem set_off {d : List UInt8} {j k : Nat} {c : UInt8} (e : k ≠ j) : (d.set j c).getD k 0 = d.getD k 0 := by
  rw [List.getD_eq_getElem?_getD, List.getElem?_set_ne (fun h => e h.symm), ← List.getD_eq_getElem?_getD]
theorem TInv.gone {a b : Nat} {r0 r d : List UInt8} {i j : Nat} (h : TInv a b r0 r d i) (hij : i ≤ j) (hj : d.getD j 0 = 1) (hn : ∀ k, i ≤ k → k < j → d.getD k 0 ≠ 1) (hg : goesAt a b r j = true) :
    TInv a b r0 (r.set j 0) (dstL a b (r.set j 0) ((j % a : Nat) : Int) ((j / a : Nat) : Int) 8 (d.set j 0)) (j + 1) := by
  obtain ⟨h1, h2⟩ := h.skip hij hj hn
  have hrj := h.ink j hj
  have hlen : (d.set j 0).length = a * b := by rw [List.length_set]; exact h.len
  refine ⟨h.ok.set0, by rw [dst_length]; exact hlen, ?_, h1, fun k hk => ?_, fun k hk1 hk2 => ?_, Or.inl ?_⟩
  · show r.set j 0 = stepT a b (passT a b r0 j) j
    rw [← h2, stepT, if_pos ⟨hrj, hg⟩]
  · rcases dst_ink 8 hk with h3 | h3
    · obtain ⟨e, h4⟩ := set_ne h3 (by decide)
      rw [set_off e]; exact h.ink k h4
    · exact h3
  · obtain ⟨e, h3⟩ := set_ne hk1 (by decide)
    have hk : k < a * b := by
      have := h.ok.len
      rcases Nat.lt_or_ge k r.length with h4 | h4
      · omega
      · rw [List.getD_eq_getElem?_getD, List.getElem?_eq_none h4] at h3; cases h3
    rw [goes_set hk fun t ht hnb => hk2 (dst_new hlen hk1 8 t ht hnb)]
    refine h.quiet k h3 fun h5 => hk2 (dst_old ?_ 8)
    rw [set_off e]; exact h5
  · have := cnt_set hrj
    have h4 := cnt_pass (a := a) (b := b) (l := r0) i
    rw [← h.eq] at h4
    omega
def Nb (a b : Nat) (e : Bool) (j k : Nat) : Prop := ∃ t < 8, (e = true ∨ t % 2 = 0) ∧ isNb a b j t k
theorem isNb_lt {a b j t k : Nat} (h : isNb a b j t k) : k < a * b := by
  obtain ⟨u, v, hu, hv, _, _, rfl⟩ := h
  have : (v + 1) * a ≤ b * a := Nat.mul_le_mul_right _ hv
  rw [Nat.add_mul, Nat.one_mul, Nat.mul_comm b a] at this
  omega
theorem Nb.lt {a b j k : Nat} {e : Bool} (h : Nb a b e j k) : k < a * b := by
  obtain ⟨t, _, _, h⟩ := h; exact isNb_lt h
theorem isNb_symm {a b j t k : Nat} (hj : j < a * b) (ht : t < 8) (h : isNb a b j t k) : isNb a b k ((t + 4) % 8) j := by
  obtain ⟨u, v, hu, hv, e1, e2, rfl⟩ := h
  obtain ⟨ha, h1, h2, h3⟩ := div_lt hj
  obtain ⟨o1, o2⟩ := dN_opp t ht
  obtain ⟨d1, d2⟩ := at_div (v := v) hu
  refine ⟨j % a, j / a, h1, h2, ?_, ?_, h3⟩
  · rw [d1, o1]; omega
  · rw [d2, o2]; omega
theorem Nb.symm {a b j k : Nat} {e : Bool} (hj : j < a * b) (h : Nb a b e j k) : Nb a b e k j := by
  obtain ⟨t, ht, he, h⟩ := h
  exact ⟨(t + 4) % 8, Nat.mod_lt _ (by decide), he.imp id (fun q => by omega), isNb_symm hj ht h⟩
theorem least_of (P : Nat → Prop) (n : Nat) : P n → ∃ m, P m ∧ ∀ j, P j → m ≤ j := by
  induction n using Nat.strongRecOn with
  | ind n ih =>
    intro hn
    by_cases h : ∃ k, k < n ∧ P k
    · obtain ⟨k, hk, pk⟩ := h
      exact ih k hk pk
    · exact ⟨n, hn, fun j hj => Nat.le_of_not_lt fun hlt => h ⟨j, hlt, hj⟩⟩
inductive Reach (l : List UInt8) (a b : Nat) (e : Bool) (i : Nat) : Nat → Prop
  | refl : i < a * b → l.getD i 0 = 1 → Reach l a b e i i
  | step {j k : Nat} : Reach l a b e i j → Nb a b e j k → l.getD k 0 = 1 → Reach l a b e i k
section
variable {l : List UInt8} {a b : Nat} {e : Bool}
theorem Reach.end_ok {i j : Nat} (h : Reach l a b e i j) : j < a * b ∧ l.getD j 0 = 1 := by
  cases h with
  | refl h1 h2 => exact ⟨h1, h2⟩
  | step _ h2 h3 => exact ⟨h2.lt, h3⟩
theorem Reach.start_ok {i j : Nat} (h : Reach l a b e i j) : i < a * b ∧ l.getD i 0 = 1 := by
  induction h with
  | refl h1 h2 => exact ⟨h1, h2⟩
  | step _ _ _ ih => exact ih
theorem Reach.trans {i j k : Nat} (h : Reach l a b e i j) (g : Reach l a b e j k) : Reach l a b e i k := by
  induction g with
  | refl _ _ => exact h
  | step _ h2 h3 ih => exact ih.step h2 h3
theorem Reach.symm {i j : Nat} (h : Reach l a b e i j) : Reach l a b e j i := by
  induction h with
  | refl h1 h2 => exact .refl h1 h2
  | step h1 h2 h3 ih =>
    obtain ⟨k1, k2⟩ := h1.end_ok
    exact ((Reach.refl h2.lt h3).step (h2.symm k1) k2).trans ih
theorem Reach.eight {i j : Nat} (h : Reach l a b e i j) : Reach l a b true i j := by
  induction h with
  | refl h1 h2 => exact .refl h1 h2
  | step _ h2 h3 ih =>
    obtain ⟨t, ht, _, h⟩ := h2
    exact ih.step ⟨t, ht, Or.inl rfl, h⟩ h3
def Lead (l : List UInt8) (a b : Nat) (e : Bool) (i m : Nat) : Prop := Reach l a b e i m ∧ ∀ j, Reach l a b e i j → m ≤ j
theorem lead_exists {i : Nat} (hi : i < a * b) (h1 : l.getD i 0 = 1) : ∃ m, Lead l a b e i m := by
  obtain ⟨m, h2, h3⟩ := least_of (Reach l a b e i) i (.refl hi h1)
  exact ⟨m, h2, h3⟩
theorem Lead.unique {i m m' : Nat} (h : Lead l a b e i m) (g : Lead l a b e i m') : m = m' := Nat.le_antisymm (h.2 _ g.1) (g.2 _ h.1)
theorem Lead.same {i j m : Nat} (h : Lead l a b e i m) (g : Reach l a b e i j) : Lead l a b e j m := ⟨g.symm.trans h.1, fun k hk => h.2 k (g.trans hk)⟩
structure Whole (l : List UInt8) (a b : Nat) (e : Bool) (M : Nat → Nat) (n : Nat) : Prop where
  lt : ∀ i, M i < n
  ink : ∀ i, M i ≠ 0 → i < a * b ∧ l.getD i 0 = 1
  same : ∀ i j, M i ≠ 0 → Reach l a b e i j → M j = M i
structure Flood (l : List UInt8) (a b : Nat) (e : Bool) (M0 : Nat → Nat) (s n : Nat) (M : Nat → Nat) (W : List Nat) (x : Option (Nat × Nat)) : Prop where
  old : ∀ i, M i = M0 i ∨ (M i = n ∧ M0 i = 0 ∧ Reach l a b e s i)
  start : M s = n
  wait : ∀ w ∈ W, M w = n ∧ M0 w = 0 ∧ Reach l a b e s w
  hand : ∀ w c, x = some (w, c) → M w = n ∧ M0 w = 0 ∧ Reach l a b e s w ∧ ∀ t < c, (e = true ∨ t % 2 = 0) → ∀ j, isNb a b w t j → l.getD j 0 = 1 → M j ≠ 0
  done : ∀ i, M i = n → M0 i = 0 → i ∈ W ∨ (∃ c, x = some (i, c)) ∨ ∀ j, Nb a b e i j → l.getD j 0 = 1 → M j ≠ 0
theorem Flood.begin {M0 : Nat → Nat} {s n : Nat} (hs : s < a * b) (h1 : l.getD s 0 = 1) (h0 : M0 s = 0) (hn : Whole l a b e M0 n) : Flood l a b e M0 s n (fun i => if i = s then n else M0 i) [s] none := by
  refine ⟨fun i => ?_, if_pos rfl, fun w hw => ?_, (fun w c h => by cases h), fun i hi h2 => ?_⟩
  · by_cases h : i = s
    · subst h; exact Or.inr ⟨if_pos rfl, h0, .refl hs h1⟩
    · exact Or.inl (if_neg h)
  · rw [List.mem_singleton] at hw; subst hw
    exact ⟨if_pos rfl, h0, .refl hs h1⟩
  · by_cases h : i = s
    · subst h; exact Or.inl (List.mem_singleton.2 rfl)
    · try dsimp only at hi
      rw [if_neg h] at hi
      have := hn.lt i
      omega
theorem Flood.pop {M0 M : Nat → Nat} {s n w : Nat} {W : List Nat} (h : Flood l a b e M0 s n M (W ++ [w]) none) : Flood l a b e M0 s n M W (some (w, 0)) := by
  refine ⟨h.old, h.start, fun v hv => h.wait v (List.mem_append_left _ hv), fun v c hc => ?_, fun i h1 h2 => ?_⟩
  · cases hc
    obtain ⟨g1, g2, g3⟩ := h.wait w (List.mem_append_right _ (List.mem_singleton.2 rfl))
    exact ⟨g1, g2, g3, fun t ht => by omega⟩
  · rcases h.done i h1 h2 with g | ⟨c, g⟩ | g
    · rcases List.mem_append.1 g with g | g
      · exact Or.inl g
      · rw [List.mem_singleton] at g; subst g
        exact Or.inr (Or.inl ⟨0, rfl⟩)
    · cases g
    · exact Or.inr (Or.inr g)
theorem Flood.keep {M0 M : Nat → Nat} {s n w c c' : Nat} {W : List Nat} (h : Flood l a b e M0 s n M W (some (w, c))) (hc : ∀ t, c ≤ t → t < c' → (e = true ∨ t % 2 = 0) → ∀ j, isNb a b w t j → l.getD j 0 = 1 → M j ≠ 0) : Flood l a b e M0 s n M W (some (w, c')) := by
  refine ⟨h.old, h.start, h.wait, fun v d hd => ?_, fun i h1 h2 => ?_⟩
  · cases hd
    obtain ⟨g1, g2, g3, g4⟩ := h.hand w c rfl
    refine ⟨g1, g2, g3, fun t ht he j hj hl => ?_⟩
    rcases Nat.lt_or_ge t c with hlt | hge
    · exact g4 t hlt he j hj hl
    · exact hc t hge ht he j hj hl
  · rcases h.done i h1 h2 with g | ⟨d, g⟩ | g
    · exact Or.inl g
    · cases g; exact Or.inr (Or.inl ⟨c', rfl⟩)
    · exact Or.inr (Or.inr g)
theorem Flood.mark {M0 M : Nat → Nat} {s n w c k t : Nat} {W : List Nat} (hn : 0 < n) (h : Flood l a b e M0 s n M W (some (w, c))) (ht : t < 8) (he : e = true ∨ t % 2 = 0) (hk : isNb a b w t k) (hl : l.getD k 0 = 1) (h0 : M k = 0) (hm : Whole l a b e M0 n) : Flood l a b e M0 s n (fun i => if i = k then n else M i) (W ++ [k]) (some (w, c)) := by
  obtain ⟨g1, g2, g3, g4⟩ := h.hand w c rfl
  have hrk : Reach l a b e s k := g3.step ⟨t, ht, he, hk⟩ hl
  have hk0 : M0 k = 0 := by
    rcases h.old k with q | ⟨q, _⟩
    · rw [← q]; exact h0
    · omega
  have hmono : ∀ i, M i ≠ 0 → (if i = k then n else M i) ≠ 0 := fun i hi => by split <;> omega
  refine ⟨fun i => ?_, ?_, fun v hv => ?_, fun v d hd => ?_, fun i h1 h2 => ?_⟩
  · try dsimp only
    by_cases q : i = k
    · subst q; rw [if_pos rfl]; exact Or.inr ⟨rfl, hk0, hrk⟩
    · rw [if_neg q]; exact h.old i
  · try dsimp only
    split
    · rfl
    · exact h.start
  · try dsimp only
    rcases List.mem_append.1 hv with q | q
    · obtain ⟨f1, f2, f3⟩ := h.wait v q
      refine ⟨?_, f2, f3⟩
      split
      · rfl
      · exact f1
    · rw [List.mem_singleton] at q; subst q
      exact ⟨if_pos rfl, hk0, hrk⟩
  · cases hd
    try dsimp only
    refine ⟨?_, g2, g3, fun t' ht' he' j hj hlj => hmono j (g4 t' ht' he' j hj hlj)⟩
    split
    · rfl
    · exact g1
  · try dsimp only at h1
    by_cases q : i = k
    · subst q; exact Or.inl (List.mem_append_right _ (List.mem_singleton.2 rfl))
    · rw [if_neg q] at h1
      rcases h.done i h1 h2 with f | f | f
      · exact Or.inl (List.mem_append_left _ f)
      · exact Or.inr (Or.inl f)
      · exact Or.inr (Or.inr fun j hj hlj => hmono j (f j hj hlj))
theorem Flood.drop {M0 M : Nat → Nat} {s n w : Nat} {W : List Nat} (h : Flood l a b e M0 s n M W (some (w, 8))) : Flood l a b e M0 s n M W none := by
  obtain ⟨g1, g2, g3, g4⟩ := h.hand w 8 rfl
  refine ⟨h.old, h.start, h.wait, (fun v d hd => by cases hd), fun i h1 h2 => ?_⟩
  rcases h.done i h1 h2 with f | ⟨c, f⟩ | f
  · exact Or.inl f
  · cases f
    exact Or.inr (Or.inr fun j hj hlj => by
      obtain ⟨t, ht, he, hj⟩ := hj
      exact g4 t ht he j hj hlj)
  · exact Or.inr (Or.inr f)
theorem Flood.end {M0 M : Nat → Nat} {s n : Nat} (h : Flood l a b e M0 s n M [] none) (hm : Whole l a b e M0 n) (hs : s < a * b) (h1 : l.getD s 0 = 1) (h0 : M0 s = 0) : ∀ i, (Reach l a b e s i → M i = n) ∧ (¬ Reach l a b e s i → M i = M0 i) := by
  have hz : ∀ i, Reach l a b e s i → M0 i = 0 := by
    intro i hi
    cases hq : M0 i with
    | zero => rfl
    | succ q =>
      have := hm.same i s (by rw [hq]; exact Nat.succ_ne_zero q) hi.symm
      omega
  have hall : ∀ i, Reach l a b e s i → M i = n := by
    intro i hi
    induction hi with
    | refl _ _ => exact h.start
    | step g1 g2 g3 ih =>
      rcases h.done _ ih (hz _ g1) with f | ⟨c, f⟩ | f
      · cases f
      · cases f
      · have hne := f _ g2 g3
        rcases h.old _ with q | ⟨q, _⟩
        · rw [q, hz _ (g1.step g2 g3)] at hne; exact absurd rfl hne
        · exact q
  refine fun i => ⟨hall i, fun hno => ?_⟩
  rcases h.old i with q | ⟨_, _, q⟩
  · exact q
  · exact absurd q hno
theorem Whole.next {M0 M : Nat → Nat} {s n : Nat} (hm : Whole l a b e M0 n) (hn : 0 < n) (hs : s < a * b) (h1 : l.getD s 0 = 1) (h : ∀ i, (Reach l a b e s i → M i = n) ∧ (¬ Reach l a b e s i → M i = M0 i)) : Whole l a b e M (n + 1) := by
  classical
  refine ⟨fun i => ?_, fun i hi => ?_, fun i j hi hr => ?_⟩
  · by_cases q : Reach l a b e s i
    · rw [(h i).1 q]; omega
    · rw [(h i).2 q]; have := hm.lt i; omega
  · by_cases q : Reach l a b e s i
    · exact q.end_ok
    · rw [(h i).2 q] at hi; exact hm.ink i hi
  · by_cases q : Reach l a b e s i
    · rw [(h i).1 q, (h j).1 (q.trans hr)]
    · have q' : ¬ Reach l a b e s j := fun k => q (k.trans hr.symm)
      rw [(h i).2 q] at hi ⊢
      rw [(h j).2 q']
      exact hm.same i j hi hr
end
end Go.Am
namespace Go.Am
open Go
attribute [local irreducible] Wp WpO WpX WpE
end Go.Am
namespace Go.Am
open Go
theorem Wp.label {call : ACall} {lf : Nat} {fr : AFrame} {H : AHeap} {Q : RExit → AFrame → AHeap → Prop} (h : Q .normal fr H) : Wp call lf .label fr H Q := ⟨_, _, _, rfl, h⟩
end Go.Am
namespace Go.Am
open Go
attribute [local irreducible] Wp WpO WpX WpE
end Go.Am
namespace Go.Am
open Go
attribute [local irreducible] Wp WpO WpX WpE
end Go.Am
namespace Go.Am
open Go
structure Stk (H : AHeap) (p : AVal) (e : TypeId) (l : List Int) : Prop where
  it : ∃ r cap row e', p = .slice r 0 l.length cap 1 ∧ r < H.n ∧ H.get r = .row row true e' ∧ e' / 2 = e ∧ l.length ≤ row.length ∧ row.take l.length = cellsI l ∧ (cap = none ∨ ∃ c, cap = some c ∧ 0 < c ∧ c ≤ row.length ∧ l.length ≤ c)
theorem Stk.ints {H : AHeap} {p : AVal} {e : TypeId} {l : List Int} (h : Stk H p e l) : IntsI H p l := by
  obtain ⟨r, cap, row, e', rfl, h1, h2, h3, h4, h5, h6⟩ := h.it
  refine ⟨Or.inr ⟨r, 0, cap, row, true, e', rfl, h1, h2, by omega, by rw [Nat.mul_one, List.drop_zero]; exact h5, ?_⟩⟩
  rcases h6 with rfl | ⟨c, rfl, h6, h7, h8⟩
  · exact Nat.le_refl _
  · exact h8
theorem Stk.keep {H H' : AHeap} {p : AVal} {e : TypeId} {l : List Int} (h : Stk H p e l) (hn : H.n ≤ H'.n) (hg : ∀ r off len cap sz, p = .slice r off len cap sz → r < H.n → H'.get r = H.get r) : Stk H' p e l := by
  obtain ⟨r, cap, row, e', rfl, h1, h2, h3⟩ := h.it
  exact ⟨r, cap, row, e', rfl, Nat.lt_of_lt_of_le h1 hn, by rw [hg _ _ _ _ _ rfl h1]; exact h2, h3⟩
theorem exec_cut {H : AHeap} {p : AVal} {e : TypeId} {l : List Int} {k : Int} (h : Stk H p e (l ++ [k])) :
    ∃ p', aSliceS 1 p none (some (.int .i64 (l.length : Int))) none H = some (p', H) ∧ Stk H p' e l ∧ (∀ r off len cap sz, p' = .slice r off len cap sz → ∃ len' cap', p = .slice r off len' cap' sz) := by
  obtain ⟨r, cap, row, e', rfl, h1, h2, h3, h4, h5, h6⟩ := h.it
  rw [List.length_append, List.length_singleton] at h4 h5
  have ht : row.take l.length = cellsI l := by
    have := congrArg (List.take l.length) h5
    rw [List.take_take, Nat.min_eq_left (Nat.le_succ _)] at this
    rw [this]
    simp only [cellsI, List.map_append]
    rw [List.take_left' (by simp)]
  rw [List.length_append, List.length_singleton]
  have hrow : aRow r H = some ((row, true), H) := by simp only [aRow, if_pos h1, h2]
  rcases h6 with rfl | ⟨c, rfl, h6, h7, h8⟩
  · refine ⟨.slice r 0 l.length none 1, ?_, ⟨r, none, row, e', rfl, h1, h2, h3, by omega, ht, Or.inl rfl⟩, fun r' off len cap sz q => by cases q; exact ⟨_, _, rfl⟩⟩
    have hb : aBounds (l.length + 1) none none (some (.int .i64 (l.length : Int))) none = some (0, l.length, none) := by
      have g1 : (0 : Int) ≤ (l.length : Int) ∧ (l.length : Int) ≤ ((capD (l.length + 1) none : Nat) : Int) := by simp only [capD]; omega
      simp only [aBounds, aHigh, aBound, aLow, Int.toNat_natCast]
      rw [if_pos g1]
    have g2 : ¬ row.length < 0 + (l.length + 1) := by omega
    simp only [aSliceS, ne_eq, not_true, if_false, hb, Nat.mul_one, Nat.one_ne_zero, M.bind, hrow, if_neg g2, or_true, if_true, M.pure, Nat.add_zero, Nat.sub_zero]
  · rw [List.length_append, List.length_singleton] at h8
    refine ⟨.slice r 0 l.length (some c) 1, ?_, ⟨r, some c, row, e', rfl, h1, h2, h3, by omega, ht, Or.inr ⟨c, rfl, h6, h7, by omega⟩⟩, fun r' off len cap sz q => by cases q; exact ⟨_, _, rfl⟩⟩
    have hb : aBounds (l.length + 1) (some c) none (some (.int .i64 (l.length : Int))) none = some (0, l.length, some c) := by
      have g1 : (0 : Int) ≤ (l.length : Int) ∧ (l.length : Int) ≤ ((capD (l.length + 1) (some c) : Nat) : Int) := by simp only [capD]; omega
      simp only [aBounds, aHigh, aBound, aLow, Int.toNat_natCast]
      rw [if_pos g1]
    have g2 : ¬ c = 0 := by omega
    simp only [aSliceS, ne_eq, not_true, if_false, hb, if_neg g2, M.pure, Nat.zero_mul, Nat.add_zero, Nat.sub_zero]
theorem exec_push {H : AHeap} {p q : AVal} {e : TypeId} {l : List Int} {k : Int} (h : Stk H p e l) (hq : IntsI H q [k]) (hl : 2 * (l.length + 1) * 8 ≤ 2 ^ 48) :
    ∃ p' H', aAppend e 1 8 p q H = some (p', H') ∧ Stk H' p' e (l ++ [k]) ∧ ExtP H H' p ∧ (∀ K : AHeap, K.n ≤ H.n → FreshS K p → FreshS K p') := by
  obtain ⟨hf1, hf2⟩ := aFirst_at hq
  obtain ⟨r, cap, row, e', rfl, h1, h2, h3, h4, h5, h6⟩ := h.it
  have hf1' : aLenOf q = some 1 := hf1
  have hf2' : aFirst 1 1 q H = some ([.int .i64 k], H) := hf2
  have hrow : aRow r H = some ((row, true), H) := by simp only [aRow, if_pos h1, h2]
  have hone : ([AVal.int .i64 k].all AVal.one) = true := rfl
  have hcond : (!([AVal.int .i64 k].all AVal.one) || decide ([AVal.int .i64 k].length ≠ 1 * 1) || decide (1 = 0) || decide (8 = 0)) = false := rfl
  have hput : ∀ row : List AVal, l.length + 1 ≤ row.length → row.take l.length = cellsI l → (setAt row (0 + l.length * 1) [.int .i64 k]).take (l ++ [k]).length = cellsI (l ++ [k]) := by
    intro row g1 g2
    rw [Nat.zero_add, Nat.mul_one]
    show (row.set l.length _).take _ = _
    rw [List.length_append, List.length_singleton]
    apply List.ext_getElem?
    intro i
    rw [List.getElem?_take]
    by_cases hi : i < l.length
    · have g3 := congrArg (fun z => z[i]?) g2
      simp only [List.getElem?_take, if_pos hi] at g3
      rw [if_pos (by omega), List.getElem?_set_ne (by omega), g3]
      simp only [cellsI, List.map_append]
      rw [List.getElem?_append_left (by simp; exact hi)]
    · by_cases hi' : i = l.length
      · subst hi'
        rw [if_pos (Nat.lt_succ_self _), List.getElem?_set_self (by omega)]
        simp [cellsI]
      · rw [if_neg (by omega), List.getElem?_eq_none (by simp [cellsI]; omega)]
  have hnew : (row.take l.length ++ [AVal.int .i64 k]) = cellsI (l ++ [k]) := by rw [h5]; simp [cellsI]
  have hw : ∀ _ : l.length + 1 ≤ row.length, aWrite r (0 + l.length * 1) [.int .i64 k] H = some ((), H.set r (.row (setAt row (0 + l.length * 1) [.int .i64 k]) true e')) := by
    intro g
    simp only [aWrite, if_pos h1, h2, hone, Bool.and_true, Bool.true_and]
    rw [if_pos (decide_eq_true (by simp only [List.length_singleton]; omega))]
  have hin : ∀ cap', (cap' = none ∨ ∃ c, cap' = some c ∧ 0 < c ∧ c ≤ row.length ∧ l.length + 1 ≤ c) → l.length + 1 ≤ row.length → Stk (H.set r (.row (setAt row (0 + l.length * 1) [.int .i64 k]) true e')) (.slice r 0 (l.length + 1) cap' 1) e (l ++ [k]) := by
    intro cap' g1 g2
    refine ⟨r, cap', _, e', by rw [List.length_append, List.length_singleton], h1, set_get_eq, h3, by rw [setAt_length, List.length_append, List.length_singleton]; exact g2, hput row g2 h5, ?_⟩
    rcases g1 with g1 | ⟨c, g1, g3, g4, g5⟩
    · exact Or.inl g1
    · exact Or.inr ⟨c, g1, g3, by rw [setAt_length]; exact g4, by rw [List.length_append, List.length_singleton]; exact g5⟩
  have hout : ∀ e'', e'' / 2 = e → ∀ H2 : AHeap, H2.n = H.n → Stk (H2.push (.row (cellsI (l ++ [k])) true e'')) (.slice H.n 0 (l.length + 1) none 1) e (l ++ [k]) := by
    intro e'' g H2 g2
    have hq0 : (cellsI (l ++ [k])).length = (l ++ [k]).length := cellsI_length _
    refine ⟨H.n, none, _, e'', by rw [List.length_append, List.length_singleton], by rw [← g2]; exact Nat.lt_succ_self _, by rw [← g2]; exact push_get_eq, g, by rw [hq0]; exact Nat.le_refl _, by rw [← hq0, List.take_length], Or.inl rfl⟩
  have hx : ∀ o, ExtP H (H.set r o) (.slice r 0 l.length cap 1) := fun o => ⟨Nat.le_refl _, fun s hs hne => set_get_ne (fun hh => hne.ne _ _ _ _ _ rfl hh.symm)⟩
  rcases h6 with rfl | ⟨c, rfl, h6, h7, h8⟩
  · by_cases g : l.length + 1 ≤ row.length
    · refine ⟨_, _, ?_, hin none (Or.inl rfl) g, hx _, fun K hK f => ⟨fun r' off len cap sz q => by cases q; exact f.ge _ _ _ _ _ rfl⟩⟩
      have hle : 0 + (l.length + 1) * 1 ≤ row.length := by omega
      simp only [aAppend, hf1', M.bind, hf2', hcond, Bool.false_eq_true, if_false]
      simp only [M.bind, if_false, Bool.false_eq_true, ne_eq, not_true, hrow, Nat.one_ne_zero, if_pos hle, hw g]
      rfl
    · refine ⟨.slice H.n 0 (l.length + 1) none 1, (H.set r .dead).push (.row (cellsI (l ++ [k])) true (2 * e + 1)), ?_, hout _ (half_odd _) (H.set r .dead) rfl, ⟨Nat.le_succ _, fun s hs hne => by
        rw [push_get_lt (H := H.set r .dead) hs, set_get_ne (fun hh => hne.ne _ _ _ _ _ rfl hh.symm)]⟩, fun K hK f => ⟨fun r' off len cap sz q => by cases q; exact hK⟩⟩
      have hno : ¬ 0 + (l.length + 1) * 1 ≤ row.length := by omega
      have hcl : 0 + l.length * 1 ≤ row.length := by omega
      have hmv : aMove r e (.row (((row.drop 0).take (l.length * 1)) ++ [.int .i64 k]) true (2 * e + 1)) H = some (H.n, (H.set r .dead).push (.row (cellsI (l ++ [k])) true (2 * e + 1))) := by
        simp only [aMove, h2, h3, nbeq_self]
        rw [List.drop_zero, Nat.mul_one, hnew]
      simp only [aAppend, hf1', M.bind, hf2', hcond, Bool.false_eq_true, if_false]
      simp only [M.bind, if_false, Bool.false_eq_true, ne_eq, not_true, hrow, Nat.one_ne_zero, hno, Bool.true_and, decide_eq_true hcl, decide_eq_true hl, Bool.and_true, if_true, hmv]
      rfl
  · by_cases g : l.length + 1 ≤ c
    · refine ⟨_, _, ?_, hin (some c) (Or.inr ⟨c, rfl, h6, h7, g⟩) (by omega), hx _, fun K hK f => ⟨fun r' off len cap sz q => by cases q; exact f.ge _ _ _ _ _ rfl⟩⟩
      simp only [aAppend, hf1', M.bind, hf2', hcond, Bool.false_eq_true, if_false]
      simp only [M.bind, if_false, Bool.false_eq_true, ne_eq, not_true, hrow, Nat.one_ne_zero, if_pos g, hw (by omega)]
      rfl
    · refine ⟨.slice H.n 0 (l.length + 1) none 1, H.push (.row (cellsI (l ++ [k])) true (2 * e)), ?_, hout _ (half_even _) H rfl, ⟨Nat.le_succ _, fun s hs _ => push_get_lt hs⟩, fun K hK f => ⟨fun r' off len cap sz q => by cases q; exact hK⟩⟩
      have hcl : 0 + l.length * 1 ≤ row.length := by omega
      have hand : 0 + l.length * 1 ≤ row.length ∧ 2 * (l.length + 1) * 8 ≤ 2 ^ 48 := ⟨hcl, hl⟩
      have hnw : aNew (.row (((row.drop 0).take (l.length * 1)) ++ [.int .i64 k]) true (2 * e)) H = some (H.n, H.push (.row (cellsI (l ++ [k])) true (2 * e))) := by
        rw [List.drop_zero, Nat.mul_one, hnew]; rfl
      simp only [aAppend, hf1', M.bind, hf2', hcond, Bool.false_eq_true, if_false]
      simp only [M.bind, if_false, Bool.false_eq_true, ne_eq, not_true, hrow, Nat.one_ne_zero, if_neg g, if_pos hand, hnw]
      rfl
def cN (l : List Nat) : List Int := l.map fun n : Nat => (n : Int)
theorem cN_length (l : List Nat) : (cN l).length = l.length := by simp [cN]
theorem cN_snoc (l : List Nat) (k : Nat) : cN (l ++ [k]) = cN l ++ [(k : Int)] := by simp [cN]
theorem cN_set (l : List Nat) (i k : Nat) : (cN l).set i (k : Int) = cN (l.set i k) := by simp [cN, List.map_set]
theorem cN_get {l : List Nat} {i : Nat} (h : i < (cN l).length) : (cN l)[i] = ((l.getD i 0 : Nat) : Int) := by
  have h' : i < l.length := by rw [cN_length] at h; exact h
  simp only [cN, List.getElem_map, List.getD_eq_getElem?_getD, List.getElem?_eq_getElem h', Option.getD_some]
section
variable {call : ACall} {fr : AFrame} {H : AHeap} {K : AVal → AHeap → Prop}
theorem WpX.cut {x : ROpd} {hi : Option ROpd} {p : AVal} {e : TypeId} {l : List Nat} {k : Nat} (hx : x.ev fr = p) (hhi : hi.map (·.ev fr) = some (.int .i64 (l.length : Int))) (h : Stk H p e (cN (l ++ [k])))
    (hK : ∀ p', Stk H p' e (cN l) → (∀ r off len cap sz, p' = .slice r off len cap sz → ∃ len' cap', p = .slice r off len' cap' sz) → K p' H) : WpX (.sliceS 1 x none hi none) call fr H K := by
  rw [cN_snoc] at h
  obtain ⟨p', h1, h2, h3⟩ := exec_cut h
  rw [cN_length] at h1
  exact ⟨_, _, by simp only [ROp.exec, hx, hhi, Option.map_none]; exact h1, hK p' h2 h3⟩
theorem WpX.push {e : TypeId} {x y : ROpd} {p q : AVal} {l : List Nat} {k : Nat} (hx : x.ev fr = p) (hy : y.ev fr = q) (h : Stk H p e (cN l)) (hq : IntsI H q [(k : Int)]) (hl : 2 * (l.length + 1) * 8 ≤ 2 ^ 48)
    (hK : ∀ p' H', Stk H' p' e (cN (l ++ [k])) → ExtP H H' p → (∀ K : AHeap, K.n ≤ H.n → FreshS K p → FreshS K p') → K p' H') : WpX (.append e 1 8 x y) call fr H K := by
  obtain ⟨p', H', h1, h2, h3, h4⟩ := exec_push h hq (by rw [cN_length]; exact hl)
  rw [← cN_snoc] at h2
  exact ⟨_, _, by simp only [ROp.exec, hx, hy]; exact h1, hK p' H' h2 h3 h4⟩
end
theorem ExtP.fresh {H H2 H3 : AHeap} {p q : AVal} (x : ExtP H H2 p) (y : ExtP H2 H3 q) (f : FreshS H q) : ExtP H H3 p :=
  ⟨Nat.le_trans x.n y.n, fun r hr hn => by
    rw [y.get r (Nat.lt_of_lt_of_le hr x.n) ⟨fun r' off len cap sz e => by have := f.ge _ _ _ _ _ e; omega⟩]
    exact x.get r hr hn⟩
theorem Stk.pushed {H : AHeap} {p : AVal} {e : TypeId} {l : List Int} {o : AObj} (h : Stk H p e l) : Stk (H.push o) p e l := h.keep (Nat.le_succ _) fun _ _ _ _ _ _ hr => push_get_lt hr
theorem Stk.other {H H' : AHeap} {p q : AVal} {e : TypeId} {l : List Int} (h : Stk H p e l) (x : ExtP H H' q) (k : SepS p q) : Stk H' p e l := h.keep x.n fun r _ _ _ _ e hr => x.get r hr ⟨fun r' _ _ _ _ e' => fun hh => k.ne _ _ _ _ _ _ _ _ _ _ e e' hh.symm⟩
structure FHp (K : AHeap) (mk : AVal) (img : List AVal) (r5 : Nat) (wt : AVal) (W M : List Nat) (H2 : AHeap) : Prop where
  bm : IntsI H2 mk (cN M)
  wm : WrS H2 mk
  st : Stk H2 wt 3 (cN W)
  fs : FreshS K wt
  g5 : HasRow H2 r5 img true (2 * 29)
  x : ExtP K H2 mk
def stp (e : Bool) : Nat := bif e then 1 else 2
theorem Wp.set2 {call : ACall} {lf : Nat} {fr : AFrame} {H : AHeap} {Q : RExit → AFrame → AHeap → Prop} {d : Nat} {c : ROpd} {x y : Int} {e : Bool} (hc : c.ev fr = .bool e) (hd : fr d = .int .i64 y) (h : Q .normal (upd fr d (.int .i64 (bif e then x else y))) H) : Wp call lf (.cond c (.region [⟨some d, .mov (.val (.int .i64 x)), none⟩]) .skip) fr H Q := by
  refine Wp.cond hc ?_
  cases e
  · refine Wp.skip ?_
    have : upd fr d (.int .i64 y) = fr := by
      funext i
      rw [upd_at]
      split
      · next q => rw [q, hd]
      · rfl
    rwa [show (bif false then x else y) = y from rfl, this] at h
  · exact Wp.region (WpO.do (WpX.mov (WpO.nil h)))
theorem tab_row {H : AHeap} (h : Tabs H) : ∃ rw e, HasRow H 1 aroundCs rw e := by
  obtain ⟨h1, rw, e, h2⟩ := tabs_iff.1 h.it
  exact ⟨rw, e, ⟨h1, h2⟩⟩
theorem getD_setN {M : List Nat} {k v : Nat} (h : k < M.length) : (fun i => (M.set k v).getD i 0) = fun i => if i = k then v else M.getD i 0 := by
  funext i
  simp only [List.getD_eq_getElem?_getD]
  by_cases hi : i = k
  · subst hi; rw [if_pos rfl, List.getElem?_set_self h]; rfl
  · rw [if_neg hi, List.getElem?_set_ne (fun e => hi e.symm)]
theorem count_setN {M : List Nat} {k v : Nat} (h : k < M.length) (h0 : M.getD k 0 = 0) (hv : 0 < v) : (M.set k v).count 0 + 1 = M.count 0 := by
  have hk : M[k] = 0 := by
    rw [List.getD_eq_getElem?_getD, List.getElem?_eq_getElem h, Option.getD_some] at h0; exact h0
  have hm : 0 < M.count 0 := List.count_pos_iff.2 (hk ▸ List.getElem_mem h)
  have hvz : (v == 0) = false := by simpa using (by omega : v ≠ 0)
  rw [List.count_set h, hk, hvz]
  simp only [beq_self_eq_true, if_true, Bool.false_eq_true, if_false]
  omega
theorem Fits.len {a b : Nat} {l : List UInt8} (h : Fits a b l) : l.length = a * b := by
  have := h.it
  simp only [sizedB, sideB, Bool.and_eq_true, beq_iff_eq, decide_eq_true_eq] at this
  obtain ⟨⟨⟨h1, h2⟩, h3, h4⟩, h5⟩ := this
  have := Nat.mul_le_mul (show a ≤ 640 by omega) (show b ≤ 640 by omega)
  rw [wm (by omega)] at h5
  omega
theorem snoc_cases (W : List Nat) : W = [] ∨ ∃ W' w, W = W' ++ [w] := by
  rcases List.eq_nil_or_concat W with h | ⟨W', w, h⟩
  · exact Or.inl h
  · exact Or.inr ⟨W', w, by rw [h, List.concat_eq_append]⟩
section
variable {l : List UInt8} {a b : Nat} {e : Bool} {M0 : Nat → Nat} {s n w T : Nat} {W M : List Nat}
theorem ring_nb {t j : Nat} (h : isNb a b w t j) : ringF a b l ((w % a : Nat) : Int) ((w / a : Nat) : Int) t = (l.getD j 0 == 1) := by
  obtain ⟨u, v, hu, hv, e1, e2, rfl⟩ := h
  show inkB a b l (_ + _) (_ + _) = _
  rw [← e1, ← e2]; exact inkB_mk hu hv
theorem nb_unique {t j k : Nat} (h : isNb a b w t j) (g : isNb a b w t k) : j = k := by
  obtain ⟨u, v, _, _, e1, e2, rfl⟩ := h
  obtain ⟨u', v', _, _, e1', e2', rfl⟩ := g
  have h1 : u = u' := by omega
  have h2 : v = v' := by omega
  rw [h1, h2]
theorem stp_even (h : T % stp e = 0) : e = true ∨ T % 2 = 0 := by
  cases e
  · exact Or.inr h
  · exact Or.inl rfl
theorem Flood.next0 {M : Nat → Nat} (h : Flood l a b e M0 s n M W (some (w, T))) (he : T % stp e = 0) (hk : ∀ j, isNb a b w T j → l.getD j 0 = 1 → M j ≠ 0) : Flood l a b e M0 s n M W (some (w, T + stp e)) := by
  refine h.keep fun t h1 h2 h3 j hj hl => ?_
  rcases Nat.lt_or_eq_of_le h1 with h4 | rfl
  · cases e
    · have h5 : T % 2 = 0 := he
      have h6 : t < T + 2 := h2
      rcases h3 with h3 | h3
      · cases h3
      · omega
    · have h6 : t < T + 1 := h2
      omega
  · exact hk j hj hl
theorem Flood.off (h : Flood l a b e M0 s n (fun i => M.getD i 0) W (some (w, T))) (he : T % stp e = 0) (hv : ringF a b l ((w % a : Nat) : Int) ((w / a : Nat) : Int) T = false) : Flood l a b e M0 s n (fun i => M.getD i 0) W (some (w, T + stp e)) :=
  h.next0 he fun j hj hl => by rw [ring_nb hj, hl] at hv; cases hv
theorem Flood.been (h : Flood l a b e M0 s n (fun i => M.getD i 0) W (some (w, T))) (he : T % stp e = 0) {k : Nat} (hk : isNb a b w T k) (h0 : M.getD k 0 ≠ 0) : Flood l a b e M0 s n (fun i => M.getD i 0) W (some (w, T + stp e)) :=
  h.next0 he fun j hj _ => by rw [nb_unique hj hk]; exact h0
theorem Flood.add (h : Flood l a b e M0 s n (fun i => M.getD i 0) W (some (w, T))) (he : T % stp e = 0) {k : Nat} (hT : T < 8) (hk : isNb a b w T k) (hl : l.getD k 0 = 1) (h0 : M.getD k 0 = 0) (hm : Whole l a b e M0 n) (hn : 0 < n) (hkM : k < M.length) : Flood l a b e M0 s n (fun i => (M.set k n).getD i 0) (W ++ [k]) (some (w, T + stp e)) := by
  have h1 := h.mark hn hT (stp_even he) hk hl h0 hm
  rw [← getD_setN hkM] at h1
  refine h1.next0 he fun j hj _ => ?_
  rw [nb_unique hj hk, congrFun (getD_setN hkM) k, if_pos rfl]; omega
end
theorem wd {x : Nat} {d : Int} (h : x ≤ 640) (hd : -1 ≤ d ∧ d ≤ 1) : IntKind.i64.wrap ((x : Int) + d) = (x : Int) + d := w64 (by omega)
theorem one_ints {H : AHeap} {k : Int} {e : TypeId} : IntsI (H.push (.row [.int .i64 k] true e)) (.slice H.n 0 1 (some 1) 1) [k] := ⟨Or.inr ⟨H.n, 0, some 1, _, true, e, rfl, Nat.lt_succ_self _, push_get_eq, Nat.le_refl _, rfl, Nat.le_refl _⟩⟩
structure Lab (l : List UInt8) (a b : Nat) (e : Bool) (M : List Nat) (L : List Nat) (i : Nat) : Prop where
  len : M.length = a * b
  whole : Whole l a b e (fun j => M.getD j 0) (L.length + 1)
  seen : ∀ j, j < i → l.getD j 0 = 1 → M.getD j 0 ≠ 0
  lead : ∀ m ∈ L, m < i ∧ Lead l a b e m m
  inc : L.Pairwise (· < ·)
  num : ∀ j, M.getD j 0 ≠ 0 → ∃ m, L[M.getD j 0 - 1]? = some m ∧ Reach l a b e m j
theorem getD_zeros (n i : Nat) : (List.replicate n 0).getD i 0 = 0 := by
  rw [List.getD_eq_getElem?_getD, List.getElem?_replicate]
  split <;> rfl
section
variable {l : List UInt8} {a b : Nat} {e : Bool} {M L : List Nat} {i : Nat}
theorem Lab.begin : Lab l a b e (List.replicate (a * b) 0) [] 0 :=
  ⟨List.length_replicate .., ⟨fun i => by show (List.replicate (a * b) 0).getD i 0 < _; rw [getD_zeros]; exact Nat.one_pos, fun i h => absurd (getD_zeros _ _) h, fun i j h => absurd (getD_zeros _ _) h⟩, fun j h => absurd h (Nat.not_lt_zero _), fun m h => (by cases h), List.Pairwise.nil, fun j h => absurd (getD_zeros _ _) h⟩
theorem Lab.skip (h : Lab l a b e M L i) (hi : l.getD i 0 = 1 → M.getD i 0 ≠ 0) : Lab l a b e M L (i + 1) :=
  ⟨h.len, h.whole, fun j hj hl => by
    rcases Nat.lt_succ_iff_lt_or_eq.1 hj with q | rfl
    · exact h.seen j q hl
    · exact hi hl, fun m hm => ⟨Nat.lt_succ_of_lt (h.lead m hm).1, (h.lead m hm).2⟩, h.inc, h.num⟩
theorem Lab.fresh (h : Lab l a b e M L i) (hi : i < a * b) (hl : l.getD i 0 = 1) (h0 : M.getD i 0 = 0) : Lead l a b e i i := by
  refine ⟨.refl hi hl, fun j hj => Nat.le_of_not_lt fun hlt => ?_⟩
  have h1 := h.seen j hlt hj.end_ok.2
  have h2 := h.whole.same j i h1 hj.symm
  exact h1 (by rw [← h2]; exact h0)
theorem Lab.next {M' : List Nat} (h : Lab l a b e M L i) (hi : i < a * b) (hl : l.getD i 0 = 1) (h0 : M.getD i 0 = 0) (hM : M'.length = a * b) (hm : ∀ j, (Reach l a b e i j → M'.getD j 0 = L.length + 1) ∧ (¬ Reach l a b e i j → M'.getD j 0 = M.getD j 0)) : Lab l a b e M' (L ++ [i]) (i + 1) := by
  classical
  have hlen : (L ++ [i]).length = L.length + 1 := by simp
  refine ⟨hM, by rw [hlen]; exact h.whole.next (Nat.succ_pos _) hi hl hm, fun j hj hlj => ?_, fun m hmm => ?_, ?_, fun j hj => ?_⟩
  · by_cases q : Reach l a b e i j
    · rw [(hm j).1 q]; exact Nat.succ_ne_zero _
    · rw [(hm j).2 q]
      rcases Nat.lt_succ_iff_lt_or_eq.1 hj with q' | rfl
      · exact h.seen j q' hlj
      · exact absurd (.refl hi hl) q
  · rcases List.mem_append.1 hmm with q | q
    · exact ⟨Nat.lt_succ_of_lt (h.lead m q).1, (h.lead m q).2⟩
    · rw [List.mem_singleton] at q; subst q
      exact ⟨Nat.lt_succ_self _, h.fresh hi hl h0⟩
  · rw [List.pairwise_append]
    exact ⟨h.inc, List.pairwise_singleton _ _, fun x hx y hy => by
      rw [List.mem_singleton] at hy; subst hy; exact (h.lead x hx).1⟩
  · by_cases q : Reach l a b e i j
    · refine ⟨i, ?_, q⟩
      rw [(hm j).1 q, Nat.add_sub_cancel, List.getElem?_append_right (Nat.le_refl _), Nat.sub_self]; rfl
    · rw [(hm j).2 q] at hj ⊢
      obtain ⟨m, h1, h2⟩ := h.num j hj
      refine ⟨m, ?_, h2⟩
      rw [List.getElem?_append_left (by
        rcases Nat.lt_or_ge (M.getD j 0 - 1) L.length with q' | q'
        · exact q'
        · rw [List.getElem?_eq_none q'] at h1; cases h1)]
      exact h1
theorem Lab.few (h : Lab l a b e M L i) : L.length ≤ i := by
  have h1 : ∀ m ∈ L, m < i := fun m hm => (h.lead m hm).1
  have h2 := h.inc
  clear h
  induction i generalizing L with
  | zero =>
    cases L with
    | nil => exact Nat.le_refl _
    | cons x _ => exact absurd (h1 x (List.mem_cons_self ..)) (Nat.not_lt_zero _)
  | succ i ih =>
    rcases snoc_cases L with rfl | ⟨L', w, rfl⟩
    · exact Nat.zero_le _
    · rw [List.pairwise_append] at h2
      rw [List.length_append, List.length_singleton]
      refine Nat.succ_le_succ (ih (fun m hm => ?_) h2.1)
      have h3 := h2.2.2 m hm w (List.mem_singleton.2 rfl)
      have h4 := h1 w (List.mem_append_right _ (List.mem_singleton.2 rfl))
      omega
end
section
variable {call : ACall} {fr : AFrame} {H : AHeap} {K : AVal → AHeap → Prop}
end
section
variable {call : ACall} {its : List DItem} {H0 : AHeap} {n ref : Nat} {E : List (Nat × AHeap)} {Rd : List (Nat × (AHeap → Bool))} {fr : AFrame} {H : AHeap} {K : AFrame → AHeap → Prop} {g : Option (Nat × Bool)} {b : Nat} {pre : Bool}
theorem WpE.grow {d : Option Nat} {e : TypeId} {x y : ROpd} {p q : AVal} {sz m k bytes : Nat} {cs new : List AVal} (hw : ROper.wanted fr ⟨d, .append e sz bytes x y, g⟩ = true) (hx : x.ev fr = p) (hy : y.ev fr = q) [h : OwnS H p sz m cs e] [hq : SliceAt H q sz k new] (hsz : 0 < sz) (hb : 0 < bytes) (hk : 0 < k) (hroom : 2 * (m + k) * bytes ≤ 2 ^ 48) (hone : new.all AVal.one = true)
    (hK : ∀ p' H', OwnS H' p' sz (m + k) (cs ++ new) e → FreshS H p' → ExtP H H' p → AllR b H' Rd ∧ WpE call (n + 1) ref its H0 ((n, H) :: E) Rd (put fr d p') H' K) : WpE call n ref (⟨⟨d, .append e sz bytes x y, g⟩, b, 2, pre⟩ :: its) H0 E Rd fr H K := by
  obtain ⟨p', H1, h1, h2, h3, h4⟩ := WpX.grow (call := call) (K := fun v H1 => OwnS H1 v sz (m + k) (cs ++ new) e ∧ FreshS H v ∧ ExtP H H1 p) hx hy hsz hb hk hroom hone fun p' H' q1 q2 q3 => ⟨q1, q2, q3⟩
  obtain ⟨h5, h6⟩ := hK p' H1 h2 h3 h4
  exact WpE.effect hw h1 h5 h6
end
structure Bx where
  x : Int
  y : Int
  w : Int
  h : Int
def Bx.cells (b : Bx) : List AVal := [.int .i64 b.x, .int .i64 b.y, .int .i64 b.w, .int .i64 b.h]
def cellsC : List (Bx × AVal) → List AVal
  | [] => []
  | c :: C => (c.1.cells ++ [c.2]) ++ cellsC C
theorem cellsC_length : ∀ C : List (Bx × AVal), (cellsC C).length = C.length * 5
  | [] => rfl
  | c :: C => by
    have := cellsC_length C
    simp only [cellsC, Bx.cells, List.length_append, List.length_cons, List.length_nil, this]
    omega
theorem setAt_right (u cs : List AVal) : ∀ (vs : List AVal) (j : Nat), setAt (u ++ cs) (u.length + j) vs = u ++ setAt cs j vs := by
  intro vs
  induction vs generalizing cs with
  | nil => intro j; rfl
  | cons v vs ih =>
    intro j
    show setAt ((u ++ cs).set (u.length + j) v) (u.length + j + 1) vs = u ++ setAt (cs.set j v) (j + 1) vs
    rw [← ih (cs.set j v) (j + 1)]
    congr 1
    apply List.ext_getElem?
    intro i
    by_cases hi : i < u.length
    · rw [List.getElem?_set_ne (by omega), List.getElem?_append_left hi, List.getElem?_append_left hi]
    · rw [List.getElem?_append_right (Nat.le_of_not_lt hi)]
      by_cases hj : u.length + j = i
      · subst hj
        rw [show u.length + j - u.length = j by omega]
        by_cases hc : j < cs.length
        · rw [List.getElem?_set_self (by rw [List.length_append]; omega), List.getElem?_set_self hc]
        · rw [List.getElem?_eq_none (by simp; omega), List.getElem?_eq_none (by simp; omega)]
      · rw [List.getElem?_set_ne hj, List.getElem?_append_right (Nat.le_of_not_lt hi), List.getElem?_set_ne (by omega)]
theorem cellsC_box : ∀ (C : List (Bx × AVal)) (k : Nat) (c : Bx × AVal) (b : Bx), C[k]? = some c → setAt (cellsC C) (k * 5) b.cells = cellsC (C.set k (b, c.2))
  | [], k, c, b, h => by simp at h
  | d :: C, 0, c, b, h => by
    simp only [List.getElem?_cons_zero, Option.some.injEq] at h
    subst h; rfl
  | d :: C, k + 1, c, b, h => by
    have ih := cellsC_box C k c b (by simpa using h)
    have hl : (d.1.cells ++ [d.2]).length = 5 := rfl
    show setAt ((d.1.cells ++ [d.2]) ++ cellsC C) ((k + 1) * 5) b.cells = (d.1.cells ++ [d.2]) ++ cellsC (C.set k (b, c.2))
    rw [show (k + 1) * 5 = (d.1.cells ++ [d.2]).length + k * 5 by rw [hl]; omega, setAt_right, ih]
theorem cellsC_px : ∀ (C : List (Bx × AVal)) (k : Nat) (c : Bx × AVal) (p : AVal), C[k]? = some c → (cellsC C).set (k * 5 + 4) p = cellsC (C.set k (c.1, p))
  | [], k, c, b, h => by simp at h
  | d :: C, 0, c, b, h => by
    simp only [List.getElem?_cons_zero, Option.some.injEq] at h
    subst h; rfl
  | d :: C, k + 1, c, p, h => by
    have ih := cellsC_px C k c p (by simpa using h)
    have hl : (d.1.cells ++ [d.2]).length = 5 := rfl
    have hs := setAt_right (d.1.cells ++ [d.2]) (cellsC C) [p] (k * 5 + 4)
    rw [setAt_one, setAt_one, hl, ih] at hs
    rw [show (k + 1) * 5 + 4 = 5 + (k * 5 + 4) by omega]
    exact hs
theorem cellsC_drop : ∀ (C : List (Bx × AVal)) (k : Nat) (c : Bx × AVal), C[k]? = some c → ∃ r, (cellsC C).drop (k * 5) = c.1.cells ++ [c.2] ++ r
  | [], k, c, h => by simp at h
  | d :: C, 0, c, h => by
    simp only [List.getElem?_cons_zero, Option.some.injEq] at h
    subst h; exact ⟨cellsC C, rfl⟩
  | d :: C, k + 1, c, h => by
    obtain ⟨r, hr⟩ := cellsC_drop C k c (by simpa using h)
    refine ⟨r, ?_⟩
    rw [← hr]
    show ((d.1.cells ++ [d.2]) ++ cellsC C).drop ((k + 1) * 5) = _
    rw [show (k + 1) * 5 = (d.1.cells ++ [d.2]).length + k * 5 by rw [show (d.1.cells ++ [d.2]).length = 5 from rfl]; omega, ← List.drop_drop, List.drop_left]
theorem cellsC_at {C : List (Bx × AVal)} {k : Nat} {c : Bx × AVal} (h : C[k]? = some c) : ((cellsC C).drop (k * 5)).take 4 = c.1.cells ∧ (cellsC C)[k * 5 + 4]? = some c.2 := by
  obtain ⟨r, hr⟩ := cellsC_drop C k c h
  refine ⟨by rw [hr]; rfl, ?_⟩
  have : ((cellsC C).drop (k * 5))[4]? = some c.2 := by rw [hr]; rfl
  rwa [List.getElem?_drop] at this
def cellsK (a : Nat) (l : List Nat) : List AVal := l.flatMap fun k => [.int .i64 ((k % a : Nat) : Int), .int .i64 ((k / a : Nat) : Int)]
theorem cellsK_snoc (a : Nat) (l : List Nat) (k : Nat) : cellsK a (l ++ [k]) = cellsK a l ++ [.int .i64 ((k % a : Nat) : Int), .int .i64 ((k / a : Nat) : Int)] := by simp [cellsK]
structure Cmps (K H : AHeap) (q : AVal) (a : Nat) (C : List (Bx × AVal)) (P : List (List Nat)) : Prop where
  len : P.length = C.length
  row : SliceAt H q 5 C.length (cellsC C)
  wr : WrS H q
  own : ∀ (k : Nat) c l, C[k]? = some c → P[k]? = some l → OwnS H c.2 2 l.length (cellsK a l) 93
  fresh : ∀ (k : Nat) c, C[k]? = some c → FreshS K c.2
  sep : ∀ (i j : Nat) c d, C[i]? = some c → C[j]? = some d → i ≠ j → SepS c.2 d.2
  sepq : ∀ (k : Nat) c, C[k]? = some c → SepS c.2 q
theorem set_at {α : Type} {C : List α} {k j : Nat} {x y : α} (h : (C.set k x)[j]? = some y) : (j = k ∧ y = x) ∨ (j ≠ k ∧ C[j]? = some y) := by
  by_cases hj : j = k
  · subst hj
    have hlt : j < C.length := by
      rcases Nat.lt_or_ge j C.length with q | q
      · exact q
      · rw [List.getElem?_eq_none (by rw [List.length_set]; exact q)] at h; cases h
    rw [List.getElem?_set_self hlt] at h
    exact Or.inl ⟨rfl, (Option.some.inj h).symm⟩
  · rw [List.getElem?_set_ne (fun e => hj e.symm)] at h
    exact Or.inr ⟨hj, h⟩
theorem SepS.symm {p q : AVal} (h : SepS p q) : SepS q p := ⟨fun r off len cap sz r' off' len' cap' sz' e e' hh => h.ne _ _ _ _ _ _ _ _ _ _ e' e hh.symm⟩
theorem Cmps.step {K H H3 : AHeap} {q p' : AVal} {a k i : Nat} {C : List (Bx × AVal)} {P : List (List Nat)} {l : List Nat} {b : Bx} (h : Cmps K H q a C P) (hl : P[k]? = some l) (hs : SliceAt H3 q 5 C.length (cellsC (C.set k (b, p')))) (hw : WrS H3 q) (ho : OwnS H3 p' 2 (l.length + 1) (cellsK a (l ++ [i])) 93) (hf : FreshS K p') (hn : ∀ (j : Nat) d, C[j]? = some d → j ≠ k → SepS d.2 p') (hq : SepS p' q)
    (hkeep : ∀ (j : Nat) d l', j ≠ k → C[j]? = some d → P[j]? = some l' → OwnS H3 d.2 2 l'.length (cellsK a l') 93) : Cmps K H3 q a (C.set k (b, p')) (P.set k (l ++ [i])) := by
  refine ⟨by rw [List.length_set, List.length_set]; exact h.len, by rw [List.length_set]; exact hs, hw, fun j c l' h1 h2 => ?_, fun j c h1 => ?_, fun i' j c d h1 h2 hne => ?_, fun j c h1 => ?_⟩
  · rcases set_at h1 with ⟨rfl, rfl⟩ | ⟨e1, h1⟩
    · rcases set_at h2 with ⟨_, rfl⟩ | ⟨e2, _⟩
      · rw [List.length_append, List.length_singleton]; exact ho
      · exact absurd rfl e2
    · rcases set_at h2 with ⟨e2, _⟩ | ⟨_, h2⟩
      · exact absurd e2 e1
      · exact hkeep j c l' e1 h1 h2
  · rcases set_at h1 with ⟨_, rfl⟩ | ⟨_, h1⟩
    · exact hf
    · exact h.fresh j c h1
  · rcases set_at h1 with ⟨rfl, rfl⟩ | ⟨e1, g1⟩
    · rcases set_at h2 with ⟨e2, _⟩ | ⟨e2, h2⟩
      · exact absurd e2.symm hne
      · exact (hn j d h2 e2).symm
    · rcases set_at h2 with ⟨rfl, rfl⟩ | ⟨_, h2⟩
      · exact hn i' c g1 e1
      · exact h.sep i' j c d g1 h2 hne
  · rcases set_at h1 with ⟨_, rfl⟩ | ⟨_, h1⟩
    · exact hq
    · exact h.sepq j c h1
def noC (n : Nat) : List (Bx × AVal) := List.replicate n (⟨0, 0, 0, 0⟩, .nslice)
theorem noC_cells (n : Nat) : (List.replicate n [AVal.int .i64 0, .int .i64 0, .int .i64 0, .int .i64 0, .nslice]).flatten = cellsC (noC n) := by
  induction n with
  | zero => rfl
  | succ n ih => rw [List.replicate_succ, List.flatten_cons, ih]; rfl
theorem rep_at {α : Type} {n k : Nat} {x y : α} (h : (List.replicate n x)[k]? = some y) : y = x := by
  rw [List.getElem?_replicate] at h
  split at h
  · exact (Option.some.inj h).symm
  · cases h
theorem WpX.mkC {call : ACall} {fr : AFrame} {H : AHeap} {K : AVal → AHeap → Prop} {e : TypeId} {x y : ROpd} {k k' : IntKind} {n m : Nat} (a : Nat) {K0 : AHeap} (hx : x.ev fr = .int k (n : Int)) (hy : y.ev fr = .int k' (n : Int)) (hm : m ≤ 64) (hn : n ≤ 2 ^ 40) (hK0 : K0.n ≤ H.n)
    (h : ∀ p H1, Cmps K0 H1 p a (noC n) (List.replicate n []) → FreshS H p → ExtI H H1 → K p H1) : WpX (.makeSlice e [.int .i64 0, .int .i64 0, .int .i64 0, .int .i64 0, .nslice] m x y) call fr H K := by
  have h0 : 0 ≤ (n : Int) ∧ (n : Int) ≤ (n : Int) ∧ (m : Int) * (n : Int) ≤ 2 ^ 47 ∧ (n : Int) < 2 ^ 62 := by
    have h1 : m * n ≤ 64 * 2 ^ 40 := Nat.mul_le_mul hm hn
    have h2 : ((m * n : Nat) : Int) = (m : Int) * (n : Int) := Int.natCast_mul m n
    refine ⟨by omega, by omega, by rw [← h2]; omega, by omega⟩
  refine ⟨.slice H.n 0 n (some n) 5, H.push (.row (cellsC (noC n)) true (2 * e)), ?_, h _ _ ?_ ⟨fun r off len cap sz q => by cases q; exact Nat.le_refl _⟩ ⟨(Ext.refl H).push _⟩⟩
  · simp only [ROp.exec, hx, hy, aMakeSlice, if_pos h0, M.bind, aNew, M.pure, Int.toNat_natCast, noC_cells]
    rfl
  · have hlen : (noC n).length = n := List.length_replicate ..
    have hcl := cellsC_length (noC n)
    rw [hlen] at hcl
    refine ⟨by rw [hlen, List.length_replicate], ?_, ⟨fun r off len cap sz q => by cases q; exact ⟨_, _, push_get_eq⟩⟩, fun k c l h1 h2 => ?_, fun k c h1 => ?_, fun i j c d h1 h2 _ => ?_, fun k c h1 => ?_⟩
    · rw [hlen]
      exact ⟨Or.inr ⟨H.n, 0, some n, _, true, _, rfl, Nat.lt_succ_self _, push_get_eq, by omega, by rw [List.drop_zero, List.take_of_length_le (by omega)], Nat.le_refl _⟩⟩
    · rw [rep_at h1, rep_at h2]; exact ⟨Or.inl ⟨rfl, rfl, rfl⟩⟩
    · rw [rep_at h1]; exact ⟨fun _ _ _ _ _ q => by cases q⟩
    · rw [rep_at h1]; exact ⟨fun _ _ _ _ _ _ _ _ _ _ q => by cases q⟩
    · rw [rep_at h1]; exact ⟨fun _ _ _ _ _ _ _ _ _ _ q => by cases q⟩
end Go.Am
namespace Go.Am
open Go
attribute [local irreducible] Wp WpO WpX WpE
def strX (x px : Int) : Int := if px < x then px else x
def strW (x w px : Int) : Int := IntKind.i64.wrap ((if IntKind.i64.wrap (px + 1) > IntKind.i64.wrap (x + w) then IntKind.i64.wrap (px + 1) else IntKind.i64.wrap (x + w)) - strX x px)
instance K_stretch0 {x y h px py : Int} {H : AHeap} : PureCon ext prog 76 [.agg [.int .i64 x, .int .i64 y, .int .i64 0, .int .i64 h], .agg [.int .i64 px, .int .i64 py]] H 1 (.agg [.int .i64 px, .int .i64 py, .int .i64 1, .int .i64 1]) := ⟨by
 refine con_of (show prog 76 = some c76 from rfl) rfl rfl fun n hn => ?_
 repeat first
  | refine fd ?_
  | refine Fo.ld rfl rfl ?_
  | (refine bn rfl rfl rfl (by simp only [↓nrmL, nrmZ, Nat.reduceEqDiff, ↓reduceIte, Nat.reduceAdd, Int.reduceBEq, Int.reduceBNe]; rfl) ?_)
  | refine bA ?_
  | refine nw ?_
  | (refine Fo.now rfl rfl (by simp only [↓nrmL, nrmZ, Nat.reduceEqDiff, ↓reduceIte, Nat.reduceAdd, Int.reduceBEq, Int.reduceBNe]; rfl) ?_)
  | (refine so rfl (rfl : _ = AVal.agg _) rfl rfl rfl (by simp only [↓nrmL, nrmZ, Nat.reduceEqDiff, ↓reduceIte, Nat.reduceAdd, Int.reduceBEq, Int.reduceBNe]; rfl) ?_)
  | refine nl hKF ?_
  | refine sq ?_
  | refine rg fun KF hKF => ?_
  | refine ct rfl ?_
  | refine rt ?_
  | dsimp only [cond_true, cond_false]
 refine rz trivial ?_
 exact ⟨rfl, Ext0.ext⟩⟩
theorem K_stretch {x y w h px py : Int} {H : AHeap} (hw : (w == 0) = false) : PureCon ext prog 76 [.agg [.int .i64 x, .int .i64 y, .int .i64 w, .int .i64 h], .agg [.int .i64 px, .int .i64 py]] H 1 (.agg [.int .i64 (strX x px), .int .i64 (strX y py), .int .i64 (strW x w px), .int .i64 (strW y h py)]) := ⟨by
 refine con_of (show prog 76 = some c76 from rfl) rfl rfl fun n hn => ?_
 unfold strW strX
 repeat first
  | refine mI ?_
  | refine fd ?_
  | refine Fo.ld rfl rfl ?_
  | (refine bn rfl rfl rfl (by simp only [hw]; rfl) ?_)
  | (refine bn rfl rfl rfl (by simp only [↓nrmL, nrmZ, Nat.reduceEqDiff, ↓reduceIte, Nat.reduceAdd, Int.reduceBEq, Int.reduceBNe, hw]; rfl) ?_)
  | refine b0 ?_
  | refine bA ?_
  | refine nw ?_
  | (refine Fo.now rfl rfl (by simp only [hw]; rfl) ?_)
  | (refine Fo.now rfl rfl (by simp only [↓nrmL, nrmZ, Nat.reduceEqDiff, ↓reduceIte, Nat.reduceAdd, Int.reduceBEq, Int.reduceBNe, hw]; rfl) ?_)
  | refine Fo.now rfl rfl rfl ?_
  | (refine so rfl (rfl : _ = AVal.agg _) rfl rfl rfl (by simp only [↓nrmL, nrmZ, Nat.reduceEqDiff, ↓reduceIte, Nat.reduceAdd, Int.reduceBEq, Int.reduceBNe, hw]; rfl) ?_)
  | refine nl hKF ?_
  | refine sq ?_
  | refine rg fun KF hKF => ?_
  | refine Fr.quiet rfl rfl fun KF hKF => ?_
  | refine cf rfl ?_
  | refine sk ?_
  | refine rt ?_
  | dsimp only [cond_true, cond_false]
 refine rz trivial ?_
 exact ⟨rfl, Ext0.ext⟩⟩
end Go.Am
namespace Go.Am
open Go
def pxs (M : List Nat) (i k : Nat) : List Nat := (List.range i).filter fun j => M.getD j 0 == k + 1
theorem pxs_hit {M : List Nat} {i k : Nat} (h : M.getD i 0 = k + 1) : pxs M (i + 1) k = pxs M i k ++ [i] := by
  unfold pxs
  have hb : (M.getD i 0 == k + 1) = true := by rw [h]; exact beq_self_eq_true _
  rw [List.range_succ, List.filter_append]
  simp only [List.filter_cons, hb, if_true, List.filter_nil]
theorem pxs_miss {M : List Nat} {i k : Nat} (h : M.getD i 0 ≠ k + 1) : pxs M (i + 1) k = pxs M i k := by
  unfold pxs
  have hb : (M.getD i 0 == k + 1) = false := beq_eq_false_iff_ne.2 h
  rw [List.range_succ, List.filter_append]
  simp only [List.filter_cons, hb, Bool.false_eq_true, if_false, List.filter_nil, List.append_nil]
def pxAll (M : List Nat) (n i : Nat) : List (List Nat) := (List.range n).map (pxs M i)
theorem pxAll_length (M : List Nat) (n i : Nat) : (pxAll M n i).length = n := by simp [pxAll]
theorem pxAll_zero (M : List Nat) (n : Nat) : pxAll M n 0 = List.replicate n [] := by
  unfold pxAll
  apply List.ext_getElem?
  intro k
  rw [List.getElem?_map, List.getElem?_replicate]
  by_cases h : k < n
  · rw [List.getElem?_range h, if_pos h]; rfl
  · rw [List.getElem?_eq_none (by simp; omega), if_neg h]; rfl
theorem pxAll_at {M : List Nat} {n i k : Nat} (h : k < n) : (pxAll M n i)[k]? = some (pxs M i k) := by
  unfold pxAll
  rw [List.getElem?_map, List.getElem?_range h]; rfl
theorem pxAll_skip {M : List Nat} {n i : Nat} (h : M.getD i 0 = 0) : pxAll M n (i + 1) = pxAll M n i := by
  unfold pxAll
  apply List.map_congr_left
  intro k _
  exact pxs_miss (by omega)
theorem pxAll_next {M : List Nat} {n i k : Nat} (h : M.getD i 0 = k + 1) : pxAll M n (i + 1) = (pxAll M n i).set k (pxs M i k ++ [i]) := by
  apply List.ext_getElem?
  intro j
  by_cases hj : j < n
  · rw [pxAll_at hj]
    by_cases hk : k = j
    · subst hk
      rw [List.getElem?_set_self (by rw [pxAll_length]; exact hj), pxs_hit h]
    · rw [List.getElem?_set_ne hk, pxAll_at hj, pxs_miss (by omega)]
  · rw [List.getElem?_eq_none (by rw [pxAll_length]; omega), List.getElem?_eq_none (by rw [List.length_set, pxAll_length]; omega)]
theorem pxs_le (M : List Nat) (i k : Nat) : (pxs M i k).length ≤ i := by
  unfold pxs
  exact Nat.le_trans (List.length_filter_le _ _) (by simp)
def bxS (b : Bx) (px py : Int) : Bx := bif b.w == 0 then ⟨px, py, 1, 1⟩ else ⟨strX b.x px, strX b.y py, strW b.x b.w px, strW b.y b.h py⟩
def bxL (a : Nat) (l : List Nat) : Bx := l.foldl (fun b k => bxS b ((k % a : Nat) : Int) ((k / a : Nat) : Int)) ⟨0, 0, 0, 0⟩
theorem bxL_snoc (a : Nat) (l : List Nat) (k : Nat) : bxL a (l ++ [k]) = bxS (bxL a l) ((k % a : Nat) : Int) ((k / a : Nat) : Int) := by
  unfold bxL
  rw [List.foldl_append]; rfl
instance K_stretchB {b : Bx} {px py : Int} {H : AHeap} : PureCon ext prog 76 [.agg b.cells, .agg [.int .i64 px, .int .i64 py]] H 1 (.agg (bxS b px py).cells) := by
  obtain ⟨x, y, w, h⟩ := b
  unfold bxS Bx.cells
  cases hw : w == 0
  · exact K_stretch hw
  · have : w = 0 := eq_of_beq hw
    subst this
    exact K_stretch0
theorem bx_cells (b : Bx) : b.cells.length = 4 ∧ b.cells.all AVal.one = true := ⟨rfl, rfl⟩
structure CmpsR (K H : AHeap) (q : AVal) (l : List UInt8) (a b : Nat) (e : Bool) (M L : List Nat) (C : List (Bx × AVal)) : Prop where
  lab : Lab l a b e M L (a * b)
  cmps : Cmps K H q a C (pxAll M L.length (a * b))
  box : ∀ (k : Nat) c, C[k]? = some c → c.1 = bxL a (pxs M (a * b) k)
  num : C.length = L.length
structure RNum (l : List UInt8) (a b : Nat) (e : Bool) (N : List Nat) : Prop where
  len : N.length = a * b
  le : ∀ i, i < a * b → N.getD i 0 ≤ i
  ink : ∀ i, i < a * b → l.getD i 0 = 1 → Reach l a b e i (N.getD i 0)
section
variable {l : List UInt8} {a b : Nat} {e : Bool} {N : List Nat}
theorem getD_range {n i : Nat} (h : i < n) : (List.range n).getD i 0 = i := by
  rw [List.getD_eq_getElem?_getD, List.getElem?_range h]; rfl
theorem RNum.begin : RNum l a b e (List.range (a * b)) :=
  ⟨List.length_range, fun i hi => by rw [getD_range hi]; exact Nat.le_refl _, fun i hi hl => by rw [getD_range hi]; exact .refl hi hl⟩
end
structure Pas (l : List UInt8) (a b : Nat) (e : Bool) (N0 N : List Nat) (ch : Bool) (P : Prop) : Prop where
  num : RNum l a b e N
  it : (ch = true ∧ N.sum < N0.sum) ∨ (ch = false ∧ N = N0 ∧ P)
theorem Pas.to {l : List UInt8} {a b : Nat} {e : Bool} {N0 N : List Nat} {ch : Bool} {P Q : Prop} (h : Pas l a b e N0 N ch P) (hq : N = N0 → P → Q) : Pas l a b e N0 N ch Q :=
  ⟨h.num, h.it.imp id fun ⟨h1, h2, h3⟩ => ⟨h1, h2, hq h2 h3⟩⟩
end Go.Am
namespace Go.Am
open Go
attribute [local irreducible] Wp WpO WpX WpE
abbrev RunT := Int × Int × Int
def cellsR (l : List RunT) : List AVal := l.flatMap fun r => [.int .i64 r.1, .int .i64 r.2.1, .int .i64 r.2.2]
end Go.Am
namespace Go.Am
open Go
attribute [local irreducible] Wp WpO WpX WpE
instance {H : AHeap} {r : Nat} {a b c : AVal} {rw : Bool} {ty : TypeId} [h : HasRow H r [a, b, c] rw ty] : SliceAt H (.slice r 0 1 (some 1) 3) 3 1 [a, b, c] := ⟨Or.inr ⟨r, 0, some 1, _, rw, ty, rfl, h.lt, h.get, by simp, rfl, Nat.le_refl _⟩⟩
structure JR (Hb : AHeap) (rl r : Nat) (R0 : RLoop) (acc : List RunT) (H : AHeap) : Prop where
 n : Hb.n ≤ H.n
 get : ∀ s, s < Hb.n → s ≠ rl → H.get s = Hb.get s
 cell : ∃ p e, HasRow H rl [p] true e ∧ OwnS H p 3 acc.length (cellsR acc) 61 ∧ RowNe p rl ∧ FreshS Hb p
 loop : HasLoop H r R0
theorem JR.more {Hb H H' : AHeap} {rl r : Nat} {R0 : RLoop} {acc : List RunT} (h : JR Hb rl r R0 acc H) (x : Ext H H') : JR Hb rl r R0 acc H' := by
 obtain ⟨p, e, h1, h2, h3, h4⟩ := h.cell
 haveI : ExtI H H' := ⟨x⟩
 have h5 := h.loop
 have hn := h.n
 exact ⟨Nat.le_trans h.n x.n, fun s hs hne => by rw [x.get s (by omega)]; exact h.get s hs hne, ⟨p, e, inferInstance, inferInstance, h3, h4⟩, inferInstance⟩
end Go.Am
namespace Go.Am
open Go
attribute [local irreducible] Wp WpO WpX WpE
theorem JR.row {Hb H : AHeap} {rl r s : Nat} {R0 : RLoop} {acc : List RunT} {cs : List AVal} {rw : Bool} {e : TypeId} (h : JR Hb rl r R0 acc H) (k : HasRow Hb s cs rw e) (hne : s ≠ rl) : HasRow H s cs rw e := ⟨Nat.lt_of_lt_of_le k.lt h.n, by rw [h.get s k.lt hne]; exact k.get⟩
theorem JR.bytes {Hb H : AHeap} {rl r : Nat} {R0 : RLoop} {acc : List RunT} {p : AVal} {l : List UInt8} (h : JR Hb rl r R0 acc H) (k : BytesI Hb p l) (hne : RowNe p rl) : BytesI H p l := k.keep h.n fun s _ _ _ _ e hs => h.get s hs (hne.ne _ _ _ _ _ e)
theorem JR.ext {Hh Hb H : AHeap} {rl r : Nat} {R0 : RLoop} {acc : List RunT} (h : JR Hb rl r R0 acc H) (x : Ext Hh Hb) (hrl : Hh.n ≤ rl) : Ext Hh H := ⟨Nat.le_trans x.n h.n, fun s hs => by have := x.n; rw [h.get s (by omega) (by omega), x.get s hs]⟩
theorem JR.start {Hb : AHeap} {rl : Nat} {R0 : RLoop} {e : TypeId} (k : HasRow Hb rl [.nslice] true e) : JR Hb rl (Hb.n + 1) R0 [] ((Hb.push .dead).push (.loop R0)) := by
 have hlt := k.lt
 refine ⟨by simp only [AHeap.push]; omega, fun s hs _ => ?_, ⟨.nslice, e, inferInstance, ⟨Or.inl ⟨rfl, rfl, rfl⟩⟩, inferInstance, ⟨fun _ _ _ _ _ q => by cases q⟩⟩, (inferInstance : HasLoop ((Hb.push .dead).push (.loop R0)) (Hb.push .dead).n R0)⟩
 rw [push_get_lt (by simp only [AHeap.push]; omega), push_get_lt hs]
end Go.Am
namespace Go.Am
open Go
attribute [local irreducible] Wp WpO WpX WpE
end Go.Am
namespace Go.Am
open Go
attribute [local irreducible] Wp WpO WpX WpE
end Go.Am
namespace Go.Am
open Go
attribute [local irreducible] Wp WpO WpX WpE
end Go.Am
namespace Go.Am
open Go
def inkOf (n : Nat) (ps : List Nat) : List UInt8 := (List.range n).map fun j => if j ∈ ps then 1 else 0
def pxr (l : List UInt8) (N : List Nat) (i k : Nat) : List Nat := (List.range k).filter fun j => l.getD j 0 == 1 && N.getD j 0 == i
theorem pxr_le (l : List UInt8) (N : List Nat) (i k : Nat) : (pxr l N i k).length ≤ k := by
  unfold pxr
  exact Nat.le_trans (List.length_filter_le _ _) (by simp)
def fls (l : List UInt8) (N : List Nat) (i : Nat) : List Nat := (List.range i).filter fun m => l.getD m 0 == 1 && N.getD m 0 == m
theorem fls_hit {l : List UInt8} {N : List Nat} {i : Nat} (h : l.getD i 0 = 1) (g : N.getD i 0 = i) : fls l N (i + 1) = fls l N i ++ [i] := by
  have hb : (l.getD i 0 == 1 && N.getD i 0 == i) = true := by rw [h, g]; simp
  unfold fls
  rw [List.range_succ, List.filter_append]
  simp only [List.filter_cons, hb, if_true, List.filter_nil]
theorem fls_miss {l : List UInt8} {N : List Nat} {i : Nat} (h : (l.getD i 0 == 1 && N.getD i 0 == i) = false) : fls l N (i + 1) = fls l N i := by
  unfold fls
  rw [List.range_succ, List.filter_append]
  simp only [List.filter_cons, h, Bool.false_eq_true, if_false, List.filter_nil, List.append_nil]
theorem fls_le (l : List UInt8) (N : List Nat) (i : Nat) : (fls l N i).length ≤ i := by
  unfold fls
  exact Nat.le_trans (List.length_filter_le _ _) (by simp)
def boxR (l : List UInt8) (a b : Nat) : Bx := ⟨(extL (colsL l a b)).1, (extL (rowsL l a b)).1, (extL (colsL l a b)).2, (extL (rowsL l a b)).2⟩
theorem cellsC_snoc (C : List (Bx × AVal)) (c : Bx × AVal) : cellsC (C ++ [c]) = cellsC C ++ (c.1.cells ++ [c.2]) := by
  induction C with
  | nil => rfl
  | cons d C ih => show (d.1.cells ++ [d.2]) ++ cellsC (C ++ [c]) = ((d.1.cells ++ [d.2]) ++ cellsC C) ++ (c.1.cells ++ [c.2]); rw [ih]; simp only [List.append_assoc]
structure RefC (K H : AHeap) (l : List UInt8) (N : List Nat) (a b i : Nat) (o : AVal) (C : List (Bx × AVal)) : Prop where
  own : OwnS H o 5 C.length (cellsC C) 91
  fresh : FreshS K o
  num : C.length = (fls l N i).length
  box : ∀ (k : Nat) c m, C[k]? = some c → (fls l N i)[k]? = some m → c.1 = boxR (inkOf (a * b) (pxr l N m (a * b))) a b
  px : ∀ (k : Nat) c m, C[k]? = some c → (fls l N i)[k]? = some m → SliceAt H c.2 2 (pxr l N m (a * b)).length (cellsK a (pxr l N m (a * b)))
  sep : ∀ (k : Nat) c, C[k]? = some c → SepS c.2 o
  fr : ∀ (k : Nat) c, C[k]? = some c → FreshS K c.2
theorem RefC.begin {K H : AHeap} {l : List UInt8} {N : List Nat} {a b : Nat} : RefC K H l N a b 0 .nslice [] :=
  ⟨⟨Or.inl ⟨rfl, rfl, rfl⟩⟩, ⟨fun _ _ _ _ _ q => by cases q⟩, rfl, fun k c m h => (by simp at h), fun k c m h => (by simp at h), fun k c h => (by simp at h), fun k c h => (by simp at h)⟩
theorem RefC.skip {K H : AHeap} {l : List UInt8} {N : List Nat} {a b i : Nat} {o : AVal} {C : List (Bx × AVal)} (h : RefC K H l N a b i o C) (g : (l.getD i 0 == 1 && N.getD i 0 == i) = false) : RefC K H l N a b (i + 1) o C := by
  obtain ⟨h1, h2, h3, h4, h5, h6, h7⟩ := h
  exact ⟨h1, h2, by rw [fls_miss g]; exact h3, by rw [fls_miss g]; exact h4, by rw [fls_miss g]; exact h5, h6, h7⟩
theorem RefC.ext {K H H' : AHeap} {l : List UInt8} {N : List Nat} {a b i : Nat} {o : AVal} {C : List (Bx × AVal)} (h : RefC K H l N a b i o C) (x : Ext H H') : RefC K H' l N a b i o C := by
  obtain ⟨h1, h2, h3, h4, h5, h6, h7⟩ := h
  haveI : ExtI H H' := ⟨x⟩
  exact ⟨inferInstance, h2, h3, h4, fun k c m q r => by haveI := h5 k c m q r; infer_instance, h6, h7⟩
theorem snoc_at {α : Type} {C : List α} {x y : α} {k : Nat} (h : (C ++ [x])[k]? = some y) : (k < C.length ∧ C[k]? = some y) ∨ (k = C.length ∧ y = x) := by
  by_cases hk : k < C.length
  · rw [List.getElem?_append_left hk] at h; exact Or.inl ⟨hk, h⟩
  · rw [List.getElem?_append_right (by omega)] at h
    cases hj : k - C.length with
    | zero => rw [hj] at h; simp at h; exact Or.inr ⟨by omega, h.symm⟩
    | succ j => rw [hj] at h; simp at h
theorem RefC.next {K H H' : AHeap} {l : List UInt8} {N : List Nat} {a b i : Nat} {o o' pl : AVal} {C : List (Bx × AVal)} {bx : Bx} (h : RefC K H l N a b i o C) (hl : l.getD i 0 = 1) (hN : N.getD i 0 = i) (ho : OwnS H' o' 5 (C.length + 1) (cellsC C ++ (bx.cells ++ [pl])) 91) (hf : FreshS H o') (hK : Ext K H ∨ FreshS K o') (hx : ExtP H H' o) (hb : bx = boxR (inkOf (a * b) (pxr l N i (a * b))) a b)
    (hp : SliceAt H pl 2 (pxr l N i (a * b)).length (cellsK a (pxr l N i (a * b)))) (hs : SepS pl o) (hg : FreshS K pl) : RefC K H' l N a b (i + 1) o' (C ++ [(bx, pl)]) := by
  refine ⟨by rw [List.length_append, List.length_singleton, cellsC_snoc]; exact ho, ?_, by rw [fls_hit hl hN, List.length_append, List.length_append, h.num]; rfl, fun k c m h1 h2 => ?_, fun k c m h1 h2 => ?_, fun k c h1 => ?_, fun k c h1 => ?_⟩
  · rcases hK with hK | hK
    · exact ⟨fun _ _ _ _ _ q => Nat.le_trans hK.n (hf.ge _ _ _ _ _ q)⟩
    · exact hK
  · rw [fls_hit hl hN] at h2
    rcases snoc_at h1 with ⟨q1, h1⟩ | ⟨q1, rfl⟩
    · rcases snoc_at h2 with ⟨_, h2⟩ | ⟨q2, _⟩
      · exact h.box k c m h1 h2
      · rw [q2, ← h.num] at q1; exact absurd q1 (Nat.lt_irrefl _)
    · rcases snoc_at h2 with ⟨q2, _⟩ | ⟨_, rfl⟩
      · rw [q1, h.num] at q2; exact absurd q2 (Nat.lt_irrefl _)
      · exact hb
  · rw [fls_hit hl hN] at h2
    rcases snoc_at h1 with ⟨q1, h1⟩ | ⟨q1, rfl⟩
    · rcases snoc_at h2 with ⟨_, h2⟩ | ⟨q2, _⟩
      · haveI := h.px k c m h1 h2
        haveI := h.sep k c h1
        infer_instance
      · rw [q2, ← h.num] at q1; exact absurd q1 (Nat.lt_irrefl _)
    · rcases snoc_at h2 with ⟨q2, _⟩ | ⟨_, rfl⟩
      · rw [q1, h.num] at q2; exact absurd q2 (Nat.lt_irrefl _)
      · infer_instance
  · rcases snoc_at h1 with ⟨q1, h1⟩ | ⟨q1, rfl⟩
    · obtain ⟨m, h2⟩ : ∃ m, (fls l N i)[k]? = some m := ⟨_, List.getElem?_eq_getElem (by rw [← h.num]; exact q1)⟩
      haveI := h.px k c m h1 h2
      infer_instance
    · infer_instance
  · rcases snoc_at h1 with ⟨_, h1⟩ | ⟨_, rfl⟩
    · exact h.fr k c h1
    · exact hg
instance {H : AHeap} {r : Nat} {c0 c1 : AVal} {rw : Bool} {e : TypeId} [h : HasRow H r [c0, c1] rw e] : SliceAt H (.slice r 0 1 (some 1) 2) 2 1 [c0, c1] := ⟨Or.inr ⟨r, 0, some 1, _, rw, e, rfl, h.lt, h.get, Nat.le_refl _, rfl, Nat.le_refl _⟩⟩
instance {H : AHeap} {r : Nat} {c0 c1 c2 c3 c4 : AVal} {rw : Bool} {e : TypeId} [h : HasRow H r [c0, c1, c2, c3, c4] rw e] : SliceAt H (.slice r 0 1 (some 1) 5) 5 1 [c0, c1, c2, c3, c4] := ⟨Or.inr ⟨r, 0, some 1, _, rw, e, rfl, h.lt, h.get, Nat.le_refl _, rfl, Nat.le_refl _⟩⟩
theorem inc_eq : ∀ {l m : List Nat}, l.Pairwise (· < ·) → m.Pairwise (· < ·) → (∀ x, x ∈ l ↔ x ∈ m) → l = m
  | [], [], _, _, _ => rfl
  | [], y :: m, _, _, h => by have := (h y).2 (List.mem_cons_self ..); cases this
  | x :: l, [], _, _, h => by have := (h x).1 (List.mem_cons_self ..); cases this
  | x :: l, y :: m, h1, h2, h => by
    rw [List.pairwise_cons] at h1 h2
    have hxy : x = y := by
      rcases List.mem_cons.1 ((h x).1 (List.mem_cons_self ..)) with q | q
      · exact q
      · rcases List.mem_cons.1 ((h y).2 (List.mem_cons_self ..)) with r | r
        · exact r.symm
        · have := h2.1 x q; have := h1.1 y r; omega
    subst hxy
    rw [inc_eq h1.2 h2.2 fun z => ?_]
    constructor
    · intro hz
      rcases List.mem_cons.1 ((h z).1 (List.mem_cons_of_mem _ hz)) with q | q
      · have := h1.1 z hz; omega
      · exact q
    · intro hz
      rcases List.mem_cons.1 ((h z).2 (List.mem_cons_of_mem _ hz)) with q | q
      · have := h2.1 z hz; omega
      · exact q
theorem inc_inj {L : List Nat} (h : L.Pairwise (· < ·)) {i k m : Nat} (h1 : L[i]? = some m) (h2 : L[k]? = some m) : i = k := by
  obtain ⟨g1, e1⟩ := List.getElem?_eq_some_iff.1 h1
  obtain ⟨g2, e2⟩ := List.getElem?_eq_some_iff.1 h2
  rw [List.pairwise_iff_getElem] at h
  rcases Nat.lt_trichotomy i k with q | q | q
  · have := h i k g1 g2 q; omega
  · exact q
  · have := h k i g2 g1 q; omega
section
variable {l : List UInt8} {a b : Nat} {e : Bool} {M L N : List Nat}
theorem fls_inc (l : List UInt8) (N : List Nat) (i : Nat) : (fls l N i).Pairwise (· < ·) := by
  unfold fls
  exact List.Pairwise.filter _ List.pairwise_lt_range
theorem fls_eq (h : Lab l a b e M L (a * b)) (hld : ∀ i, i < a * b → l.getD i 0 = 1 → Lead l a b e i (N.getD i 0)) : L = fls l N (a * b) := by
  refine inc_eq h.inc (fls_inc _ _ _) fun m => ?_
  unfold fls
  rw [List.mem_filter, List.mem_range, Bool.and_eq_true, beq_iff_eq, beq_iff_eq]
  constructor
  · intro hm
    obtain ⟨h1, h2⟩ := h.lead m hm
    have h3 := h2.1.start_ok.2
    exact ⟨h1, h3, (hld m h1 h3).unique h2⟩
  · rintro ⟨h1, h2, h3⟩
    have h4 := hld m h1 h2
    rw [h3] at h4
    obtain ⟨m', h5, h6⟩ := h.num m (h.seen m h1 h2)
    have h7 := (h.lead m' (List.mem_of_getElem? h5)).2
    have h8 : m' = m := (h7.same h6).unique h4
    rw [← h8]; exact List.mem_of_getElem? h5
theorem pxs_eq (h : Lab l a b e M L (a * b)) (hld : ∀ i, i < a * b → l.getD i 0 = 1 → Lead l a b e i (N.getD i 0)) {k m : Nat} (hk : L[k]? = some m) : pxs M (a * b) k = pxr l N m (a * b) := by
  unfold pxs pxr
  apply List.filter_congr
  intro j hj
  have hj := List.mem_range.1 hj
  have hm := (h.lead m (List.mem_of_getElem? hk)).2
  rw [Bool.eq_iff_iff, Bool.and_eq_true, beq_iff_eq, beq_iff_eq, beq_iff_eq]
  constructor
  · intro q
    obtain ⟨m', h5, h6⟩ := h.num j (by omega)
    rw [q, Nat.add_sub_cancel, hk] at h5
    cases h5
    have h7 := h6.end_ok.2
    exact ⟨h7, (hld j hj h7).unique (hm.same h6)⟩
  · rintro ⟨q1, q2⟩
    have h4 := hld j hj q1
    rw [q2] at h4
    have h0 := h.seen j hj q1
    obtain ⟨m', h5, h6⟩ := h.num j h0
    have h7 := (h.lead m' (List.mem_of_getElem? h5)).2
    have h8 : m' = m := (h7.same h6).unique h4
    subst h8
    have := inc_inj h.inc h5 hk
    omega
theorem pxr_ne (hld : ∀ i, i < a * b → l.getD i 0 = 1 → Lead l a b e i (N.getD i 0)) {k m : Nat} (hk : (fls l N (a * b))[k]? = some m) : pxr l N m (a * b) ≠ [] ∧ ∀ j ∈ pxr l N m (a * b), j < a * b := by
  have hm := List.mem_of_getElem? hk
  unfold fls at hm
  rw [List.mem_filter, List.mem_range, Bool.and_eq_true, beq_iff_eq, beq_iff_eq] at hm
  refine ⟨fun q => ?_, fun j hj => ?_⟩
  · have : m ∈ pxr l N m (a * b) := by
      unfold pxr
      rw [List.mem_filter, List.mem_range, Bool.and_eq_true, beq_iff_eq, beq_iff_eq]
      exact hm
    rw [q] at this; cases this
  · unfold pxr at hj
    exact List.mem_range.1 (List.mem_filter.1 hj).1
end
def Span (f : Nat → Nat) (ps : List Nat) (lo hi : Nat) : Prop := (∀ k ∈ ps, lo ≤ f k ∧ f k ≤ hi) ∧ (∃ k ∈ ps, f k = lo) ∧ ∃ k ∈ ps, f k = hi
theorem Span.unique {f : Nat → Nat} {ps : List Nat} {lo hi lo' hi' : Nat} (h : Span f ps lo hi) (g : Span f ps lo' hi') : lo = lo' ∧ hi = hi' := by
  obtain ⟨h1, ⟨k1, m1, e1⟩, ⟨k2, m2, e2⟩⟩ := h
  obtain ⟨g1, ⟨j1, n1, d1⟩, ⟨j2, n2, d2⟩⟩ := g
  have := h1 j1 n1; have := h1 j2 n2; have := g1 k1 m1; have := g1 k2 m2
  omega
theorem Span.snoc {f : Nat → Nat} {ps : List Nat} {lo hi : Nat} (h : Span f ps lo hi) (k : Nat) : Span f (ps ++ [k]) (min lo (f k)) (max hi (f k)) := by
  obtain ⟨h1, ⟨k1, m1, e1⟩, ⟨k2, m2, e2⟩⟩ := h
  refine ⟨fun j hj => ?_, ?_, ?_⟩
  · rcases List.mem_append.1 hj with q | q
    · have := h1 j q; omega
    · rw [List.mem_singleton] at q; subst q; omega
  · by_cases q : lo ≤ f k
    · exact ⟨k1, List.mem_append_left _ m1, by omega⟩
    · exact ⟨k, List.mem_append_right _ (List.mem_singleton.2 rfl), by omega⟩
  · by_cases q : f k ≤ hi
    · exact ⟨k2, List.mem_append_left _ m2, by omega⟩
    · exact ⟨k, List.mem_append_right _ (List.mem_singleton.2 rfl), by omega⟩
theorem str_nat {lo hi p : Nat} (h : lo ≤ hi) (h1 : hi < 409600) (h2 : p < 409600) : strX (lo : Int) (p : Int) = ((min lo p : Nat) : Int) ∧ strW (lo : Int) ((hi : Int) + 1 - lo) (p : Int) = ((max hi p : Nat) : Int) + 1 - ((min lo p : Nat) : Int) := by
  have e1 : strX (lo : Int) (p : Int) = ((min lo p : Nat) : Int) := by
    unfold strX
    by_cases q : (p : Int) < (lo : Int)
    · rw [if_pos q]; omega
    · rw [if_neg q]; omega
  refine ⟨e1, ?_⟩
  unfold strW
  rw [e1, w64 (show _ ≤ (p : Int) + 1 ∧ _ by omega), w64 (show _ ≤ (lo : Int) + ((hi : Int) + 1 - lo) ∧ _ by omega)]
  by_cases q : (p : Int) + 1 > (lo : Int) + ((hi : Int) + 1 - lo)
  · rw [if_pos q, w64 (by omega)]; omega
  · rw [if_neg q, w64 (by omega)]; omega
theorem bxL_span {a b : Nat} (hab : a * b ≤ 409600) : ∀ {n : Nat} {ps : List Nat}, ps.length = n → ps ≠ [] → (∀ j ∈ ps, j < a * b) → ∃ x1 x2 y1 y2 : Nat, Span (· % a) ps x1 x2 ∧ Span (· / a) ps y1 y2 ∧ x1 ≤ x2 ∧ x2 < 409600 ∧ y1 ≤ y2 ∧ y2 < 409600 ∧ bxL a ps = ⟨x1, y1, (x2 : Int) + 1 - x1, (y2 : Int) + 1 - y1⟩ := by
  intro n
  induction n with
  | zero => intro ps h1 h2; exact absurd (List.eq_nil_of_length_eq_zero h1) h2
  | succ n ih =>
    intro ps h1 _ h3
    rcases snoc_cases ps with rfl | ⟨qs, k, rfl⟩
    · simp at h1
    rw [List.length_append, List.length_singleton] at h1
    have hk : k < a * b := h3 k (List.mem_append_right _ (List.mem_singleton.2 rfl))
    have hm : k % a ≤ k := Nat.mod_le _ _
    have hd : k / a ≤ k := Nat.div_le_self _ _
    rw [bxL_snoc]
    by_cases hq : qs = []
    · subst hq
      refine ⟨k % a, k % a, k / a, k / a, ⟨fun j hj => ?_, ⟨k, List.mem_singleton.2 rfl, rfl⟩, ⟨k, List.mem_singleton.2 rfl, rfl⟩⟩, ⟨fun j hj => ?_, ⟨k, List.mem_singleton.2 rfl, rfl⟩, ⟨k, List.mem_singleton.2 rfl, rfl⟩⟩, Nat.le_refl _, by omega, Nat.le_refl _, by omega, ?_⟩
      · rw [List.nil_append, List.mem_singleton] at hj; subst hj; exact ⟨Nat.le_refl _, Nat.le_refl _⟩
      · rw [List.nil_append, List.mem_singleton] at hj; subst hj; exact ⟨Nat.le_refl _, Nat.le_refl _⟩
      · have e1 : ((k % a : Nat) : Int) + 1 - ((k % a : Nat) : Int) = 1 := by omega
        have e2 : ((k / a : Nat) : Int) + 1 - ((k / a : Nat) : Int) = 1 := by omega
        rw [e1, e2]; rfl
    · obtain ⟨x1, x2, y1, y2, s1, s2, b1, b2, b3, b4, e⟩ := ih (by omega) hq fun j hj => h3 j (List.mem_append_left _ hj)
      refine ⟨min x1 (k % a), max x2 (k % a), min y1 (k / a), max y2 (k / a), s1.snoc k, s2.snoc k, by omega, by omega, by omega, by omega, ?_⟩
      rw [e]
      have hw : ((x2 : Int) + 1 - (x1 : Int) == 0) = false := beq_eq_false_iff_ne.2 (by omega)
      obtain ⟨g1, g2⟩ := str_nat (p := k % a) b1 b2 (by omega)
      obtain ⟨g3, g4⟩ := str_nat (p := k / a) b3 b4 (by omega)
      unfold bxS
      simp only [hw, cond_false, g1, g2, g3, g4]
theorem inkOf_get {n j : Nat} {ps : List Nat} : (inkOf n ps).getD j 0 = 1 ↔ j < n ∧ j ∈ ps := by
  unfold inkOf
  rw [List.getD_eq_getElem?_getD, List.getElem?_map]
  by_cases h : j < n
  · rw [List.getElem?_range h]
    by_cases q : j ∈ ps <;> simp [h, q]
  · rw [List.getElem?_eq_none (by simp; omega)]; simp [h]
theorem filter_pos {P : Nat → Bool} {n : Nat} : ((((List.range n).filter P).length : Nat) : Int) > 0 ↔ ∃ v, v < n ∧ P v = true := by
  have h : 0 < ((List.range n).filter P).length ↔ ∃ v, v < n ∧ P v = true := by
    rw [List.length_pos_iff_exists_mem]
    constructor
    · rintro ⟨v, hv⟩
      rw [List.mem_filter, List.mem_range] at hv
      exact ⟨v, hv⟩
    · rintro ⟨v, hv⟩
      exact ⟨v, by rw [List.mem_filter, List.mem_range]; exact hv⟩
  rw [← h]; omega
theorem getD_mapR {f : Nat → Int} {n i : Nat} : ((List.range n).map f).getD i 0 = if i < n then f i else 0 := by
  rw [List.getD_eq_getElem?_getD, List.getElem?_map]
  by_cases h : i < n
  · rw [List.getElem?_range h, if_pos h]; rfl
  · rw [List.getElem?_eq_none (by simp; omega), if_neg h]; rfl
theorem cols_pos {a b i : Nat} {ps : List Nat} (hps : ∀ j ∈ ps, j < a * b) : (colsL (inkOf (a * b) ps) a b).getD i 0 > 0 ↔ i < a ∧ ∃ j ∈ ps, j % a = i := by
  unfold colsL
  rw [getD_mapR]
  by_cases h : i < a
  · rw [if_pos h]
    unfold cc
    rw [filter_pos]
    constructor
    · rintro ⟨v, hv, hq⟩
      have := inkOf_get.1 (eq_of_beq hq)
      exact ⟨h, v * a + i, this.2, (at_div (v := v) h).1⟩
    · rintro ⟨_, j, hj, hm⟩
      have hlt := hps j hj
      obtain ⟨_, h1, h2, h3⟩ := div_lt hlt
      refine ⟨j / a, h2, ?_⟩
      have e : j / a * a + i = j := by rw [← hm]; exact h3.symm
      rw [e]
      have := inkOf_get.2 ⟨hlt, hj⟩
      rw [this]; rfl
  · rw [if_neg h]
    exact ⟨fun q => absurd q (by decide), fun q => absurd q.1 h⟩
theorem rows_pos {a b i : Nat} {ps : List Nat} (hps : ∀ j ∈ ps, j < a * b) : (rowsL (inkOf (a * b) ps) a b).getD i 0 > 0 ↔ i < b ∧ ∃ j ∈ ps, j / a = i := by
  unfold rowsL
  rw [getD_mapR]
  by_cases h : i < b
  · rw [if_pos h]
    unfold rc
    rw [filter_pos]
    constructor
    · rintro ⟨v, hv, hq⟩
      have := inkOf_get.1 (eq_of_beq hq)
      exact ⟨h, i * a + v, this.2, (at_div (v := i) hv).2⟩
    · rintro ⟨_, j, hj, hm⟩
      have hlt := hps j hj
      obtain ⟨_, h1, h2, h3⟩ := div_lt hlt
      refine ⟨j % a, h1, ?_⟩
      have e : i * a + j % a = j := by rw [← hm]; exact h3.symm
      rw [e]
      have := inkOf_get.2 ⟨hlt, hj⟩
      rw [this]; rfl
  · rw [if_neg h]
    exact ⟨fun q => absurd q (by decide), fun q => absurd q.1 h⟩
theorem ext_span {p : List Int} {n : Nat} {f : Nat → Nat} {ps : List Nat} (hl : p.length = n) (hne : ps ≠ []) (hf : ∀ j ∈ ps, f j < n) (hp : ∀ i, p.getD i 0 > 0 ↔ i < n ∧ ∃ j ∈ ps, f j = i) : ∃ lo hi : Nat, Span f ps lo hi ∧ lo ≤ hi ∧ extL p = ((lo : Int), (hi : Int) + 1 - lo) := by
  obtain ⟨j0, hj0⟩ := List.exists_mem_of_ne_nil ps hne
  unfold extL
  rw [hl]
  rcases ext_char p n with ⟨h, _⟩ | ⟨lo, hi, h1, h2, h3, h4, h5, h6, h7⟩
  · exact absurd ((hp (f j0)).2 ⟨hf j0 hj0, j0, hj0, rfl⟩) (h _ (hf j0 hj0))
  · refine ⟨lo, hi, ⟨fun k hk => ?_, ?_, ?_⟩, h1, h7⟩
    · have hk1 := (hp (f k)).2 ⟨hf k hk, k, hk, rfl⟩
      refine ⟨Nat.le_of_not_lt fun q => h5 _ q hk1, Nat.le_of_not_lt fun q => h6 _ q (hf k hk) hk1⟩
    · obtain ⟨_, j, hj, e⟩ := (hp lo).1 h3; exact ⟨j, hj, e⟩
    · obtain ⟨_, j, hj, e⟩ := (hp hi).1 h4; exact ⟨j, hj, e⟩
theorem boxR_eq {a b : Nat} (hab : a * b ≤ 409600) {ps : List Nat} (hne : ps ≠ []) (hps : ∀ j ∈ ps, j < a * b) : boxR (inkOf (a * b) ps) a b = bxL a ps := by
  obtain ⟨x1, x2, y1, y2, s1, s2, b1, b2, b3, b4, e⟩ := bxL_span hab rfl hne hps
  obtain ⟨u1, u2, t1, _, e1⟩ := ext_span (p := colsL (inkOf (a * b) ps) a b) (n := a) (f := (· % a)) (by simp [colsL]) hne (fun j hj => (div_lt (hps j hj)).2.1) fun i => cols_pos hps
  obtain ⟨v1, v2, t2, _, e2⟩ := ext_span (p := rowsL (inkOf (a * b) ps) a b) (n := b) (f := (· / a)) (by simp [rowsL]) hne (fun j hj => (div_lt (hps j hj)).2.2.1) fun i => rows_pos hps
  obtain ⟨rfl, rfl⟩ := s1.unique t1
  obtain ⟨rfl, rfl⟩ := s2.unique t2
  unfold boxR
  rw [e, e1, e2]
end Go.Am
namespace Go.Am
open Go
attribute [local irreducible] Wp WpO WpX WpE
theorem cellsK_length (a : Nat) (l : List Nat) : (cellsK a l).length = l.length * 2 := by
 induction l with
 | nil => rfl
 | cons k l ih => simp only [cellsK, List.flatMap_cons, List.length_append, List.length_cons, List.length_nil] at ih ⊢; omega
theorem cellsK_at {a : Nat} {l : List Nat} {i : Nat} (h : i < l.length) : ((cellsK a l).drop (i * 2)).take 2 = [.int .i64 ((l[i] % a : Nat) : Int), .int .i64 ((l[i] / a : Nat) : Int)] := by
 induction l generalizing i with
 | nil => simp at h
 | cons k l ih =>
  cases i with
  | zero => simp [cellsK]
  | succ i =>
   have : (cellsK a (k :: l)).drop ((i + 1) * 2) = (cellsK a l).drop (i * 2) := by
    rw [show (i + 1) * 2 = 2 + i * 2 by omega, ← List.drop_drop]
    simp [cellsK]
   rw [this]
   simpa using ih (by simpa using h)
theorem cellsC_all {C : List (Bx × AVal)} {k : Nat} {c : Bx × AVal} (h : C[k]? = some c) : ((cellsC C).drop (k * 5)).take 5 = c.1.cells ++ [c.2] := by
 obtain ⟨r, hr⟩ := cellsC_drop C k c h
 rw [hr]; rfl
class Few6 (n : Nat) : Prop where
 le : n ≤ 409600
structure CL (H : AHeap) (q : AVal) (a : Nat) (C : List (Bx × AVal)) (P : List (List Nat)) : Prop where
 row : SliceAt H q 5 C.length (cellsC C)
 len : C.length = P.length
 it : ∀ (k : Nat) c l, C[k]? = some c → P[k]? = some l → c.1 = bxL a l ∧ SliceAt H c.2 2 l.length (cellsK a l)
 few : P.length ≤ 409600 ∧ ∀ l ∈ P, l.length ≤ 409600
theorem CL.ext {H H' : AHeap} {q : AVal} {a : Nat} {C : List (Bx × AVal)} {P : List (List Nat)} (h : CL H q a C P) (x : Ext H H') : CL H' q a C P := by
 haveI : ExtI H H' := ⟨x⟩
 haveI := h.row
 exact ⟨inferInstance, h.len, fun k c l h1 h2 => by
  obtain ⟨h3, h4⟩ := h.it k c l h1 h2
  exact ⟨h3, inferInstance⟩, h.few⟩
theorem CL.at {H : AHeap} {q : AVal} {a : Nat} {C : List (Bx × AVal)} {P : List (List Nat)} (h : CL H q a C P) {k : Nat} (hk : k < P.length) : ∃ p, C[k]? = some (bxL a P[k], p) ∧ SliceAt H p 2 P[k].length (cellsK a P[k]) ∧ P[k].length ≤ 409600 := by
 have hC : k < C.length := by rw [h.len]; exact hk
 obtain ⟨h1, h2⟩ := h.it k C[k] P[k] (List.getElem?_eq_getElem hC) (List.getElem?_eq_getElem hk)
 refine ⟨C[k].2, ?_, h2, h.few.2 _ (List.getElem_mem _)⟩
 rw [List.getElem?_eq_getElem hC, ← h1]
end Go.Am
namespace Go.Am
open Go
section
variable {l : List UInt8} {a b : Nat} {e : Bool} {M L N : List Nat}
def pcs (l : List UInt8) (N : List Nat) (n : Nat) : List (List Nat) := (fls l N n).map fun m => pxr l N m n
theorem pxAll_fls (h : Lab l a b e M L (a * b)) (hld : ∀ i, i < a * b → l.getD i 0 = 1 → Lead l a b e i (N.getD i 0)) : pxAll M L.length (a * b) = pcs l N (a * b) := by
  unfold pcs
  rw [← fls_eq h hld]
  apply List.ext_getElem?
  intro k
  rw [List.getElem?_map]
  by_cases hk : k < L.length
  · rw [pxAll_at hk, List.getElem?_eq_getElem hk, Option.map_some, ← pxs_eq h hld (List.getElem?_eq_getElem hk)]
  · rw [List.getElem?_eq_none (by rw [pxAll_length]; omega), List.getElem?_eq_none (by omega)]; rfl
theorem CmpsR.cl {K H : AHeap} {q : AVal} {C : List (Bx × AVal)} (h : CmpsR K H q l a b e M L C) (hab : a * b ≤ 409600) : CL H q a C (pxAll M L.length (a * b)) := by
  have hfew := h.lab.few
  refine ⟨h.cmps.row, by rw [pxAll_length, h.num], fun k c ps h1 h2 => ⟨?_, (h.cmps.own k c ps h1 h2).sl⟩, by rw [pxAll_length]; omega, fun ps hps => ?_⟩
  · have hk : k < L.length := by
      rw [← h.num]
      rcases Nat.lt_or_ge k C.length with q | q
      · exact q
      · rw [List.getElem?_eq_none q] at h1; cases h1
    rw [pxAll_at hk] at h2
    rw [← Option.some.inj h2]
    exact h.box k c h1
  · obtain ⟨k, hk, rfl⟩ := List.mem_map.1 hps
    have := pxs_le M (a * b) k
    omega
theorem RefC.cl {K H : AHeap} {v : AVal} {C : List (Bx × AVal)} (h : RefC K H l N a b (a * b) v C) (hld : ∀ i, i < a * b → l.getD i 0 = 1 → Lead l a b e i (N.getD i 0)) (hab : a * b ≤ 409600) : CL H v a C (pcs l N (a * b)) := by
  have hfew := fls_le l N (a * b)
  unfold pcs
  refine ⟨h.own.sl, by rw [List.length_map, h.num], fun k c ps h1 h2 => ?_, by rw [List.length_map]; omega, fun ps hps => ?_⟩
  · rw [List.getElem?_map] at h2
    obtain ⟨m, hm, rfl⟩ := Option.map_eq_some_iff.1 h2
    obtain ⟨n1, n2⟩ := pxr_ne hld hm
    exact ⟨by rw [h.box k c m h1 hm, boxR_eq hab n1 n2], h.px k c m h1 hm⟩
  · obtain ⟨k, hk, rfl⟩ := List.mem_map.1 hps
    have := pxr_le l N k (a * b)
    omega
end
def setPx (v : UInt8) (l : List UInt8) (ps : List Nat) : List UInt8 := ps.foldl (fun l k => l.set k v) l
theorem setPx_snoc (v : UInt8) (l : List UInt8) (ps : List Nat) (k : Nat) : setPx v l (ps ++ [k]) = (setPx v l ps).set k v := by
  unfold setPx
  rw [List.foldl_append]; rfl
theorem setPx_length (v : UInt8) (l : List UInt8) (ps : List Nat) : (setPx v l ps).length = l.length := by
  unfold setPx
  induction ps generalizing l with
  | nil => rfl
  | cons k ps ih => rw [List.foldl_cons, ih, List.length_set]
theorem setPx_get {v : UInt8} {l : List UInt8} {ps : List Nat} {j : Nat} (hj : j < l.length) : (setPx v l ps).getD j 0 = if j ∈ ps then v else l.getD j 0 := by
  unfold setPx
  induction ps generalizing l with
  | nil => simp
  | cons k ps ih =>
    rw [List.foldl_cons, ih (by rw [List.length_set]; exact hj)]
    by_cases h1 : j ∈ ps
    · rw [if_pos h1, if_pos (List.mem_cons_of_mem _ h1)]
    · rw [if_neg h1]
      by_cases h2 : k = j
      · subst h2
        rw [if_pos (List.mem_cons_self), List.getD_eq_getElem?_getD, List.getElem?_set_self hj]; rfl
      · rw [if_neg (by rw [List.mem_cons]; rintro (q | q); exact h2 q.symm; exact h1 q), List.getD_eq_getElem?_getD, List.getElem?_set_ne h2, ← List.getD_eq_getElem?_getD]
theorem take_snoc {α : Type} {l : List α} {i : Nat} {x : α} (h : l[i]? = some x) : l.take (i + 1) = l.take i ++ [x] := by
  rw [List.take_add_one, h]; rfl
def spk (v : UInt8) (f : Nat → Bool) (l : List UInt8) (P : List (List Nat)) : List UInt8 := P.foldl (fun l ps => bif f ps.length then setPx v l ps else l) l
theorem spk_snoc (v : UInt8) (f : Nat → Bool) (l : List UInt8) (P : List (List Nat)) (ps : List Nat) : spk v f l (P ++ [ps]) = bif f ps.length then setPx v (spk v f l P) ps else spk v f l P := by
  unfold spk
  rw [List.foldl_append]; rfl
theorem spk_length (v : UInt8) (f : Nat → Bool) (l : List UInt8) (P : List (List Nat)) : (spk v f l P).length = l.length := by
  unfold spk
  induction P generalizing l with
  | nil => rfl
  | cons ps P ih =>
    rw [List.foldl_cons, ih]
    cases f ps.length
    · rfl
    · exact setPx_length ..
theorem spk_get {v : UInt8} {f : Nat → Bool} {l : List UInt8} {P : List (List Nat)} {j : Nat} (hj : j < l.length) : (spk v f l P).getD j 0 = if ∃ ps ∈ P, j ∈ ps ∧ f ps.length = true then v else l.getD j 0 := by
  unfold spk
  induction P generalizing l with
  | nil => simp
  | cons ps P ih =>
    rw [List.foldl_cons, ih (by cases f ps.length; exact hj; show j < (setPx v l ps).length; rw [setPx_length]; exact hj)]
    by_cases h1 : ∃ ps ∈ P, j ∈ ps ∧ f ps.length = true
    · rw [if_pos h1, if_pos (by obtain ⟨q, h2, h3⟩ := h1; exact ⟨q, List.mem_cons_of_mem _ h2, h3⟩)]
    · rw [if_neg h1]
      cases h2 : f ps.length
      · rw [if_neg (by
          rintro ⟨q, h3, h4, h5⟩
          rcases List.mem_cons.1 h3 with rfl | h3
          · rw [h2] at h5; cases h5
          · exact h1 ⟨q, h3, h4, h5⟩)]; rfl
      · show (setPx v l ps).getD j 0 = _
        rw [setPx_get hj]
        by_cases h3 : j ∈ ps
        · rw [if_pos h3, if_pos ⟨ps, List.mem_cons_self, h3, h2⟩]
        · rw [if_neg h3, if_neg (by
            rintro ⟨q, h4, h5, h6⟩
            rcases List.mem_cons.1 h4 with rfl | h4
            · exact h3 h5
            · exact h1 ⟨q, h4, h5, h6⟩)]
section
variable {l : List UInt8} {a b : Nat} {e : Bool} {N : List Nat}
theorem pcs_mem (hld : ∀ i, i < a * b → l.getD i 0 = 1 → Lead l a b e i (N.getD i 0)) {j : Nat} (hj : j < a * b) (h1 : l.getD j 0 = 1) : pxr l N (N.getD j 0) (a * b) ∈ pcs l N (a * b) := by
  unfold pcs
  refine List.mem_map.2 ⟨N.getD j 0, ?_, rfl⟩
  have h2 := hld j hj h1
  have h3 := h2.1.end_ok
  have h4 := hld _ h3.1 h3.2
  have h5 := (h2.same h2.1).unique h4
  unfold fls
  rw [List.mem_filter, List.mem_range, Bool.and_eq_true, beq_iff_eq, beq_iff_eq]
  exact ⟨h3.1, h3.2, h5.symm⟩
theorem pcs_of {j : Nat} {ps : List Nat} (h : ps ∈ pcs l N (a * b)) (hj : j ∈ ps) : l.getD j 0 = 1 ∧ ps = pxr l N (N.getD j 0) (a * b) := by
  obtain ⟨m, _, rfl⟩ := List.mem_map.1 h
  have h2 := hj
  unfold pxr at h2
  rw [List.mem_filter, Bool.and_eq_true, beq_iff_eq, beq_iff_eq] at h2
  exact ⟨h2.2.1, by rw [h2.2.2]⟩
theorem pxAll_lt {M ps : List Nat} {m n j : Nat} (h : ps ∈ pxAll M m n) (hj : j ∈ ps) : j < n := by
  obtain ⟨m, _, rfl⟩ := List.mem_map.1 h
  unfold pxs at hj
  exact List.mem_range.1 (List.mem_filter.1 hj).1
end
end Go.Am
namespace Go.Am
open Go
attribute [local irreducible] Wp WpO WpX WpE
theorem exec_ringA {call : ACall} {fr : AFrame} {H : AHeap} {x : ROpd} {t : Nat} (hx : x.ev fr = .int .i64 (t : Int)) (ht : t < 8) : (ROp.idxA 8 2 (.val (.ptr 1 0)) x).exec call fr H = some (.ptr 1 (2 * t), H) := by
 have h : (0 : Int) ≤ (t : Int) ∧ (t : Int) < ((8 : Nat) : Int) := by omega
 have e : aIdxA 8 2 (.ptr 1 0) (.int .i64 (t : Int)) = some (.ptr 1 (2 * t)) := by
  show (if 0 ≤ (t : Int) ∧ (t : Int) < ((8 : Nat) : Int) then some (AVal.ptr 1 (0 + (t : Int).toNat * 2)) else none) = _
  rw [if_pos h, Int.toNat_natCast, Nat.zero_add, Nat.mul_comm]
 show M.ofOption (aIdxA 8 2 (.ptr 1 0) (x.ev fr)) H = _
 rw [hx, e]; rfl
theorem around_x : ∀ t < 8, aroundCs[2 * t + 0]? = some (.int .i64 (dxN t))
 | 0, _ | 1, _ | 2, _ | 3, _ | 4, _ | 5, _ | 6, _ | 7, _ => rfl
theorem around_y : ∀ t < 8, aroundCs[2 * t + 1]? = some (.int .i64 (dyN t))
 | 0, _ | 1, _ | 2, _ | 3, _ | 4, _ | 5, _ | 6, _ | 7, _ => rfl
theorem K_flood {a b s0 n0 : Nat} {e : Bool} {p mk : AVal} {H : AHeap} {l : List UInt8} {M0 : List Nat} [hp : BytesI H p l] [hm : IntsI H mk (cN M0)] [hw : WrS H mk] [hsep : SepS p mk] [hs : Fits a b l] [ht : Tabs H] (hz : RowNe mk 1) (hM : M0.length = a * b) (ha : a ≤ 640) (hb : b ≤ 640) (hsl : s0 < a * b) (h1 : l.getD s0 0 = 1) (h0 : M0.getD s0 0 = 0) (hwh : Whole l a b e (fun i => M0.getD i 0) n0) (hn0 : 0 < n0) : Con ext prog 2 86 [.agg [.int .i64 a, .int .i64 b, p], .bool e, mk, .int .i64 s0, .int .i64 n0] H fun _ H' => ∃ M : List Nat, IntsI H' mk (cN M) ∧ WrS H' mk ∧ ExtP H H' mk ∧ M.length = a * b ∧ ∀ i, (Reach l a b e s0 i → M.getD i 0 = n0) ∧ (¬ Reach l a b e s0 i → M.getD i 0 = M0.getD i 0) := by
 refine con_of (show prog 86 = some c86 from rfl) rfl rfl fun n hn => ?_
 haveI := hp.one
 haveI := hm.one
 have hab : a * b ≤ 640 * 640 := Nat.mul_le_mul ha hb
 obtain ⟨a, rfl⟩ : ∃ a', a = a' + 1 := ⟨a - 1, by have := (div_lt hsl).1; omega⟩
 have hsl' : s0 < (cN M0).length := by rw [cN_length]; omega
 repeat first
  | refine mI ?_
  | refine mB ?_
  | refine bA ?_
  | refine nl hKF ?_
  | refine sq ?_
  | refine rg fun KF hKF => ?_
  | dsimp only [cond_true, cond_false]
 refine Wp.set2 (y := 2) (x := 1) rfl rfl ?_
 have hst : (bif e then (1 : Int) else 2) = ((stp e : Nat) : Int) := by cases e <;> rfl
 have hst1 : 1 ≤ stp e ∧ stp e ≤ 2 := by cases e <;> decide
 simp only [hst]
 refine sq ?_
 refine rg fun KF hKF => ?_
 refine mv ?_
 refine mI ?_
 refine mI ?_
 refine Fo.idx (by simp only [↓nrmL, nrmK, Nat.reduceEqDiff, ↓reduceIte]; rfl) rfl ?_ (by simp only [↓nrmL, nrmZ, Nat.reduceEqDiff, ↓reduceIte, Nat.reduceAdd, Int.reduceBEq, Int.reduceBNe]; rfl) ?_; (focus omega)
 refine WpO.do' (WpX.stI (p := mk) (j := s0) (l := cN M0) rfl rfl hsl' fun H1 hb1 hw1 hx1 => ?_)
 rw [cN_set] at hb1
 haveI := hx1
 refine nl hKF ?_
 refine sq ?_
 refine rg fun KF hKF => ?_
 refine mI ?_
 refine Fo.bslice rfl (by simp only [↓nrmL, nrmZ, Nat.reduceEqDiff, ↓reduceIte, Nat.reduceAdd, Int.reduceBEq, Int.reduceBNe]; rfl) ?_
 refine mv ?_
 refine nl hKF ?_
 refine Wp.block ?_
 dsimp only [cond_true, cond_false]
 have hfl := Flood.begin (e := e) hsl h1 h0 hwh
 have hsM : s0 < M0.length := by omega
 rw [← getD_setN hsM] at hfl
 have hc0 := count_setN hsM h0 hn0
 have hcl := List.count_le_length (a := 0) (l := M0)
 have hfh0 : FHp (H.push (.row [.int .i64 ((a + 1 : Nat) : Int), .int .i64 b, p] true (2 * 29))) mk [.int .i64 ((a + 1 : Nat) : Int), .int .i64 b, p] H.n (.slice H1.n 0 1 (some 1) 1) [s0] (M0.set s0 n0) (H1.push (.row [.int .i64 (s0 : Int)] true (2 * 3))) := ⟨inferInstance, inferInstance, ⟨H1.n, some 1, _, 2 * 3, rfl, Nat.lt_succ_self _, push_get_eq, rfl, Nat.le_refl _, rfl, Or.inr ⟨1, rfl, Nat.one_pos, Nat.le_refl _, Nat.le_refl _⟩⟩, ⟨fun _ _ _ _ _ q => by cases q; exact hx1.n⟩, inferInstance, ExtP0.ext⟩
 refine Wp.loopS [11, 12, 13, 14, 15, 23, 24, 25, 26, 27, 28, 29, 30, 31, 32, 33, 34, 35, 36, 37, 38, 39, 40, 41, 42, 43, 44, 45, 46, 47, 48, 49, 50, 51, 52, 53, 54, 55, 56, 57, 58, 59, 60, 61, 62, 63, 64, 65, 66, 67, 68, 69, 70, 71, 72, 73, 74, 75, 76, 77, 78, 79, 80, 81, 82, 83, 84, 85, 86, 87, 88, 89, 90, 91, 92, 93] (fun s : AVal × List Nat × List Nat => [(11, s.1)]) (fun _ s H2 => FHp (H.push (.row [.int .i64 ((a + 1 : Nat) : Int), .int .i64 b, p] true (2 * 29))) mk [.int .i64 ((a + 1 : Nat) : Int), .int .i64 b, p] H.n s.1 s.2.1 s.2.2 H2 ∧ Flood l (a + 1) b e (fun i => M0.getD i 0) s0 n0 (fun i => s.2.2.getD i 0) s.2.1 none ∧ s.2.1.length + s.2.2.count 0 ≤ (a + 1) * b ∧ s.2.2.length = (a + 1) * b) (fun s => s.2.1.length + 2 * s.2.2.count 0) (.slice H1.n 0 1 (some 1) 1, [s0], M0.set s0 n0) rfl (fun _ => rfl) ⟨rfl, trivial⟩ ⟨hfh0, hfl, by dsimp only [List.length_singleton]; omega, by dsimp only; rw [List.length_set]; exact hM⟩ (by
  unfold fuel0 at hn
  dsimp only [List.length_singleton]
  omega) ?_
 rintro ⟨wt, W, M⟩ g H2 ⟨hfh, hfl2, hbd, hML⟩
 dsimp only at hfh hfl2 hbd hML
 clear hfl hfh0 hx1 hb1 hw1
 obtain ⟨bm, wm, st, fs, g5, hx2⟩ := hfh
 haveI := hx2
 simp only [↓nrmL, nrmZ, Nat.reduceEqDiff, ↓reduceIte, Nat.reduceAdd, Int.reduceBEq, Int.reduceBNe]
 rcases snoc_cases W with rfl | ⟨W', w, rfl⟩
 ·haveI : IntsI H2 wt [] := st.ints
  have hc : decide (((([] : List Int).length : Nat) : Int) > 0) = false := rfl
  refine sq ?_
  refine sq ?_
  refine rg fun KF hKF => ?_
  refine mv ?_
  refine ln (by simp only [↓nrmL, nrmK, Nat.reduceEqDiff, ↓reduceIte]; rfl) ?_
  refine bn rfl rfl rfl (by simp only [hc]; rfl) ?_
  refine nl hKF ?_
  refine cf rfl ?_
  refine xi ?_
  dsimp only [cond_true, cond_false]
  refine rz trivial ?_
  exact ⟨M, inferInstance, wm, ⟨Nat.le_trans (Nat.le_succ _) hx2.n, fun r hr hne => by rw [hx2.get r (Nat.lt_succ_of_lt hr) hne]; exact push_get_lt hr⟩, hML, hfl2.end hwh hsl h1 h0⟩
 ·haveI := st.ints
  have hlW : (cN (W' ++ [w])).length = W'.length + 1 := by rw [cN_length, List.length_append]; rfl
  have hc : decide ((((cN (W' ++ [w])).length : Nat) : Int) > 0) = true := decide_eq_true (by rw [hlW]; omega)
  rw [List.length_append, List.length_singleton] at hbd
  have hwr : IntKind.i64.wrap ((((cN (W' ++ [w])).length : Nat) : Int) - 1) = (W'.length : Int) := by rw [hlW, w64 (by omega)]; omega
  have hge : (cN (W' ++ [w]))[W'.length]'(by rw [hlW]; exact Nat.lt_succ_self _) = (w : Int) := by
   rw [cN_get, List.getD_eq_getElem?_getD, List.getElem?_append_right (Nat.le_refl _), Nat.sub_self]; rfl
  have hwlt : W'.length < (cN (W' ++ [w])).length := by rw [hlW]; exact Nat.lt_succ_self _
  repeat first
   | refine mI ?_
   | (refine mv ?_)
   | (refine bn rfl rfl rfl (by simp only [hc, hwr, hge]; rfl) ?_)
   | (refine ln (by simp only [↓nrmL, nrmK, Nat.reduceEqDiff, ↓reduceIte]; rfl) ?_)
   | (refine Fo.idx (by simp only [↓nrmL, nrmK, Nat.reduceEqDiff, ↓reduceIte]; rfl) rfl ?_ (by simp only [↓nrmL, nrmZ, Nat.reduceEqDiff, ↓reduceIte, Nat.reduceAdd, Int.reduceBEq, Int.reduceBNe, hc, hwr, hge]; rfl) ?_; (focus omega))
   | (refine Fo.ldI rfl ?_ (by simp only [hc, hwr, hge]; rfl) ?_; (focus omega))
   | refine nl hKF ?_
   | refine sq ?_
   | refine rg fun KF hKF => ?_
   | refine ct rfl ?_
   | refine sk ?_
   | refine Wp.block ?_
  refine WpO.do (WpX.cut (p := wt) (l := W') (k := w) rfl rfl st fun wt1 st1 hsub => ?_)
  have fs1 : FreshS (H.push (.row [.int .i64 ((a + 1 : Nat) : Int), .int .i64 b, p] true (2 * 29))) wt1 := ⟨fun r off len cap sz q => by obtain ⟨_, _, q'⟩ := hsub _ _ _ _ _ q; exact fs.ge _ _ _ _ _ q'⟩
  haveI := st1.ints.one
  refine mv ?_
  refine nl hKF ?_
  refine sq ?_
  refine rg fun KF hKF => ?_
  refine mI ?_
  refine nl hKF ?_
  refine Wp.block ?_
  dsimp only [cond_true, cond_false]
  obtain ⟨_, _, hrw, _⟩ := hfl2.pop.hand w 0 rfl
  have hwl := hrw.end_ok.1
  obtain ⟨_, hwm, hwd, _⟩ := div_lt hwl
  have t3 : ∀ y : Nat, y < b → IntKind.i64.wrap ((y : Nat) : Int) = ((y : Nat) : Int) := fun y hy => w64 (by omega)
  have t1 : ((w : Nat) : Int).tmod ((a + 1 : Nat) : Int) = ((w % (a + 1) : Nat) : Int) := rfl
  have t2 : IntKind.i64.wrap (((w : Nat) : Int).tdiv ((a + 1 : Nat) : Int)) = ((w / (a + 1) : Nat) : Int) := by
   rw [show ((w : Nat) : Int).tdiv ((a + 1 : Nat) : Int) = ((w / (a + 1) : Nat) : Int) from rfl]
   exact t3 _ hwd
  refine Wp.loopS [11, 13, 14, 15, 37, 38, 39, 40, 41, 42, 43, 44, 45, 46, 47, 48, 49, 50, 51, 52, 53, 54, 55, 56, 57, 58, 59, 60, 61, 62, 63, 64, 65, 66, 67, 68, 69, 70, 71, 72, 73, 74, 75, 76, 77, 78, 79, 80, 81, 82, 83, 84, 85, 86, 87, 88, 89, 90, 91, 92, 93] (fun s : AVal × List Nat × List Nat × Nat => [(11, s.1), (13, .int .i64 (s.2.2.2 : Int))]) (fun _ s H3 => FHp (H.push (.row [.int .i64 ((a + 1 : Nat) : Int), .int .i64 b, p] true (2 * 29))) mk [.int .i64 ((a + 1 : Nat) : Int), .int .i64 b, p] H.n s.1 s.2.1 s.2.2.1 H3 ∧ Flood l (a + 1) b e (fun i => M0.getD i 0) s0 n0 (fun i => s.2.2.1.getD i 0) s.2.1 (some (w, s.2.2.2)) ∧ (s.2.1.length + s.2.2.1.count 0 ≤ (a + 1) * b ∧ s.2.1.length + 2 * s.2.2.1.count 0 ≤ W'.length + 2 * M.count 0) ∧ s.2.2.1.length = (a + 1) * b ∧ s.2.2.2 ≤ 8 ∧ s.2.2.2 % stp e = 0) (fun s => 8 - s.2.2.2) (wt1, W', M, 0) rfl (fun _ => rfl) ⟨rfl, rfl, trivial⟩ ⟨⟨bm, wm, st1, fs1, g5, hx2⟩, hfl2.pop, ⟨by dsimp only; omega, Nat.le_refl _⟩, hML, Nat.zero_le _, Nat.zero_mod _⟩ (by unfold fuel0 at hn; dsimp only; omega) ?_
  rintro ⟨wt2, W2, M2, t⟩ gg H3 ⟨hfh3, hfl3, ⟨hbd3, hbe3⟩, hML3, ht8, hts⟩
  dsimp only at hfh3 hfl3 hbd3 hbe3 hML3 ht8 hts
  clear hfl2 hx2 bm wm st fs g5
  obtain ⟨bm, wmk, st, fs, g5, hx3⟩ := hfh3
  haveI := hx3
  haveI : IntsI H3 wt2 (cN W2) := st.ints
  haveI := st.ints.one
  obtain ⟨rwt, et, htab⟩ := tab_row ((inferInstance : Tabs (H.push (.row [.int .i64 ((a + 1 : Nat) : Int), .int .i64 b, p] true (2 * 29)))).keep hx3.n (hx3.get 1 (inferInstance : Tabs (H.push (.row [.int .i64 ((a + 1 : Nat) : Int), .int .i64 b, p] true (2 * 29)))).lt hz))
  haveI := htab
  have hM2 : (cN M2).length = (a + 1) * b := by rw [cN_length]; exact hML3
  simp only [↓nrmL, nrmZ, Nat.reduceEqDiff, ↓reduceIte, Nat.reduceAdd, Int.reduceBEq, Int.reduceBNe]
  by_cases ht : t < 8
  ·have hc : decide (((t : Nat) : Int) < 8) = true := decide_eq_true (by omega)
   have wx : IntKind.i64.wrap (((w % (a + 1) : Nat) : Int) + dxN t) = ((w % (a + 1) : Nat) : Int) + dxN t := wd (Nat.le_trans (Nat.le_of_lt hwm) ha) (dN_bd t ht).1
   have wy : IntKind.i64.wrap (((w / (a + 1) : Nat) : Int) + dyN t) = ((w / (a + 1) : Nat) : Int) + dyN t := wd (Nat.le_trans (Nat.le_of_lt hwd) hb) (dN_bd t ht).2
   have hi : inkB (a + 1 : Nat) b l (((w % (a + 1) : Nat) : Int) + dxN t) (((w / (a + 1) : Nat) : Int) + dyN t) = ringF (a + 1) b l ((w % (a + 1) : Nat) : Int) ((w / (a + 1) : Nat) : Int) t := rfl
   have ws : IntKind.i64.wrap (((t : Nat) : Int) + ((stp e : Nat) : Int)) = ((t + stp e : Nat) : Int) := by rw [wa (by omega)]
   have hse : t + stp e ≤ 8 ∧ (t + stp e) % stp e = 0 := by
    cases e
    ·simp only [stp, cond_false] at hts ⊢; omega
    ·simp only [stp, cond_true] at hts ⊢; omega
   repeat first
    | refine mI ?_
    | refine fd ?_
    | refine Fo.ld rfl rfl ?_
    | (refine bn rfl rfl rfl (by simp only [hc, t1, t2, wx, wy, hi]; rfl) ?_)
    | refine nl hKF ?_
    | refine sq ?_
    | refine rg fun KF hKF => ?_
    | refine Fr.quiet rfl rfl fun KF hKF => ?_
    | refine ct rfl ?_
    | refine sk ?_
    | refine Wp.block ?_
   refine Fo.now rfl (exec_ringA rfl ht) rfl ?_
   simp only [↓nrmL, nrmZ, Nat.reduceEqDiff, ↓reduceIte, Nat.reduceAdd, Int.reduceBEq, Int.reduceBNe, hc, t1, t2, wx, wy, hi]
   refine fd ?_
   refine Fo.now rfl (exec_ld rfl (around_x t ht)) rfl ?_
   repeat first
    | refine mI ?_
    | refine fd ?_
    | refine Fo.ld rfl rfl ?_
    | (refine bn rfl rfl rfl (by simp only [hc, t1, t2, wx, wy, hi]; rfl) ?_)
   refine Fo.now rfl (exec_ringA rfl ht) rfl ?_
   simp only [↓nrmL, nrmZ, Nat.reduceEqDiff, ↓reduceIte, Nat.reduceAdd, Int.reduceBEq, Int.reduceBNe, hc, t1, t2, wx, wy, hi]
   refine fd ?_
   refine Fo.now rfl (exec_ld rfl (around_y t ht)) rfl ?_
   repeat first
    | refine mI ?_
    | refine mB ?_
    | (refine Fo.ldN rfl rfl (by simp only [↓nrmL, nrmZ, Nat.reduceEqDiff, ↓reduceIte, Nat.reduceAdd, Int.reduceBEq, Int.reduceBNe, hc, t1, t2, wx, wy, hi]; rfl) ?_)
    | (refine bn rfl rfl rfl (by simp only [hc, t1, t2, wx, wy, hi]; rfl) ?_)
    | (refine Fo.pcall (v' := ?_) hn rfl (by simp only [↓nrmL, nrmZ, Nat.reduceEqDiff, ↓reduceIte, Nat.reduceAdd, Int.reduceBEq, Int.reduceBNe, hc, t1, t2, wx, wy, hi, List.map]; rfl) rfl ?hv fun _ _ => ?_; case hv => (simp only [hc, t1, t2, wx, wy, hi]; rfl))
    | refine nl hKF ?_
    | refine sq ?_
    | refine rg fun KF hKF => ?_
   rename AHeap => H4
   rename ExtI H3 H4 => hx4
   have st4 : Stk H4 wt2 3 (cN W2) := st.keep hx4.ext.n fun _ _ _ _ _ _ hr => hx4.ext.get _ hr
   have hx34 : ExtP (H.push (.row [.int .i64 ((a + 1 : Nat) : Int), .int .i64 b, p] true (2 * 29))) H4 mk := hx3.ext hx4.ext
   cases hv : ringF (a + 1) b l ((w % (a + 1) : Nat) : Int) ((w / (a + 1) : Nat) : Int) t
   ·skip
    repeat first
     | refine ox ?_
     | refine mI ?_
     | (refine bn rfl rfl rfl (by simp only [ws]; rfl) ?_)
     | refine fB ?_
     | refine nl hKF ?_
     | refine rg fun KF hKF => ?_
     | refine cf rfl ?_
     | refine sk ?_
     | dsimp only [cond_true, cond_false]
    refine ⟨(wt2, W2, M2, t + stp e), by dsimp only; omega, ⟨rfl, rfl, trivial⟩, ⟨inferInstance, inferInstance, st4, fs, inferInstance, hx34⟩, (by have hq := hfl3.off hts hv; exact hq), ⟨hbd3, hbe3⟩, hML3, hse⟩
   ·obtain ⟨u, v, e1, e2, hu, hvb, hl1⟩ := inkB_true hv
    have e1' : ((w % (a + 1) : Nat) : Int) + dxN t = (u : Int) := e1
    have e2' : ((w / (a + 1) : Nat) : Int) + dyN t = (v : Int) := e2
    have hnb : isNb (a + 1) b w t (v * (a + 1) + u) := ⟨u, v, hu, hvb, e1.symm, e2.symm, rfl⟩
    have hidx := isNb_lt hnb
    have hva : v * (a + 1) ≤ 640 * 640 := Nat.mul_le_mul (by omega) ha
    have m1 : IntKind.i64.wrap ((((w / (a + 1) : Nat) : Int) + dyN t) * ((a + 1 : Nat) : Int)) = ((v * (a + 1) : Nat) : Int) := by rw [e2']; exact wm (by omega)
    have m2 : IntKind.i64.wrap (((v * (a + 1) : Nat) : Int) + (((w % (a + 1) : Nat) : Int) + dxN t)) = ((v * (a + 1) + u : Nat) : Int) := by rw [e1']; exact wa (by omega)
    have hix : v * (a + 1) + u < (cN M2).length := by rw [hM2]; exact hidx
    have hge2 : (cN M2)[v * (a + 1) + u]'hix = ((M2.getD (v * (a + 1) + u) 0 : Nat) : Int) := cN_get hix
    repeat first
     | refine oy ?_
     | refine mI ?_
     | (refine mv ?_)
     | refine fd ?_
     | refine Fo.ld rfl rfl ?_
     | (refine bn rfl rfl rfl (by simp only [m1, m2, hge2]; rfl) ?_)
     | refine b0 ?_
     | refine tB ?_
     | (refine Fo.idx (by simp only [↓nrmL, nrmK, Nat.reduceEqDiff, ↓reduceIte]; rfl) rfl ?_ (by simp only [↓nrmL, nrmZ, Nat.reduceEqDiff, ↓reduceIte, Nat.reduceAdd, Int.reduceBEq, Int.reduceBNe, m1, m2, hge2]; rfl) ?_; (focus omega))
     | (refine Fo.ldI rfl ?_ (by simp only [m1, m2, hge2]; rfl) ?_; (focus omega))
     | refine nl hKF ?_
     | dsimp only [cond_true, cond_false]
    cases hz0 : (((M2.getD (v * (a + 1) + u) 0 : Nat) : Int) == 0)
    ·skip
     simp only [↓nrmL, nrmZ, Nat.reduceEqDiff, ↓reduceIte, Nat.reduceAdd, Int.reduceBEq, Int.reduceBNe, ws]
     repeat first
      | refine mI ?_
      | (refine bn rfl rfl rfl (by simp only [ws]; rfl) ?_)
      | refine nl hKF ?_
      | refine rg fun KF hKF => ?_
      | refine cf rfl ?_
      | refine sk ?_
      | dsimp only [cond_true, cond_false]
     refine ⟨(wt2, W2, M2, t + stp e), by dsimp only; omega, ⟨rfl, rfl, trivial⟩, ⟨inferInstance, inferInstance, st4, fs, inferInstance, hx34⟩, (by have hq := hfl3.been hts hnb (fun q => by rw [q] at hz0; cases hz0); exact hq), ⟨hbd3, hbe3⟩, hML3, hse⟩
    ·have hz1 : M2.getD (v * (a + 1) + u) 0 = 0 := by have := eq_of_beq hz0; omega
     simp only [↓nrmL, nrmZ, Nat.reduceEqDiff, ↓reduceIte, Nat.reduceAdd, Int.reduceBEq, Int.reduceBNe, m1, m2]
     repeat first
      | refine mI ?_
      | (refine mv ?_)
      | refine fd ?_
      | refine Fo.ld rfl rfl ?_
      | (refine bn rfl rfl rfl (by simp only [m1, m2]; rfl) ?_)
      | (refine Fo.idx (by simp only [↓nrmL, nrmK, Nat.reduceEqDiff, ↓reduceIte]; rfl) rfl ?_ (by simp only [↓nrmL, nrmZ, Nat.reduceEqDiff, ↓reduceIte, Nat.reduceAdd, Int.reduceBEq, Int.reduceBNe, m1, m2]; rfl) ?_; (focus omega))
      | refine sq ?_
      | refine rg fun KF hKF => ?_
      | refine ct rfl ?_
     refine WpO.do' (WpX.stI (p := mk) (j := v * (a + 1) + u) (l := cN M2) rfl rfl hix fun H5 hb5 hw5 hx5 => ?_)
     rw [cN_set] at hb5
     haveI := hx5
     have hsep5 : SepS wt2 mk := inferInstance
     have st5 : Stk H5 wt2 3 (cN W2) := st4.other hx5 hsep5
     simp only [↓nrmL, nrmZ, Nat.reduceEqDiff, ↓reduceIte, Nat.reduceAdd, Int.reduceBEq, Int.reduceBNe, m1, m2]
     repeat first
      | refine mI ?_
      | (refine mv ?_)
      | refine fd ?_
      | refine Fo.ld rfl rfl ?_
      | (refine bn rfl rfl rfl (by simp only [m1, m2]; rfl) ?_)
      | (refine Fo.bslice rfl (by simp only [↓nrmL, nrmZ, Nat.reduceEqDiff, ↓reduceIte, Nat.reduceAdd, Int.reduceBEq, Int.reduceBNe, m1, m2]; rfl) ?_)
      | refine nl hKF ?_
      | refine rg fun KF hKF => ?_
     refine WpO.do (WpX.push (p := wt2) (l := W2) (k := v * (a + 1) + u) rfl rfl st5.pushed one_ints (by omega) fun wt6 H6 st6 hx6 hfr6 => ?_)
     haveI := hx6
     haveI : RowNe wt2 H.n := ⟨fun r off len cap sz q => by
      have h6 := fs.ge _ _ _ _ _ q
      have h7 : (H.push (.row [.int .i64 ((a + 1 : Nat) : Int), .int .i64 b, p] true (2 * 29))).n = H.n + 1 := rfl
      omega⟩
     haveI : ExtP0 (H.push (.row [.int .i64 ((a + 1 : Nat) : Int), .int .i64 b, p] true (2 * 29))) H4 mk := ⟨hx34⟩
     have hcs := count_setN (M := M2) (k := v * (a + 1) + u) (v := n0) (by omega) hz1 hn0
     have hxx : ExtP (H.push (.row [.int .i64 ((a + 1 : Nat) : Int), .int .i64 b, p] true (2 * 29))) (H5.push (.row [.int .i64 ((v * (a + 1) + u : Nat) : Int)] true (2 * 3))) mk := ExtP0.ext
     haveI := st6.ints.one
     simp only [↓nrmL, nrmZ, Nat.reduceEqDiff, ↓reduceIte, Nat.reduceAdd, Int.reduceBEq, Int.reduceBNe, ws]
     repeat first
      | refine mI ?_
      | (refine mv ?_)
      | (refine bn rfl rfl rfl (by simp only [ws]; rfl) ?_)
      | refine nl hKF ?_
      | refine rg fun KF hKF => ?_
      | dsimp only [cond_true, cond_false]
     refine ⟨(wt6, W2 ++ [v * (a + 1) + u], M2.set (v * (a + 1) + u) n0, t + stp e), by dsimp only; omega, ⟨rfl, rfl, trivial⟩, ⟨inferInstance, inferInstance, st6, hfr6 _ hxx.n fs, inferInstance, hxx.fresh hx6 fs⟩, (by have hq := hfl3.add hts ht hnb hl1 hz1 hwh hn0 (by omega); exact hq), ⟨by dsimp only; rw [List.length_append, List.length_singleton]; omega, by dsimp only; rw [List.length_append, List.length_singleton]; omega⟩, by dsimp only; rw [List.length_set]; exact hML3, hse⟩
  ·obtain rfl : t = 8 := by omega
   have hc : decide (((8 : Nat) : Int) < 8) = false := rfl
   refine sq ?_
   refine sq ?_
   refine rg fun KF hKF => ?_
   refine mI ?_
   refine bn rfl rfl rfl (by simp only [hc]; rfl) ?_
   refine nl hKF ?_
   refine cf rfl ?_
   refine xi ?_
   dsimp only [cond_true, cond_false]
   refine ⟨(wt2, W2, M2), by dsimp only; rw [List.length_append, List.length_singleton]; omega, ⟨rfl, trivial⟩, ⟨bm, wmk, st, fs, g5, hx3⟩, hfl3.drop, hbd3, hML3⟩
end Go.Am
namespace Go.Am
open Go
attribute [local irreducible] Wp WpO WpX WpE
theorem K_label {a b : Nat} {e : Bool} {p : AVal} {H : AHeap} {l : List UInt8} [hp : BytesI H p l] [hs : Fits a b l] [ht : Tabs H] (ha : a ≤ 640) (hb : b ≤ 640) : Con ext prog 3 75 [.agg [.int .i64 a, .int .i64 b, p], .bool e] H fun v H' => ∃ mk M L, v = .tuple [mk, .int .i64 ((L : List Nat).length : Nat)] ∧ IntsI H' mk (cN M) ∧ FreshS H mk ∧ WrS H' mk ∧ Ext H H' ∧ Lab l a b e M L (a * b) := by
 refine con_of (show prog 75 = some c75 from rfl) rfl rfl fun n hn => ?_
 haveI := hp.one
 have hab : a * b ≤ 640 * 640 := Nat.mul_le_mul ha hb
 have hlen := hs.len
 repeat first
  | refine mI ?_
  | refine mN ?_
  | refine fd ?_
  | refine Fo.ld rfl rfl ?_
  | (refine ln (by simp only [↓nrmL, nrmK, Nat.reduceEqDiff, ↓reduceIte]; rfl) ?_)
  | refine bA ?_
  | refine nl hKF ?_
  | refine sq ?_
  | refine rg fun KF hKF => ?_
 refine WpO.do (WpX.mkI (n := l.length) rfl rfl rfl (by omega) fun q H1 e1 hq hf hw hx => ?_); try simp only [↓nrmL, nrmZ, Nat.reduceEqDiff, ↓reduceIte, Nat.reduceAdd, Int.reduceBEq, Int.reduceBNe]
 haveI := hq.one
 have hzr : cN (List.replicate (a * b) 0) = List.replicate l.length 0 := by simp [cN, hlen]
 have hq2 : IntsI H1 q (cN (List.replicate (a * b) 0)) := by rw [hzr]; exact hq
 have hz : RowNe q 1 := ⟨fun r off len cap sz e => by
  have h1 := hf.ge _ _ _ _ _ e
  have h2 : (H.push (.row [.int .i64 (a : Int), .int .i64 (b : Int), p] true (2 * 29))).n = H.n + 1 := rfl
  have h3 := ht.lt
  omega⟩
 refine mv ?_
 refine nl hKF ?_
 refine sq ?_
 refine sq ?_
 refine rg fun KF hKF => ?_
 refine fd ?_
 refine Fo.ld rfl rfl ?_
 refine ln (by simp only [↓nrmL, nrmK, Nat.reduceEqDiff, ↓reduceIte]; rfl) ?_
 refine mI ?_
 refine nl hKF ?_
 refine Wp.block ?_
 dsimp only [cond_true, cond_false]
 refine Wp.loopS [5, 6, 7, 15, 16, 17, 18, 19, 20, 21, 22, 23, 24, 25, 26, 27, 28, 29, 30, 31, 32, 33, 34, 35, 36, 37] (fun s : Nat × List Nat × List Nat => [(5, .int .i64 ((s.2.2.length : Nat) : Int)), (15, .int .i64 (s.1 : Int))]) (fun H3 s H2 => s.1 ≤ a * b ∧ Lab l a b e s.2.1 s.2.2 s.1 ∧ IntsI H2 q (cN s.2.1) ∧ WrS H2 q ∧ ExtP0 H3 H2 q) (fun s => a * b - s.1) (0, List.replicate (a * b) 0, []) rfl (fun _ => rfl) ⟨rfl, rfl, trivial⟩ ⟨Nat.zero_le _, Lab.begin, hq2, inferInstance, inferInstance⟩ (by unfold fuel0 at hn; dsimp only; omega) ?_
 rintro ⟨i, M, L⟩ g H2 ⟨hi, hlab, hb2, hw2, ⟨hx2⟩⟩
 dsimp only at hi hlab hb2
 simp only [↓nrmL, nrmZ, Nat.reduceEqDiff, ↓reduceIte, Nat.reduceAdd, Int.reduceBEq, Int.reduceBNe]
 have hML : (cN M).length = a * b := by rw [cN_length]; exact hlab.len
 cases hc : decide ((i : Int) < (l.length : Int))
 ·have hil : i = a * b := by have := of_decide_eq_false hc; omega
  subst hil
  repeat first
   | refine mI ?_
   | (refine mv ?_)
   | (refine bn rfl rfl rfl (by simp only [hc]; rfl) ?_)
   | refine nl hKF ?_
   | refine sq ?_
   | refine rg fun KF hKF => ?_
   | refine cf rfl ?_
   | refine rt ?_
   | refine xi ?_
   | dsimp only [cond_true, cond_false]
  refine rz trivial ?_
  exact ⟨q, M, L, rfl, inferInstance, hf.weak, inferInstance, Ext0.ext, hlab⟩
 ·have hil : i < l.length := by have := of_decide_eq_true hc; omega
  have hiab : i < a * b := by omega
  have hw1 := wa1 (a := i) (by omega)
  have hfew := hlab.few
  have hw3 := wa1 (a := L.length) (by omega)
  have hge : (cN M)[i]'(by omega) = ((M.getD i 0 : Nat) : Int) := cN_get _
  have hiM : i < (cN M).length := by omega
  have hld : l.getD i 0 = l[i] := by rw [List.getD_eq_getElem?_getD, List.getElem?_eq_getElem hil]; rfl
  cases hv : (l[i] == 1)
  ·skip
   repeat first
    | refine ox ?_
    | refine mI ?_
    | refine mB ?_
    | (refine bn rfl rfl rfl (by simp only [hc, u8_one, hv]; rfl) ?_)
    | refine b0 ?_
    | refine fB ?_
    | (refine Fo.idx (by simp only [↓nrmL, nrmK, Nat.reduceEqDiff, ↓reduceIte]; rfl) rfl ?_ (by simp only [↓nrmL, nrmZ, Nat.reduceEqDiff, ↓reduceIte, Nat.reduceAdd, Int.reduceBEq, Int.reduceBNe, hc, u8_one, hv]; rfl) ?_; (focus omega))
    | (refine Fo.ldB rfl ?_ rfl ?_; (focus omega))
    | refine nl hKF ?_
    | refine sq ?_
    | refine rg fun KF hKF => ?_
    | refine ct rfl ?_
    | refine cf rfl ?_
    | refine sk ?_
    | refine Wp.block ?_
    | dsimp only [cond_true, cond_false]
   refine ⟨(i + 1, M, L), by dsimp only; omega, ⟨rfl, by simp only [↓nrmL, nrmZ, Nat.reduceEqDiff, ↓reduceIte, Nat.reduceAdd, Int.reduceBEq, Int.reduceBNe]; rw [hw1], trivial⟩, hiab, hlab.skip (fun q => by rw [← hld, q] at hv; cases hv), inferInstance, inferInstance, inferInstance⟩
  ·have hl1 : l.getD i 0 = 1 := by rw [hld]; exact eq_of_beq hv
   repeat first
    | refine oy ?_
    | refine mI ?_
    | refine mB ?_
    | (refine mv ?_)
    | (refine bn rfl rfl rfl (by simp only [hc, u8_one, hv, hge]; rfl) ?_)
    | refine b0 ?_
    | refine tB ?_
    | (refine Fo.idx (by simp only [↓nrmL, nrmK, Nat.reduceEqDiff, ↓reduceIte]; rfl) rfl ?_ (by simp only [↓nrmL, nrmZ, Nat.reduceEqDiff, ↓reduceIte, Nat.reduceAdd, Int.reduceBEq, Int.reduceBNe, hc, u8_one, hv, hge]; rfl) ?_; (focus omega))
    | (refine Fo.ldB rfl ?_ rfl ?_; (focus omega))
    | (refine Fo.ldI rfl ?_ (by simp only [hc, u8_one, hv, hge]; rfl) ?_; (focus omega))
    | refine nl hKF ?_
    | refine sq ?_
    | refine rg fun KF hKF => ?_
    | refine ct rfl ?_
    | refine sk ?_
    | refine Wp.block ?_
    | dsimp only [cond_true, cond_false]
   cases hz0 : (((M.getD i 0 : Nat) : Int) == 0)
   ·skip
    refine cf rfl ?_
    refine sk ?_
    refine rg fun KF hKF => ?_
    refine b0 ?_
    refine mI ?_
    refine nl hKF ?_
    dsimp only [cond_true, cond_false]
    refine ⟨(i + 1, M, L), by dsimp only; omega, ⟨rfl, by simp only [↓nrmL, nrmZ, Nat.reduceEqDiff, ↓reduceIte, Nat.reduceAdd, Int.reduceBEq, Int.reduceBNe]; rw [hw1], trivial⟩, hiab, hlab.skip (fun _ q => by rw [q] at hz0; cases hz0), inferInstance, inferInstance, inferInstance⟩
   ·have h0 : M.getD i 0 = 0 := by have := eq_of_beq hz0; omega
    repeat first
     | refine mI ?_
     | refine mB ?_
     | (refine mv ?_)
     | (refine Fo.ldN rfl rfl (by simp only [↓nrmL, nrmZ, Nat.reduceEqDiff, ↓reduceIte, Nat.reduceAdd, Int.reduceBEq, Int.reduceBNe, hw3]; rfl) ?_)
     | (refine bn rfl rfl rfl (by simp only [hw3]; rfl) ?_)
     | refine nl hKF ?_
     | refine sq ?_
     | refine rg fun KF hKF => ?_
     | refine ct rfl ?_
    refine WpO.do (WpX.conD hn rfl rfl (by simp only [↓nrmL, nrmZ, Nat.reduceEqDiff, ↓reduceIte, Nat.reduceAdd, Int.reduceBEq, Int.reduceBNe, List.map] <;> rfl) (K_flood (e := e) (l := l) (M0 := M) (s0 := i) (n0 := L.length + 1) hz hlab.len ha hb hiab hl1 h0 hlab.whole (Nat.succ_pos _)) fun v H5 h5 => ?_)
    obtain ⟨M', hb5, hw5, hx5, hM', hm'⟩ := h5
    haveI := hx5
    refine nl hKF ?_
    refine rg fun KF hKF => ?_
    refine b0 ?_
    refine mI ?_
    refine nl hKF ?_
    dsimp only [cond_true, cond_false]
    refine ⟨(i + 1, M', L ++ [i]), by dsimp only; omega, ⟨by dsimp only; rw [List.length_append, List.length_singleton]; rfl, by simp only [↓nrmL, nrmZ, Nat.reduceEqDiff, ↓reduceIte, Nat.reduceAdd, Int.reduceBEq, Int.reduceBNe]; rw [hw1], trivial⟩, hiab, hlab.next hiab hl1 h0 hM' hm', hb5, hw5, inferInstance⟩
end Go.Am
namespace Go.Am
open Go
attribute [local irreducible] Wp WpO WpX WpE
theorem K_Components {a b : Nat} {e : Bool} {p : AVal} {H : AHeap} {l : List UInt8} [hp : BytesI H p l] [ht : Tabs H] (ok : Ok a b l) : Con ext prog 5 67 [.agg [.int .i64 a, .int .i64 b, p], .bool e] H fun v H' => ∃ q K M L C, v = .tuple [q, .int .i64 0] ∧ Ext H K ∧ CmpsR K H' q l a b e M L C ∧ FreshS K q ∧ Ext H H' := by
 refine con_of (show prog 67 = some c67 from rfl) rfl rfl fun n hn => ?_
 haveI := hp.one
 haveI : Fits a b l := ⟨ok.sized⟩
 have ee := ok.err
 have ha := ok.wa
 have hb := ok.hb
 have hab : a * b ≤ 640 * 640 := Nat.mul_le_mul ha hb
 repeat first
  | refine mI ?_
  | refine mB ?_
  | refine mN ?_
  | (refine Fo.ldN rfl rfl (by simp only [↓nrmL, nrmZ, Nat.reduceEqDiff, ↓reduceIte, Nat.reduceAdd, Int.reduceBEq, Int.reduceBNe, ee]; rfl) ?_)
  | (refine bn rfl rfl rfl (by simp only [↓nrmL, nrmZ, Nat.reduceEqDiff, ↓reduceIte, Nat.reduceAdd, Int.reduceBEq, Int.reduceBNe, ee]; rfl) ?_)
  | (refine Fo.pcall (v' := ?_) hn rfl (by simp only [↓nrmL, nrmZ, Nat.reduceEqDiff, ↓reduceIte, Nat.reduceAdd, Int.reduceBEq, Int.reduceBNe, ee, List.map]; rfl) rfl ?hv fun _ _ => ?_; case hv => (simp only [ee]; rfl))
  | refine bA ?_
  | refine nl hKF ?_
  | refine sq ?_
  | refine rg fun KF hKF => ?_
  | refine cf rfl ?_
  | refine sk ?_
 rename AHeap => Hc
 rename ExtI _ Hc => hxc
 refine WpO.do (WpX.conD hn rfl rfl (by simp only [↓nrmL, nrmZ, Nat.reduceEqDiff, ↓reduceIte, Nat.reduceAdd, Int.reduceBEq, Int.reduceBNe, List.map] <;> rfl) (K_label (e := e) (l := l) ha hb) fun v H1 h5 => ?_)
 obtain ⟨mk, M, L, rfl, hm1, hfm, hwm, hx1, hlab⟩ := h5
 haveI : ExtI _ H1 := ⟨hx1⟩
 haveI := hm1.one
 have hE1 : Ext H H1 := Ext0.ext
 haveI hrI : HasRow H1 H.n [.int .i64 (a : Int), .int .i64 (b : Int), p] true (2 * 29) := inferInstance
 have hML : (cN M).length = a * b := by rw [cN_length]; exact hlab.len
 refine mT ?_
 refine xt ?_
 refine xt ?_
 refine mv ?_
 refine mI ?_
 refine nl hKF ?_
 refine sq ?_
 refine rg fun KF hKF => ?_
 refine mI ?_
 refine WpO.do (WpX.mkC (n := L.length) (K0 := H1) a rfl rfl (by decide) (by have := hlab.few; omega) (Nat.le_refl _) fun q H2 hq hf hx2 => ?_)
 haveI := hq.row.one
 repeat first
  | refine mI ?_
  | (refine mv ?_)
  | (refine ln (by simp only [↓nrmL, nrmK, Nat.reduceEqDiff, ↓reduceIte]; rfl) ?_)
  | refine nl hKF ?_
  | refine sq ?_
  | refine rg fun KF hKF => ?_
  | refine Wp.block ?_
  | dsimp only [cond_true, cond_false]
 refine Wp.loopS [10, 11, 12, 13, 29, 30, 31, 32, 33, 34, 35, 36, 37, 38, 39, 40, 41, 42, 43, 44, 45, 46, 47, 48, 49, 50, 51, 52, 53, 54, 55, 56, 57, 58, 59, 60, 61, 62, 63, 64, 65, 66, 67, 68] (fun i : Nat => [(29, .int .i64 (i : Int))]) (fun _ i H4 => i ≤ a * b ∧ (∃ C, C.length = L.length ∧ Cmps H1 H4 q a C (pxAll M L.length i) ∧ ∀ (k : Nat) c, C[k]? = some c → c.1 = bxL a (pxs M i k)) ∧ IntsI H4 mk (cN M) ∧ HasRow H4 H.n [.int .i64 (a : Int), .int .i64 (b : Int), p] true (2 * 29) ∧ Ext0 H1 H4) (fun i => a * b - i) 0 rfl (fun _ => rfl) ⟨rfl, trivial⟩ ⟨Nat.zero_le _, ⟨noC L.length, List.length_replicate .., by rw [pxAll_zero]; exact hq, fun k c hc => by rw [rep_at hc]; rfl⟩, inferInstance, inferInstance, inferInstance⟩ (by unfold fuel0 at hn; omega) ?_
 rintro i g H4 ⟨hi, ⟨C, hCL, hC, hbx⟩, hb4, hr4, hx4⟩
 simp only [↓nrmL, nrmZ, Nat.reduceEqDiff, ↓reduceIte, Nat.reduceAdd, Int.reduceBEq, Int.reduceBNe]
 cases hc : decide ((i : Int) < ((cN M).length : Int))
 ·have hil : i = a * b := by have := of_decide_eq_false hc; omega
  subst hil
  repeat first
   | refine mI ?_
   | (refine mv ?_)
   | (refine bn rfl rfl rfl (by simp only [hc]; rfl) ?_)
   | refine nl hKF ?_
   | refine sq ?_
   | refine rg fun KF hKF => ?_
   | refine cf rfl ?_
   | refine rt ?_
   | refine xi ?_
   | dsimp only [cond_true, cond_false]
  refine rz trivial ?_
  exact ⟨q, H1, M, L, C, rfl, hE1, ⟨hlab, hC, hbx, hCL⟩, hf, hE1.trans Ext0.ext⟩
 have hil : i < a * b := by have := of_decide_eq_true hc; omega
 have hw1 := wa1 (a := i) (by omega)
 have hiM : i < (cN M).length := by omega
 have hge : (cN M)[i]'hiM = ((M.getD i 0 : Nat) : Int) := cN_get _
 cases hz0 : (((M.getD i 0 : Nat) : Int) == 0)
 rotate_left
 ·have h0 : M.getD i 0 = 0 := by have := eq_of_beq hz0; omega
  repeat first
   | refine mI ?_
   | (refine bn rfl rfl rfl (by simp only [hc, hge, hz0]; rfl) ?_)
   | refine b0 ?_
   | (refine Fo.idx (by simp only [↓nrmL, nrmK, Nat.reduceEqDiff, ↓reduceIte]; rfl) rfl ?_ (by simp only [↓nrmL, nrmZ, Nat.reduceEqDiff, ↓reduceIte, Nat.reduceAdd, Int.reduceBEq, Int.reduceBNe, hc, hge, hz0]; rfl) ?_; (focus omega))
   | (refine Fo.ldI rfl ?_ (by simp only [hc, hge, hz0]; rfl) ?_; (focus omega))
   | refine nl hKF ?_
   | refine sq ?_
   | refine rg fun KF hKF => ?_
   | refine ct rfl ?_
   | refine sk ?_
   | refine Wp.block ?_
   | refine xi ?_
   | dsimp only [cond_true, cond_false]
  refine ⟨i + 1, by omega, ⟨by simp only [↓nrmL, nrmZ, Nat.reduceEqDiff, ↓reduceIte, Nat.reduceAdd, Int.reduceBEq, Int.reduceBNe]; rw [hw1], trivial⟩, hil, ⟨C, hCL, by rw [pxAll_skip h0]; exact hC, fun k c hk => by rw [pxs_miss (by omega)]; exact hbx k c hk⟩, inferInstance, inferInstance, inferInstance⟩
 have h0 : M.getD i 0 ≠ 0 := by have := ne_of_beq_false hz0; omega
 have hlt := hlab.whole.lt i
 try dsimp only at hlt
 obtain ⟨k, hk⟩ : ∃ k, M.getD i 0 = k + 1 := ⟨M.getD i 0 - 1, by omega⟩
 have hkL : k < L.length := by omega
 have hkC : k < C.length := by omega
 obtain ⟨c, hck⟩ : ∃ c, C[k]? = some c := ⟨C[k], List.getElem?_eq_getElem hkC⟩
 have hPk := pxAll_at (M := M) (i := i) hkL
 have hown := hC.own k c _ hck hPk
 have hcr := hC.row
 rw [hk] at hge
 have hs1 : IntKind.i64.wrap (((k + 1 : Nat) : Int) - 1) = (k : Int) := by rw [w64 (by have := hlab.few; omega)]; omega
 have hi6 : i < 640 * 640 := by omega
 have hL6 := hlab.few
 obtain ⟨a', rfl⟩ : ∃ a', a = a' + 1 := ⟨a - 1, by have := (div_lt hil).1; omega⟩
 have t1 : (i : Int).tmod ((a' + 1 : Nat) : Int) = ((i % (a' + 1) : Nat) : Int) := rfl
 have t2 : IntKind.i64.wrap ((i : Int).tdiv ((a' + 1 : Nat) : Int)) = ((i / (a' + 1) : Nat) : Int) := by
  show IntKind.i64.wrap ((i / (a' + 1) : Nat) : Int) = _
  have h9 := Nat.div_le_self i (a' + 1)
  generalize i / (a' + 1) = z at h9
  exact w64 (by omega)
 repeat first
  | refine mI ?_
  | refine mP ?_
  | (refine mv ?_)
  | (refine bn rfl rfl rfl (by simp only [hc, hge, hz0, hs1]; rfl) ?_)
  | refine b0 ?_
  | (refine Fo.idx (by simp only [↓nrmL, nrmK, Nat.reduceEqDiff, ↓reduceIte]; rfl) rfl ?_ (by simp only [↓nrmL, nrmZ, Nat.reduceEqDiff, ↓reduceIte, Nat.reduceAdd, Int.reduceBEq, Int.reduceBNe, hc, hge, hz0, hs1]; rfl) ?_; (focus omega))
  | (refine Fo.ldI rfl ?_ (by simp only [hc, hge, hz0, hs1]; rfl) ?_; (focus omega))
  | refine nl hKF ?_
  | refine sq ?_
  | refine rg fun KF hKF => ?_
  | refine ct rfl ?_
  | refine cf rfl ?_
  | refine sk ?_
  | refine Wp.block ?_
  | dsimp only [cond_true, cond_false]
 refine Fr.dregionE [.row [.int .i64 0, .int .i64 0] true (2 * 93)] ?_ fun KF hKF => ?_
 ·skip
  repeat first
   | exact oracle_none _ _ _ _ rfl
   | (refine oracle_pre rfl rfl rfl (exec_ld rfl rfl) ?_; (try simp only [↓nrmL, nrmZ, Nat.reduceEqDiff, ↓reduceIte, Nat.reduceAdd, Int.reduceBEq, Int.reduceBNe, t1, t2]))
   | (refine oracle_pre rfl rfl rfl rfl ?_; (try simp only [↓nrmL, nrmZ, Nat.reduceEqDiff, ↓reduceIte, Nat.reduceAdd, Int.reduceBEq, Int.reduceBNe, t1, t2]))
   | (refine oracle_made rfl rfl rfl ?_; (try simp only [↓nrmL, nrmZ, Nat.reduceEqDiff, ↓reduceIte, Nat.reduceAdd, Int.reduceBEq, Int.reduceBNe, t1, t2]))
 simp only [pushAll]
 repeat first
  | (refine Er rfl (exec_ld rfl rfl) rfl ?_)
  | (refine Fe.pure rfl rfl (by simp only [t1, t2]; rfl) ?_)
  | (refine Fe.pure rfl rfl (by simp only [↓nrmL, nrmZ, Nat.reduceEqDiff, ↓reduceIte, Nat.reduceAdd, Int.reduceBEq, Int.reduceBNe, t1, t2]; rfl) ?_)
  | (refine Em rfl rfl ghost_of rfl ?_)
  | (refine Ee rfl (xs rfl (by (try simp only [t1, t2]); rfl) rfl rfl rfl (by (try simp only [t1, t2]); rfl)) ?_)
  | refine WpE.nil (hKF _ _ ?_)
 refine sq ?_
 obtain ⟨hq4, hq5⟩ := cellsC_at hck
 refine Fr.dregion0 rfl fun KF hKF => ?_
 repeat first
  | (refine Fe.pure rfl rfl (by simp only [↓nrmL, nrmZ, Nat.reduceEqDiff, ↓reduceIte, Nat.reduceAdd, Int.reduceBEq, Int.reduceBNe]; rfl) ?_)
  | refine Fe.pure rfl rfl rfl ?_
 refine Fe.read rfl (exec_ldNP (p := q) (j := k * 5) rfl (by decide) (by rw [cellsC_length]; omega) hq4) rfl trivial ?_
 repeat first
  | (refine Er rfl (exec_ldN rfl rfl (by simp only [↓nrmL, nrmZ, Nat.reduceEqDiff, ↓reduceIte, Nat.reduceAdd, Int.reduceBEq, Int.reduceBNe]; rfl)) rfl ?_)
  | refine Fe.pure rfl rfl rfl ?_
  | (refine Fe.pcall (v' := ?_) rfl hn rfl (by simp only [↓nrmL, nrmZ, Nat.reduceEqDiff, ↓reduceIte, Nat.reduceAdd, Int.reduceBEq, Int.reduceBNe, List.map]; rfl) rfl ?hv fun _ _ => ar ?_; case hv => rfl)
 haveI := hC.wr
 refine WpE.stPN (p := q) (j := k * 5) (m := 4) (vs := (bxS c.1 ((i % (a' + 1) : Nat) : Int) ((i / (a' + 1) : Nat) : Int)).cells) rfl rfl rfl rfl (bx_cells _).1 (by decide) (bx_cells _).2 (by rw [cellsC_length]; omega) fun H5 s5 w5 x5 => ar ?_
 rw [cellsC_box _ _ _ (bxS c.1 ((i % (a' + 1) : Nat) : Int) ((i / (a' + 1) : Nat) : Int)) hck] at s5
 refine WpE.nil (hKF _ _ ?_)
 dsimp only [cond_true, cond_false]
 have hck2 : (C.set k (bxS c.1 ((i % (a' + 1) : Nat) : Int) ((i / (a' + 1) : Nat) : Int), c.2))[k]? = some (bxS c.1 ((i % (a' + 1) : Nat) : Int) ((i / (a' + 1) : Nat) : Int), c.2) := List.getElem?_set_self hkC
 obtain ⟨_, hq6⟩ := cellsC_at hck2
 haveI := w5
 haveI : SepS c.2 q := hC.sepq k c hck
 haveI : FreshS H1 c.2 := hC.fresh k c hck
 have hcsl := hown.sl
 haveI : OneV c.2 := hcsl.one
 have hpl := pxs_le M i k
 refine Fr.dregionE [.row [.int .i64 ((i % (a' + 1) : Nat) : Int), .int .i64 ((i / (a' + 1) : Nat) : Int)] true (2 * 93)] ?_ fun KF hKF => ?_
 ·skip
  repeat first
   | (refine oracle_pre rfl rfl rfl rfl ?_; (try simp only [↓nrmL, nrmZ, Nat.reduceEqDiff, ↓reduceIte, Nat.reduceAdd, Int.reduceBEq, Int.reduceBNe]))
  refine oracle_pre rfl rfl rfl (exec_ldP (p := q) (j := k * 5 + 4) rfl hq6) ?_
  refine oracle_pre rfl rfl rfl (exec_ldN rfl rfl rfl) ?_; (try simp only [↓nrmL, nrmZ, Nat.reduceEqDiff, ↓reduceIte, Nat.reduceAdd, Int.reduceBEq, Int.reduceBNe])
  refine oracle_made rfl rfl rfl ?_; (try simp only [↓nrmL, nrmZ, Nat.reduceEqDiff, ↓reduceIte, Nat.reduceAdd, Int.reduceBEq, Int.reduceBNe])
  exact oracle_none _ _ _ _ rfl
 simp only [pushAll]
 repeat first
  | (refine Fe.pure rfl rfl (by simp only [↓nrmL, nrmZ, Nat.reduceEqDiff, ↓reduceIte, Nat.reduceAdd, Int.reduceBEq, Int.reduceBNe]; rfl) ?_)
  | refine Fe.pure rfl rfl rfl ?_
 refine Fe.read rfl (exec_ldP (p := q) (j := k * 5 + 4) rfl hq6) rfl trivial ?_
 refine Er rfl (exec_ldN rfl rfl (by simp only [↓nrmL, nrmZ, Nat.reduceEqDiff, ↓reduceIte, Nat.reduceAdd, Int.reduceBEq, Int.reduceBNe]; rfl)) rfl ?_
 refine Em rfl rfl ghost_of rfl ?_
 haveI : SepS q c.2 := (hC.sepq k c hck).symm
 haveI hnew : SliceAt (H5.push (.row [.int .i64 ((i % (a' + 1) : Nat) : Int), .int .i64 ((i / (a' + 1) : Nat) : Int)] true (2 * 93))) (.slice H5.n 0 1 (some 1) 2) 2 1 [.int .i64 ((i % (a' + 1) : Nat) : Int), .int .i64 ((i / (a' + 1) : Nat) : Int)] := ⟨Or.inr ⟨H5.n, 0, some 1, _, true, _, rfl, Nat.lt_succ_self _, push_get_eq, Nat.le_refl _, rfl, Nat.le_refl _⟩⟩
 refine WpE.grow (p := c.2) (q := .slice H5.n 0 1 (some 1) 2) (cs := cellsK (a' + 1) (pxs M i k)) (new := [.int .i64 ((i % (a' + 1) : Nat) : Int), .int .i64 ((i / (a' + 1) : Nat) : Int)]) rfl rfl rfl (by decide) (by decide) (by decide) (by omega) rfl fun p' H7 o7 f7 x7 => ar ?_
 rw [← cellsK_snoc] at o7
 haveI := o7.sl.one
 have s7 : SliceAt H7 q 5 C.length (cellsC (C.set k (bxS c.1 ((i % (a' + 1) : Nat) : Int) ((i / (a' + 1) : Nat) : Int), c.2))) := inferInstance
 have w7 : WrS H7 q := inferInstance
 have hp'q : SepS p' q := inferInstance
 have hx7 : Ext0 H1 H7 := inferInstance
 have hb7 : IntsI H7 mk (cN M) := inferInstance
 have hr7 : HasRow H7 H.n [.int .i64 ((a' + 1 : Nat) : Int), .int .i64 (b : Int), p] true (2 * 29) := inferInstance
 refine Fe.pure rfl rfl rfl ?_
 refine Fe.pure rfl rfl rfl ?_
 refine WpE.stPN (p := q) (j := k * 5 + 4) (m := 1) (v := p') (vs := [p']) rfl rfl rfl (OneV.cells (v := p')) rfl (by decide) (by rw [List.all_cons, OneV.one (v := p')]; rfl) (by rw [cellsC_length, List.length_set]; omega) fun H9 s9 w9 x9 => ar ?_
 rw [setAt_one, cellsC_px _ _ _ _ hck2, List.set_set] at s9
 refine WpE.nil (hKF _ _ ?_)
 refine rg fun KF hKF => ?_
 refine b0 ?_
 refine mI ?_
 refine nl hKF ?_
 dsimp only [cond_true, cond_false]
 have hmv : (C.set k (bxS c.1 ((i % (a' + 1) : Nat) : Int) ((i / (a' + 1) : Nat) : Int), p')).length = L.length := by rw [List.length_set]; exact hCL
 refine ⟨i + 1, by omega, ⟨by simp only [↓nrmL, nrmZ, Nat.reduceEqDiff, ↓reduceIte, Nat.reduceAdd, Int.reduceBEq, Int.reduceBNe]; rw [hw1], trivial⟩, hil, ⟨C.set k (bxS c.1 ((i % (a' + 1) : Nat) : Int) ((i / (a' + 1) : Nat) : Int), p'), hmv, ?_, ?_⟩, inferInstance, inferInstance, inferInstance⟩
 ·rw [pxAll_next hk]
  refine hC.step hPk s9 w9 (OwnS.keep (H := H7) (by simpa using o7) (ExtP.n (p := q) (H := H7)) fun r off len cap sz e1 hr => ExtP.get (p := q) (H := H7) r hr ⟨fun r' off' len' cap' sz' e2 => fun h => hp'q.ne _ _ _ _ _ _ _ _ _ _ e1 e2 h.symm⟩) f7.weak (fun j d h1 h2 => ?_) hp'q (fun j d l' h1 h2 h3 => ?_)
  ·have hjL : j < L.length := by
    rw [← hCL]
    exact (List.getElem?_eq_some_iff.1 h1).1
   haveI o4 := hC.own j d _ h1 (pxAll_at hjL)
   haveI := o4.sl
   haveI : SepS d.2 q := hC.sepq j d h1
   have s5 : SliceAt (H5.push (.row [.int .i64 ((i % (a' + 1) : Nat) : Int), .int .i64 ((i / (a' + 1) : Nat) : Int)] true (2 * 93))) d.2 2 _ _ := inferInstance
   infer_instance
  ·haveI o4 := hC.own j d l' h2 h3
   haveI := o4.sl
   haveI : SepS d.2 q := hC.sepq j d h2
   haveI : SepS d.2 c.2 := hC.sep j k d c h2 hck h1
   have o7 : OwnS H7 d.2 2 l'.length (cellsK (a' + 1) l') 93 := inferInstance
   infer_instance
 ·intro j d hj
  rcases set_at hj with ⟨rfl, rfl⟩ | ⟨hne, hj⟩
  ·rw [pxs_hit hk, bxL_snoc, ← hbx j c hck]
  ·rw [pxs_miss (by omega)]; exact hbx j d hj
end Go.Am
namespace Go.Am
open Go
attribute [local irreducible] Wp WpO WpX WpE
theorem K_Despeckle {a b : Nat} {t : Int} {p : AVal} {H : AHeap} {l : List UInt8} [hp : BytesI H p l] [ht : Tabs H] (ok : Ok a b l) : Con ext prog 6 50 [.agg [.int .i64 a, .int .i64 b, p], .int .i64 t] H fun v H' => ∃ M L, Lab l a b true M L (a * b) ∧ InkRes H H' v (⟨a, b, spk 0 (fun n => !decide ((n : Int) ≥ t)) l (pxAll M L.length (a * b))⟩, 0) := by
 refine con_of (show prog 50 = some c50 from rfl) rfl rfl fun n hn => ?_
 haveI := hp.one
 have ha := ok.wa
 have hb := ok.hb
 have hll := ok.len
 have hab : a * b ≤ 640 * 640 := Nat.mul_le_mul ha hb
 repeat first
  | refine mI ?_
  | (refine Fo.ldN rfl rfl (by simp only [↓nrmL, nrmZ, Nat.reduceEqDiff, ↓reduceIte, Nat.reduceAdd, Int.reduceBEq, Int.reduceBNe]; rfl) ?_)
  | refine bA ?_
  | refine nw ?_
  | refine nl hKF ?_
  | refine sq ?_
  | refine rg fun KF hKF => ?_
 refine WpO.do (WpX.conD hn rfl rfl (by simp only [↓nrmL, nrmZ, Nat.reduceEqDiff, ↓reduceIte, Nat.reduceAdd, Int.reduceBEq, Int.reduceBNe, List.map] <;> rfl) (K_Components (e := true) ok) fun v H1 h5 => ?_)
 obtain ⟨q, K, M, L, C, e5, hHK, hcr, hfq, hx1⟩ := h5
 subst e5
 haveI : ExtI _ H1 := ⟨hx1⟩
 have hcl := hcr.cl (by omega)
 haveI := hcl.row
 haveI := hcl.row.one
 have hE1 : Ext H H1 := Ext0.ext
 repeat first
  | refine mI ?_
  | refine mT ?_
  | (refine mv ?_)
  | (refine Fo.ldN rfl rfl (by simp only [↓nrmL, nrmZ, Nat.reduceEqDiff, ↓reduceIte, Nat.reduceAdd, Int.reduceBEq, Int.reduceBNe]; rfl) ?_)
  | (refine bn rfl rfl rfl (by simp only [↓nrmL, nrmZ, Nat.reduceEqDiff, ↓reduceIte, Nat.reduceAdd, Int.reduceBEq, Int.reduceBNe]; rfl) ?_)
  | refine xt ?_
  | refine nl hKF ?_
  | refine sq ?_
  | refine rg fun KF hKF => ?_
  | refine cf rfl ?_
  | refine sk ?_
 refine WpO.do (WpX.conD hn rfl rfl (by simp only [↓nrmL, nrmZ, Nat.reduceEqDiff, ↓reduceIte, Nat.reduceAdd, Int.reduceBEq, Int.reduceBNe, List.map] <;> rfl) (K_twin (l := l) (by omega)) fun v H2 h5 => ?_)
 obtain ⟨o, e1, ho, hfo, hwo, hxo⟩ := h5
 subst e1
 try dsimp only at ho
 haveI : ExtI _ H2 := ⟨hxo⟩
 haveI := ho.one
 refine nw ?_
 refine so rfl (rfl : _ = AVal.agg _) rfl rfl rfl (by simp only [↓nrmL, nrmZ, Nat.reduceEqDiff, ↓reduceIte, Nat.reduceAdd, Int.reduceBEq, Int.reduceBNe]; rfl) ?_
 refine nl hKF ?_
 refine sq ?_
 refine sq ?_
 refine rg fun KF hKF => ?_
 refine mv ?_
 refine ln (by simp only [↓nrmL, nrmK, Nat.reduceEqDiff, ↓reduceIte]; rfl) ?_
 refine mI ?_
 refine nl hKF ?_
 refine Wp.block ?_
 dsimp only [cond_true, cond_false]
 obtain ⟨P, hPe⟩ : ∃ P, pxAll M L.length (a * b) = P := ⟨_, rfl⟩
 have hPlt : ∀ ps ∈ P, ∀ j ∈ ps, j < a * b := fun ps h1 j h2 => by
  rw [← hPe] at h1
  exact pxAll_lt h1 h2
 rw [hPe] at hcl
 have l1 := hcl.len
 have hf := hcl.few.1
 have kc := cellsC_length C
 have hg8 : Ext H1 H2 := hxo
 haveI hfo1 : FreshS H1 o := hfo
 haveI : RowNe o H2.n := inferInstance
 refine Wp.loopS [10, 12, 26, 27, 28, 29, 30, 31, 32, 33, 34, 35, 36, 37, 38, 39, 40, 41, 42, 43, 44, 45, 46, 47, 48, 49, 50, 51, 52, 53, 54] (fun i : Nat => [(26, .int .i64 (i : Int))]) (fun _ i H3 => i ≤ P.length ∧ BytesI H3 o (spk 0 (fun n => !decide ((n : Int) ≥ t)) l (P.take i)) ∧ WrS H3 o ∧ HasRow H3 H2.n [.int .i64 (a : Int), .int .i64 (b : Int), o] true (2 * 29) ∧ HasRow H3 (H.push (.row [.int .i64 (a : Int), .int .i64 (b : Int), p] true (2 * 29))).n [.int .i64 0, .int .i64 0, .nslice] true (2 * 29) ∧ Ext0 H1 H3) (fun i => P.length - i) 0 rfl (fun _ => rfl) ⟨rfl, trivial⟩ ⟨Nat.zero_le _, (by show BytesI _ o l; infer_instance), inferInstance, inferInstance, inferInstance, inferInstance⟩ (by unfold fuel0 at hn; omega) ?_
 rintro i g H3 ⟨hi, hbo, hwo, hr8, hr4, hx3⟩
 haveI : ExtI H1 H3 := ⟨hx3.ext⟩
 simp only [↓nrmL, nrmZ, Nat.reduceEqDiff, ↓reduceIte, Nat.reduceAdd, Int.reduceBEq, Int.reduceBNe]
 cases hc : decide ((i : Int) < ((C.length : Nat) : Int))
 ·have hie : i = P.length := by have := of_decide_eq_false hc; omega
  subst hie
  rw [List.take_length] at hbo
  haveI : Ext0 H H3 := ⟨hE1.trans hx3.ext⟩
  repeat first
   | refine mI ?_
   | (refine Fo.ldN rfl rfl (by simp only [↓nrmL, nrmZ, Nat.reduceEqDiff, ↓reduceIte, Nat.reduceAdd, Int.reduceBEq, Int.reduceBNe, hc]; rfl) ?_)
   | (refine bn rfl rfl rfl (by simp only [hc]; rfl) ?_)
   | (refine so rfl (rfl : _ = AVal.agg _) rfl rfl rfl (by simp only [↓nrmL, nrmZ, Nat.reduceEqDiff, ↓reduceIte, Nat.reduceAdd, Int.reduceBEq, Int.reduceBNe, hc]; rfl) ?_)
   | refine nl hKF ?_
   | refine sq ?_
   | refine rg fun KF hKF => ?_
   | refine cf rfl ?_
   | refine rt ?_
   | refine xi ?_
   | dsimp only [cond_true, cond_false]
  refine rz trivial ?_
  refine ⟨M, L, hcr.lab, ?_⟩
  rw [hPe]
  exact ⟨_, rfl, o, rfl, inferInstance, FreshS.weak (H := H) (K := H1) hfo1 (x := ⟨hE1⟩), inferInstance, Ext0.ext⟩
 have hil : i < P.length := by have := of_decide_eq_true hc; omega
 have hw := wa1 (a := i) (by omega)
 obtain ⟨p1, e1, s1, f1⟩ := (hcl.ext hx3.ext).at hil
 haveI hsep : SepS p1 o := by
  have h7 := (hcl.it i _ _ e1 (List.getElem?_eq_getElem hil)).2
  dsimp only at h7
  infer_instance
 have g1 := cellsC_all e1
 dsimp only at g1
 haveI := s1.one
 have hsn := spk_snoc 0 (fun n => !decide ((n : Int) ≥ t)) l (P.take i) P[i]
 rw [← take_snoc (List.getElem?_eq_getElem hil)] at hsn
 have hmem : P[i] ∈ P := List.getElem_mem _
 obtain ⟨ps, hps⟩ : ∃ ps, P[i] = ps := ⟨_, rfl⟩
 rw [hps] at g1 s1 f1 hsn hmem
 obtain ⟨cur, hcur⟩ : ∃ cur, spk 0 (fun n => !decide ((n : Int) ≥ t)) l (P.take i) = cur := ⟨_, rfl⟩
 have hcl' : cur.length = a * b := by rw [← hcur, spk_length, hll]
 rw [hcur] at hbo hsn
 generalize bxL a ps = bx at g1
 obtain ⟨x, y, w, h⟩ := bx
 unfold Bx.cells at g1
 simp only [List.cons_append, List.nil_append] at g1
 cases ht2 : decide (((ps.length : Nat) : Int) ≥ t)
 rotate_left
 ·have hsn2 : spk 0 (fun n => !decide ((n : Int) ≥ t)) l (P.take (i + 1)) = cur := by rw [hsn, ht2]; rfl
  repeat first
   | (refine bn rfl rfl rfl (by simp only [hc]; rfl) ?_)
   | (refine Fo.idx (by simp only [↓nrmL, nrmK, Nat.reduceEqDiff, ↓reduceIte]; rfl) rfl ?_ (by simp only [↓nrmL, nrmZ, Nat.reduceEqDiff, ↓reduceIte, Nat.reduceAdd, Int.reduceBEq, Int.reduceBNe, hc]; rfl) ?_; (focus omega))
   | refine nl hKF ?_
   | refine sq ?_
   | refine rg fun KF hKF => ?_
   | refine ct rfl ?_
   | refine sk ?_
   | refine Wp.block ?_
  refine Fo.now rfl (exec_ldNP (p := q) (j := i * 5) rfl (by decide) (by omega) g1) rfl ?_
  repeat first
   | refine mI ?_
   | refine fd ?_
   | refine Fo.ld rfl rfl ?_
   | (refine bn rfl rfl rfl (by simp only [ht2]; rfl) ?_)
   | refine b0 ?_
   | (refine ln (by simp only [↓nrmL, nrmK, Nat.reduceEqDiff, ↓reduceIte]; rfl) ?_)
   | refine nw ?_
   | (refine so rfl (rfl : _ = AVal.agg _) rfl rfl rfl (by simp only [↓nrmL, nrmZ, Nat.reduceEqDiff, ↓reduceIte, Nat.reduceAdd, Int.reduceBEq, Int.reduceBNe, ht2]; rfl) ?_)
   | refine nl hKF ?_
   | refine sq ?_
   | refine rg fun KF hKF => ?_
   | refine ct rfl ?_
   | refine xi ?_
   | dsimp only [cond_true, cond_false]
  refine ⟨i + 1, by omega, ⟨by simp only [↓nrmL, nrmZ, Nat.reduceEqDiff, ↓reduceIte, Nat.reduceAdd, Int.reduceBEq, Int.reduceBNe]; rw [hw], trivial⟩, hil, by rw [hsn2]; infer_instance, inferInstance, inferInstance, inferInstance, inferInstance⟩
 have hsn2 : spk 0 (fun n => !decide ((n : Int) ≥ t)) l (P.take (i + 1)) = setPx 0 cur ps := by rw [hsn, ht2]; rfl
 repeat first
  | (refine bn rfl rfl rfl (by simp only [hc]; rfl) ?_)
  | (refine Fo.idx (by simp only [↓nrmL, nrmK, Nat.reduceEqDiff, ↓reduceIte]; rfl) rfl ?_ (by simp only [↓nrmL, nrmZ, Nat.reduceEqDiff, ↓reduceIte, Nat.reduceAdd, Int.reduceBEq, Int.reduceBNe, hc]; rfl) ?_; (focus omega))
  | refine nl hKF ?_
  | refine sq ?_
  | refine rg fun KF hKF => ?_
  | refine ct rfl ?_
  | refine sk ?_
  | refine Wp.block ?_
 refine Fo.now rfl (exec_ldNP (p := q) (j := i * 5) rfl (by decide) (by omega) g1) rfl ?_
 repeat first
  | refine mI ?_
  | refine fd ?_
  | refine Fo.ld rfl rfl ?_
  | (refine bn rfl rfl rfl (by simp only [ht2]; rfl) ?_)
  | (refine ln (by simp only [↓nrmL, nrmK, Nat.reduceEqDiff, ↓reduceIte]; rfl) ?_)
  | refine nw ?_
  | (refine so rfl (rfl : _ = AVal.agg _) rfl rfl rfl (by simp only [↓nrmL, nrmZ, Nat.reduceEqDiff, ↓reduceIte, Nat.reduceAdd, Int.reduceBEq, Int.reduceBNe, ht2]; rfl) ?_)
  | refine nl hKF ?_
  | refine sq ?_
  | refine rg fun KF hKF => ?_
  | refine cf rfl ?_
  | refine sk ?_
  | refine Wp.block ?_
  | dsimp only [cond_true, cond_false]
 refine Wp.loopS [12, 38, 39, 40, 41, 42, 43, 44, 45, 46, 47, 48, 49, 50, 51, 52, 53] (fun k : Nat => [(38, .int .i64 (k : Int))]) (fun _ k H4 => k ≤ ps.length ∧ BytesI H4 o (setPx 0 cur (ps.take k)) ∧ WrS H4 o ∧ HasRow H4 H2.n [.int .i64 (a : Int), .int .i64 (b : Int), o] true (2 * 29) ∧ HasRow H4 (H.push (.row [.int .i64 (a : Int), .int .i64 (b : Int), p] true (2 * 29))).n [.int .i64 0, .int .i64 0, .nslice] true (2 * 29) ∧ SliceAt H4 p1 2 ps.length (cellsK a ps) ∧ Ext0 H1 H4) (fun k => ps.length - k) 0 rfl (fun _ => rfl) ⟨rfl, trivial⟩ ⟨Nat.zero_le _, (by show BytesI _ o cur; infer_instance), inferInstance, inferInstance, inferInstance, inferInstance, inferInstance⟩ (by unfold fuel0 at hn; omega) ?_
 rintro k gk H4 ⟨hk, hbo4, hwo4, hr84, hr44, hs4, hx4⟩
 haveI : ExtI H1 H4 := ⟨hx4.ext⟩
 simp only [↓nrmL, nrmZ, Nat.reduceEqDiff, ↓reduceIte, Nat.reduceAdd, Int.reduceBEq, Int.reduceBNe]
 cases hck : decide ((k : Int) < ((ps.length : Nat) : Int))
 ·have hke : k = ps.length := by have := of_decide_eq_false hck; omega
  subst hke
  rw [List.take_length, ← hsn2] at hbo4
  repeat first
   | refine mI ?_
   | (refine bn rfl rfl rfl (by simp only [hck]; rfl) ?_)
   | refine b0 ?_
   | refine nl hKF ?_
   | refine sq ?_
   | refine rg fun KF hKF => ?_
   | refine cf rfl ?_
   | refine xi ?_
   | dsimp only [cond_true, cond_false]
  refine ⟨i + 1, by omega, ⟨by simp only [↓nrmL, nrmZ, Nat.reduceEqDiff, ↓reduceIte, Nat.reduceAdd, Int.reduceBEq, Int.reduceBNe]; rw [hw], trivial⟩, hil, inferInstance, inferInstance, inferInstance, inferInstance, inferInstance⟩
 have hkl : k < ps.length := by have := of_decide_eq_true hck; omega
 have hwk := wa1 (a := k) (by omega)
 have hkl2 := cellsK_length a ps
 obtain ⟨z, hz⟩ : ∃ z, ps[k] = z := ⟨_, rfl⟩
 have gk2 := cellsK_at (a := a) hkl
 rw [hz] at gk2
 have hza : z < a * b := by rw [← hz]; exact hPlt ps hmem _ (List.getElem_mem _)
 obtain ⟨hh1, hh2, hh3, hh4⟩ := div_lt hza
 have m1 : IntKind.i64.wrap (((z / a : Nat) : Int) * (a : Int)) = ((z / a * a : Nat) : Int) := wm (by omega)
 have m2 : IntKind.i64.wrap (((z / a * a : Nat) : Int) + ((z % a : Nat) : Int)) = (z : Int) := by rw [wa (by omega)]; omega
 have hset := setPx_snoc 0 cur (ps.take k) z
 rw [← hz, ← take_snoc (List.getElem?_eq_getElem hkl)] at hset
 rw [hz] at hset
 repeat first
  | (refine bn rfl rfl rfl (by simp only [hck]; rfl) ?_)
  | (refine Fo.idx (by simp only [↓nrmL, nrmK, Nat.reduceEqDiff, ↓reduceIte]; rfl) rfl ?_ (by simp only [↓nrmL, nrmZ, Nat.reduceEqDiff, ↓reduceIte, Nat.reduceAdd, Int.reduceBEq, Int.reduceBNe, hck]; rfl) ?_; (focus omega))
  | refine nl hKF ?_
  | refine sq ?_
  | refine rg fun KF hKF => ?_
  | refine ct rfl ?_
  | refine sk ?_
  | refine Wp.block ?_
 refine Fo.now rfl (exec_ldNP (p := p1) (j := k * 2) rfl (by decide) (by omega) gk2) rfl ?_
 have hzl : z < (setPx 0 cur (ps.take k)).length := by rw [setPx_length]; omega
 repeat first
  | refine fd ?_
  | refine Fo.ld rfl rfl ?_
  | (refine bn rfl rfl rfl (by simp only [m1, m2]; rfl) ?_)
  | refine nw ?_
  | (refine Fo.idx (by simp only [↓nrmL, nrmK, Nat.reduceEqDiff, ↓reduceIte]; rfl) rfl ?_ (by simp only [↓nrmL, nrmZ, Nat.reduceEqDiff, ↓reduceIte, Nat.reduceAdd, Int.reduceBEq, Int.reduceBNe, m1, m2]; rfl) ?_; (focus omega))
  | (refine so rfl (rfl : _ = AVal.agg _) rfl rfl rfl (by simp only [↓nrmL, nrmZ, Nat.reduceEqDiff, ↓reduceIte, Nat.reduceAdd, Int.reduceBEq, Int.reduceBNe, m1, m2]; rfl) ?_)
  | refine nl hKF ?_
  | refine rg fun KF hKF => ?_
 refine WpO.do' (WpX.stB (p := o) (j := z) (l := setPx 0 cur (ps.take k)) 0 rfl rfl rfl (by rw [setPx_length]; omega) fun H6 hb6 hw6 hx6 => ?_)
 rw [← hset] at hb6
 refine nl hKF ?_
 refine rg fun KF hKF => ?_
 refine b0 ?_
 refine mI ?_
 refine nl hKF ?_
 dsimp only [cond_true, cond_false]
 refine ⟨k + 1, by omega, ⟨by simp only [↓nrmL, nrmZ, Nat.reduceEqDiff, ↓reduceIte, Nat.reduceAdd, Int.reduceBEq, Int.reduceBNe]; rw [hwk], trivial⟩, hkl, inferInstance, inferInstance, inferInstance, inferInstance, inferInstance, inferInstance⟩
end Go.Am
namespace Go.Am
open Go
attribute [local irreducible] Wp WpO WpX WpE
theorem K_step2 {gb rb rr : Nat} {w h t0 k0 s0 wi hi : Int} {p pi : AVal} {H : AHeap} {l li : List UInt8} {r1 r2 r3 : Bool} {e1 e2 e3 : TypeId} [hp : BytesI H p l] [HasRow H gb [.int .i64 w, .int .i64 h, p] r1 e1] [HasRow H rb [.ptr rr 0] r2 e2] [HasRow H rr [.int .i64 t0, .int .i64 k0, .int .i64 s0] r3 e3] [hpi : BytesI H pi li] : Con ext prog 5 43 [.agg [.int .i64 wi, .int .i64 hi, pi], .ptr gb 0, .ptr rb 0] H fun v H' => InkRes H H' v (thrSpec ⟨w, h, l⟩ t0) := by
 refine con_of (show prog 43 = some c43 from rfl) rfl rfl fun n hn => ?_
 haveI := hp.one
 haveI := hpi.one
 refine sq ?_
 refine rg fun KF hKF => ?_
 refine bA ?_
 refine nw ?_
 refine mI ?_
 refine nl hKF ?_
 refine sq ?_
 refine Fr.dregion0 rfl fun KF hKF => ?_
 repeat first
  | (refine Er rfl (exec_ld rfl rfl) rfl ?_)
  | (refine Er rfl (exec_ldN rfl rfl (by simp only [↓nrmL, nrmZ, Nat.reduceEqDiff, ↓reduceIte, Nat.reduceAdd, Int.reduceBEq, Int.reduceBNe]; rfl)) rfl ?_)
  | (refine Fe.pure rfl rfl (by simp only [↓nrmL, nrmZ, Nat.reduceEqDiff, ↓reduceIte, Nat.reduceAdd, Int.reduceBEq, Int.reduceBNe]; rfl) ?_)
  | refine Fe.pure rfl rfl rfl ?_
 refine Fe.con rfl hn rfl rfl (by simp only [↓nrmL, nrmZ, Nat.reduceEqDiff, ↓reduceIte, Nat.reduceAdd, Int.reduceBEq, Int.reduceBNe, List.map] <;> rfl) (K_Threshold (w := w) (h := h) (l := l) (level := t0)) fun v H1 h5 => ?_
 obtain ⟨v, e1, q, e2, hq, hf, hw, hx⟩ := h5
 subst e1 e2
 haveI : ExtI _ H1 := ⟨hx⟩
 haveI := hq.one
 refine ar ?_
 repeat first
  | (refine Fe.pure rfl rfl (by simp only [↓nrmL, nrmZ, Nat.reduceEqDiff, ↓reduceIte, Nat.reduceAdd, Int.reduceBEq, Int.reduceBNe]; rfl) ?_)
  | refine Fe.pure rfl rfl rfl ?_
  | (refine Ee rfl (xs rfl (by (try simp only [↓nrmL, nrmZ, Nat.reduceEqDiff, ↓reduceIte, Nat.reduceAdd, Int.reduceBEq, Int.reduceBNe]); rfl) rfl rfl rfl (by (try simp only [↓nrmL, nrmZ, Nat.reduceEqDiff, ↓reduceIte, Nat.reduceAdd, Int.reduceBEq, Int.reduceBNe]); rfl)) ?_)
  | refine WpE.nil (hKF _ _ ?_)
 refine rt ?_
 dsimp only [cond_true, cond_false]
 refine rz trivial ?_
 exact ⟨_, rfl, q, rfl, (show BytesI _ q (thrSpec ⟨w, h, l⟩ t0).1.px from inferInstance), hf.weak, inferInstance, Ext0.ext⟩
theorem K_step4 {rb rr : Nat} {t0 k0 s0 wi hi : Int} {pi : AVal} {H : AHeap} {li : List UInt8} {r2 r3 : Bool} {e2 e3 : TypeId} [HasRow H rb [.ptr rr 0] r2 e2] [HasRow H rr [.int .i64 t0, .int .i64 k0, .int .i64 s0] r3 e3] [hpi : BytesI H pi li] : Con ext prog 6 46 [.agg [.int .i64 wi, .int .i64 hi, pi], .ptr rb 0] H fun v H' => InkRes H H' v (unskewS ⟨wi, hi, li⟩ k0) := by
 refine con_of (show prog 46 = some c46 from rfl) rfl rfl fun n hn => ?_
 haveI := hpi.one
 refine sq ?_
 refine rg fun KF hKF => ?_
 refine bA ?_
 refine nw ?_
 refine mI ?_
 refine nl hKF ?_
 refine sq ?_
 refine Fr.dregion0 rfl fun KF hKF => ?_
 repeat first
  | (refine Er rfl (exec_ld rfl rfl) rfl ?_)
  | (refine Er rfl (exec_ldN rfl rfl (by simp only [↓nrmL, nrmZ, Nat.reduceEqDiff, ↓reduceIte, Nat.reduceAdd, Int.reduceBEq, Int.reduceBNe]; rfl)) rfl ?_)
  | (refine Fe.pure rfl rfl (by simp only [↓nrmL, nrmZ, Nat.reduceEqDiff, ↓reduceIte, Nat.reduceAdd, Int.reduceBEq, Int.reduceBNe]; rfl) ?_)
  | refine Fe.pure rfl rfl rfl ?_
 refine Fe.con rfl hn rfl rfl (by simp only [↓nrmL, nrmZ, Nat.reduceEqDiff, ↓reduceIte, Nat.reduceAdd, Int.reduceBEq, Int.reduceBNe, List.map] <;> rfl) (K_Unskew (w := wi) (h := hi) (l := li) (k := k0)) fun v H1 h5 => ?_
 obtain ⟨v, e1, q, e2, hq, hf, hw, hx⟩ := h5
 subst e1 e2
 haveI : ExtI _ H1 := ⟨hx⟩
 haveI := hq.one
 refine ar ?_
 repeat first
  | (refine Fe.pure rfl rfl (by simp only [↓nrmL, nrmZ, Nat.reduceEqDiff, ↓reduceIte, Nat.reduceAdd, Int.reduceBEq, Int.reduceBNe]; rfl) ?_)
  | refine Fe.pure rfl rfl rfl ?_
  | (refine Ee rfl (xs rfl (by (try simp only [↓nrmL, nrmZ, Nat.reduceEqDiff, ↓reduceIte, Nat.reduceAdd, Int.reduceBEq, Int.reduceBNe]); rfl) rfl rfl rfl (by (try simp only [↓nrmL, nrmZ, Nat.reduceEqDiff, ↓reduceIte, Nat.reduceAdd, Int.reduceBEq, Int.reduceBNe]); rfl)) ?_)
  | refine WpE.nil (hKF _ _ ?_)
 refine rt ?_
 dsimp only [cond_true, cond_false]
 refine rz trivial ?_
 exact ⟨_, rfl, q, rfl, (show BytesI _ q (unskewS ⟨wi, hi, li⟩ k0).1.px from inferInstance), hf.weak, inferInstance, Ext0.ext⟩
end Go.Am
namespace Go.Am
open Go
attribute [local irreducible] Wp WpO WpX WpE
theorem K_step1 {gb rb rr : Nat} {w h t0 k0 s0 wi hi : Int} {p pi : AVal} {H : AHeap} {l li : List UInt8} {r1 r2 : Bool} {e1 e2 e3 : TypeId} [hp : BytesI H p l] [HasRow H gb [.int .i64 w, .int .i64 h, p] r1 e1] [HasRow H rb [.ptr rr 0] r2 e2] [hr : HasRow H rr [.int .i64 t0, .int .i64 k0, .int .i64 s0] true e3] [hpi : BytesI H pi li] : Con ext prog 6 42 [.agg [.int .i64 wi, .int .i64 hi, pi], .ptr gb 0, .ptr rb 0] H fun v H' => v = .int .i64 (levelS ⟨w, h, l⟩).2 ∧ ∃ H1, Ext H H1 ∧ H' = H1.set rr (.row [.int .i64 (levelS ⟨w, h, l⟩).1, .int .i64 k0, .int .i64 s0] true e3) := by
 refine con_of (show prog 42 = some c42 from rfl) rfl rfl fun n hn => ?_
 haveI := hp.one
 haveI := hpi.one
 refine sq ?_
 refine rg fun KF hKF => ?_
 refine bA ?_
 refine mI ?_
 refine nl hKF ?_
 refine sq ?_
 refine Fr.dregion0 rfl fun KF hKF => ?_
 repeat first
  | (refine Er rfl (exec_ld rfl rfl) rfl ?_)
  | (refine Er rfl (exec_ldN rfl rfl (by simp only [↓nrmL, nrmZ, Nat.reduceEqDiff, ↓reduceIte, Nat.reduceAdd, Int.reduceBEq, Int.reduceBNe]; rfl)) rfl ?_)
  | (refine Fe.pure rfl rfl (by simp only [↓nrmL, nrmZ, Nat.reduceEqDiff, ↓reduceIte, Nat.reduceAdd, Int.reduceBEq, Int.reduceBNe]; rfl) ?_)
  | refine Fe.pure rfl rfl rfl ?_
  | (refine Ee rfl (xs rfl (by (try simp only [↓nrmL, nrmZ, Nat.reduceEqDiff, ↓reduceIte, Nat.reduceAdd, Int.reduceBEq, Int.reduceBNe]); rfl) rfl rfl rfl (by (try simp only [↓nrmL, nrmZ, Nat.reduceEqDiff, ↓reduceIte, Nat.reduceAdd, Int.reduceBEq, Int.reduceBNe]); rfl)) ?_)
  | (refine Fe.pcall (v' := ?_) rfl hn rfl (by simp only [↓nrmL, nrmZ, Nat.reduceEqDiff, ↓reduceIte, Nat.reduceAdd, Int.reduceBEq, Int.reduceBNe, List.map]; rfl) rfl ?hv fun _ _ => ar ?_; case hv => rfl)
  | refine WpE.nil (hKF _ _ ?_)
 refine sq ?_
 refine rg fun KF hKF => ?_
 refine mI ?_
 refine mI ?_
 refine nl hKF ?_
 refine rt ?_
 dsimp only [cond_true, cond_false]
 refine rz trivial ?_
 exact ⟨rfl, _, Ext0.ext, rfl⟩
theorem K_step3 {rb rr : Nat} {t0 k0 s0 wi hi : Int} {pi : AVal} {H : AHeap} {li : List UInt8} {r2 : Bool} {e2 e3 : TypeId} [HasRow H rb [.ptr rr 0] r2 e2] [hr : HasRow H rr [.int .i64 t0, .int .i64 k0, .int .i64 s0] true e3] [hpi : BytesI H pi li] : Con ext prog 12 45 [.agg [.int .i64 wi, .int .i64 hi, pi], .ptr rb 0] H fun v H' => v = .int .i64 (findS ⟨wi, hi, li⟩).2 ∧ ∃ H1, Ext H H1 ∧ H' = H1.set rr (.row [.int .i64 t0, .int .i64 (findS ⟨wi, hi, li⟩).1, .int .i64 s0] true e3) := by
 refine con_of (show prog 45 = some c45 from rfl) rfl rfl fun n hn => ?_
 haveI := hpi.one
 refine sq ?_
 refine rg fun KF hKF => ?_
 refine bA ?_
 refine mI ?_
 refine nl hKF ?_
 refine sq ?_
 refine Fr.dregion0 rfl fun KF hKF => ?_
 repeat first
  | (refine Er rfl (exec_ld rfl rfl) rfl ?_)
  | (refine Er rfl (exec_ldN rfl rfl (by simp only [↓nrmL, nrmZ, Nat.reduceEqDiff, ↓reduceIte, Nat.reduceAdd, Int.reduceBEq, Int.reduceBNe]; rfl)) rfl ?_)
  | (refine Fe.pure rfl rfl (by simp only [↓nrmL, nrmZ, Nat.reduceEqDiff, ↓reduceIte, Nat.reduceAdd, Int.reduceBEq, Int.reduceBNe]; rfl) ?_)
  | refine Fe.pure rfl rfl rfl ?_
  | (refine Ee rfl (xs rfl (by (try simp only [↓nrmL, nrmZ, Nat.reduceEqDiff, ↓reduceIte, Nat.reduceAdd, Int.reduceBEq, Int.reduceBNe]); rfl) rfl rfl rfl (by (try simp only [↓nrmL, nrmZ, Nat.reduceEqDiff, ↓reduceIte, Nat.reduceAdd, Int.reduceBEq, Int.reduceBNe]); rfl)) ?_)
  | (refine Fe.pcall (v' := ?_) rfl hn rfl (by simp only [↓nrmL, nrmZ, Nat.reduceEqDiff, ↓reduceIte, Nat.reduceAdd, Int.reduceBEq, Int.reduceBNe, List.map]; rfl) rfl ?hv fun _ _ => ar ?_; case hv => rfl)
  | refine WpE.nil (hKF _ _ ?_)
 refine sq ?_
 refine rg fun KF hKF => ?_
 refine mI ?_
 refine mI ?_
 refine nl hKF ?_
 refine rt ?_
 dsimp only [cond_true, cond_false]
 refine rz trivial ?_
 exact ⟨rfl, _, Ext0.ext, rfl⟩
theorem K_step5 {rb rr : Nat} {t0 k0 s0 : Int} {vi : AVal} {H : AHeap} {r2 : Bool} {e2 e3 : TypeId} [HasRow H rb [.ptr rr 0] r2 e2] [hr : HasRow H rr [.int .i64 t0, .int .i64 k0, .int .i64 s0] true e3] {wi hi : Int} {pi : AVal} {li : List UInt8} [hpi : BytesI H pi li] : Con ext prog 1 48 [.agg [.int .i64 wi, .int .i64 hi, pi], .ptr rb 0] H fun v H' => v = .int .i64 0 ∧ ∃ H1, Ext H H1 ∧ H' = H1.set rr (.row [.int .i64 t0, .int .i64 k0, .int .i64 2] true e3) := by
 refine con_of (show prog 48 = some c48 from rfl) rfl rfl fun n hn => ?_
 haveI := hpi.one
 repeat first
  | refine mI ?_
  | refine fd ?_
  | refine Fo.ld rfl rfl ?_
  | refine bA ?_
  | refine Fo.now rfl rfl rfl ?_
  | (refine so rfl (rfl : _ = AVal.int _ _) rfl rfl rfl (by simp only [↓nrmL, nrmZ, Nat.reduceEqDiff, ↓reduceIte, Nat.reduceAdd, Int.reduceBEq, Int.reduceBNe]; rfl) ?_)
  | refine nl hKF ?_
  | refine sq ?_
  | refine rg fun KF hKF => ?_
  | refine rt ?_
  | dsimp only [cond_true, cond_false]
 refine rz trivial ?_
 exact ⟨rfl, _, Ext0.ext, rfl⟩
def properB (t k s : Int) : Bool := decide (t ≥ 0) && decide (t ≤ 256) && skB k && decide (s ≥ 0)
instance K_proper {t k s : Int} {H : AHeap} : PureCon ext prog 23 [.agg [.int .i64 t, .int .i64 k, .int .i64 s]] H 3 (.bool (properB t k s)) := ⟨by
 refine con_of (show prog 23 = some c23 from rfl) rfl rfl fun n hn => ?_
 unfold properB
 cases g1 : decide (t ≥ 0)
 ·skip
  repeat first
   | refine ox ?_
   | refine mB ?_
   | refine fd ?_
   | refine Fo.ld rfl rfl ?_
   | (refine bn rfl rfl rfl (by simp only [g1]; rfl) ?_)
   | refine fB ?_
   | refine bA ?_
   | refine nl hKF ?_
   | refine sq ?_
   | refine rg fun KF hKF => ?_
   | refine rt ?_
   | dsimp only [cond_true, cond_false]
  refine rz trivial ?_
  exact ⟨rfl, Ext0.ext⟩
 cases g2 : decide (t ≤ 256)
 ·skip
  repeat first
   | refine oy ?_
   | refine ox ?_
   | refine mB ?_
   | refine fd ?_
   | refine Fo.ld rfl rfl ?_
   | (refine bn rfl rfl rfl (by simp only [g1, g2]; rfl) ?_)
   | refine tB ?_
   | refine fB ?_
   | refine bA ?_
   | refine nl hKF ?_
   | refine sq ?_
   | refine rg fun KF hKF => ?_
   | refine rt ?_
   | dsimp only [cond_true, cond_false]
  refine rz trivial ?_
  exact ⟨rfl, Ext0.ext⟩
 cases g3 : skB k
 ·skip
  repeat first
   | refine oy ?_
   | refine ox ?_
   | refine mB ?_
   | refine fd ?_
   | refine Fo.ld rfl rfl ?_
   | (refine bn rfl rfl rfl (by simp only [g1, g2, g3]; rfl) ?_)
   | refine tB ?_
   | refine fB ?_
   | (refine Fo.pcall (v' := ?_) hn rfl (by simp only [↓nrmL, nrmZ, Nat.reduceEqDiff, ↓reduceIte, Nat.reduceAdd, Int.reduceBEq, Int.reduceBNe, g1, g2, g3, List.map]; rfl) rfl ?hv fun _ _ => ?_; case hv => (simp only [g1, g2, g3]; rfl))
   | refine bA ?_
   | refine nl hKF ?_
   | refine sq ?_
   | refine rg fun KF hKF => ?_
   | refine rt ?_
   | dsimp only [cond_true, cond_false]
  refine rz trivial ?_
  exact ⟨rfl, Ext0.ext⟩
 cases g4 : decide (s ≥ 0)
 ·skip
  repeat first
   | refine oy ?_
   | refine mB ?_
   | refine fd ?_
   | refine Fo.ld rfl rfl ?_
   | (refine bn rfl rfl rfl (by simp only [g1, g2, g3, g4]; rfl) ?_)
   | refine tB ?_
   | (refine Fo.pcall (v' := ?_) hn rfl (by simp only [↓nrmL, nrmZ, Nat.reduceEqDiff, ↓reduceIte, Nat.reduceAdd, Int.reduceBEq, Int.reduceBNe, g1, g2, g3, g4, List.map]; rfl) rfl ?hv fun _ _ => ?_; case hv => (simp only [g1, g2, g3, g4]; rfl))
   | refine bA ?_
   | refine nl hKF ?_
   | refine sq ?_
   | refine rg fun KF hKF => ?_
   | refine rt ?_
   | dsimp only [cond_true, cond_false]
  refine rz trivial ?_
  exact ⟨rfl, Ext0.ext⟩
 repeat first
  | refine oy ?_
  | refine mB ?_
  | refine fd ?_
  | refine Fo.ld rfl rfl ?_
  | (refine bn rfl rfl rfl (by simp only [g1, g2, g3, g4]; rfl) ?_)
  | refine tB ?_
  | (refine Fo.pcall (v' := ?_) hn rfl (by simp only [↓nrmL, nrmZ, Nat.reduceEqDiff, ↓reduceIte, Nat.reduceAdd, Int.reduceBEq, Int.reduceBNe, g1, g2, g3, g4, List.map]; rfl) rfl ?hv fun _ _ => ?_; case hv => (simp only [g1, g2, g3, g4]; rfl))
  | refine bA ?_
  | refine nl hKF ?_
  | refine sq ?_
  | refine rg fun KF hKF => ?_
  | refine rt ?_
  | dsimp only [cond_true, cond_false]
 refine rz trivial ?_
 exact ⟨rfl, Ext0.ext⟩⟩
end Go.Am
namespace Go.Am
open Go
attribute [local irreducible] Wp WpO WpX WpE
theorem K_step6 {rb rr a b : Nat} {t0 k0 s0 : Int} {pi : AVal} {H : AHeap} {li : List UInt8} {r2 r3 : Bool} {e2 e3 : TypeId} [HasRow H rb [.ptr rr 0] r2 e2] [HasRow H rr [.int .i64 t0, .int .i64 k0, .int .i64 s0] r3 e3] [hpi : BytesI H pi li] [ht : Tabs H] (ok : Ok a b li) : Con ext prog 8 49 [.agg [.int .i64 (a : Int), .int .i64 (b : Int), pi], .ptr rb 0] H fun v H' => ∃ M L, Lab li a b true M L (a * b) ∧ InkRes H H' v (⟨a, b, spk 0 (fun n => !decide ((n : Int) ≥ s0)) li (pxAll M L.length (a * b))⟩, 0) := by
 refine con_of (show prog 49 = some c49 from rfl) rfl rfl fun n hn => ?_
 haveI := hpi.one
 refine sq ?_
 refine rg fun KF hKF => ?_
 refine bA ?_
 refine nw ?_
 refine mI ?_
 refine nl hKF ?_
 refine sq ?_
 refine Fr.dregion0 rfl fun KF hKF => ?_
 repeat first
  | (refine Er rfl (exec_ld rfl rfl) rfl ?_)
  | (refine Er rfl (exec_ldN rfl rfl (by simp only [↓nrmL, nrmZ, Nat.reduceEqDiff, ↓reduceIte, Nat.reduceAdd, Int.reduceBEq, Int.reduceBNe]; rfl)) rfl ?_)
  | (refine Fe.pure rfl rfl (by simp only [↓nrmL, nrmZ, Nat.reduceEqDiff, ↓reduceIte, Nat.reduceAdd, Int.reduceBEq, Int.reduceBNe]; rfl) ?_)
  | refine Fe.pure rfl rfl rfl ?_
 refine Fe.con rfl hn rfl rfl (by simp only [↓nrmL, nrmZ, Nat.reduceEqDiff, ↓reduceIte, Nat.reduceAdd, Int.reduceBEq, Int.reduceBNe, List.map] <;> rfl) (K_Despeckle (a := a) (b := b) (l := li) (t := s0) ok) fun v H1 h5 => ?_
 obtain ⟨M, L, hL, v, e1, q, e2, hq, hf, hw, hx⟩ := h5
 subst e1 e2
 haveI : ExtI _ H1 := ⟨hx⟩
 haveI := hq.one
 refine ar ?_
 repeat first
  | (refine Fe.pure rfl rfl (by simp only [↓nrmL, nrmZ, Nat.reduceEqDiff, ↓reduceIte, Nat.reduceAdd, Int.reduceBEq, Int.reduceBNe]; rfl) ?_)
  | (refine Ee rfl (xs rfl (by (try simp only [↓nrmL, nrmZ, Nat.reduceEqDiff, ↓reduceIte, Nat.reduceAdd, Int.reduceBEq, Int.reduceBNe]); rfl) rfl rfl rfl (by (try simp only [↓nrmL, nrmZ, Nat.reduceEqDiff, ↓reduceIte, Nat.reduceAdd, Int.reduceBEq, Int.reduceBNe]); rfl)) ?_)
  | refine WpE.nil (hKF _ _ ?_)
 refine rt ?_
 dsimp only [cond_true, cond_false]
 refine rz trivial ?_
 exact ⟨M, L, hL, _, rfl, q, rfl, (show BytesI _ q (spk 0 (fun n => !decide ((n : Int) ≥ s0)) li (pxAll M L.length (a * b))) from inferInstance), hf.weak, inferInstance, Ext0.ext⟩
def stepCs (gb rb : Nat) : List AVal := [.func (.func 42) [] [.ptr gb 0, .ptr rb 0], .func (.func 43) [] [.ptr gb 0, .ptr rb 0], .func (.func 45) [] [.ptr rb 0], .func (.func 46) [] [.ptr rb 0], .func (.func 48) [] [.ptr rb 0], .func (.func 49) [] [.ptr rb 0]]
theorem K_steps {rr : Nat} {w h : Int} {p : AVal} {H : AHeap} {l : List UInt8} [hp : BytesI H p l] : Con ext prog 1 24 [.agg [.int .i64 w, .int .i64 h, p], .ptr rr 0] H fun v H' => ∃ e1 e2 e3, v = .slice ((H.push (.row [.int .i64 w, .int .i64 h, p] true e1)).push (.row [.ptr rr 0] true e2)).n 0 3 (some 3) 2 ∧ H' = ((H.push (.row [.int .i64 w, .int .i64 h, p] true e1)).push (.row [.ptr rr 0] true e2)).push (.row (stepCs H.n (H.push (.row [.int .i64 w, .int .i64 h, p] true e1)).n) true e3) := by
 refine con_of (show prog 24 = some c24 from rfl) rfl rfl fun n hn => ?_
 haveI := hp.one
 repeat first
  | refine mN ?_
  | (refine mv ?_)
  | refine bA ?_
  | refine Fo.box1 (rfl : _ = AVal.ptr _ _) ?_
  | (refine Fo.bslice rfl (by simp only [↓nrmL, nrmZ, Nat.reduceEqDiff, ↓reduceIte, Nat.reduceAdd, Int.reduceBEq, Int.reduceBNe]; rfl) ?_)
  | (refine Fo.now rfl rfl (by simp only [↓nrmL, nrmZ, Nat.reduceEqDiff, ↓reduceIte, Nat.reduceAdd, Int.reduceBEq, Int.reduceBNe]; rfl) ?_)
  | refine Fo.now rfl rfl rfl ?_
  | refine nl hKF ?_
  | refine sq ?_
  | refine rg fun KF hKF => ?_
  | refine rt ?_
  | dsimp only [cond_true, cond_false]
 refine rz trivial ?_
 exact ⟨_, _, _, rfl, rfl⟩
end Go.Am
namespace Go.Am
open Go
section
variable {ext : Exts} {prog : FuncId → Option RFunc} {fr : AFrame} {H : AHeap} {K : AVal → AHeap → Prop}
theorem WpX.conC {n d D : Nat} {f : FuncId} {o : ROpd} {l : List ROpd} {args caps : List AVal} {Q : AVal → AHeap → Prop} (hn : fuel0 + D ≤ n) (hd : Nat.ble d D = true) (hf : o.ev fr = .func (.func f) [] caps) (hl : l.map (·.ev fr) ++ caps = args) (hc : Con ext prog d f args H Q)
    (h : ∀ v H', Q v H' → K v H') : WpX (.call o l) (callN ext prog n) fr H K := by
  obtain ⟨v, H', h1, h2⟩ := hc n (Nat.le_trans (Nat.add_le_add_left (Nat.le_of_ble_eq_true hd) _) hn)
  exact ⟨v, H', by simp only [ROp.exec, hf, aCallV, List.nil_append, hl]; exact h1, h _ _ h2⟩
end
end Go.Am
namespace Go.Am
open Go
attribute [local irreducible] Wp WpO WpX WpE
end Go.Am
namespace Go.Am
open Go
attribute [local irreducible] Wp WpO WpX WpE
theorem thr_ok {a b : Nat} {t : Int} {l : List UInt8} (hs : sizedB a b l.length = true) (h1 : ¬ t < 0) (h2 : ¬ t > 256) : ∃ T, thrSpec ⟨a, b, l⟩ t = (⟨a, b, T⟩, 0) ∧ Ok a b T := by
 obtain ⟨a', b', e1, e2, h3, h4, h5⟩ := sized_nat hs
 refine ⟨_, thrSpec_ok hs h1 h2, ⟨by omega, by omega, ?_, ?_⟩⟩
 ·rw [List.length_map, h5, show a' = a by omega, show b' = b by omega]
 ·unfold pxOk
  rw [List.all_map, List.all_eq_true]
  intro x _
  simp only [Function.comp, thrB]
  split <;> rfl
def ApR (H H' : AHeap) (v : AVal) (a b : Nat) (l : List UInt8) (t k s : Int) : Prop :=
 ∃ T, thrSpec ⟨a, b, l⟩ t = (⟨a, b, T⟩, 0) ∧ Ok a b T ∧ ((¬ grN a k a ≤ b ∧ InkRes H H' v (.zero, 2)) ∨
  ∃ c U M L, b = c + grN a k a ∧ unskewS ⟨a, b, T⟩ k = (⟨a, c, U⟩, 0) ∧ Ok a c U ∧ Lab U a c true M L (a * c) ∧ InkRes H H' v (⟨a, c, spk 0 (fun n => !decide ((n : Int) ≥ s)) U (pxAll M L.length (a * c))⟩, 0))
theorem K_Apply {a b : Nat} {t0 k0 s0 : Int} {p : AVal} {H : AHeap} {l : List UInt8} [hp : BytesI H p l] [ht : Tabs H] (hs : sizedB a b l.length = true) (hpr : properB t0 k0 s0 = true) : Con ext prog 10 7 [.agg [.int .i64 a, .int .i64 b, p], .agg [.int .i64 t0, .int .i64 k0, .int .i64 s0]] H fun v H' => ApR H H' v a b l t0 k0 s0 := by
 refine con_of (show prog 7 = some c7 from rfl) rfl rfl fun n hn => ?_
 haveI := hp.one
 have hse : sizeErr true = 0 := rfl
 have v0 : IntKind.i64.wrap (0 + 1) = 1 := rfl
 have v1 : IntKind.i64.wrap (1 + 1) = 2 := rfl
 have v2 : IntKind.i64.wrap (2 + 1) = 3 := rfl
 have hpb : ((t0 ≥ 0 ∧ t0 ≤ 256) ∧ skB k0 = true) ∧ s0 ≥ 0 := by simpa [properB] using hpr
 have hsk := hpb.1.2
 obtain ⟨T, hT, okT⟩ := thr_ok (t := t0) hs (by omega) (by omega)
 repeat first
  | refine mI ?_
  | (refine Fo.ldN rfl rfl (by simp only [↓nrmL, nrmZ, Nat.reduceEqDiff, ↓reduceIte, Nat.reduceAdd, Int.reduceBEq, Int.reduceBNe, hs, hse, hpr]; rfl) ?_)
  | (refine bn rfl rfl rfl (by simp only [↓nrmL, nrmZ, Nat.reduceEqDiff, ↓reduceIte, Nat.reduceAdd, Int.reduceBEq, Int.reduceBNe, hs, hse, hpr]; rfl) ?_)
  | (refine Fo.pcall (v' := ?_) hn rfl (by simp only [↓nrmL, nrmZ, Nat.reduceEqDiff, ↓reduceIte, Nat.reduceAdd, Int.reduceBEq, Int.reduceBNe, hs, hse, hpr, List.map]; rfl) rfl ?hv fun _ _ => ?_; case hv => (simp only [hs, hse, hpr]; rfl))
  | refine bA ?_
  | refine nw ?_
  | (refine Fo.now rfl rfl (by simp only [↓nrmL, nrmZ, Nat.reduceEqDiff, ↓reduceIte, Nat.reduceAdd, Int.reduceBEq, Int.reduceBNe, hs, hse, hpr]; rfl) ?_)
  | refine nl hKF ?_
  | refine sq ?_
  | refine rg fun KF hKF => ?_
  | refine cf rfl ?_
  | refine sk ?_
 refine WpO.do (WpX.conD hn rfl rfl (by simp only [↓nrmL, nrmZ, Nat.reduceEqDiff, ↓reduceIte, Nat.reduceAdd, Int.reduceBEq, Int.reduceBNe, List.map] <;> rfl) (K_steps (w := a) (h := b) (l := l)) fun v H1 h5 => ?_)
 obtain ⟨e1, e2, e3, rfl, rfl⟩ := h5
 simp only [stepCs]
 refine Fo.now rfl rfl rfl ?_
 refine mI ?_
 refine nl hKF ?_
 refine Wp.block ?_
 dsimp only [cond_true, cond_false]
 refine Wp.rounds (WpN.round (by unfold fuel0 at hn; omega) ?_)
 repeat first
  | refine mI ?_
  | refine fd ?_
  | refine Fo.ld rfl rfl ?_
  | (refine Fo.ldN rfl rfl (by simp only [↓nrmL, nrmZ, Nat.reduceEqDiff, ↓reduceIte, Nat.reduceAdd, Int.reduceBEq, Int.reduceBNe]; rfl) ?_)
  | refine Fo.ldN rfl rfl rfl ?_
  | refine b0 ?_
  | refine nw ?_
  | (refine Fo.now rfl rfl (by simp only [↓nrmL, nrmZ, Nat.reduceEqDiff, ↓reduceIte, Nat.reduceAdd, Int.reduceBEq, Int.reduceBNe]; rfl) ?_)
  | (refine so rfl (rfl : _ = AVal.agg _) rfl rfl rfl (by simp only [↓nrmL, nrmZ, Nat.reduceEqDiff, ↓reduceIte, Nat.reduceAdd, Int.reduceBEq, Int.reduceBNe]; rfl) ?_)
  | refine nl hKF ?_
  | refine sq ?_
  | refine rg fun KF hKF => ?_
  | refine ct rfl ?_
  | refine sk ?_
  | refine Wp.block ?_
 refine WpO.do (WpX.conC hn rfl rfl (by simp only [↓nrmL, nrmZ, Nat.reduceEqDiff, ↓reduceIte, Nat.reduceAdd, Int.reduceBEq, Int.reduceBNe, List.map] <;> rfl) (K_step2 (w := a) (h := b) (l := l) (t0 := t0) (k0 := k0) (s0 := s0) (wi := 0) (hi := 0) (li := [])) fun v H1 h5 => ?_)
 rw [hT] at h5
 obtain ⟨v, e1, q, e2, hq, hf, hw, hx⟩ := h5
 subst e1 e2
 try dsimp only at hq
 haveI : ExtI _ H1 := ⟨hx⟩
 haveI := hq.one
 repeat first
  | refine mI ?_
  | refine mT ?_
  | (refine bn rfl rfl rfl (by simp only [↓nrmL, nrmZ, Nat.reduceEqDiff, ↓reduceIte, Nat.reduceAdd, Int.reduceBEq, Int.reduceBNe]; rfl) ?_)
  | refine b0 ?_
  | refine xt ?_
  | (refine so rfl (rfl : _ = AVal.agg _) rfl rfl rfl (by simp only [↓nrmL, nrmZ, Nat.reduceEqDiff, ↓reduceIte, Nat.reduceAdd, Int.reduceBEq, Int.reduceBNe]; rfl) ?_)
  | refine nl hKF ?_
  | refine sq ?_
  | refine rg fun KF hKF => ?_
  | refine cf rfl ?_
  | refine sk ?_
  | dsimp only [cond_true, cond_false]
 refine WpN.round (by unfold fuel0 at hn; omega) ?_
 simp only [v0]
 repeat first
  | refine mI ?_
  | refine fd ?_
  | refine Fo.ld rfl rfl ?_
  | (refine Fo.ldN rfl rfl (by simp only [↓nrmL, nrmZ, Nat.reduceEqDiff, ↓reduceIte, Nat.reduceAdd, Int.reduceBEq, Int.reduceBNe, v0]; rfl) ?_)
  | refine Fo.ldN rfl rfl rfl ?_
  | refine b0 ?_
  | refine nw ?_
  | (refine Fo.now rfl rfl (by simp only [↓nrmL, nrmZ, Nat.reduceEqDiff, ↓reduceIte, Nat.reduceAdd, Int.reduceBEq, Int.reduceBNe, v0]; rfl) ?_)
  | (refine so rfl (rfl : _ = AVal.agg _) rfl rfl rfl (by simp only [↓nrmL, nrmZ, Nat.reduceEqDiff, ↓reduceIte, Nat.reduceAdd, Int.reduceBEq, Int.reduceBNe, v0]; rfl) ?_)
  | refine nl hKF ?_
  | refine sq ?_
  | refine rg fun KF hKF => ?_
  | refine ct rfl ?_
  | refine sk ?_
  | refine Wp.block ?_
 refine WpO.do (WpX.conC hn rfl rfl (by simp only [↓nrmL, nrmZ, Nat.reduceEqDiff, ↓reduceIte, Nat.reduceAdd, Int.reduceBEq, Int.reduceBNe, List.map] <;> rfl) (K_step4 (t0 := t0) (k0 := k0) (s0 := s0) (wi := a) (hi := b) (li := T)) fun v H2 h5 => ?_)
 by_cases hg : grN a k0 a ≤ b
 rotate_left
 ·rw [(un_no okT hsk hg).1] at h5
  obtain ⟨v, e1, q2, e2, hq2, hf2, hw2, hx2⟩ := h5
  subst e1 e2
  try dsimp only [Img.zero] at hq2
  haveI : ExtI _ H2 := ⟨hx2⟩
  haveI := hq2.one
  repeat first
   | refine mI ?_
   | refine mT ?_
   | (refine bn rfl rfl rfl (by simp only [↓nrmL, nrmZ, Nat.reduceEqDiff, ↓reduceIte, Nat.reduceAdd, Int.reduceBEq, Int.reduceBNe]; rfl) ?_)
   | refine xt ?_
   | refine Fo.now rfl rfl rfl ?_
   | (refine so rfl (rfl : _ = AVal.agg _) rfl rfl rfl (by simp only [↓nrmL, nrmZ, Nat.reduceEqDiff, ↓reduceIte, Nat.reduceAdd, Int.reduceBEq, Int.reduceBNe]; rfl) ?_)
   | refine nl hKF ?_
   | refine sq ?_
   | refine rg fun KF hKF => ?_
   | refine ct rfl ?_
   | refine rt ?_
   | dsimp only [cond_true, cond_false]
  refine rz trivial ?_
  exact ⟨T, hT, okT, Or.inl ⟨hg, _, rfl, newZero⟩⟩
 obtain ⟨c, hc⟩ : ∃ c, b = c + grN a k0 a := ⟨b - grN a k0 a, by omega⟩
 obtain ⟨u1, u2, u3⟩ := un_ok okT hsk hc
 obtain ⟨U, hU⟩ : ∃ U, unskewL T a c k0 = U := ⟨_, rfl⟩
 rw [hU] at u1 u2
 rw [u1] at h5
 obtain ⟨v, e1, q2, e2, hq2, hf2, hw2, hx2⟩ := h5
 subst e1 e2
 try dsimp only at hq2
 haveI : ExtI _ H2 := ⟨hx2⟩
 haveI := hq2.one
 repeat first
  | refine mI ?_
  | refine mT ?_
  | (refine bn rfl rfl rfl (by simp only [↓nrmL, nrmZ, Nat.reduceEqDiff, ↓reduceIte, Nat.reduceAdd, Int.reduceBEq, Int.reduceBNe]; rfl) ?_)
  | refine b0 ?_
  | refine xt ?_
  | (refine so rfl (rfl : _ = AVal.agg _) rfl rfl rfl (by simp only [↓nrmL, nrmZ, Nat.reduceEqDiff, ↓reduceIte, Nat.reduceAdd, Int.reduceBEq, Int.reduceBNe]; rfl) ?_)
  | refine nl hKF ?_
  | refine sq ?_
  | refine rg fun KF hKF => ?_
  | refine cf rfl ?_
  | refine sk ?_
  | dsimp only [cond_true, cond_false]
 refine WpN.round (by unfold fuel0 at hn; omega) ?_
 simp only [v1]
 repeat first
  | refine mI ?_
  | refine fd ?_
  | refine Fo.ld rfl rfl ?_
  | (refine Fo.ldN rfl rfl (by simp only [↓nrmL, nrmZ, Nat.reduceEqDiff, ↓reduceIte, Nat.reduceAdd, Int.reduceBEq, Int.reduceBNe, v1]; rfl) ?_)
  | refine Fo.ldN rfl rfl rfl ?_
  | refine b0 ?_
  | refine nw ?_
  | (refine Fo.now rfl rfl (by simp only [↓nrmL, nrmZ, Nat.reduceEqDiff, ↓reduceIte, Nat.reduceAdd, Int.reduceBEq, Int.reduceBNe, v1]; rfl) ?_)
  | (refine so rfl (rfl : _ = AVal.agg _) rfl rfl rfl (by simp only [↓nrmL, nrmZ, Nat.reduceEqDiff, ↓reduceIte, Nat.reduceAdd, Int.reduceBEq, Int.reduceBNe, v1]; rfl) ?_)
  | refine nl hKF ?_
  | refine sq ?_
  | refine rg fun KF hKF => ?_
  | refine ct rfl ?_
  | refine sk ?_
  | refine Wp.block ?_
 refine WpO.do (WpX.conC hn rfl rfl (by simp only [↓nrmL, nrmZ, Nat.reduceEqDiff, ↓reduceIte, Nat.reduceAdd, Int.reduceBEq, Int.reduceBNe, List.map] <;> rfl) (K_step6 (t0 := t0) (k0 := k0) (s0 := s0) (a := a) (b := c) (li := U) u2) fun v H3 h5 => ?_)
 obtain ⟨M, L, hL, v, e1, q3, e2, hq3, hf3, hw3, hx3⟩ := h5
 subst e1 e2
 try dsimp only at hq3
 haveI : ExtI _ H3 := ⟨hx3⟩
 haveI := hq3.one
 repeat first
  | refine mI ?_
  | refine mT ?_
  | (refine bn rfl rfl rfl (by simp only [↓nrmL, nrmZ, Nat.reduceEqDiff, ↓reduceIte, Nat.reduceAdd, Int.reduceBEq, Int.reduceBNe]; rfl) ?_)
  | refine b0 ?_
  | refine xt ?_
  | (refine so rfl (rfl : _ = AVal.agg _) rfl rfl rfl (by simp only [↓nrmL, nrmZ, Nat.reduceEqDiff, ↓reduceIte, Nat.reduceAdd, Int.reduceBEq, Int.reduceBNe]; rfl) ?_)
  | refine nl hKF ?_
  | refine sq ?_
  | refine rg fun KF hKF => ?_
  | refine cf rfl ?_
  | refine sk ?_
  | dsimp only [cond_true, cond_false]
 refine WpN.round (by unfold fuel0 at hn; omega) ?_
 simp only [v2]
 repeat first
  | refine mI ?_
  | (refine Fo.ldN rfl rfl (by simp only [↓nrmL, nrmZ, Nat.reduceEqDiff, ↓reduceIte, Nat.reduceAdd, Int.reduceBEq, Int.reduceBNe, v2]; rfl) ?_)
  | refine b0 ?_
  | (refine so rfl (rfl : _ = AVal.agg _) rfl rfl rfl (by simp only [↓nrmL, nrmZ, Nat.reduceEqDiff, ↓reduceIte, Nat.reduceAdd, Int.reduceBEq, Int.reduceBNe, v2]; rfl) ?_)
  | refine nl hKF ?_
  | refine sq ?_
  | refine rg fun KF hKF => ?_
  | refine cf rfl ?_
  | refine rt ?_
  | refine xi ?_
  | dsimp only [cond_true, cond_false]
 refine rz trivial ?_
 exact ⟨T, hT, okT, Or.inr ⟨c, U, M, L, hc, u1, u2, hL, _, rfl, q3, rfl, (show BytesI _ q3 (spk 0 (fun n => !decide ((n : Int) ≥ s0)) U (pxAll M L.length (a * c))) from inferInstance), hf3.weak, inferInstance, Ext0.ext⟩⟩
end Go.Am
namespace Go.Am
open Go
theorem dropN_pos (w x m : Nat) : dropN w (m : Int) x = x * m / 64 := by
  unfold dropN dropZ
  rw [decide_eq_false (by omega), cond_false, show (x : Int) * (m : Int) = ((x * m : Nat) : Int) by push_cast; rfl]
  rw [show (((x * m : Nat) : Int)).tdiv 64 = (((x * m) / 64 : Nat) : Int) from rfl, Int.toNat_natCast]
theorem dropN_neg {w x m : Nat} (hx : x < w) (hm : 0 < m) : dropN w (-(m : Int)) x = (w - 1 - x) * m / 64 := by
  unfold dropN dropZ
  rw [decide_eq_true (by omega), cond_true, Int.neg_neg, show (w : Int) - 1 - x = ((w - 1 - x : Nat) : Int) by omega]
  rw [show ((w - 1 - x : Nat) : Int) * (m : Int) = (((w - 1 - x) * m : Nat) : Int) by push_cast; rfl]
  rw [show ((((w - 1 - x) * m : Nat) : Int)).tdiv 64 = ((((w - 1 - x) * m) / 64 : Nat) : Int) from rfl, Int.toNat_natCast]
theorem drop_zero (w x : Nat) : dropN w 0 x = 0 := by
  have := dropN_pos w x 0
  simpa using this
theorem skew_get {l : List UInt8} {a b : Nat} {k : Int} {x y : Nat} (hx : x < a) (hy : y < b) : (skewL l a b k).getD ((y + dropN a k x) * a + x) 0 = l.getD (y * a + x) 0 := by
  have hg := gr_ge (w := a) (k := k) a x hx
  have hj := idx_lt hx (show y + dropN a k x < b + grN a k a by omega)
  unfold skewL fillP
  rw [getD_mapA hj, if_pos, sk_at hx]
  unfold skP
  rw [(row_at hx).1, (row_at hx).2]
  exact decide_eq_true (by omega)
theorem un_skew {l : List UInt8} {a b : Nat} {k : Int} (hl : l.length = a * b) : unskewL (skewL l a b k) a b k = l := by
  refine list_eqA 0 (by simp [unskewL, hl]) fun t ht => ?_
  have ht' : t < a * b := by simpa [unskewL] using ht
  have ha : 0 < a := Nat.pos_of_ne_zero (by rintro rfl; simp at ht')
  have hx := Nat.mod_lt t ha
  have hy : t / a < b := div_lt' ht'
  unfold unskewL
  rw [getD_mapA ht']
  unfold unF
  rw [skew_get hx hy, ← row_mod]
theorem skewL_ok {l : List UInt8} {a b : Nat} {k : Int} (ok : Ok a b l) (hg : b + grN a k a ≤ 640) : Ok a (b + grN a k a) (skewL l a b k) :=
  ⟨ok.wa, hg, by simp [skewL, fillP_length], by
    unfold skewL fillP
    exact ok_map_range fun j => by
      by_cases h : skP a k b 0 j = true
      · rw [if_pos h]; exact getD01 ok.px _
      · rw [if_neg h]; exact Or.inl rfl⟩
theorem skew_is {a b : Nat} {k : Int} {l : List UInt8} (ok : Ok a b l) (hk : skB k = true) (hg : b + grN a k a ≤ 640) : skewS ⟨a, b, l⟩ k = (⟨a, ((b + grN a k a : Nat) : Int), skewL l a b k⟩, 0) := by
  simp only [skewS, ckS_ok ok hk, beq_self_eq_true, cond_true, Int.toNat_natCast]
  rw [decide_eq_true (by omega), cond_true]
  congr 2
theorem unskew_is {a b : Nat} {k : Int} {l : List UInt8} (ok : Ok a b l) (hk : skB k = true) (hg : b + grN a k a ≤ 640) : unskewS ⟨a, ((b + grN a k a : Nat) : Int), skewL l a b k⟩ k = (⟨a, b, l⟩, 0) := by
  rw [(un_ok (c := b) (skewL_ok ok hg) hk rfl).1, un_skew ok.len]
theorem fs_best (f : Int → Int × Int) (h0 : ∀ k, 0 ≤ (f k).1) : ∀ L : List Int, ((∀ k ∈ L, ((f k).2 == 0) = false) ∧ fsA f L = (0, -1)) ∨
    ∃ L1 b L2, L = L1 ++ b :: L2 ∧ ((f b).2 == 0) = true ∧ fsA f L = (b, (f b).1) ∧ (∀ k ∈ L1, ((f k).2 == 0) = true → (f k).1 < (f b).1) ∧ (∀ k ∈ L2, ((f k).2 == 0) = true → (f k).1 ≤ (f b).1) := by
  intro L
  obtain ⟨n, hn⟩ : ∃ n, L.length = n := ⟨_, rfl⟩
  induction n generalizing L with
  | zero =>
    have : L = [] := List.length_eq_zero_iff.1 hn
    subst this
    exact Or.inl ⟨by simp, rfl⟩
  | succ n ih =>
    obtain ⟨L', k, rfl⟩ : ∃ L' k, L = L' ++ [k] := by
      rcases List.eq_nil_or_concat L with h | ⟨L', k, h⟩
      · subst h; simp at hn
      · exact ⟨L', k, by rw [h, List.concat_eq_append]⟩
    have hl : L'.length = n := by simp at hn; exact hn
    rw [fsA_snoc]
    unfold fsStep
    cases hk : ((f k).2 == 0)
    · rw [cond_false]
      rcases ih L' hl with ⟨h1, h2⟩ | ⟨L1, b, L2, h1, h2, h3, h4, h5⟩
      · refine Or.inl ⟨fun j hj => ?_, h2⟩
        rcases List.mem_append.1 hj with q | q
        · exact h1 j q
        · rw [List.mem_singleton.1 q]; exact hk
      · refine Or.inr ⟨L1, b, L2 ++ [k], by rw [h1]; simp, h2, h3, h4, fun j hj hj2 => ?_⟩
        rcases List.mem_append.1 hj with q | q
        · exact h5 j q hj2
        · rw [List.mem_singleton.1 q, hk] at hj2; cases hj2
    · rw [cond_true]
      rcases ih L' hl with ⟨h1, h2⟩ | ⟨L1, b, L2, h1, h2, h3, h4, h5⟩
      · rw [h2, decide_eq_true (by have := h0 k; show (f k).1 > -1; omega), cond_true]
        exact Or.inr ⟨L', k, [], rfl, hk, rfl, fun j hj hj2 => (by rw [h1 j hj] at hj2; cases hj2), fun j hj => (by cases hj)⟩
      · rw [h3]
        cases hg : decide ((f k).1 > (f b).1)
        · have hg' := of_decide_eq_false hg
          rw [cond_false]
          refine Or.inr ⟨L1, b, L2 ++ [k], by rw [h1]; simp, h2, rfl, h4, fun j hj hj2 => ?_⟩
          rcases List.mem_append.1 hj with q | q
          · exact h5 j q hj2
          · rw [List.mem_singleton.1 q]; omega
        · have hg' := of_decide_eq_true hg
          rw [cond_true]
          refine Or.inr ⟨L', k, [], rfl, hk, rfl, fun j hj hj2 => ?_, fun j hj => (by cases hj)⟩
          rw [h1] at hj
          rcases List.mem_append.1 hj with q | q
          · have := h4 j q hj2; omega
          · rcases List.mem_cons.1 q with q | q
            · rw [q]; exact hg'
            · have := h5 j q hj2; omega
def absZ (k : Int) : Int := if -k > k then -k else k
theorem before_all : ∀ i < 7, ∀ j < 7, (absZ (skAll.getD j 0) < absZ (skAll.getD i 0) ∨ (absZ (skAll.getD j 0) = absZ (skAll.getD i 0) ∧ skAll.getD j 0 > skAll.getD i 0)) → j < i := by decide
theorem skAll_mem {k : Int} (h : -3 ≤ k ∧ k ≤ 3) : ∃ i, i < 7 ∧ skAll.getD i 0 = k := by
  have : k = -3 ∨ k = -2 ∨ k = -1 ∨ k = 0 ∨ k = 1 ∨ k = 2 ∨ k = 3 := by omega
  rcases this with rfl | rfl | rfl | rfl | rfl | rfl | rfl
  · exact ⟨6, by decide, rfl⟩
  · exact ⟨4, by decide, rfl⟩
  · exact ⟨2, by decide, rfl⟩
  · exact ⟨0, by decide, rfl⟩
  · exact ⟨1, by decide, rfl⟩
  · exact ⟨3, by decide, rfl⟩
  · exact ⟨5, by decide, rfl⟩
theorem found_best {f : Int → Int × Int} (h0 : ∀ k, 0 ≤ (f k).1) (hz : ((f 0).2 == 0) = true) : ∃ b, fsA f skAll = (b, (f b).1) ∧ -3 ≤ b ∧ b ≤ 3 ∧ ((f b).2 == 0) = true ∧
    ∀ k, -3 ≤ k ∧ k ≤ 3 → ((f k).2 == 0) = true → (f k).1 ≤ (f b).1 ∧ ((f k).1 = (f b).1 → ¬ absZ k < absZ b ∧ (absZ k = absZ b → ¬ k > b)) := by
  rcases fs_best f h0 skAll with ⟨h1, _⟩ | ⟨L1, b, L2, h1, h2, h3, h4, h5⟩
  · rw [h1 0 (by decide)] at hz; cases hz
  have hlen : L1.length + (L2.length + 1) = 7 := by
    have := congrArg List.length h1
    simp only [List.length_append, List.length_cons] at this
    rw [← this]; rfl
  have hgi : ∀ i, skAll.getD i 0 = (L1 ++ b :: L2).getD i 0 := fun i => by rw [← h1]
  have hbi : skAll.getD L1.length 0 = b := by
    rw [hgi, List.getD_eq_getElem?_getD, List.getElem?_append_right (Nat.le_refl _), Nat.sub_self]; rfl
  have hb : -3 ≤ b ∧ b ≤ 3 := by
    have := skAll_in L1.length (by omega)
    rw [hbi] at this
    exact skB_iff.1 this
  refine ⟨b, h3, hb.1, hb.2, h2, fun k hk hk2 => ?_⟩
  obtain ⟨j, hj, hjk⟩ := skAll_mem hk
  have hlow : j < L1.length → k ∈ L1 := fun q => by
    rw [← hjk, hgi, List.getD_eq_getElem?_getD, List.getElem?_append_left q, List.getElem?_eq_getElem q, Option.getD_some]
    exact List.getElem_mem q
  have hhigh : L1.length < j → k ∈ L2 := fun q => by
    rw [← hjk, hgi, List.getD_eq_getElem?_getD, List.getElem?_append_right (by omega)]
    obtain ⟨z, hz2⟩ : ∃ z, j - L1.length = z + 1 := ⟨j - L1.length - 1, by omega⟩
    rw [hz2, List.getElem?_cons_succ, List.getElem?_eq_getElem (by omega), Option.getD_some]
    exact List.getElem_mem _
  have hle : (f k).1 ≤ (f b).1 := by
    rcases Nat.lt_trichotomy j L1.length with q | q | q
    · exact Int.le_of_lt (h4 k (hlow q) hk2)
    · rw [← hjk, q, hbi]; exact Int.le_refl _
    · exact h5 k (hhigh q) hk2
  refine ⟨hle, fun he => ?_⟩
  have key := before_all L1.length (by omega) j hj
  rw [hjk, hbi] at key
  have hno : ¬ j < L1.length := fun q => by have := h4 k (hlow q) hk2; omega
  exact ⟨fun q => hno (key (Or.inl q)), fun q1 q2 => hno (key (Or.inr ⟨q1, q2⟩))⟩
end Go.Am
namespace Go.Am
open Go
attribute [local irreducible] Wp WpO WpX WpE
theorem gr_zero (w : Nat) : ∀ i, grN w 0 i = 0 := by
 intro i
 induction i with
 | zero => rfl
 | succ i ih => simp [grN, ih, drop_zero]
theorem fw_nonneg (g : Img) (k : Int) : 0 ≤ (fwS g k).1 := by
 unfold fwS
 cases (unskewS g k).2 == 0
 ·exact Int.le_refl 0
 ·simp only [cond_true, fullS]
  cases ((unskewS g k).1.err == 0)
  ·exact Int.le_refl 0
  ·exact Int.natCast_nonneg _
theorem find_un {a b : Nat} {T : List UInt8} (ok : Ok a b T) : ∃ k c U, findS ⟨a, b, T⟩ = (k, 0) ∧ k = (fsA (fwS ⟨a, b, T⟩) skAll).1 ∧ skB k = true ∧ b = c + grN a k a ∧ unskewS ⟨a, b, T⟩ k = (⟨a, c, U⟩, 0) ∧ Ok a c U := by
 have hfs0 : (fwS ⟨a, b, T⟩ 0).2 = 0 := by rw [(un_ok (k := 0) ok rfl (c := b) (by rw [gr_zero]; rfl)).2.2]
 obtain ⟨bs, hb0, hb3, hb4, hbz, _⟩ := found_best (f := fwS ⟨a, b, T⟩) (fw_nonneg _) (by rw [hfs0]; rfl)
 have hbk := skB_iff.2 ⟨hb3, hb4⟩
 have hgb : grN a bs a ≤ b := by
  refine Decidable.byContradiction fun h => ?_
  rw [(un_no ok hbk h).2] at hbz
  cases hbz
 obtain ⟨e, he⟩ : ∃ e, b = e + grN a bs a := ⟨b - grN a bs a, by omega⟩
 obtain ⟨u1, u2, _⟩ := un_ok ok hbk he
 exact ⟨bs, e, _, by simp only [findS, ok.err, beq_self_eq_true, cond_true, hb0], by rw [hb0], hbk, he, u1, u2⟩
theorem K_Clean {a b : Nat} {t : Int} {p : AVal} {H : AHeap} {l : List UInt8} [hp : BytesI H p l] [ht : Tabs H] (hs : sizedB a b l.length = true) (hl : levelS ⟨a, b, l⟩ = (t, 0)) (h0 : 0 ≤ t ∧ t ≤ 256) : Con ext prog 16 9 [.agg [.int .i64 a, .int .i64 b, p]] H fun v H' => ∃ T k c U M L q, thrSpec ⟨a, b, l⟩ t = (⟨a, b, T⟩, 0) ∧ Ok a b T ∧ findS ⟨a, b, T⟩ = (k, 0) ∧ b = c + grN a k a ∧ unskewS ⟨a, b, T⟩ k = (⟨a, c, U⟩, 0) ∧ Ok a c U ∧ Lab U a c true M L (a * c) ∧ v = .tuple [q, .agg [.int .i64 t, .int .i64 k, .int .i64 2], .int .i64 0] ∧ NewInk H H' q ⟨a, c, spk 0 (fun n => !decide ((n : Int) ≥ 2)) U (pxAll M L.length (a * c))⟩ := by
 refine con_of (show prog 9 = some c9 from rfl) rfl rfl fun n hn => ?_
 haveI := hp.one
 have v0 : IntKind.i64.wrap (0 + 1) = 1 := rfl
 have v1 : IntKind.i64.wrap (1 + 1) = 2 := rfl
 have v2 : IntKind.i64.wrap (2 + 1) = 3 := rfl
 obtain ⟨T, hT, okT⟩ := thr_ok (t := t) hs (by omega) (by omega)
 obtain ⟨k, c, U, hf, _, hsk, hc, u1, u2⟩ := find_un okT
 repeat first
  | refine mI ?_
  | (refine Fo.ldN rfl rfl (by simp only [↓nrmL, nrmZ, Nat.reduceEqDiff, ↓reduceIte, Nat.reduceAdd, Int.reduceBEq, Int.reduceBNe]; rfl) ?_)
  | refine bA ?_
  | refine nw ?_
  | refine nl hKF ?_
  | refine sq ?_
  | refine rg fun KF hKF => ?_
 refine WpO.do (WpX.conD hn rfl rfl (by simp only [↓nrmL, nrmZ, Nat.reduceEqDiff, ↓reduceIte, Nat.reduceAdd, Int.reduceBEq, Int.reduceBNe, List.map] <;> rfl) (K_steps (w := a) (h := b) (l := l)) fun v H1 h5 => ?_)
 obtain ⟨e1, e2, e3, rfl, rfl⟩ := h5
 simp only [stepCs]
 refine Fo.now rfl rfl rfl ?_
 refine mI ?_
 refine nl hKF ?_
 refine Wp.block ?_
 dsimp only [cond_true, cond_false]
 refine Wp.rounds (WpN.round (by unfold fuel0 at hn; omega) ?_)
 repeat first
  | refine fd ?_
  | refine Fo.ld rfl rfl ?_
  | (refine Fo.ldN rfl rfl (by simp only [↓nrmL, nrmZ, Nat.reduceEqDiff, ↓reduceIte, Nat.reduceAdd, Int.reduceBEq, Int.reduceBNe]; rfl) ?_)
  | refine Fo.ldN rfl rfl rfl ?_
  | refine b0 ?_
  | refine nw ?_
  | (refine Fo.now rfl rfl (by simp only [↓nrmL, nrmZ, Nat.reduceEqDiff, ↓reduceIte, Nat.reduceAdd, Int.reduceBEq, Int.reduceBNe]; rfl) ?_)
  | (refine so rfl (rfl : _ = AVal.agg _) rfl rfl rfl (by simp only [↓nrmL, nrmZ, Nat.reduceEqDiff, ↓reduceIte, Nat.reduceAdd, Int.reduceBEq, Int.reduceBNe]; rfl) ?_)
  | refine nl hKF ?_
  | refine sq ?_
  | refine rg fun KF hKF => ?_
  | refine ct rfl ?_
  | refine sk ?_
  | refine Wp.block ?_
 refine WpO.do (WpX.conC hn rfl rfl (by simp only [↓nrmL, nrmZ, Nat.reduceEqDiff, ↓reduceIte, Nat.reduceAdd, Int.reduceBEq, Int.reduceBNe, List.map] <;> rfl) (K_step1 (w := a) (h := b) (l := l) (t0 := 0) (k0 := 0) (s0 := 0) (wi := 0) (hi := 0) (li := [])) fun v H1 h5 => ?_)
 obtain ⟨rfl, H2, hx2, rfl⟩ := h5
 haveI : ExtI _ H2 := ⟨hx2⟩
 simp only [hl]
 repeat first
  | refine mI ?_
  | refine fd ?_
  | refine Fo.ld rfl rfl ?_
  | (refine Fo.ldN rfl rfl (by simp only [↓nrmL, nrmZ, Nat.reduceEqDiff, ↓reduceIte, Nat.reduceAdd, Int.reduceBEq, Int.reduceBNe, hl]; rfl) ?_)
  | (refine bn rfl rfl rfl (by simp only [↓nrmL, nrmZ, Nat.reduceEqDiff, ↓reduceIte, Nat.reduceAdd, Int.reduceBEq, Int.reduceBNe, hl]; rfl) ?_)
  | refine nl hKF ?_
  | refine sq ?_
  | refine rg fun KF hKF => ?_
  | refine ct rfl ?_
 refine WpO.do (WpX.conC hn rfl rfl (by simp only [↓nrmL, nrmZ, Nat.reduceEqDiff, ↓reduceIte, Nat.reduceAdd, Int.reduceBEq, Int.reduceBNe, List.map, hl] <;> rfl) (K_step2 (w := a) (h := b) (l := l) (t0 := t) (k0 := 0) (s0 := 0) (wi := 0) (hi := 0) (li := [])) fun v H3 h5 => ?_)
 rw [hT] at h5
 obtain ⟨v, e1, q, e2, hq, hf3, hw, hx⟩ := h5
 subst e1 e2
 try dsimp only at hq
 haveI : ExtI _ H3 := ⟨hx⟩
 haveI := hq.one
 repeat first
  | refine mI ?_
  | refine mT ?_
  | (refine bn rfl rfl rfl (by simp only [↓nrmL, nrmZ, Nat.reduceEqDiff, ↓reduceIte, Nat.reduceAdd, Int.reduceBEq, Int.reduceBNe]; rfl) ?_)
  | refine b0 ?_
  | refine xt ?_
  | (refine so rfl (rfl : _ = AVal.agg _) rfl rfl rfl (by simp only [↓nrmL, nrmZ, Nat.reduceEqDiff, ↓reduceIte, Nat.reduceAdd, Int.reduceBEq, Int.reduceBNe]; rfl) ?_)
  | refine nl hKF ?_
  | refine sq ?_
  | refine rg fun KF hKF => ?_
  | refine cf rfl ?_
  | refine sk ?_
  | dsimp only [cond_true, cond_false]
 refine WpN.round (by unfold fuel0 at hn; omega) ?_
 simp only [v0]
 repeat first
  | refine fd ?_
  | refine Fo.ld rfl rfl ?_
  | (refine Fo.ldN rfl rfl (by simp only [↓nrmL, nrmZ, Nat.reduceEqDiff, ↓reduceIte, Nat.reduceAdd, Int.reduceBEq, Int.reduceBNe, v0]; rfl) ?_)
  | refine Fo.ldN rfl rfl rfl ?_
  | refine b0 ?_
  | refine nw ?_
  | (refine Fo.now rfl rfl (by simp only [↓nrmL, nrmZ, Nat.reduceEqDiff, ↓reduceIte, Nat.reduceAdd, Int.reduceBEq, Int.reduceBNe, v0]; rfl) ?_)
  | (refine so rfl (rfl : _ = AVal.agg _) rfl rfl rfl (by simp only [↓nrmL, nrmZ, Nat.reduceEqDiff, ↓reduceIte, Nat.reduceAdd, Int.reduceBEq, Int.reduceBNe, v0]; rfl) ?_)
  | refine nl hKF ?_
  | refine sq ?_
  | refine rg fun KF hKF => ?_
  | refine ct rfl ?_
  | refine sk ?_
  | refine Wp.block ?_
 refine WpO.do (WpX.conC hn rfl rfl (by simp only [↓nrmL, nrmZ, Nat.reduceEqDiff, ↓reduceIte, Nat.reduceAdd, Int.reduceBEq, Int.reduceBNe, List.map] <;> rfl) (K_step3 (t0 := t) (k0 := 0) (s0 := 0) (wi := a) (hi := b) (li := T)) fun v H4 h5 => ?_)
 rw [hf] at h5
 obtain ⟨rfl, H5, hx5, rfl⟩ := h5
 haveI : ExtI _ H5 := ⟨hx5⟩
 repeat first
  | refine mI ?_
  | refine fd ?_
  | refine Fo.ld rfl rfl ?_
  | (refine Fo.ldN rfl rfl (by simp only [↓nrmL, nrmZ, Nat.reduceEqDiff, ↓reduceIte, Nat.reduceAdd, Int.reduceBEq, Int.reduceBNe]; rfl) ?_)
  | (refine bn rfl rfl rfl (by simp only [↓nrmL, nrmZ, Nat.reduceEqDiff, ↓reduceIte, Nat.reduceAdd, Int.reduceBEq, Int.reduceBNe]; rfl) ?_)
  | refine nl hKF ?_
  | refine sq ?_
  | refine rg fun KF hKF => ?_
  | refine ct rfl ?_
  | dsimp only [cond_true, cond_false]
 refine WpO.do (WpX.conC hn rfl rfl (by simp only [↓nrmL, nrmZ, Nat.reduceEqDiff, ↓reduceIte, Nat.reduceAdd, Int.reduceBEq, Int.reduceBNe, List.map] <;> rfl) (K_step4 (t0 := t) (k0 := k) (s0 := 0) (wi := a) (hi := b) (li := T)) fun v H6 h5 => ?_)
 rw [u1] at h5
 obtain ⟨v, e1, q2, e2, hq2, hf2, hw2, hx6⟩ := h5
 subst e1 e2
 try dsimp only at hq2
 haveI : ExtI _ H6 := ⟨hx6⟩
 haveI := hq2.one
 repeat first
  | refine mI ?_
  | refine mT ?_
  | (refine bn rfl rfl rfl (by simp only [↓nrmL, nrmZ, Nat.reduceEqDiff, ↓reduceIte, Nat.reduceAdd, Int.reduceBEq, Int.reduceBNe]; rfl) ?_)
  | refine b0 ?_
  | refine xt ?_
  | (refine so rfl (rfl : _ = AVal.agg _) rfl rfl rfl (by simp only [↓nrmL, nrmZ, Nat.reduceEqDiff, ↓reduceIte, Nat.reduceAdd, Int.reduceBEq, Int.reduceBNe]; rfl) ?_)
  | refine nl hKF ?_
  | refine sq ?_
  | refine rg fun KF hKF => ?_
  | refine cf rfl ?_
  | refine sk ?_
  | dsimp only [cond_true, cond_false]
 refine WpN.round (by unfold fuel0 at hn; omega) ?_
 simp only [v1]
 repeat first
  | refine fd ?_
  | refine Fo.ld rfl rfl ?_
  | (refine Fo.ldN rfl rfl (by simp only [↓nrmL, nrmZ, Nat.reduceEqDiff, ↓reduceIte, Nat.reduceAdd, Int.reduceBEq, Int.reduceBNe, v1]; rfl) ?_)
  | refine Fo.ldN rfl rfl rfl ?_
  | refine b0 ?_
  | refine nw ?_
  | (refine Fo.now rfl rfl (by simp only [↓nrmL, nrmZ, Nat.reduceEqDiff, ↓reduceIte, Nat.reduceAdd, Int.reduceBEq, Int.reduceBNe, v1]; rfl) ?_)
  | (refine so rfl (rfl : _ = AVal.agg _) rfl rfl rfl (by simp only [↓nrmL, nrmZ, Nat.reduceEqDiff, ↓reduceIte, Nat.reduceAdd, Int.reduceBEq, Int.reduceBNe, v1]; rfl) ?_)
  | refine nl hKF ?_
  | refine sq ?_
  | refine rg fun KF hKF => ?_
  | refine ct rfl ?_
  | refine sk ?_
  | refine Wp.block ?_
 refine WpO.do (WpX.conC hn rfl rfl (by simp only [↓nrmL, nrmZ, Nat.reduceEqDiff, ↓reduceIte, Nat.reduceAdd, Int.reduceBEq, Int.reduceBNe, List.map] <;> rfl) (K_step5 (t0 := t) (k0 := k) (s0 := 0) (vi := .nslice) (wi := a) (hi := c) (li := U)) fun v H7 h5 => ?_)
 obtain ⟨rfl, H8, hx8, rfl⟩ := h5
 haveI : ExtI _ H8 := ⟨hx8⟩
 repeat first
  | refine mI ?_
  | refine fd ?_
  | refine Fo.ld rfl rfl ?_
  | (refine Fo.ldN rfl rfl (by simp only [↓nrmL, nrmZ, Nat.reduceEqDiff, ↓reduceIte, Nat.reduceAdd, Int.reduceBEq, Int.reduceBNe]; rfl) ?_)
  | (refine bn rfl rfl rfl (by simp only [↓nrmL, nrmZ, Nat.reduceEqDiff, ↓reduceIte, Nat.reduceAdd, Int.reduceBEq, Int.reduceBNe]; rfl) ?_)
  | refine nl hKF ?_
  | refine sq ?_
  | refine rg fun KF hKF => ?_
  | refine ct rfl ?_
 refine WpO.do (WpX.conC hn rfl rfl (by simp only [↓nrmL, nrmZ, Nat.reduceEqDiff, ↓reduceIte, Nat.reduceAdd, Int.reduceBEq, Int.reduceBNe, List.map] <;> rfl) (K_step6 (t0 := t) (k0 := k) (s0 := 2) (a := a) (b := c) (li := U) u2) fun v H9 h5 => ?_)
 obtain ⟨M, L, hL, v, e1, q3, e2, hq3, hf4, hw3, hx9⟩ := h5
 subst e1 e2
 try dsimp only at hq3
 haveI : ExtI _ H9 := ⟨hx9⟩
 haveI := hq3.one
 repeat first
  | refine mI ?_
  | refine mT ?_
  | (refine bn rfl rfl rfl (by simp only [↓nrmL, nrmZ, Nat.reduceEqDiff, ↓reduceIte, Nat.reduceAdd, Int.reduceBEq, Int.reduceBNe]; rfl) ?_)
  | refine b0 ?_
  | refine xt ?_
  | (refine so rfl (rfl : _ = AVal.agg _) rfl rfl rfl (by simp only [↓nrmL, nrmZ, Nat.reduceEqDiff, ↓reduceIte, Nat.reduceAdd, Int.reduceBEq, Int.reduceBNe]; rfl) ?_)
  | refine nl hKF ?_
  | refine sq ?_
  | refine rg fun KF hKF => ?_
  | refine cf rfl ?_
  | refine sk ?_
  | dsimp only [cond_true, cond_false]
 refine WpN.round (by unfold fuel0 at hn; omega) ?_
 simp only [v2]
 repeat first
  | refine b0 ?_
  | refine nl hKF ?_
  | refine sq ?_
  | refine rg fun KF hKF => ?_
  | refine cf rfl ?_
  | refine xi ?_
 refine Fr.dregion0 rfl fun KF hKF => ?_
 repeat first
  | (refine Er rfl (exec_ldN rfl rfl (by simp only [↓nrmL, nrmZ, Nat.reduceEqDiff, ↓reduceIte, Nat.reduceAdd, Int.reduceBEq, Int.reduceBNe]; rfl)) rfl ?_)
  | (refine Fe.pure rfl rfl (by simp only [↓nrmL, nrmZ, Nat.reduceEqDiff, ↓reduceIte, Nat.reduceAdd, Int.reduceBEq, Int.reduceBNe]; rfl) ?_)
  | (refine Ee rfl (xs rfl (by (try simp only [↓nrmL, nrmZ, Nat.reduceEqDiff, ↓reduceIte, Nat.reduceAdd, Int.reduceBEq, Int.reduceBNe]); rfl) rfl rfl rfl (by (try simp only [↓nrmL, nrmZ, Nat.reduceEqDiff, ↓reduceIte, Nat.reduceAdd, Int.reduceBEq, Int.reduceBNe]); rfl)) ?_)
  | refine WpE.nil (hKF _ _ ?_)
 refine rt ?_
 dsimp only [cond_true, cond_false]
 refine rz trivial ?_
 exact ⟨T, k, c, U, M, L, _, hT, okT, hf, hc, u1, u2, hL, rfl, q3, rfl, (show BytesI _ q3 (spk 0 (fun n => !decide ((n : Int) ≥ 2)) U (pxAll M L.length (a * c))) from inferInstance), hf4.weak, inferInstance, Ext0.ext⟩
end Go.Am
namespace Go.Am
open Go
theorem drop_cases {w : Nat} {k : Int} (hk : -3 ≤ k ∧ k ≤ 3) : (∃ m : Nat, m ≤ 3 ∧ k = (m : Int) ∧ ∀ x, x < w → dropN w k x = x * m / 64) ∨ (∃ m : Nat, 1 ≤ m ∧ m ≤ 3 ∧ k = -(m : Int) ∧ ∀ x, x < w → dropN w k x = (w - 1 - x) * m / 64) := by
  by_cases h : 0 ≤ k
  · left
    refine ⟨k.toNat, by omega, by omega, fun x _ => ?_⟩
    have := dropN_pos w x k.toNat
    rwa [show ((k.toNat : Nat) : Int) = k by omega] at this
  · right
    refine ⟨(-k).toNat, by omega, by omega, by omega, fun x hx => ?_⟩
    have := dropN_neg (w := w) (x := x) (m := (-k).toNat) hx (by omega)
    rwa [show -(((-k).toNat : Nat) : Int) = k by omega] at this
structure Stp (w : Nat) (k : Int) (x : Nat) (e : Int) : Prop where
  eq : (dropN w k (x + 1) : Int) = dropN w k x + e
  sg : e = 0 ∨ (e = 1 ∧ 0 < k ∧ 21 ≤ x) ∨ (e = -1 ∧ k < 0 ∧ x + 22 < w)
  r : e ≠ 0 → x + 2 < w → dropN w k (x + 2) = dropN w k (x + 1)
  l : e ≠ 0 → 1 ≤ x → dropN w k (x - 1) = dropN w k x
theorem drop_stp {w : Nat} {k : Int} (hk : -3 ≤ k ∧ k ≤ 3) {x : Nat} (hx : x + 1 < w) : ∃ e, Stp w k x e := by
  rcases drop_cases (w := w) hk with ⟨m, hm, rfl, hd⟩ | ⟨m, hm1, hm, rfl, hd⟩
  · have d0 := hd x (by omega)
    have d1 := hd (x + 1) hx
    refine ⟨(dropN w m (x + 1) : Int) - dropN w m x, by omega, ?_, fun he h2 => ?_, fun he h1 => ?_⟩
    · rw [d0, d1]
      rcases (by omega : m = 0 ∨ m = 1 ∨ m = 2 ∨ m = 3) with rfl | rfl | rfl | rfl <;> omega
    · rw [hd (x + 2) h2, d1]
      rw [d0, d1] at he
      rcases (by omega : m = 0 ∨ m = 1 ∨ m = 2 ∨ m = 3) with rfl | rfl | rfl | rfl <;> omega
    · rw [hd (x - 1) (by omega), d0]
      rw [d0, d1] at he
      rcases (by omega : m = 0 ∨ m = 1 ∨ m = 2 ∨ m = 3) with rfl | rfl | rfl | rfl <;> omega
  · have d0 := hd x (by omega)
    have d1 := hd (x + 1) hx
    refine ⟨(dropN w (-(m : Int)) (x + 1) : Int) - dropN w (-(m : Int)) x, by omega, ?_, fun he h2 => ?_, fun he h1 => ?_⟩
    · rw [d0, d1]
      rcases (by omega : m = 1 ∨ m = 2 ∨ m = 3) with rfl | rfl | rfl <;> omega
    · rw [hd (x + 2) h2, d1]
      rw [d0, d1] at he
      rcases (by omega : m = 1 ∨ m = 2 ∨ m = 3) with rfl | rfl | rfl <;> omega
    · rw [hd (x - 1) (by omega), d0]
      rw [d0, d1] at he
      rcases (by omega : m = 1 ∨ m = 2 ∨ m = 3) with rfl | rfl | rfl <;> omega
theorem drop_part {w : Nat} {k k' : Int} (hk : -3 ≤ k ∧ k ≤ 3) (hk' : -3 ≤ k' ∧ k' ≤ 3) (hw : 65 ≤ w) (hne : k ≠ k') : ∃ x, x + 1 < w ∧ (dropN w k' (x + 1) : Int) - dropN w k (x + 1) ≠ (dropN w k' x : Int) - dropN w k x := by
  apply Classical.byContradiction
  intro hno
  have hall : ∀ x, x < w → (dropN w k' x : Int) - dropN w k x = (dropN w k' 0 : Int) - dropN w k 0 := by
    intro x
    induction x with
    | zero => intro _; rfl
    | succ x ih =>
      intro hx
      rw [← ih (by omega)]
      exact Classical.byContradiction fun q => hno ⟨x, hx, q⟩
  have h1 := hall (w - 1) (by omega)
  obtain ⟨z, hz⟩ : ∃ z, w = z + 65 := ⟨w - 65, by omega⟩
  rcases drop_cases (w := w) hk with ⟨m, hm, e1, hd⟩ | ⟨m, hm1, hm, e1, hd⟩ <;> rcases drop_cases (w := w) hk' with ⟨n, hn, e2, hd'⟩ | ⟨n, hn1, hn, e2, hd'⟩ <;>
  · rw [hd (w - 1) (by omega), hd 0 (by omega), hd' (w - 1) (by omega), hd' 0 (by omega)] at h1
    clear hd hd' hall hno
    subst hz
    rcases (by omega : m = 0 ∨ m = 1 ∨ m = 2 ∨ m = 3) with rfl | rfl | rfl | rfl <;> rcases (by omega : n = 0 ∨ n = 1 ∨ n = 2 ∨ n = 3) with rfl | rfl | rfl | rfl <;> first | omega | (exfalso; apply hne; rw [e1, e2]; rfl)
structure Rul (w : Nat) (S : Nat → Int → Prop) (F : Int → Prop) : Prop where
  far : ∀ r r', F r → F r' → r ≠ r' → 3 ≤ r - r' ∨ 3 ≤ r' - r
  one : ∀ x r x' r', x < w → x' < w → S x r → ¬ F r → S x' r' → ((x' : Int) - x ≤ 1 ∧ (x : Int) - x' ≤ 1) → (r' - r ≤ 1 ∧ r - r' ≤ 1) → x' = x ∧ r' = r
theorem rul_none {w : Nat} {S : Nat → Int → Prop} {F : Int → Prop} (h : Rul w S F) {k k' : Int} (hk : -3 ≤ k ∧ k ≤ 3) (hk' : -3 ≤ k' ∧ k' ≤ 3) (hw : 65 ≤ w) (hne : k ≠ k') (y : Int) : ¬ ∀ x, x < w → S x (y + dropN w k' x - dropN w k x) := by
  intro hall
  obtain ⟨x, hx, hD⟩ := drop_part hk hk' hw hne
  obtain ⟨e, s1⟩ := drop_stp hk hx
  obtain ⟨e', s2⟩ := drop_stp hk' hx
  have q1 := s1.eq
  have q2 := s2.eq
  have a0 := hall x (by omega)
  have a1 := hall (x + 1) hx
  obtain ⟨r, hr⟩ : ∃ r : Int, y + dropN w k' x - dropN w k x = r := ⟨_, rfl⟩
  have hr1 : y + dropN w k' (x + 1) - dropN w k (x + 1) = r + (e' - e) := by omega
  rw [hr] at a0
  rw [hr1] at a1
  have hee : e' - e ≠ 0 := by omega
  have g1 := s1.sg
  have g2 := s2.sg
  by_cases hs : e' - e = 1 ∨ e' - e = -1
  · have f0 : F r := Classical.byContradiction fun hn => by
      have := h.one x r (x + 1) (r + (e' - e)) (by omega) hx a0 hn a1 (by omega) (by omega)
      omega
    have f1 : F (r + (e' - e)) := Classical.byContradiction fun hn => by
      have := h.one (x + 1) (r + (e' - e)) x r hx (by omega) a1 hn a0 (by omega) (by omega)
      omega
    have := h.far r (r + (e' - e)) f0 f1 (by omega)
    omega
  · have he : e ≠ 0 := by omega
    have he' : e' ≠ 0 := by omega
    have hx2 : x + 2 < w ∧ 1 ≤ x := by omega
    have b1 := s1.r he hx2.1
    have b2 := s2.r he' hx2.1
    have c1 := s1.l he hx2.2
    have c2 := s2.l he' hx2.2
    have a2 := hall (x + 2) hx2.1
    have a3 := hall (x - 1) (by omega)
    rw [b1, b2, hr1] at a2
    rw [c1, c2, hr] at a3
    have f0 : F r := Classical.byContradiction fun hn => by
      have := h.one x r (x - 1) r (by omega) (by omega) a0 hn a3 (by omega) (by omega)
      omega
    have f1 : F (r + (e' - e)) := Classical.byContradiction fun hn => by
      have := h.one (x + 1) (r + (e' - e)) (x + 2) (r + (e' - e)) hx hx2.1 a1 hn a2 (by omega) (by omega)
      omega
    have := h.far r (r + (e' - e)) f0 f1 (by omega)
    omega
theorem Rul.start {w : Nat} {S : Nat → Int → Prop} {F : Int → Prop} (hf : ∀ r r', F r → F r' → r ≠ r' → 3 ≤ r - r' ∨ 3 ≤ r' - r) (hs : ∀ x r, x < w → S x r → F r) : Rul w S F :=
  ⟨hf, fun x r _ _ hx _ h1 h2 _ _ _ => absurd (hs x r hx h1) h2⟩
theorem Rul.add {w : Nat} {S S' : Nat → Int → Prop} {F : Int → Prop} (h : Rul w S F) {u : Nat} {v : Int} (hfree : ∀ x r, x < w → ((x : Int) - u ≤ 1 ∧ (u : Int) - x ≤ 1) → (r - v ≤ 1 ∧ v - r ≤ 1) → ¬ S x r) (hS : ∀ x r, x < w → (S' x r ↔ S x r ∨ (x = u ∧ r = v))) : Rul w S' F := by
  refine ⟨h.far, fun x r x' r' hx hx' h1 h2 h3 h4 h5 => ?_⟩
  rcases (hS x r hx).1 h1 with a | ⟨a1, a2⟩ <;> rcases (hS x' r' hx').1 h3 with c | ⟨c1, c2⟩
  · exact h.one x r x' r' hx hx' a h2 c h4 h5
  · exact absurd a (hfree x r hx (by omega) (by omega))
  · exact absurd c (hfree x' r' hx' (by omega) (by omega))
  · omega
theorem Rul.full {w : Nat} {S : Nat → Int → Prop} {F : Int → Prop} (h : Rul w S F) (hw : 2 ≤ w) {r : Int} (hr : ∀ x, x < w → S x r) : F r := Classical.byContradiction fun hn => by
  have := h.one 0 r 1 r (by omega) (by omega) (hr 0 (by omega)) hn (hr 1 (by omega)) (by omega) (by omega)
  omega
end Go.Am
