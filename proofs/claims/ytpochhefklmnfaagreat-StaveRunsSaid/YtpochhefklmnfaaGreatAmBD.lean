import Derived.Test.YtpochhefklmnfaaGreatAmBC
import Derived.Test.YtpochhefklmnfaaGreatProg
import Derived.Test.YtpochhefklmnfaaGreatRows
import Derived.WalkKit
import Derived.ProofKit
import Derived.OpenShut
import Derived.Deep.DeepHandedRow
import Derived.Lib.LaidTab
import Derived.SizedLaws
import Derived.Lib.Strings
set_option linter.unusedSimpArgs false
set_option linter.unusedVariables false
set_option maxRecDepth 100000
set_option maxHeartbeats 8000000
set_option synthInstance.maxHeartbeats 4000000
set_option synthInstance.maxSize 1000000000
namespace Go.Am
open Go Go.Proofs
theorem ext_of {P : Program} {e e' : Exts} {f : FuncId} {k : Nat} (h : ExtSim P e f k) (hk : e' k = e k) : ExtSim P e' f k := fun S args H v H' m w vargs hG hx => h S args H v H' m w vargs hG (by rw [← hk]; exact hx)
def OkF (f : FuncId) (rf : RFunc) : Prop := (∃ fn c, Tryz.prog.funcs[f]? = some fn ∧ fn.body = some c ∧ cFunc Tryz.prog fn = some rf) ∨ ∃ name, rf.body = .ext name ∧ ExtSim Tryz.prog ext f name
theorem spT {b : Bool} {x y : Option RFunc} {f : FuncId} {rf : RFunc} (h1 : x = some rf → OkF f rf) (h2 : y = some rf → OkF f rf) (h : cond b x y = some rf) : OkF f rf := by
  cases b
  · exact h2 h
  · exact h1 h
theorem lfT {n : Nat} {f : FuncId} {rf c : RFunc} (k : OkF n c) (h : cond (Nat.beq f n) (some c) none = some rf) : OkF f rf := by
  cases hb : Nat.beq f n with
  | true =>
    rw [hb] at h
    obtain rfl := Nat.eq_of_beq_eq_true hb
    cases h
    exact k
  | false =>
    rw [hb] at h
    cases h
theorem k3 : OkF 3 c3 := .inl ⟨_,_,Tryz.func3,rfl,by kernel_rfl⟩
theorem k4 : OkF 4 c4 := .inl ⟨_,_,Tryz.func4,rfl,by kernel_rfl⟩
theorem k5 : OkF 5 c5 := .inl ⟨_,_,Tryz.func5,rfl,by kernel_rfl⟩
theorem k6 : OkF 6 c6 := .inl ⟨_,_,Tryz.func6,rfl,by kernel_rfl⟩
theorem k7 : OkF 7 c7 := .inl ⟨_,_,Tryz.func7,rfl,by kernel_rfl⟩
theorem k8 : OkF 8 c8 := .inl ⟨_,_,Tryz.func8,rfl,by kernel_rfl⟩
theorem k9 : OkF 9 c9 := .inl ⟨_,_,Tryz.func9,rfl,by kernel_rfl⟩
theorem k10 : OkF 10 c10 := .inl ⟨_,_,Tryz.func10,rfl,by kernel_rfl⟩
theorem k11 : OkF 11 c11 := .inl ⟨_,_,Tryz.func11,rfl,by kernel_rfl⟩
theorem k12 : OkF 12 c12 := .inl ⟨_,_,Tryz.func12,rfl,by kernel_rfl⟩
theorem k13 : OkF 13 c13 := .inl ⟨_,_,Tryz.func13,rfl,by kernel_rfl⟩
theorem k14 : OkF 14 c14 := .inl ⟨_,_,Tryz.func14,rfl,by kernel_rfl⟩
theorem k15 : OkF 15 c15 := .inl ⟨_,_,Tryz.func15,rfl,by kernel_rfl⟩
theorem k16 : OkF 16 c16 := .inl ⟨_,_,Tryz.func16,rfl,by kernel_rfl⟩
theorem k17 : OkF 17 c17 := .inl ⟨_,_,Tryz.func17,rfl,by kernel_rfl⟩
theorem k18 : OkF 18 c18 := .inl ⟨_,_,Tryz.func18,rfl,by kernel_rfl⟩
theorem k19 : OkF 19 c19 := .inl ⟨_,_,Tryz.func19,rfl,by kernel_rfl⟩
theorem k20 : OkF 20 c20 := .inl ⟨_,_,Tryz.func20,rfl,by kernel_rfl⟩
theorem k21 : OkF 21 c21 := .inl ⟨_,_,Tryz.func21,rfl,by kernel_rfl⟩
theorem k22 : OkF 22 c22 := .inl ⟨_,_,Tryz.func22,rfl,by kernel_rfl⟩
theorem k23 : OkF 23 c23 := .inl ⟨_,_,Tryz.func23,rfl,by kernel_rfl⟩
theorem k24 : OkF 24 c24 := .inl ⟨_,_,Tryz.func24,rfl,by kernel_rfl⟩
theorem k25 : OkF 25 c25 := .inl ⟨_,_,Tryz.func25,rfl,by kernel_rfl⟩
theorem k26 : OkF 26 c26 := .inl ⟨_,_,Tryz.func26,rfl,by kernel_rfl⟩
theorem k27 : OkF 27 c27 := .inl ⟨_,_,Tryz.func27,rfl,by kernel_rfl⟩
theorem k28 : OkF 28 c28 := .inl ⟨_,_,Tryz.func28,rfl,by kernel_rfl⟩
theorem k29 : OkF 29 c29 := .inl ⟨_,_,Tryz.func29,rfl,by kernel_rfl⟩
theorem k30 : OkF 30 c30 := .inl ⟨_,_,Tryz.func30,rfl,by kernel_rfl⟩
theorem k31 : OkF 31 c31 := .inl ⟨_,_,Tryz.func31,rfl,by kernel_rfl⟩
theorem k32 : OkF 32 c32 := .inl ⟨_,_,Tryz.func32,rfl,by kernel_rfl⟩
theorem k33 : OkF 33 c33 := .inl ⟨_,_,Tryz.func33,rfl,by kernel_rfl⟩
theorem k34 : OkF 34 c34 := .inl ⟨_,_,Tryz.func34,rfl,by kernel_rfl⟩
theorem k35 : OkF 35 c35 := .inl ⟨_,_,Tryz.func35,rfl,by kernel_rfl⟩
theorem k36 : OkF 36 c36 := .inl ⟨_,_,Tryz.func36,rfl,by kernel_rfl⟩
theorem k37 : OkF 37 c37 := .inl ⟨_,_,Tryz.func37,rfl,by kernel_rfl⟩
theorem k38 : OkF 38 c38 := .inl ⟨_,_,Tryz.func38,rfl,by kernel_rfl⟩
theorem k39 : OkF 39 c39 := .inl ⟨_,_,Tryz.func39,rfl,by kernel_rfl⟩
theorem k40 : OkF 40 c40 := .inl ⟨_,_,Tryz.func40,rfl,by kernel_rfl⟩
theorem k41 : OkF 41 c41 := .inl ⟨_,_,Tryz.func41,rfl,by kernel_rfl⟩
theorem k42 : OkF 42 c42 := .inl ⟨_,_,Tryz.func42,rfl,by kernel_rfl⟩
theorem k43 : OkF 43 c43 := .inl ⟨_,_,Tryz.func43,rfl,by kernel_rfl⟩
theorem k44 : OkF 44 c44 := .inl ⟨_,_,Tryz.func44,rfl,by kernel_rfl⟩
theorem k47 : OkF 47 c47 := .inl ⟨_,_,Tryz.func47,rfl,by kernel_rfl⟩
theorem k48 : OkF 48 c48 := .inl ⟨_,_,Tryz.func48,rfl,by kernel_rfl⟩
theorem k49 : OkF 49 c49 := .inl ⟨_,_,Tryz.func49,rfl,by kernel_rfl⟩
theorem k50 : OkF 50 c50 := .inl ⟨_,_,Tryz.func50,rfl,by kernel_rfl⟩
theorem k51 : OkF 51 c51 := .inl ⟨_,_,Tryz.func51,rfl,by kernel_rfl⟩
theorem k52 : OkF 52 c52 := .inl ⟨_,_,Tryz.func52,rfl,by kernel_rfl⟩
theorem k53 : OkF 53 c53 := .inl ⟨_,_,Tryz.func53,rfl,by kernel_rfl⟩
theorem k54 : OkF 54 c54 := .inl ⟨_,_,Tryz.func54,rfl,by kernel_rfl⟩
theorem k55 : OkF 55 c55 := .inl ⟨_,_,Tryz.func55,rfl,by kernel_rfl⟩
theorem k56 : OkF 56 c56 := .inl ⟨_,_,Tryz.func56,rfl,by kernel_rfl⟩
theorem k57 : OkF 57 c57 := .inl ⟨_,_,Tryz.func57,rfl,by kernel_rfl⟩
theorem k58 : OkF 58 c58 := .inl ⟨_,_,Tryz.func58,rfl,by kernel_rfl⟩
theorem k59 : OkF 59 c59 := .inl ⟨_,_,Tryz.func59,rfl,by kernel_rfl⟩
theorem k60 : OkF 60 c60 := .inl ⟨_,_,Tryz.func60,rfl,by kernel_rfl⟩
theorem k61 : OkF 61 c61 := .inl ⟨_,_,Tryz.func61,rfl,by kernel_rfl⟩
theorem k62 : OkF 62 c62 := .inl ⟨_,_,Tryz.func62,rfl,by kernel_rfl⟩
theorem k63 : OkF 63 c63 := .inl ⟨_,_,Tryz.func63,rfl,by kernel_rfl⟩
theorem k64 : OkF 64 c64 := .inl ⟨_,_,Tryz.func64,rfl,by kernel_rfl⟩
theorem k65 : OkF 65 c65 := .inl ⟨_,_,Tryz.func65,rfl,by kernel_rfl⟩
theorem k66 : OkF 66 c66 := .inl ⟨_,_,Tryz.func66,rfl,by kernel_rfl⟩
theorem k67 : OkF 67 c67 := .inl ⟨_,_,Tryz.func67,rfl,by kernel_rfl⟩
theorem k68 : OkF 68 c68 := .inl ⟨_,_,Tryz.func68,rfl,by kernel_rfl⟩
theorem k69 : OkF 69 c69 := .inl ⟨_,_,Tryz.func69,rfl,by kernel_rfl⟩
theorem k70 : OkF 70 c70 := .inl ⟨_,_,Tryz.func70,rfl,by kernel_rfl⟩
theorem k71 : OkF 71 c71 := .inl ⟨_,_,Tryz.func71,rfl,by kernel_rfl⟩
theorem k72 : OkF 72 c72 := .inl ⟨_,_,Tryz.func72,rfl,by kernel_rfl⟩
theorem k73 : OkF 73 c73 := .inl ⟨_,_,Tryz.func73,rfl,by kernel_rfl⟩
theorem k74 : OkF 74 c74 := .inl ⟨_,_,Tryz.func74,rfl,by kernel_rfl⟩
theorem k75 : OkF 75 c75 := .inl ⟨_,_,Tryz.func75,rfl,by kernel_rfl⟩
theorem k77 : OkF 77 c77 := .inl ⟨_,_,Tryz.func77,rfl,by kernel_rfl⟩
theorem k78 : OkF 78 c78 := .inl ⟨_,_,Tryz.func78,rfl,by kernel_rfl⟩
theorem k79 : OkF 79 c79 := .inl ⟨_,_,Tryz.func79,rfl,by kernel_rfl⟩
theorem k80 : OkF 80 c80 := .inl ⟨_,_,Tryz.func80,rfl,by kernel_rfl⟩
theorem k81 : OkF 81 c81 := .inl ⟨_,_,Tryz.func81,rfl,by kernel_rfl⟩
theorem k83 : OkF 83 ⟨0,.ext 0,[]⟩ := .inr ⟨_,rfl,ext_count rfl Tryz.func83 (by kernel_rfl) (by kernel_rfl) (by kernel_rfl) (by kernel_rfl)⟩
theorem k85 : OkF 85 c85 := .inl ⟨_,_,Tryz.func85,rfl,by kernel_rfl⟩
theorem k86 : OkF 86 c86 := .inl ⟨_,_,Tryz.func86,rfl,by kernel_rfl⟩
theorem k95 : OkF 95 c95 := .inl ⟨_,_,Tryz.func95,rfl,by kernel_rfl⟩
theorem k102 : OkF 102 c102 := .inl ⟨_,_,Tryz.func102,rfl,by kernel_rfl⟩
theorem k108 : OkF 108 ⟨0,.ext 1,[]⟩ := .inr ⟨_,rfl,ext_indexByte rfl Tryz.func108 (by kernel_rfl) (by kernel_rfl) (by kernel_rfl) (by kernel_rfl)⟩
theorem progOk0 : ProgOk Tryz.prog ext prog0 := ⟨rfl, by decide +kernel, fun f rf => show prog0 f = some rf → OkF f rf from (spT (spT (spT (spT (spT (lfT k5) (lfT k18)) (spT (lfT k19) (lfT k20))) (spT (spT (lfT k21) (lfT k22)) (spT (lfT k23) (lfT k39)))) (spT (spT (spT (lfT k40) (lfT k41)) (spT (lfT k42) (lfT k43))) (spT (spT (lfT k44) (lfT k47)) (spT (lfT k48) (spT (lfT k49) (lfT k50)))))) (spT (spT (spT (spT (lfT k51) (lfT k66)) (spT (lfT k67) (lfT k68))) (spT (spT (lfT k69) (lfT k70)) (spT (lfT k71) (spT (lfT k72) (lfT k73))))) (spT (spT (spT (lfT k74) (lfT k75)) (spT (lfT k77) (lfT k81))) (spT (spT (lfT k83) (lfT k85)) (spT (lfT k86) (spT (lfT k95) (lfT k102)))))))⟩
def isTrue : Option (AVal × AHeap) → Bool | some (.bool true, _) => true | _ => false
theorem isTrue_some {r : Option (AVal × AHeap)} (h : isTrue r = true) : ∃ H', r = some (.bool true, H') := by
  cases r with
  | none => cases h
  | some p =>
    obtain ⟨v, H'⟩ := p
    cases v with
    | bool b => cases b with
      | true => exact ⟨H', rfl⟩
      | false => cases h
    | _ => cases h
theorem awake_true : isTrue (callN ext prog0 300 5 [] (tableHeap Tryz.prog.globals.size aroundT)) = true := by
  rw [← xCallN_eq]
  kernel_rfl
theorem mixed : Tryz.prog.follows .mixedOrders = true := by kernel_rfl
theorem k5e : ExtSim Tryz.prog ext 5 3 := ext_closed mixed progOk0 (T := aroundT) Tryz.func5 rfl (by decide +kernel) (v := .bool true) rfl (by kernel_rfl) (isTrue_some awake_true) rfl
theorem k5f : OkF 5 ⟨0,.ext 3,[]⟩ := .inr ⟨_,rfl,k5e⟩
theorem progOk : ProgOk Tryz.prog ext prog := ⟨rfl, by decide +kernel, fun f rf => show prog f = some rf → OkF f rf from (spT (spT (spT (spT (spT (lfT k3) (spT (lfT k4) (lfT k5f))) (spT (lfT k6) (spT (lfT k7) (lfT k8)))) (spT (spT (lfT k9) (spT (lfT k10) (lfT k11))) (spT (spT (lfT k12) (lfT k13)) (spT (lfT k14) (lfT k15))))) (spT (spT (spT (lfT k16) (spT (lfT k17) (lfT k24))) (spT (spT (lfT k25) (lfT k26)) (spT (lfT k27) (lfT k28)))) (spT (spT (lfT k29) (spT (lfT k30) (lfT k31))) (spT (spT (lfT k32) (lfT k33)) (spT (lfT k34) (lfT k35)))))) (spT (spT (spT (spT (lfT k36) (spT (lfT k37) (lfT k38))) (spT (spT (lfT k39) (lfT k47)) (spT (lfT k52) (lfT k53)))) (spT (spT (lfT k54) (spT (lfT k55) (lfT k56))) (spT (spT (lfT k57) (lfT k58)) (spT (lfT k59) (lfT k60))))) (spT (spT (spT (lfT k61) (spT (lfT k62) (lfT k63))) (spT (spT (lfT k64) (lfT k65)) (spT (lfT k66) (lfT k67)))) (spT (spT (lfT k68) (spT (lfT k78) (lfT k79))) (spT (spT (lfT k80) (lfT k81)) (spT (lfT k83) (lfT k108)))))))⟩
end Go.Am

namespace Go.Proofs.YtpochhefklmnfaaGreat.Laid
open Go.ChangeShapes Go.WideShapes Go.ChangeAt Go.RowKit Go.Am
theorem own : ownKnob Tryz.prog.godebug = none := by kernel_rfl
theorem laidOut : laidOutB Tryz.prog = true := by kernel_rfl
theorem rowed : mapsRowed Tryz.prog = true := by kernel_rfl
theorem full : ∀ t e, t < Tryz.prog.types.size → Tryz.prog.underlying t = some (.slice e) → 0 < Tryz.prog.cellsOf e := slices_full_of Tryz.prog (by kernel_rfl)
theorem around_cells {W : World} : ∀ t ∈ aroundT, ∀ (i : Nat) (v : AVal), t.2[i]? = some v → ∃ x, emb (fun _ => none) v = some x ∧ W.cell? ⟨t.1, i, none⟩ = some x := by
  intro t ht; cases ht
noncomputable def laidWorld (os : Os) : World := World.holding Tryz.prog os ⟨#[], #[], []⟩
end Go.Proofs.YtpochhefklmnfaaGreat.Laid

namespace Go.Am
open Go Go.RowKit Go.ChangeShapes Go.WideShapes
def ShapeW (P : Program) (H : AHeap) : Nat → TypeId → List AVal → Prop
  | 0, _, _ => False
  | n + 1, t, cs => match P.underlying t with
    | some .bool => ∃ b, cs = [.bool b]
    | some .string => ∃ s : ByteArray, cs = [.str s] ∧ s.size ≤ reachBytes
    | some (.int k) => ∃ i, cs = [.int k i] ∧ (Lit.int k i).wf = true
    | some (.slice e) => ∃ p len cells, cs = [p] ∧ SliceAt H p (P.cellsOf e) len cells ∧ len * P.bytesOf e ≤ reachBytes ∧ shapes (ShapeW P H n) (List.replicate len e) cells
    | some (.struct fs) => shapes (ShapeW P H n) (fs.toList.map fun f => f.type) cs
    | some (.array k e) => shapes (ShapeW P H n) (List.replicate k e) cs
    | _ => False
theorem ShapeW.ext {P : Program} {H H' : AHeap} (x : Ext H H') : ∀ {n : Nat} {t : TypeId} {cs : List AVal}, ShapeW P H n t cs → ShapeW P H' n t cs := by
  intro n
  induction n with
  | zero => intro t cs h; exact h
  | succ n ih =>
    intro t cs h
    cases hu : P.underlying t with
    | none => simp only [ShapeW, hu] at h
    | some d => cases d with
      | slice e =>
        simp only [ShapeW, hu] at h ⊢
        obtain ⟨p, len, cells, h1, h2, h3, h4⟩ := h
        haveI : ExtI H H' := ⟨x⟩
        exact ⟨p, len, cells, h1, inferInstance, h3, shapes_mono (fun t a => ih) h4⟩
      | struct fs => simp only [ShapeW, hu] at h ⊢; exact shapes_mono (fun t a => ih) h
      | array k e => simp only [ShapeW, hu] at h ⊢; exact shapes_mono (fun t a => ih) h
      | _ => simp only [ShapeW, hu] at h ⊢ <;> exact h
theorem shapesW_ext {P : Program} {H H' : AHeap} (x : Ext H H') {n : Nat} {ts : List TypeId} {cs : List AVal} (h : shapes (ShapeW P H n) ts cs) : shapes (ShapeW P H' n) ts cs := shapes_mono (fun _ _ => ShapeW.ext x) h
def Slim (P : Program) {Hd : Type} (t : TypeId) (d : DataW Hd) : Prop := ∀ n ∈ d.weights P t, n ≤ reachBytes
theorem mem_weightsAll {P : Program} {Hd : Type} {e : TypeId} {d : DataW Hd} : ∀ {l : List (DataW Hd)}, d ∈ l → ∀ n ∈ d.weights P e, n ∈ DataW.weightsAll P e l
  | x :: r, h, n, hn => by
    simp only [DataW.weightsAll, List.mem_append]
    rcases List.mem_cons.1 h with rfl | h
    · exact Or.inl hn
    · exact Or.inr (mem_weightsAll h n hn)
section
variable {P : Program} {Hd : Type} {t e : TypeId}
theorem slim_str {s : List UInt8} (h : Slim P t (DataW.lit (H := Hd) (.string s))) : s.length ≤ reachBytes := h _ (by simp [DataW.weights])
theorem slim_slice {es sp : List (DataW Hd)} (hu : P.underlying t = some (.slice e)) (h : Slim P t (.slice es sp)) : (es.length + sp.length) * P.bytesOf e ≤ reachBytes ∧ ∀ d ∈ es, Slim P e d :=
  ⟨h _ (by simp [DataW.weights, hu]), fun d hd n hn => h n (by simp only [DataW.weights, hu, List.mem_cons, List.mem_append]; exact Or.inr (Or.inl (mem_weightsAll hd n hn)))⟩
theorem slim_struct {fs : Array Field} {ds : List (DataW Hd)} (hu : P.underlying t = some (.struct fs)) (h : Slim P t (.agg ds)) {i : Nat} {f : Field} {d : DataW Hd} (hf : fs.toList[i]? = some f) (hd : ds[i]? = some d) : Slim P f.type d :=
  fun n hn => h n (by simp only [DataW.weights, hu]; exact DataW.weights_mem_each (by rw [List.getElem?_map, hf]; rfl) hd n hn)
theorem slim_array {k : Nat} {ds : List (DataW Hd)} (hu : P.underlying t = some (.array k e)) (h : Slim P t (.agg ds)) {i : Nat} {d : DataW Hd} (hd : ds[i]? = some d) : Slim P e d :=
  fun n hn => h n (by simp only [DataW.weights, hu]; exact mem_weightsAll (List.mem_of_getElem? hd) n hn)
end
section
variable {P : Program} {S : Base} {m : RMap} {H : AHeap} {w : World}
variable {Hd : Type} {enc : TypeId × Value → Hd} {base : Nat} {spare : Nat → Bool} {held : Bool} {T : TypeId → Prop}
theorem open_piecesW {n f : Nat} (hgh : ∀ r, ¬ S.ghost r)
    (ih : ∀ (t : TypeId) (cs : List Value) (x : DataW Hd × List MemPlace) (m : RMap) (H : AHeap), T t → plainT P n t = true → DataW.trod enc P w base spare held f t cs = some x → Slim P t x.1 → HRel S m H w → RO H → Opened P S w m H cs fun H' acs => ShapeW P H' n t acs) :
    ∀ (ts : List TypeId) (pieces : List (List Value)) (m : RMap) (H : AHeap), ts.length = pieces.length → (∀ t ∈ ts, T t ∧ plainT P n t = true) → (∀ (i : Nat) (t : TypeId) (cs : List Value), ts[i]? = some t → pieces[i]? = some cs → ∃ x, DataW.trod enc P w base spare held f t cs = some x ∧ Slim P t x.1) → HRel S m H w → RO H →
    Opened P S w m H pieces.flatten fun H' acs => shapes (ShapeW P H' n) ts acs := by
  intro ts
  induction ts with
  | nil =>
    intro pieces m H hl _ _ h hro
    have : pieces = [] := List.eq_nil_of_length_eq_zero (by simpa using hl.symm)
    subst this
    exact ⟨H, m, [], Ext.refl H, Le.refl m, h, hro, by simp [embL], rfl⟩
  | cons t ts iht =>
    intro pieces m H hl hT hx h hro
    cases pieces with
    | nil => simp at hl
    | cons cs pieces =>
      obtain ⟨x, hx0, hs0⟩ := hx 0 t cs rfl rfl
      obtain ⟨ht, hp⟩ := hT t (by simp)
      obtain ⟨H1, m1, a, e1, l1, r1, o1, b1, s1⟩ := ih t cs x m H ht hp hx0 hs0 h hro
      obtain ⟨H2, m2, b, e2, l2, r2, o2, b2, s2⟩ := iht pieces m1 H1 (by simpa using hl) (fun t h => hT t (by simp [h])) (fun i t cs h1 h2 => hx (i + 1) t cs (by simpa using h1) (by simpa using h2)) r1 o1
      exact ⟨H2, m2, a ++ b, e1.trans e2, Le.trans l1 l2, r2, o2, by rw [List.flatten_cons]; exact embL_append (embL_mono l2 _ _ b1) b2, a, b, rfl, s1.ext e2, s2⟩
theorem open_trodW (hgh : ∀ r, ¬ S.ghost r) (K : Kids P T) (hz : ∀ t e, T t → P.underlying t = some (.slice e) → 0 < P.cellsOf e) : ∀ (n f : Nat) (t : TypeId) (cs : List Value) (x : DataW Hd × List MemPlace) (m : RMap) (H : AHeap), T t → plainT P n t = true →
    DataW.trod enc P w base spare held f t cs = some x → Slim P t x.1 → HRel S m H w → RO H → Opened P S w m H cs fun H' acs => ShapeW P H' n t acs := by
  intro n
  induction n with
  | zero => intro f t cs x m H _ hp; simp [plainT] at hp
  | succ n ih =>
    intro f t cs x m H hT hp hx hsl h hro
    unfold plainT at hp
    split at hp <;> rename_i hu
    · obtain ⟨b, rfl, _⟩ := DataW.trod_bool hu hx
      exact ⟨H, m, [.bool b], Ext.refl H, Le.refl m, h, hro, by simp [embL, emb], by simp [ShapeW, hu]⟩
    · obtain ⟨s, rfl, hxe, hs⟩ := DataW.trod_string hu hx
      exact ⟨H, m, [.str s], Ext.refl H, Le.refl m, h, hro, by simp [embL, emb], by simp only [ShapeW, hu]; exact ⟨s, rfl, slim_str (by rw [hxe] at hsl; exact hsl)⟩⟩
    · rename_i k
      obtain ⟨i, rfl, _, hw⟩ := DataW.trod_int hu hx
      exact ⟨H, m, [.int k i], Ext.refl H, Le.refl m, h, hro, by simp [embL, emb], by simp [ShapeW, hu, hw]⟩
    · -- slice
      rename_i e
      have he := K.slice hT hu
      have hz0 := hz t e hT hu
      rcases DataW.trod_slice hu hx with ⟨rfl, _⟩ | ⟨a, len, cap, elems, rest, n', hn', rfl, hxe, hb, hcond1, hcond2, hlen0, hel, _, _⟩
      · exact ⟨H, m, [.nslice], Ext.refl H, Le.refl m, h, hro, by simp [embL, emb], by simp only [ShapeW, hu]; exact ⟨.nslice, 0, [], rfl, ⟨Or.inl ⟨rfl, rfl, rfl⟩⟩, by simp, rfl⟩⟩
      · subst hn'
        rw [hxe] at hsl
        obtain ⟨hwt, hsm⟩ := slim_slice hu hsl
        have key : ∀ (k : Nat), k ≤ len → ∃ pieces : List (List Value), pieces.length = k ∧ ∀ i, i < k → ∃ cs x, pieces[i]? = some cs ∧ w.cells? base (a.add (i * P.cellsOf e)) (P.cellsOf e) = some cs ∧ DataW.trod enc P w base spare held n' e cs = some x ∧ Slim P e x.1 := by
          intro k
          induction k with
          | zero => intro _; exact ⟨[], rfl, fun i h => by omega⟩
          | succ k ihk =>
            intro hk
            obtain ⟨pieces, h7, h8⟩ := ihk (by omega)
            have h9 := hel k (by omega)
            rw [List.getElem?_eq_getElem (by omega)] at h9
            obtain ⟨cs, h10, h11⟩ := some_bind h9
            have h12 : Slim P e (elems[k]'(by omega)).1 := hsm _ (List.mem_map.2 ⟨_, List.getElem_mem (by omega), rfl⟩)
            refine ⟨pieces ++ [cs], by simp [h7], fun i hi => ?_⟩
            by_cases hik : i < k
            · obtain ⟨c, x, q1, q2, q3⟩ := h8 i hik
              exact ⟨c, x, by rw [List.getElem?_append_left (by omega)]; exact q1, q2, q3⟩
            · obtain rfl : i = k := by omega
              exact ⟨cs, _, by rw [List.getElem?_append_right (by omega)]; simp [h7], h10, h11, h12⟩
        obtain ⟨pieces, hpl, hpi'⟩ := key len (Nat.le_refl _)
        skip
        obtain ⟨H1, m1, acs, e1, l1, r1, o1, b1, s1⟩ := open_piecesW (P := P) (T := T) (n := n) (f := n') (enc := enc) (base := base) (spare := spare) (held := held) hgh (ih n') (List.replicate len e) pieces m H (by simp [hpl]) (fun t ht => by rw [(List.mem_replicate.1 ht).2]; exact ⟨he, hp⟩)
          (fun i t cs h3 h4 => by
            have hi : i < len := by have := (List.getElem?_eq_some_iff.1 h3).1; simpa using this
            obtain ⟨c, x, q1, q2, q3⟩ := hpi' i hi
            rw [List.getElem?_replicate, if_pos hi] at h3
            cases h3
            rw [q1] at h4; cases h4
            exact ⟨x, q3.1, q3.2⟩) h hro
        have hall : ∀ c ∈ pieces, c.length = P.cellsOf e := fun c hc => by
          obtain ⟨i, hi⟩ := List.getElem?_of_mem hc
          have hlt : i < len := by have := (List.getElem?_eq_some_iff.1 hi).1; omega
          obtain ⟨c', x, q1, q2, q3⟩ := hpi' i hlt
          rw [hi] at q1; cases q1
          exact (cells?_len q2).1
        have hcells : ∀ (i : Nat) (x : Value), pieces.flatten[i]? = some x → w.cell? (a.add i) = some x := by
          have gen : ∀ (ps : List (List Value)) (o : Nat), (∀ c ∈ ps, c.length = P.cellsOf e) → (∀ i c, ps[i]? = some c → ∀ k x, c[k]? = some x → w.cell? (a.add ((o + i) * P.cellsOf e + k)) = some x) → ∀ (i : Nat) (x : Value), ps.flatten[i]? = some x → w.cell? (a.add (o * P.cellsOf e + i)) = some x := by
            intro ps
            induction ps with
            | nil => intro o _ _ i x h; simp at h
            | cons c ps ihp =>
              intro o hl hc i x hi
              rw [List.flatten_cons] at hi
              have hcl := hl c (by simp)
              by_cases hic : i < c.length
              · rw [List.getElem?_append_left hic] at hi
                simpa using hc 0 c rfl i x hi
              · rw [List.getElem?_append_right (by omega)] at hi
                have := ihp (o + 1) (fun c h => hl c (by simp [h])) (fun j c hj k x hk => by
                  have := hc (j + 1) c (by simpa using hj) k x hk
                  rwa [show o + (j + 1) = o + 1 + j by omega] at this) (i - c.length) x hi
                have e3 : (o + 1) * P.cellsOf e + (i - c.length) = o * P.cellsOf e + i := by rw [Nat.add_mul]; omega
                rwa [e3] at this
          intro i x hi
          have := gen pieces 0 hall (fun j c hj k x hk => by
            have hlt : j < len := by have := (List.getElem?_eq_some_iff.1 hj).1; omega
            obtain ⟨c', y, q1, q2, q3⟩ := hpi' j hlt
            rw [hj] at q1; cases q1
            have := (cells?_len q2).2 k x hk
            rw [add_add] at this
            simpa using this) i x hi
          simpa using this
        have hflen : acs.length = len * P.cellsOf e := by
          have h3 := embL_length b1
          rw [← h3]
          have : ∀ (ps : List (List Value)), (∀ c ∈ ps, c.length = P.cellsOf e) → ps.flatten.length = ps.length * P.cellsOf e := by
            intro ps
            induction ps with
            | nil => intro _; simp
            | cons c ps ihp => intro hl; rw [List.flatten_cons, List.length_append, hl c (by simp), ihp (fun c h => hl c (by simp [h])), List.length_cons, Nat.add_mul]; omega
          rw [this pieces hall, hpl]
        obtain ⟨g1, g2, g3⟩ := r1.addRow o1 hgh (cs := acs) (a := a) (fun i v hi => by
          obtain ⟨x, q1, q2⟩ := embL_get b1 hi
          exact ⟨x, q1, hcells i x q2⟩)
        refine ⟨H1.push (.row acs false 0), _, [.slice H1.n 0 len (some cap) (P.cellsOf e)], e1.push _, Le.trans l1 g1, g2, g3, ?_, ?_⟩
        · simp [embL, emb, add_eq, capR, Addr.add]
        · simp only [ShapeW, hu]
          refine ⟨_, len, acs, rfl, ⟨Or.inr ⟨H1.n, 0, some cap, acs, false, 0, rfl, Nat.lt_succ_self _, push_get_eq, by omega, ?_, by simp only [capD]; omega⟩⟩, by rw [List.length_map, hlen0] at hwt; exact Nat.le_trans (Nat.mul_le_mul_right _ (Nat.le_add_right _ _)) hwt, shapesW_ext ((Ext.refl H1).push _) s1⟩
          rw [List.drop_zero, List.take_of_length_le (by omega)]
    · -- struct
      rename_i fs
      obtain ⟨hk1, hk2, hk3⟩ := K.struct hT hu
      obtain ⟨xs, n', hn', hxe, hlen, hxl, hxs⟩ := DataW.trod_struct hu hx
      subst hn'
      rw [hxe] at hsl
      have key : ∀ (i : Nat) (f : Field), fs.toList[i]? = some f → ∃ x, DataW.trod enc P w base spare held n' f.type ((cs.drop f.offset).take (P.cellsOf f.type)) = some x ∧ Slim P f.type x.1 := fun i f hf => by
        have hlt : i < fs.size := by have := (List.getElem?_eq_some_iff.1 hf).1; simpa using this
        have := hxs i f (by simpa using hf)
        rw [List.getElem?_eq_getElem (by omega)] at this
        exact ⟨_, this, slim_struct hu hsl (i := i) hf (by rw [List.getElem?_map, List.getElem?_eq_getElem (by omega)]; rfl)⟩
      have hsz : (fs.toList.map fun f => P.cellsOf f.type).length = fs.toList.length := by simp
      have hcut := flatten_cut (fs.toList.map fun f => P.cellsOf f.type) cs (by rw [hlen, hk2])
      obtain ⟨H1, m1, acs, e1, l1, r1, o1, b1, s1⟩ := open_piecesW (P := P) (T := T) (n := n) (f := n') (enc := enc) (base := base) (spare := spare) (held := held) hgh (ih n') (fs.toList.map fun f => f.type) _ m H (by simp [hsz] : _ = ((List.range (fs.toList.map fun f => P.cellsOf f.type).length).map fun i => (cs.drop ((fs.toList.map fun f => P.cellsOf f.type).take i).sum).take ((fs.toList.map fun f => P.cellsOf f.type).getD i 0)).length)
        (fun t ht => by
          obtain ⟨f, hf, rfl⟩ := List.mem_map.1 ht
          exact ⟨hk1 f hf, List.all_eq_true.1 hp f hf⟩)
        (fun i t c h3 h4 => by
          rw [List.getElem?_map] at h3
          obtain ⟨f, hf, rfl⟩ := some_map h3
          obtain ⟨x, hx1, hx2⟩ := key i f hf
          have hi : i < fs.toList.length := (List.getElem?_eq_some_iff.1 hf).1
          rw [List.getElem?_map, List.getElem?_range (by simpa using hi)] at h4
          simp only [Option.map_some, Option.some.injEq] at h4
          have h5 : (fs.toList.map fun f => P.cellsOf f.type).getD i 0 = P.cellsOf f.type := by simp only [List.getD_eq_getElem?_getD, List.getElem?_map, hf, Option.map_some, Option.getD_some]
          have h6 := hk3 i f hf
          rw [List.map_take] at h6
          rw [h5, ← h6] at h4
          subst h4
          exact ⟨x, hx1, hx2⟩) h hro
      rw [hcut] at b1
      exact ⟨H1, m1, acs, e1, l1, r1, o1, b1, by simp only [ShapeW, hu]; exact s1⟩
    · -- array
      rename_i k e
      obtain ⟨he, hsz⟩ := K.array hT hu
      obtain ⟨xs, n', hn', hxe, hlen, hxl, hxs⟩ := DataW.trod_array hu hx
      subst hn'
      rw [hxe] at hsl
      have key : ∀ (i : Nat), i < k → ∃ x, DataW.trod enc P w base spare held n' e ((cs.drop (i * P.cellsOf e)).take (P.cellsOf e)) = some x ∧ Slim P e x.1 := fun i hi => by
        have := hxs i hi
        rw [List.getElem?_eq_getElem (by omega)] at this
        exact ⟨_, this, slim_array hu hsl (i := i) (by rw [List.getElem?_map, List.getElem?_eq_getElem (by omega)]; rfl)⟩
      have hcut := flatten_cut (List.replicate k (P.cellsOf e)) cs (by rw [hlen, hsz]; simp)
      obtain ⟨H1, m1, acs, e1, l1, r1, o1, b1, s1⟩ := open_piecesW (P := P) (T := T) (n := n) (f := n') (enc := enc) (base := base) (spare := spare) (held := held) hgh (ih n') (List.replicate k e) _ m H (by simp : _ = ((List.range (List.replicate k (P.cellsOf e)).length).map fun i => (cs.drop ((List.replicate k (P.cellsOf e)).take i).sum).take ((List.replicate k (P.cellsOf e)).getD i 0)).length)
        (fun t ht => by rw [(List.mem_replicate.1 ht).2]; exact ⟨he, hp⟩)
        (fun i t c h3 h4 => by
          have hi : i < k := by have := (List.getElem?_eq_some_iff.1 h3).1; simpa using this
          rw [List.getElem?_replicate, if_pos hi] at h3
          cases h3
          obtain ⟨x, hx1, hx2⟩ := key i hi
          rw [List.getElem?_map, List.getElem?_range (by simpa using hi)] at h4
          simp only [Option.map_some, Option.some.injEq] at h4
          have h5 : (List.replicate k (P.cellsOf e)).getD i 0 = P.cellsOf e := by simp [List.getD_eq_getElem?_getD, List.getElem?_replicate, hi]
          have h6 : ((List.replicate k (P.cellsOf e)).take i).sum = i * P.cellsOf e := by simp [List.take_replicate, Nat.min_eq_left (Nat.le_of_lt hi)]
          rw [h5, h6] at h4
          subst h4
          exact ⟨x, hx1, hx2⟩) h hro
      rw [hcut] at b1
      exact ⟨H1, m1, acs, e1, l1, r1, o1, b1, by simp only [ShapeW, hu]; exact s1⟩
    · cases hp
end
end Go.Am

namespace Go.Am
open Go Go.RowKit Go.ChangeShapes Go.WideShapes
def ArgSW (P : Program) (H : AHeap) (n : Nat) : List TypeId → List AVal → Prop
  | [], avs => avs = []
  | t :: ts, avs => ∃ acs rest, avs = argV P t acs :: rest ∧ ShapeW P H n t acs ∧ ArgSW P H n ts rest
theorem ArgSW.ext {P : Program} {H H' : AHeap} (x : Ext H H') {n : Nat} : ∀ {ts : List TypeId} {avs : List AVal}, ArgSW P H n ts avs → ArgSW P H' n ts avs := by
  intro ts
  induction ts with
  | nil => intro avs h; exact h
  | cons t ts ih =>
    intro avs h
    obtain ⟨acs, rest, e, h1, h2⟩ := h
    exact ⟨acs, rest, e, h1.ext x, ih h2⟩
section
variable {P : Program} {S : Base} {m : RMap} {H : AHeap} {w : World} {Hd : Type} {enc : TypeId × Value → Hd} {T : TypeId → Prop}
theorem open_argW (hgh : ∀ r, ¬ S.ghost r) (K : Kids P T) (hz : ∀ t e, T t → P.underlying t = some (.slice e) → 0 < P.cellsOf e) {n : Nat} {t : TypeId} {v : Value} {d : DataW Hd} {ps : List MemPlace} (hT : T t) (hp : plainT P n t = true)
    (hok : Value.okWide P w .any 0 t v ∨ ∃ b, Value.okWide P w .any b t v) (hd : DataW.Trod enc P w 0 (fun _ => true) true t v d ps) (hsl : Slim P t d) (h : HRel S m H w) (hro : RO H) :
    ∃ H' m' acs, Ext H H' ∧ Le m m' ∧ HRel S m' H' w ∧ RO H' ∧ emb m' (argV P t acs) = some v ∧ ShapeW P H' n t acs := by
  obtain ⟨b, hok⟩ : ∃ b, Value.okWide P w .any b t v := by rcases hok with h | h; exact ⟨0, h⟩; exact h
  obtain ⟨f, hf⟩ := hd
  obtain ⟨H', m', acs, h1, h2, h3, h4, h5, h6⟩ := open_trodW hgh K hz n f t _ _ m H hT hp hf hsl h hro
  refine ⟨H', m', acs, h1, h2, h3, h4, ?_, h6⟩
  have one : v.cells = #[v] → aggTy P t = false → emb m' (argV P t acs) = some v := by
    intro hc ha
    rw [hc] at h5
    have hl := embL_length h5
    match acs, hl with
    | [a], _ =>
      obtain ⟨x, xs, q1, q2, q3⟩ := embL_cons h5
      simp at q3
      simp only [argV, ha, cond_false, List.headD_cons]
      rw [q1, q3.1]
  cases n with
  | zero => simp [plainT] at hp
  | succ n =>
    unfold plainT at hp
    split at hp <;> rename_i hu
    · obtain ⟨b, rfl⟩ := okWide_bool hu hok
      exact one rfl (by simp [aggTy, hu])
    · obtain ⟨b, rfl⟩ := okWide_string hu hok
      exact one rfl (by simp [aggTy, hu])
    · obtain ⟨b, rfl⟩ := okWide_int hu hok
      exact one rfl (by simp [aggTy, hu])
    · obtain ⟨a, len, cap, rfl⟩ := okWide_slice hu hok
      exact one rfl (by simp [aggTy, hu])
    · obtain ⟨cs, rfl, _⟩ := okWide_struct hu hok
      have ha : aggTy P t = true := by simp [aggTy, hu]
      simp only [argV, ha, cond_true, emb]
      simp only [Value.cells] at h5
      rw [h5]
    · have hcs : ∃ cs, v = .agg cs := by
        simp only [Value.okWide, hu] at hok
        obtain ⟨cs, e, _⟩ := hok
        exact ⟨cs, e⟩
      obtain ⟨cs, rfl⟩ := hcs
      have ha : aggTy P t = true := by simp [aggTy, hu]
      simp only [argV, ha, cond_true, emb]
      simp only [Value.cells] at h5
      rw [h5]
    · cases hp
theorem open_argsW (hgh : ∀ r, ¬ S.ghost r) (K : Kids P T) (hz : ∀ t e, T t → P.underlying t = some (.slice e) → 0 < P.cellsOf e) {n b : Nat} : ∀ (ts : List TypeId) (vs : List Value) (ds : List (DataW Hd)) (ps : List MemPlace) (m : RMap) (H : AHeap), (∀ t ∈ ts, T t ∧ plainT P n t = true) →
    (∀ (j : Nat) t v, ts[j]? = some t → vs[j]? = some v → Value.okWide P w .any b t v) → DataW.TrodAll enc P w 0 (fun _ => true) true ts vs ds ps → (∀ (j : Nat) t d, ts[j]? = some t → ds[j]? = some d → Slim P t d) → HRel S m H w → RO H →
    ∃ H' m' avs, Ext H H' ∧ Le m m' ∧ HRel S m' H' w ∧ RO H' ∧ embL m' avs = some vs ∧ ArgSW P H' n ts avs := by
  intro ts
  induction ts with
  | nil =>
    intro vs ds ps m H _ _ hd _ h hro
    obtain ⟨rfl, _, _⟩ := trodAll_nil hd
    exact ⟨H, m, [], Ext.refl H, Le.refl m, h, hro, by simp [embL], rfl⟩
  | cons t ts ih =>
    intro vs ds ps m H hT hok hd hsl h hro
    obtain ⟨v, vs', d, ds', p, q, rfl, rfl, rfl, h1, h2⟩ := trodAll_cons hd
    obtain ⟨hTt, hpt⟩ := hT t (by simp)
    obtain ⟨H1, m1, acs, e1, l1, r1, o1, b1, s1⟩ := open_argW hgh K hz hTt hpt (Or.inr ⟨b, hok 0 t v rfl rfl⟩) h1 (hsl 0 t d rfl rfl) h hro
    obtain ⟨H2, m2, avs, e2, l2, r2, o2, b2, s2⟩ := ih vs' ds' q m1 H1 (fun t h => hT t (by simp [h])) (fun j t v q1 q2 => hok (j + 1) t v (by simpa using q1) (by simpa using q2)) h2 (fun j t d q1 q2 => hsl (j + 1) t d (by simpa using q1) (by simpa using q2)) r1 o1
    exact ⟨H2, m2, argV P t acs :: avs, e1.trans e2, Le.trans l1 l2, r2, o2, embL_mk (emb_mono l2 _ _ b1) b2, acs, avs, rfl, s1.ext e2, s2⟩
end
theorem law_callsW {P : Program} {ext : Exts} {prog : FuncId → Option RFunc} {f : FuncId} {fn : Func} {c : Code} {s : ChangeSpec} {apart fresh handsOn again : Bool} {tb : TypeId} {tabs : List (Nat × List AVal)} {n d : Nat}
    (hmix : P.follows .mixedOrders = true) (hP : ProgOk P ext prog) (hfn : P.funcs[f]? = some fn) (hb : fn.body = some c) (hname : fn.name ≠ "runtime.NumGoroutine")
    (hl : laidOutB P = true) (hm : mapsRowed P = true) (hz : ∀ t e, t < P.types.size → P.underlying t = some (.slice e) → 0 < P.cellsOf e) (hplain : (fn.params.toList.all fun t => decide (t < P.types.size) && plainT P n t) = true)
    (hvars : s.vars = []) (hrt : fn.resultTypes = #[tb]) (htb : P.underlying tb = some .bool) (htabs0 : tablesIn tabs (tableHeap P.globals.size tabs) = true) (htabs : (tabs.all fun t => Nat.blt t.1 P.globals.size && t.2.all plainV) = true)
    (hcon : ∀ (H : AHeap) (avs : List AVal), tablesIn tabs H = true → ArgSW P H n fn.params.toList avs → Con ext prog d f avs H fun v H' => v = .bool true ∧ Ext H H')
    (Hd : Type) (enc : TypeId × Value → Hd) (W : World) (base : Nat) (args : Array Value) (ds gs : List (DataW Hd)) (before : List MemPlace)
    (hspec : s.fn Hd ds = { results := [.lit (.bool true)], args := ds })
    (hval : ∀ (j : Nat) t v, fn.params[j]? = some t → args[j]? = some v → Value.okWide P W .any base t v) (hW : DataW.Whole enc P fn.params.toList s.vars apart W args.toList ds gs before)
    (hsl : ∀ (j : Nat) t d, fn.params.toList[j]? = some t → ds[j]? = some d → Slim P t d)
    (hcells : ∀ t ∈ tabs, ∀ (i : Nat) (v : AVal), t.2[i]? = some v → ∃ x, emb (fun _ => none) v = some x ∧ W.cell? ⟨t.1, i, none⟩ = some x) :
    Calls P f args W fun e W' => ∃ v, e = .returned v ∧ s.post enc P fn apart fresh handsOn again W args v W' := by
  have K := kids_rows (P := P) hl hm
  have hpl := List.all_eq_true.1 hplain
  have hT : ∀ t ∈ fn.params.toList, t < P.types.size ∧ plainT P n t = true := fun t ht => by
    have := hpl t ht
    simpa using this
  have htab := List.all_eq_true.1 htabs
  -- the tables
  have hrel : HRel ⟨W.heap.size, W, P.globals.size, fun _ => False, cCode P⟩ (globMap P.globals.size (longest tabs)) (tableHeap P.globals.size tabs) W := by
    refine ⟨Below.refl _ _, Nat.le_refl _, fun g hg => ⟨longest tabs, by simp only at hg; simp [globMap, hg]⟩, fun r hr => by simp only [tableHeap] at hr; simp [globMap]; omega, fun r hr => hr.elim, ?_, ?_, ⟨fun r R p _ h _ => absurd h tableObj_loop, fun r s R R' p q L L' _ _ _ h => absurd h tableObj_loop, ⟨fun r es p _ h _ => absurd h tableObj_map, fun r s es es' p q _ _ _ h => absurd h tableObj_map⟩⟩⟩
    · intro r cs rw e p hr hg hp
      obtain ⟨hmem, rfl⟩ := tableObj_row hg
      have hT1 := htab _ hmem
      simp only [Bool.and_eq_true] at hT1
      have hrG : r < P.globals.size := by simpa using hT1.1
      have hp' : p = (⟨r, 0, none⟩, longest tabs) := by simp only [globMap, hrG, if_true] at hp; exact (Option.some.inj hp).symm
      subst hp'
      refine ⟨fun i v hi => ?_, le_longest hmem, fun q => by cases q⟩
      obtain ⟨x, h1, h2⟩ := hcells _ hmem i v hi
      have hv : plainV v = true := List.all_eq_true.1 hT1.2 v (List.mem_of_getElem? hi)
      refine ⟨x, by rw [plain_emb hv _ (fun _ => none)]; exact h1, ?_⟩
      cases i <;> simpa [Addr.add] using h2
    · intro r s' cs rw e cs' e' p q hr hs hne hg1 hg2 hp hq
      exact absurd (tableObj_row hg2).2 (by decide)
  have hro : RO (tableHeap P.globals.size tabs) := fun r cs rw e hg => (tableObj_row hg).2
  obtain ⟨p, q, hA, hrest⟩ := hW
  obtain ⟨H', m', avs, e1, l1, r1, o1, b1, s1⟩ := open_argsW (P := P) (T := (· < P.types.size)) (fun _ h => h) K hz (n := n) (b := base) fn.params.toList args.toList ds p _ _ hT (fun j t v q1 q2 => hval j t v (by simpa using q1) (by simpa using q2)) hA hsl hrel hro
  have htabs' : tablesIn tabs H' = true := by
    refine List.all_eq_true.2 fun t ht => ?_
    have hT1 := htab _ ht
    simp only [Bool.and_eq_true] at hT1 ⊢
    have htG : t.1 < P.globals.size := by simpa using hT1.1
    have hlt : t.1 < (tableHeap P.globals.size tabs).n := htG
    have hn : t.1 < H'.n := Nat.lt_of_lt_of_le hlt e1.n
    have h0 := List.all_eq_true.1 htabs0 t ht
    simp only [Bool.and_eq_true] at h0
    refine ⟨by simpa using hn, ?_⟩
    rw [e1.get _ hlt]
    exact h0.2
  have hc := calls_of_evs hmix hP rfl rfl hfn hb hname r1 (args := avs) (vargs := args) b1 (hcon H' avs htabs' s1).evs
  refine hc.mono fun e W' ⟨x, v, H2, he, ⟨hv, hx2⟩, m2, hl2, hemb, hr2⟩ => ?_
  subst hv
  simp only [emb, Option.some.injEq] at hemb
  subst hemb
  exact ⟨_, he, post_true (T := (· < P.types.size)) K hz (fun t ht => (hT t ht).1) hvars hspec hrt htb ⟨p, q, hA, hrest⟩ hr2.below⟩
section
variable {P : Program} {H : AHeap} {n : Nat} {t e : TypeId} {cs : List AVal}
theorem shapeW_int {k : IntKind} (hu : P.underlying t = some (.int k)) (h : ShapeW P H (n + 1) t cs) : ∃ i, cs = [.int k i] ∧ (Lit.int k i).wf = true := by simpa only [ShapeW, hu] using h
theorem shapeW_struct {fs : Array Field} (hu : P.underlying t = some (.struct fs)) (h : ShapeW P H (n + 1) t cs) : shapes (ShapeW P H n) (fs.toList.map fun f => f.type) cs := by simpa only [ShapeW, hu] using h
theorem shapesW_bytes (hu : P.underlying e = some (.int .u8)) : ∀ {len : Nat} {cells : List AVal}, shapes (ShapeW P H (n + 1)) (List.replicate len e) cells → ∃ l : List UInt8, l.length = len ∧ cells = cellsB l := by
  intro len
  induction len with
  | zero => intro cells h; exact ⟨[], rfl, h⟩
  | succ len ih =>
    intro cells h
    obtain ⟨a, b, rfl, h1, h2⟩ := h
    obtain ⟨i, rfl, hw⟩ := shapeW_int hu h1
    obtain ⟨x, rfl⟩ := u8_of hw
    obtain ⟨l, hl, rfl⟩ := ih h2
    exact ⟨x :: l, by simp [hl], rfl⟩
theorem shapeW_bytes (hu : P.underlying t = some (.slice e)) (he : P.underlying e = some (.int .u8)) (hc : P.cellsOf e = 1) (h : ShapeW P H (n + 2) t cs) : ∃ p l, cs = [p] ∧ BytesI H p l ∧ l.length * P.bytesOf e ≤ reachBytes := by
  rw [ShapeW, hu] at h
  obtain ⟨p, len, cells, rfl, h2, h3, h4⟩ := h
  obtain ⟨l, rfl, rfl⟩ := shapesW_bytes he h4
  rw [hc] at h2
  exact ⟨p, l, rfl, h2, h3⟩
theorem shapeW_img {fs : Array Field} {ti ts tb : TypeId} (hu : P.underlying t = some (.struct fs)) (hf : (fs.toList.map fun f => f.type) = [ti, ti, ts]) (hi : P.underlying ti = some (.int .i64)) (hs : P.underlying ts = some (.slice tb)) (hb : P.underlying tb = some (.int .u8)) (hc : P.cellsOf tb = 1)
    (h : ShapeW P H (n + 3) t cs) : ∃ w h p l, cs = [.int .i64 w, .int .i64 h, p] ∧ BytesI H p l ∧ l.length * P.bytesOf tb ≤ reachBytes := by
  have h1 := shapeW_struct hu h
  rw [hf] at h1
  obtain ⟨a, r1, rfl, h2, b, r2, rfl, h3, c, r3, rfl, h4, rfl⟩ := h1
  obtain ⟨w, rfl, _⟩ := shapeW_int hi h2
  obtain ⟨hh, rfl, _⟩ := shapeW_int hi h3
  obtain ⟨p, l, rfl, h5, h6⟩ := shapeW_bytes hs hb hc h4
  exact ⟨w, hh, p, l, rfl, h5, h6⟩
end
section
variable {P : Program} {H : AHeap} {n : Nat} {t e : TypeId} {cs : List AVal}
theorem slim_all {ts : List TypeId} {Hd : Type} {ds : List (DataW Hd)} (h : (DataW.weightsEach P ts ds).all (· ≤ reachBytes) = true) : ∀ (j : Nat) t d, ts[j]? = some t → ds[j]? = some d → Slim P t d := fun j t d h1 h2 n hn => by
  have := List.all_eq_true.1 h n (DataW.weights_mem_each h1 h2 n hn)
  simpa using this
end
end Go.Am

namespace Go.Am
open Go
open Nat renaming reduceEqDiff → qe, reduceAdd → qz
open Int renaming reduceBEq → qa, reduceBNe → qn
def madeOk (op : ROp) (fr : AFrame) (ref : Nat) (H : AHeap) : Bool := match op.made fr with
  | some (cs, e, _) => ghostIs H ref cs e
  | none => false
def WpE (call : ACall) (n ref : Nat) (its : List DItem) (H0 : AHeap) (E : List (Nat × AHeap)) (Rd : List (Nat × (AHeap → Bool))) (fr : AFrame) (H : AHeap) (K : AFrame → AHeap → Prop) : Prop :=
  ∀ R0 E0 Rd0, R0.length = n → (∀ p ∈ E0, p ∈ E) → (∀ p ∈ Rd0, (p.1, DRec.okAt p.2) ∈ Rd) → DInv R0 H0 H E0 Rd0 → ∃ R1 fr' H', dtext call its ref fr H = some (R1, fr', H') ∧ dcheck (R0 ++ R1) H0 (R0 ++ R1) 0 = true ∧ K fr' H'
def AllE (b : Nat) (ok : AHeap → Prop) : List (Nat × AHeap) → Prop
  | [] => True
  | p :: l => (b.testBit p.1 = true ∨ ok p.2) ∧ AllE b ok l
def AllR (b : Nat) (H : AHeap) : List (Nat × (AHeap → Bool)) → Prop
  | [] => True
  | p :: l => (b.testBit p.1 = true ∨ p.2 H = true) ∧ AllR b H l
theorem AllE.imp {b : Nat} {ok ok' : AHeap → Prop} (f : ∀ H, ok H → ok' H) : ∀ {l : List (Nat × AHeap)}, AllE b ok l → AllE b ok' l
  | [], _ => trivial
  | _ :: _, h => ⟨h.1.imp id (f _), AllE.imp f h.2⟩
theorem AllE.get {b : Nat} {ok : AHeap → Prop} {l : List (Nat × AHeap)} (h : AllE b ok l) : ∀ p ∈ l, b.testBit p.1 = true ∨ ok p.2 := by
  induction l with
  | nil => simp
  | cons q l ih => intro p hp; rcases List.mem_cons.1 hp with rfl | hp; exact h.1; exact ih h.2 p hp
theorem AllR.get {b : Nat} {H : AHeap} {l : List (Nat × (AHeap → Bool))} (h : AllR b H l) : ∀ p ∈ l, b.testBit p.1 = true ∨ p.2 H = true := by
  induction l with
  | nil => simp
  | cons q l ih => intro p hp; rcases List.mem_cons.1 hp with rfl | hp; exact h.1; exact ih h.2 p hp
theorem madeOk_eq {r : DRec} (hc : Nat.beq r.cls 3 = true) : r.okAt = madeOk r.o.op r.fr r.ref := by
  funext H
  unfold DRec.okAt madeOk
  rw [hc]
  rfl
section
variable {call : ACall} {lf n ref : Nat} {its : List DItem} {H0 H H1 : AHeap} {E : List (Nat × AHeap)} {Rd : List (Nat × (AHeap → Bool))} {fr : AFrame} {K : AFrame → AHeap → Prop} {Q : RExit → AFrame → AHeap → Prop} {op : ROp} {v : AVal} {b : Nat} {pre : Bool} {g : Option (Nat × Bool)}
theorem WpE.nil (h : K fr H) : WpE call n ref [] H0 E Rd fr H K := fun R0 E0 Rd0 _ _ _ hI => ⟨[], fr, H, rfl, by rw [List.append_nil]; exact hI.done, h⟩
theorem WpE.next {it : DItem} {R0 : List DRec} {r : DRec} {E' : List (Nat × AHeap)} {Rd' : List (Nat × (AHeap → Bool))} {E0' : List (Nat × AHeap)} {Rd0' : List (Nat × DRec)} {fr1 : AFrame} (hn : R0.length = n) (he : ∀ p ∈ E0', p ∈ E') (hrd : ∀ p ∈ Rd0', (p.1, DRec.okAt p.2) ∈ Rd')
    (hI : DInv (R0 ++ [r]) H0 H1 E0' Rd0') (hd : ∀ R1 fr' H', dtext call its (nextRef it.cls ref) fr1 H1 = some (R1, fr', H') → dtext call (it :: its) ref fr H = some (r :: R1, fr', H')) (h : WpE call (n + 1) (nextRef it.cls ref) its H0 E' Rd' fr1 H1 K) :
    ∃ R1 fr' H', dtext call (it :: its) ref fr H = some (R1, fr', H') ∧ dcheck (R0 ++ R1) H0 (R0 ++ R1) 0 = true ∧ K fr' H' := by
  obtain ⟨R1, fr', H', h1, h2, h3⟩ := h (R0 ++ [r]) E0' Rd0' (by simp [hn]) he hrd hI
  exact ⟨r :: R1, fr', H', hd _ _ _ h1, by rw [List.append_assoc] at h2; exact h2, h3⟩
theorem WpE.skip {d : Option Nat} {cls : Nat} (hw : ROper.wanted fr ⟨d, op, g⟩ = false) (h : WpE call (n + 1) (nextRef cls ref) its H0 E Rd (put fr d aundef) H K) : WpE call n ref (⟨⟨d, op, g⟩, b, cls, pre⟩ :: its) H0 E Rd fr H K := fun R0 E0 Rd0 hn he hrd hI =>
  WpE.next (r := ⟨⟨d, op, g⟩, b, cls, fr, aundef, false, false, H, ref⟩) hn he hrd (hI.plain rfl rfl) (fun R1 fr' H' hd => by
    simp only [dtext, hw, hd]) h
theorem WpE.pure {d : Option Nat} (hw : ROper.wanted fr ⟨d, op, g⟩ = true) (hx : op.exec noCall fr H = some (v, H)) (h : WpE call (n + 1) ref its H0 E Rd (put fr d v) H K) : WpE call n ref (⟨⟨d, op, g⟩, b, 0, pre⟩ :: its) H0 E Rd fr H K := fun R0 E0 Rd0 hn he hrd hI =>
  WpE.next (r := ⟨⟨d, op, g⟩, b, 0, fr, v, true, false, H, ref⟩) hn he hrd (hI.plain rfl rfl) (fun R1 fr' H' hd => by
    simp only [dtext, hw, dstep, look_of hx rfl]
    simp only [Nat.beq, nextRef] at hd ⊢
    simp [hd]) h
theorem WpE.look {d : Option Nat} (hw : ROper.wanted fr ⟨d, op, g⟩ = true) (hx : op.look fr H = some v) (hE : AllE b (fun H2 => op.look fr H2 = some v) E) (h : WpE call (n + 1) ref its H0 E ((n, readOk op fr v) :: Rd) (put fr d v) H K) : WpE call n ref (⟨⟨d, op, g⟩, b, 1, pre⟩ :: its) H0 E Rd fr H K := fun R0 E0 Rd0 hn he hrd hI =>
  WpE.next (r := ⟨⟨d, op, g⟩, b, 1, fr, v, true, false, H, ref⟩) (Rd0' := Rd0 ++ [(R0.length, ⟨⟨d, op, g⟩, b, 1, fr, v, true, false, H, ref⟩)]) hn he (by
      intro p hp
      rcases List.mem_append.1 hp with hp | hp
      · exact List.mem_cons_of_mem _ (hrd p hp)
      · simp only [List.mem_singleton] at hp
        subst hp
        rw [hn, readOk_eq rfl]
        exact List.mem_cons_self)
    (hI.read rfl (okAt_look rfl hx) (fun p hp => (hE.get p (he p hp)).imp id fun q => okAt_look rfl q)) (fun R1 fr' H' hd => by
    simp only [dtext, hw, dstep, hx]
    simp only [Nat.beq, nextRef] at hd ⊢
    simp [hd]) h
theorem WpE.read {d : Option Nat} (hw : ROper.wanted fr ⟨d, op, g⟩ = true) (hx : op.exec noCall fr H = some (v, H)) (hE : AllE b (fun H2 => op.exec noCall fr H2 = some (v, H2)) E) (h : WpE call (n + 1) ref its H0 E ((n, readOk op fr v) :: Rd) (put fr d v) H K) : WpE call n ref (⟨⟨d, op, g⟩, b, 1, pre⟩ :: its) H0 E Rd fr H K :=
  WpE.look hw (look_of hx rfl) (AllE.imp (fun H2 q => look_of q rfl) hE) h
theorem WpE.effect {d : Option Nat} (hw : ROper.wanted fr ⟨d, op, g⟩ = true) (hx : op.exec call fr H = some (v, H1)) (hR : AllR b H1 Rd) (h : WpE call (n + 1) ref its H0 ((n, H) :: E) Rd (put fr d v) H1 K) : WpE call n ref (⟨⟨d, op, g⟩, b, 2, pre⟩ :: its) H0 E Rd fr H K := fun R0 E0 Rd0 hn he hrd hI =>
  WpE.next (r := ⟨⟨d, op, g⟩, b, 2, fr, v, true, true, H1, ref⟩) (E0' := E0 ++ [(n, H)]) hn (by
      intro p hp
      rcases List.mem_append.1 hp with hp | hp
      · exact List.mem_cons_of_mem _ (he p hp)
      · simp only [List.mem_singleton] at hp
        subst hp
        exact List.mem_cons_self) hrd (by
      have := hI.effect (e := ⟨⟨d, op, g⟩, b, 2, fr, v, true, true, H1, ref⟩) rfl rfl fun p hp => hR.get (p.1, p.2.okAt) (hrd p hp)
      rw [hn] at this; exact this) (fun R1 fr' H' hd => by
    simp only [dtext, hw, dstep, hx]
    simp only [Nat.beq, nextRef] at hd ⊢
    simp [hd]) h
theorem WpE.made {d : Option Nat} {cs : List AVal} {e : TypeId} {k : Nat → AVal} (hw : ROper.wanted fr ⟨d, op, g⟩ = true) (hm : op.made fr = some (cs, e, k)) (hg : ghostIs H ref cs e = true) (hE : AllE b (fun H2 => ghostIs H2 ref cs e = true) E) (h : WpE call (n + 1) (ref + 1) its H0 E ((n, madeOk op fr ref) :: Rd) (put fr d (k ref)) H K) : WpE call n ref (⟨⟨d, op, g⟩, b, 3, pre⟩ :: its) H0 E Rd fr H K := fun R0 E0 Rd0 hn he hrd hI =>
  WpE.next (r := ⟨⟨d, op, g⟩, b, 3, fr, k ref, true, false, H, ref⟩) (Rd0' := Rd0 ++ [(R0.length, ⟨⟨d, op, g⟩, b, 3, fr, k ref, true, false, H, ref⟩)]) hn he (by
      intro p hp
      rcases List.mem_append.1 hp with hp | hp
      · exact List.mem_cons_of_mem _ (hrd p hp)
      · simp only [List.mem_singleton] at hp
        subst hp
        rw [hn, madeOk_eq rfl]
        exact List.mem_cons_self)
    (hI.read rfl (by simp only [DRec.okAt, Nat.beq, hm, hg]) (fun p hp => (hE.get p (he p hp)).imp id fun q => by simp only [DRec.okAt, Nat.beq, hm, q])) (fun R1 fr' H' hd => by
    simp only [dtext, hw, dstep]
    simp only [Nat.beq, nextRef, hm, hg] at hd ⊢
    simp [hd]) h
theorem ghost_of {r : Nat} {cs : List AVal} {e : TypeId} [h : HasRow H r cs true (2 * e)] : ghostIs H r cs e = true := by
  unfold ghostIs
  have hlt := h.lt
  simp only [h.get, abeqL_refl, Nat.beq_refl, Bool.and_true, Bool.and_self]
  simpa using hlt
theorem made_of {r : Nat} {cs : List AVal} {e : TypeId} {k : Nat → AVal} (hm : op.made fr = some (cs, e, k)) [h : HasRow H r cs true (2 * e)] : madeOk op fr r H = true := by
  unfold madeOk
  rw [hm]
  exact ghost_of
theorem Wp.dregionE (os : List AObj) (ho : oracle its H.n fr H = os) (h : WpE call 0 H.n its (pushAll H os) [] [] fr (pushAll H os) fun fr' H' => Q .normal fr' H') : Wp call lf (.dregion its) fr H Q := by
  obtain ⟨R1, fr', H', h1, h2, h3⟩ := h [] [] [] rfl (by simp) (by simp) (DInv.nil _)
  refine ⟨.normal, fr', H', ?_, h3⟩
  simp only [RCode.exec, ho, h1]
  simp only [List.nil_append] at h2
  rw [h2]
theorem Wp.dregion0 (hno : (its.all fun it => !(Nat.beq it.cls 3)) = true) (h : WpE call 0 H.n its H [] [] fr H fun fr' H' => Q .normal fr' H') : Wp call lf (.dregion its) fr H Q :=
  Wp.dregionE [] (oracle_none its H.n fr H hno) h
theorem oracle_pre {it : DItem} {os : List AObj} {v : AVal} {H2 : AHeap} (hc : Nat.beq it.cls 3 = false) (hp : it.pre = true) (hw : it.o.wanted fr = true) (hx : it.o.op.exec noCall fr H = some (v, H2)) (h : oracle its ref (put fr it.o.dst v) H = os) : oracle (it :: its) ref fr H = os := by
  simp only [oracle, hc, hp, hw, hx, h]
theorem oracle_made {it : DItem} {os : List AObj} {cs : List AVal} {e : TypeId} {k : Nat → AVal} (hc : Nat.beq it.cls 3 = true) (hw : it.o.wanted fr = true) (hm : it.o.op.made fr = some (cs, e, k)) (h : oracle its (ref + 1) (put fr it.o.dst (k ref)) H = os) : oracle (it :: its) ref fr H = .row cs true (2 * e) :: os := by
  simp only [oracle, hc, hw, hm, h]
theorem made_mk {e : TypeId} {z : AVal} {by_ : Nat} {x y : ROpd} {k k' : IntKind} {a : Nat} (hx : x.ev fr = .int k a) (hy : y.ev fr = .int k' a) (h0 : by_ * a ≤ 2 ^ 47 ∧ a < 2 ^ 62) : (ROp.makeSlice e [z] by_ x y).made fr = some ((List.replicate a [z]).flatten, e, fun r => .slice r 0 a (some a) 1) := by
  have h1 : (0 : Int) ≤ (a : Int) ∧ (a : Int) ≤ a ∧ (by_ : Int) * a ≤ 2 ^ 47 ∧ (a : Int) < 2 ^ 62 := by
    have h2 : ((by_ * a : Nat) : Int) ≤ 2 ^ 47 := by omega
    rw [Int.natCast_mul] at h2
    omega
  simp only [ROp.made, hx, hy, if_pos h1, Int.toNat_natCast, List.length_singleton]
end
theorem WpE.pcall {ext : Exts} {prog : FuncId → Option RFunc} {m dd D : Nat} {f : FuncId} {o : ROpd} {l : List ROpd} {args : List AVal} {v : AVal} {d : Option Nat} {n ref : Nat} {its : List DItem} {H0 H : AHeap} {E : List (Nat × AHeap)} {Rd : List (Nat × (AHeap → Bool))} {fr : AFrame} {K : AFrame → AHeap → Prop} {b : Nat} {pre : Bool} {g : Option (Nat × Bool)}
    (hw : ROper.wanted fr ⟨d, .call o l, g⟩ = true) (hn : fuel0 + D ≤ m) (hf : o.ev fr = .func (.func f) [] []) (hl : l.map (·.ev fr) = args) [hc : PureCon ext prog f args H dd v] (hd : Nat.ble dd D = true)
    (h : ∀ H1, ExtI H H1 → AllR b H1 Rd ∧ WpE (callN ext prog m) (n + 1) ref its H0 ((n, H) :: E) Rd (put fr d v) H1 K) : WpE (callN ext prog m) n ref (⟨⟨d, .call o l, g⟩, b, 2, pre⟩ :: its) H0 E Rd fr H K := by
  obtain ⟨v', H1, hx, hv, hext⟩ := exec_con hc.con (Nat.le_trans (Nat.add_le_add_left (Nat.le_of_ble_eq_true hd) _) hn) hf hl
  subst hv
  obtain ⟨h1, h2⟩ := h H1 ⟨hext⟩
  exact WpE.effect hw hx h1 h2
theorem WpE.con {ext : Exts} {prog : FuncId → Option RFunc} {m dd D : Nat} {f : FuncId} {o : ROpd} {l : List ROpd} {args : List AVal} {R : AVal → AHeap → Prop} {d : Option Nat} {n ref : Nat} {its : List DItem} {H0 H : AHeap} {E : List (Nat × AHeap)} {Rd : List (Nat × (AHeap → Bool))} {fr : AFrame} {K : AFrame → AHeap → Prop} {b : Nat} {pre : Bool} {g : Option (Nat × Bool)}
    (hw : ROper.wanted fr ⟨d, .call o l, g⟩ = true) (hn : fuel0 + D ≤ m) (hd : Nat.ble dd D = true) (hf : o.ev fr = .func (.func f) [] []) (hl : l.map (·.ev fr) = args) (hc : Con ext prog dd f args H R)
    (h : ∀ v H1, R v H1 → AllR b H1 Rd ∧ WpE (callN ext prog m) (n + 1) ref its H0 ((n, H) :: E) Rd (put fr d v) H1 K) : WpE (callN ext prog m) n ref (⟨⟨d, .call o l, g⟩, b, 2, pre⟩ :: its) H0 E Rd fr H K := by
  obtain ⟨v', H1, hx, hv⟩ := exec_con hc (Nat.le_trans (Nat.add_le_add_left (Nat.le_of_ble_eq_true hd) _) hn) hf hl
  obtain ⟨h1, h2⟩ := h v' H1 hv
  exact WpE.effect hw hx h1 h2
section
variable {call : ACall} {fr : AFrame} {H : AHeap}
theorem exec_ldN {a : ROpd} {n r off : Nat} {cs : List AVal} {rw : Bool} {e : TypeId} {l : List AVal} (ha : a.ev fr = .ptr r off) [hg : HasRow H r cs rw e] (hv : Nat.ble (off + n) cs.length = true) (hl : (cs.drop off).take n = l) : (ROp.load (some n) a).exec call fr H = some (.agg l, H) := by
  subst hl
  simp only [ROp.exec, ha, aLoad, M.bind, aRow, if_pos hg.lt, hg.get, if_pos (Nat.le_of_ble_eq_true hv), M.pure]
theorem exec_lenP {x : ROpd} {p : AVal} {sz n : Nat} {cs : List AVal} (hx : x.ev fr = p) [s : SliceAt H p sz n cs] : (ROp.lenS x).exec call fr H = some (.int .i64 n, H) := by
  simp only [ROp.exec, hx, s.lenS, M.ofOption, M.pure]
theorem exec_ldB {a : ROpd} {p : AVal} {j : Nat} {l : List UInt8} (ha : a.ev fr = .ptr (rowOf p) (offOf p + j)) [s : BytesI H p l] (hj : j < l.length) : (ROp.load none a).exec call fr H = some (.int .u8 (l[j].toNat : Int), H) := exec_ldP ha (get_bytes hj)
theorem exec_ldI {a : ROpd} {p : AVal} {j : Nat} {l : List Int} (ha : a.ev fr = .ptr (rowOf p) (offOf p + j)) [s : IntsI H p l] (hj : j < l.length) : (ROp.load none a).exec call fr H = some (.int .i64 l[j], H) := exec_ldP ha (get_ints hj)
theorem exec_build {z : List AVal} {ps : List (Nat × Nat × ROpd)} {cs : List AVal} (hf : aFill fr z ps = some cs) : (ROp.build z ps).exec call fr H = some (.agg cs, H) := by simp only [ROp.exec, hf, M.pure]
end
theorem exec_appendNil {H : AHeap} {p : AVal} {l : List UInt8} [h : BytesI H p l] (hl : l.length < 2 ^ 40) (e : TypeId) : ∃ v H', aAppend e 1 1 .nslice p H = some (v, H') ∧ BytesI H' v l ∧ FreshS H v ∧ WrS H' v ∧ Ext H H' := by
  rcases h.it with ⟨rfl, h0, _⟩ | ⟨r, off, cap, row, rw, e0, rfl, hr, hg, hle, hc, _⟩
  · have : l = [] := List.eq_nil_of_length_eq_zero h0
    subst this
    exact ⟨.nslice, H, rfl, ⟨Or.inl ⟨rfl, rfl, rfl⟩⟩, ⟨fun _ _ _ _ _ e => by cases e⟩, ⟨fun _ _ _ _ _ e => by cases e⟩, Ext.refl H⟩
  · have hf : aFirst 1 l.length (.slice r off l.length cap 1) H = some (cellsB l, H) := by
      simp only [aFirst, ne_eq, not_true, if_false, M.bind, aRow, if_pos hr, hg, if_pos hle, hc, M.pure]
    by_cases h0 : l = []
    · subst h0
      refine ⟨.nslice, H, ?_, ⟨Or.inl ⟨rfl, rfl, rfl⟩⟩, ⟨fun _ _ _ _ _ e => by cases e⟩, ⟨fun _ _ _ _ _ e => by cases e⟩, Ext.refl H⟩
      simp only [aAppend, aLenOf, M.bind, hf]
      rfl
    · have hn0 : ¬ l.length = 0 := by simpa using h0
      refine ⟨.slice H.n 0 l.length none 1, H.push (.row (cellsB l) true (2 * e)), ?_, ⟨Or.inr ⟨H.n, 0, none, cellsB l, true, 2 * e, rfl, Nat.lt_succ_self _, push_get_eq, by simp [cellsB_length], by rw [List.drop_zero, List.take_of_length_le (by rw [cellsB_length]; omega)], Nat.le_refl _⟩⟩, ⟨fun _ _ _ _ _ e => by cases e; exact Nat.le_refl _⟩, ⟨fun _ _ _ _ _ e => by cases e; exact ⟨_, _, push_get_eq⟩⟩, (Ext.refl H).push _⟩
      simp only [aAppend, aLenOf, M.bind, hf, cellsB_one, cellsB_length]
      have hroom : 2 * l.length * 1 ≤ 2 ^ 48 := by omega
      simp only [Bool.not_true, Nat.mul_one, ne_eq, not_true, decide_false, qe, Bool.or_false, Bool.false_eq_true, if_false, hn0]
      rw [Nat.mul_one] at hroom
      simp only [if_pos hroom, M.bind, aNew, M.pure]
theorem WpX.appendNil {call : ACall} {fr : AFrame} {H : AHeap} {K : AVal → AHeap → Prop} {e : TypeId} {x y : ROpd} {p : AVal} {l : List UInt8} (hx : x.ev fr = .nslice) (hy : y.ev fr = p) [h : BytesI H p l] (hl : l.length < 2 ^ 40)
    (hk : ∀ v H', BytesI H' v l → FreshS H v → WrS H' v → ExtI H H' → K v H') : WpX (.append e 1 1 x y) call fr H K := by
  obtain ⟨v, H', h1, h2, h3, h4, h5⟩ := exec_appendNil (H := H) (p := p) hl e
  exact ⟨v, H', by simp only [ROp.exec, hx, hy]; exact h1, hk v H' h2 h3 h4 ⟨h5⟩⟩
end Go.Am

namespace Go.Am
open Go
open Nat renaming reduceEqDiff → qe, reduceAdd → qz
open Int renaming reduceBEq → qa, reduceBNe → qn
class IsU8 (k : Int) (b : outParam UInt8) : Prop where
  eq : k = (b.toNat : Int)
instance : IsU8 0 0 := ⟨rfl⟩
instance : IsU8 1 1 := ⟨rfl⟩
instance {b : UInt8} : IsU8 (b.toNat : Int) b := ⟨rfl⟩
instance {H : AHeap} {r : Nat} {k : Int} {b : UInt8} {rw : Bool} {e : TypeId} [h : HasRow H r [.int .u8 k] rw e] [x : IsU8 k b] : BytesI H (.slice r 0 1 (some 1) 1) [b] :=
  ⟨Or.inr ⟨r, 0, some 1, _, rw, e, rfl, h.lt, h.get, by simp, by rw [x.eq]; rfl, Nat.le_refl _⟩⟩
theorem bytesOf_cellsB (l : List UInt8) : bytesOf (cellsB l) = some l := by
  induction l with
  | nil => rfl
  | cons b l ih =>
    show (match bytesOf (cellsB l) with | some l => some (UInt8.ofNat ((b.toNat : Int)).toNat :: l) | none => none) = _
    rw [ih]
    simp
theorem aBytesFn_at {H : AHeap} {p : AVal} {l : List UInt8} [h : BytesI H p l] (f : List UInt8 → AVal) : aBytesFn f p H = some (f l, H) := by
  rcases h.it with ⟨rfl, h0, _⟩ | ⟨r, off, cap, row, rw, e, rfl, hr, hg, hl, hc, _⟩
  · have : l = [] := List.eq_nil_of_length_eq_zero h0
    subst this; rfl
  · have hl' : off + l.length ≤ row.length := by omega
    have hc' : (row.drop off).take l.length = cellsB l := by rw [← hc, Nat.mul_one]
    simp only [aBytesFn, ne_eq, not_true, if_false, M.bind, aRow, if_pos hr, hg, if_pos hl', hc', bytesOf_cellsB, M.pure]
def pxOk (l : List UInt8) : Bool := l.all fun b => b == 0 || b == 1
theorem count01 (l : List UInt8) : (l.count 0 + l.count 1 = l.length) ↔ pxOk l = true := by
  induction l with
  | nil => simp [pxOk]
  | cons b l ih =>
    have hle : l.count 0 + l.count 1 ≤ l.length := by
      clear ih
      induction l with
      | nil => simp
      | cons c l ihl =>
        simp only [List.count_cons, List.length_cons]
        by_cases h0 : c = 0
        · subst h0; simp; omega
        · by_cases h1 : c = 1
          · subst h1; simp; omega
          · simp [h0, h1]; omega
    simp only [pxOk, List.all_cons, Bool.and_eq_true, Bool.or_eq_true, beq_iff_eq, List.count_cons, List.length_cons] at ih ⊢
    by_cases h0 : b = 0
    · subst h0; simp at ih ⊢; rw [← ih]; omega
    · by_cases h1 : b = 1
      · subst h1; simp at ih ⊢; rw [← ih]; omega
      · simp [h0, h1]; omega
theorem count_le (l : List UInt8) (b : UInt8) : l.count b ≤ l.length := List.count_le_length
end Go.Am
namespace Go.Am
open Go
open Nat renaming reduceEqDiff → qe, reduceAdd → qz
open Int renaming reduceBEq → qa, reduceBNe → qn
theorem bind_of {α β : Type} {x : M α} {f : α → M β} {H H' : AHeap} {a : α} (h : x H = some (a, H')) : M.bind x f H = f a H' := by simp [M.bind, h]
theorem exec_appendE {H : AHeap} {p : AVal} {l : List UInt8} {r : Nat} {e0 : TypeId} [h : BytesI H p l] [g : HasRow H r [] true e0] (hl : l.length < 2 ^ 40) (e : TypeId) :
    ∃ v H', aAppend e 1 1 (.slice r 0 0 (some 0) 1) p H = some (v, H') ∧ BytesI H' v l ∧ (∀ r' off len cap sz, v = .slice r' off len cap sz → r' = r ∨ H.n ≤ r') ∧ WrS H' v ∧ Ext H H' := by
  have hf : aLenOf p = some l.length ∧ aFirst 1 l.length p H = some (cellsB l, H) := by
    rcases h.it with ⟨rfl, h0, _⟩ | ⟨r, off, cap, row, rw, e0, rfl, hr, hg, hle, hc, _⟩
    · have : l = [] := List.eq_nil_of_length_eq_zero h0
      subst this; exact ⟨rfl, rfl⟩
    · exact ⟨rfl, by simp only [aFirst, ne_eq, not_true, if_false, M.bind, aRow, if_pos hr, hg, if_pos hle, hc, M.pure]⟩
  have hg1 := g.get
  have hg0 := g.lt
  by_cases h0 : l = []
  · subst h0
    refine ⟨.slice r 0 0 (some 0) 1, H, ?_, ⟨Or.inr ⟨r, 0, some 0, [], true, e0, rfl, hg0, hg1, by simp, by simp [cellsB], Nat.le_refl _⟩⟩, fun r' _ _ _ _ e => by cases e; exact Or.inl rfl, ⟨fun _ _ _ _ _ e => by cases e; exact ⟨_, _, hg1⟩⟩, Ext.refl H⟩
    simp only [aAppend, hf.1, M.bind, List.length_nil] at hf ⊢
    simp only [hf.2]
    simp [cellsB, M.bind, aRow, hg0, hg1, M.pure]
  · have hn0 : ¬ l.length = 0 := by simpa using h0
    refine ⟨.slice H.n 0 (0 + l.length) none 1, H.push (.row (cellsB l) true (2 * e)), ?_, ?_, fun r' _ _ _ _ e => by cases e; exact Or.inr (Nat.le_refl _), ⟨fun _ _ _ _ _ e => by cases e; exact ⟨_, _, push_get_eq⟩⟩, (Ext.refl H).push _⟩
    · simp only [aAppend, hf.1, M.bind, hf.2, cellsB_one, cellsB_length]
      have hroom : 2 * (0 + l.length) * 1 ≤ 2 ^ 48 := by omega
      have hcap : ¬ (0 + l.length ≤ 0) := by omega
      have ha : aRow r H = some (([], true), H) := by simp only [aRow, if_pos hg0, hg1]
      rw [Nat.mul_one] at hroom
      simp only [Bool.not_true, Nat.mul_one, ne_eq, not_true, decide_false, qe, Bool.or_false, Bool.false_eq_true, if_false, hn0, if_neg hcap]
      rw [bind_of ha]
      have hcond : 0 + 0 ≤ ([] : List AVal).length ∧ 2 * (0 + l.length) ≤ 2 ^ 48 := ⟨by simp, hroom⟩
      simp only [if_pos hcond]
      rfl
    · rw [Nat.zero_add]
      exact ⟨Or.inr ⟨H.n, 0, none, cellsB l, true, 2 * e, rfl, Nat.lt_succ_self _, push_get_eq, by simp [cellsB_length], by rw [List.drop_zero, List.take_of_length_le (by rw [cellsB_length]; omega)], Nat.le_refl _⟩⟩
theorem WpX.appendE {call : ACall} {fr : AFrame} {H : AHeap} {K : AVal → AHeap → Prop} {e e0 : TypeId} {x y : ROpd} {p : AVal} {l : List UInt8} {r : Nat} (hx : x.ev fr = .slice r 0 0 (some 0) 1) (hy : y.ev fr = p) [h : BytesI H p l] [g : HasRow H r [] true e0] (hl : l.length < 2 ^ 40)
    (hk : ∀ v H', BytesI H' v l → (∀ r' off len cap sz, v = .slice r' off len cap sz → r' = r ∨ H.n ≤ r') → WrS H' v → ExtI H H' → K v H') : WpX (.append e 1 1 x y) call fr H K := by
  obtain ⟨v, H', h1, h2, h3, h4, h5⟩ := exec_appendE (H := H) (p := p) (r := r) hl e
  exact ⟨v, H', by simp only [ROp.exec, hx, hy]; exact h1, hk v H' h2 h3 h4 ⟨h5⟩⟩
end Go.Am
namespace Go.Am
open Go
open Nat renaming reduceEqDiff → qe, reduceAdd → qz
open Int renaming reduceBEq → qa, reduceBNe → qn
section
variable {call : ACall} {n ref : Nat} {its : List DItem} {H0 H : AHeap} {E : List (Nat × AHeap)} {Rd : List (Nat × (AHeap → Bool))} {fr : AFrame} {K : AFrame → AHeap → Prop} {b : Nat} {pre : Bool} {g : Option (Nat × Bool)}
theorem WpE.stB {d : Option Nat} {a x : ROpd} {p : AVal} {j : Nat} {l : List UInt8} {k : Int} (c : UInt8) (hw : ROper.wanted fr ⟨d, .store 1 a x, g⟩ = true) (ha : a.ev fr = .ptr (rowOf p) (offOf p + j)) (hx : x.ev fr = .int .u8 k) (hk : k = (c.toNat : Int)) [s : BytesI H p l] [w : WrS H p] (hj : j < l.length)
    (h : ∀ H1, BytesI H1 p (l.set j c) → WrS H1 p → ExtP H H1 p → AllR b H1 Rd ∧ WpE call (n + 1) ref its H0 ((n, H) :: E) Rd (put fr d aundef) H1 K) : WpE call n ref (⟨⟨d, .store 1 a x, g⟩, b, 2, pre⟩ :: its) H0 E Rd fr H K := by
  obtain ⟨v, H1, h1, rfl, h2, h3, h4⟩ := WpX.stB (call := call) (K := fun v H1 => v = aundef ∧ BytesI H1 p (l.set j c) ∧ WrS H1 p ∧ ExtP H H1 p) c ha hx hk hj fun H1 q1 q2 q3 => ⟨rfl, q1, q2, q3⟩
  obtain ⟨h5, h6⟩ := h H1 h2 h3 h4
  exact WpE.effect hw h1 h5 h6
end
theorem zip_range {op : UInt8 → UInt8 → UInt8} {l m : List UInt8} (h : l.length = m.length) : (List.range l.length).map (fun i => op (l.getD i 0) (m.getD i 0)) = List.zipWith op l m := by
  apply List.ext_getElem
  · simp [h]
  · intro i h1 h2
    simp at h1 h2
    have h3 : i < m.length := by omega
    simp [h1, h3]
end Go.Am

namespace Go.Am
open Go
theorem ag0 (v : AVal) (vs : List AVal) : argFrame (v :: vs) 0 = v := rfl
theorem ag1 (v w : AVal) (vs : List AVal) : argFrame (v :: w :: vs) 1 = w := rfl
theorem ag2 (v w x : AVal) (vs : List AVal) : argFrame (v :: w :: x :: vs) 2 = x := rfl
theorem ag3 (v w x y : AVal) (vs : List AVal) : argFrame (v :: w :: x :: y :: vs) 3 = y := rfl
theorem ag4 (v w x y z : AVal) (vs : List AVal) : argFrame (v :: w :: x :: y :: z :: vs) 4 = z := rfl
theorem fx1 (fr : AFrame) : updL [] fr = fr := rfl
theorem fx2 (p : Nat × AVal) (l : List (Nat × AVal)) (fr : AFrame) : updL (p :: l) fr = upd (updL l fr) p.1 p.2 := rfl
theorem fx3 (g fr : AFrame) : mix [] g fr = fr := rfl
theorem fx4 (d : Nat) (D : List Nat) (g fr : AFrame) : mix (d :: D) g fr = upd (mix D g fr) d (g d) := rfl
theorem nrmS : (∀ (a b : AVal) l, (a :: l).set 4 b = a :: l.set 3 b) ∧ (∀ (a b : AVal) l, (a :: l).set 5 b = a :: l.set 4 b) ∧ (∀ (a b : AVal) l, (a :: l).set 6 b = a :: l.set 5 b) ∧ (∀ (a b : AVal) l, (a :: l).set 7 b = a :: l.set 6 b) ∧ (∀ (a b : AVal) l, (a :: l).set 8 b = a :: l.set 7 b) ∧ (∀ (a b : AVal) l, (a :: l).set 9 b = a :: l.set 8 b) ∧ (∀ (a b : AVal) l, (a :: l).set 10 b = a :: l.set 9 b) ∧ (∀ (a b : AVal) l, (a :: l).set 11 b = a :: l.set 10 b) ∧ (∀ (a b : AVal) l, (a :: l).set 12 b = a :: l.set 11 b) ∧ (∀ (a b : AVal) l, (a :: l).set 13 b = a :: l.set 12 b) ∧ (∀ (a b : AVal) l, (a :: l).set 14 b = a :: l.set 13 b) ∧ (∀ (a b : AVal) l, (a :: l).set 15 b = a :: l.set 14 b) := ⟨fun _ _ _ => rfl, fun _ _ _ => rfl, fun _ _ _ => rfl, fun _ _ _ => rfl, fun _ _ _ => rfl, fun _ _ _ => rfl, fun _ _ _ => rfl, fun _ _ _ => rfl, fun _ _ _ => rfl, fun _ _ _ => rfl, fun _ _ _ => rfl, fun _ _ _ => rfl⟩
theorem nrmK : (∀ v vs, argFrame (v :: vs) 0 = v) ∧ (∀ v w vs, argFrame (v :: w :: vs) 1 = w) ∧ (∀ v w x vs, argFrame (v :: w :: x :: vs) 2 = x) ∧ (∀ v w x y vs, argFrame (v :: w :: x :: y :: vs) 3 = y) ∧ (∀ v w x y z vs, argFrame (v :: w :: x :: y :: z :: vs) 4 = z) ∧ (∀ v w x y z u vs, argFrame (v :: w :: x :: y :: z :: u :: vs) 5 = u) ∧ (∀ fr, updL [] fr = fr) ∧ (∀ p l fr, updL (p :: l) fr = upd (updL l fr) p.1 p.2) ∧ (∀ g fr, mix [] g fr = fr) ∧ (∀ d D g fr, mix (d :: D) g fr = upd (mix D g fr) d (g d)) := ⟨ag0, ag1, ag2, ag3, ag4, fun _ _ _ _ _ _ _ => rfl, fx1, fx2, fx3, fx4⟩
theorem nrmL : (∀ fr t, ROpd.ev fr (.tmp t) = fr t) ∧ (∀ fr v, ROpd.ev fr (.val v) = v) ∧ (∀ fr d v i, upd fr d v i = if i = d then v else fr i) := ⟨fun _ _ => rfl, fun _ _ => rfl, upd_at⟩
section
variable {call : ACall} {lf : Nat} {fr : AFrame} {H : AHeap} {Q : RExit → AFrame → AHeap → Prop} {KF : AFrame → AHeap → Prop} {os : List ROper} {d : Nat}
theorem Fr.region {ops : List ROper} (h : ∀ KF : AFrame → AHeap → Prop, (∀ fr' H', Q .normal fr' H' → KF fr' H') → WpO call ops fr H KF) : Wp call lf (.region ops) fr H Q := Wp.region (h _ fun _ _ q => q)
theorem Fr.quiet {its : List DItem} {ops : List ROper} (hq : quiet its = true) (ho : opsOf its = ops) (h : ∀ KF : AFrame → AHeap → Prop, (∀ fr' H', Q .normal fr' H' → KF fr' H') → WpO call ops fr H KF) : Wp call lf (.dregion its) fr H Q := Wp.dquiet hq ho (h _ fun _ _ q => q)
theorem Fr.dregion0 {its : List DItem} (hno : (its.all fun it => !(Nat.beq it.cls 3)) = true) (h : ∀ KF : AFrame → AHeap → Prop, (∀ fr' H', Q .normal fr' H' → KF fr' H') → WpE call 0 H.n its H [] [] fr H KF) : Wp call lf (.dregion its) fr H Q := Wp.dregion0 hno (h _ fun _ _ q => q)
theorem Fr.dregionE {its : List DItem} (os : List AObj) (ho : oracle its H.n fr H = os) (h : ∀ KF : AFrame → AHeap → Prop, (∀ fr' H', Q .normal fr' H' → KF fr' H') → WpE call 0 H.n its (pushAll H os) [] [] fr (pushAll H os) KF) : Wp call lf (.dregion its) fr H Q := Wp.dregionE os ho (h _ fun _ _ q => q)
theorem Fo.ld {a : ROpd} {r off : Nat} {cs : List AVal} {rw : Bool} {e : TypeId} {v : AVal} (ha : a.ev fr = .ptr r off) [hg : HasRow H r cs rw e] (hv : cs[off]? = some v) (h : WpO call os (upd fr d v) H KF) : WpO call (⟨some d, .load none a, none⟩ :: os) fr H KF := WpO.do (WpX.ld ha hv h)
theorem Fo.ldN {a : ROpd} {n r off : Nat} {cs : List AVal} {rw : Bool} {e : TypeId} {l : List AVal} (ha : a.ev fr = .ptr r off) [hg : HasRow H r cs rw e] (hv : Nat.ble (off + n) cs.length = true) (hl : (cs.drop off).take n = l) (h : WpO call os (upd fr d (.agg l)) H KF) : WpO call (⟨some d, .load (some n) a, none⟩ :: os) fr H KF := WpO.do (WpX.ldN ha hv hl h)
theorem Fo.len {x : ROpd} {p v : AVal} {sz n : Nat} {cs : List AVal} (hx : x.ev fr = p) [s : SliceAt H p sz n cs] (hv : AVal.int .i64 n = v) (h : WpO call os (upd fr d v) H KF) : WpO call (⟨some d, .lenS x, none⟩ :: os) fr H KF := by subst hv; exact WpO.do (WpX.lenP hx h)
theorem Fo.now {op : ROp} {v v' : AVal} {H1 : AHeap} (_ : nowOk op = true) (hx : op.exec call fr H = some (v, H1)) (hv : v = v') (h : WpO call os (upd fr d v') H1 KF) : WpO call (⟨some d, op, none⟩ :: os) fr H KF := by subst hv; exact WpO.step rfl ⟨v, H1, hx, h⟩
theorem Fo.box {e : TypeId} {x : ROpd} {v : AVal} {cs : List AVal} (hx : x.ev fr = v) (hc : v.cells = cs) (h : WpO call os (upd fr d (.ptr H.n 0)) (H.push (.row cs true (2 * e))) KF) : WpO call (⟨some d, .box e x, none⟩ :: os) fr H KF := by subst hx hc; exact WpO.do (WpX.box h)
theorem Fo.new {e : TypeId} {cs : List AVal} (h : WpO call os (upd fr d (.ptr H.n 0)) (H.push (.row cs true (2 * e))) KF) : WpO call (⟨some d, .new e cs, none⟩ :: os) fr H KF := WpO.do (WpX.new h)
theorem Fo.bslice {e : TypeId} {sz len : Nat} {zero : List AVal} {parts : List (Nat × Nat × ROpd)} {cs cs' : List AVal} (hf : aFill fr zero parts = some cs) (hc : cs = cs') (h : WpO call os (upd fr d (.slice H.n 0 len (some len) sz)) (H.push (.row cs' true (2 * e))) KF) : WpO call (⟨some d, .buildSlice e sz len zero parts, none⟩ :: os) fr H KF := by
  subst hc
  exact WpO.step rfl ⟨_, _, by simp only [ROp.exec, hf, M.bind, aNew, M.pure], h⟩
theorem Fo.st {a x : ROpd} {n r off : Nat} {cs : List AVal} {e : TypeId} {v : AVal} {vs l : List AVal} (ha : a.ev fr = .ptr r off) (hx : x.ev fr = v) (hvs : v.cells = vs) (hn : Nat.beq vs.length n = true) [hg : HasRow H r cs true e] (hl : Nat.ble (off + vs.length) cs.length = true) (ho : vs.all AVal.one = true)
    (hs : setAt cs off vs = l) (h : WpO call os fr (H.set r (.row l true e)) KF) : WpO call (⟨none, .store n a x, none⟩ :: os) fr H KF := WpO.do' (WpX.st ha hx hvs hn hl ho hs h)
theorem Fo.idx {x i : ROpd} {p : AVal} {sz n o : Nat} {cs : List AVal} {k : IntKind} {a : Int} (hx : x.ev fr = p) (hi : i.ev fr = .int k a) [s : SliceAt H p sz n cs] (h0 : 0 ≤ a ∧ a < n) (ho : offOf p + a.toNat * sz = o) (h : WpO call os (upd fr d (.ptr (rowOf p) o)) H KF) : WpO call (⟨some d, .idxS sz x i, none⟩ :: os) fr H KF := by
  subst ho; exact WpO.do (WpX.idxP hx hi h0 h)
theorem Fo.ldB {a : ROpd} {p v : AVal} {j : Nat} {l : List UInt8} (ha : a.ev fr = .ptr (rowOf p) (offOf p + j)) [s : BytesI H p l] (hj : j < l.length) (hv : AVal.int .u8 (l[j].toNat : Int) = v) (h : WpO call os (upd fr d v) H KF) : WpO call (⟨some d, .load none a, none⟩ :: os) fr H KF := by
  subst hv; exact WpO.do (WpX.ldB ha hj h)
theorem Fo.ldI {a : ROpd} {p v : AVal} {j : Nat} {l : List Int} (ha : a.ev fr = .ptr (rowOf p) (offOf p + j)) [s : IntsI H p l] (hj : j < l.length) (hv : AVal.int .i64 l[j] = v) (h : WpO call os (upd fr d v) H KF) : WpO call (⟨some d, .load none a, none⟩ :: os) fr H KF := by
  subst hv; exact WpO.do (WpX.ldI ha hj h)
theorem Fo.build {z : List AVal} {ps : List (Nat × Nat × ROpd)} {cs cs' : List AVal} (hf : aFill fr z ps = some cs) (hc : cs = cs') (h : WpO call os (upd fr d (.agg cs')) H KF) : WpO call (⟨some d, .build z ps, none⟩ :: os) fr H KF := by
  subst hc; exact WpO.do (WpX.build hf h)
theorem Fo.yes {d : Option Nat} {op : ROp} {t : Nat} {want b : Bool} (hb : fr t = .bool b) (hw : b = want) (h : WpO call (⟨d, op, none⟩ :: os) fr H KF) : WpO call (⟨d, op, some (t, want)⟩ :: os) fr H KF := WpO.guard hb (fun _ => h) fun q => absurd hw q
theorem Fo.no {d : Nat} {op : ROp} {t : Nat} {want b : Bool} (hb : fr t = .bool b) (hw : (!b) = want) (h : WpO call os (upd fr d aundef) H KF) : WpO call (⟨some d, op, some (t, want)⟩ :: os) fr H KF := WpO.guard hb (fun q => absurd q (by subst hw; cases b <;> decide)) fun _ => h
theorem Fo.noU {d : Nat} {op : ROp} {t : Nat} {want : Bool} (hb : fr t = aundef) (h : WpO call os (upd fr d aundef) H KF) : WpO call (⟨some d, op, some (t, want)⟩ :: os) fr H KF := WpO.skip (by simp only [ROper.wanted, hb, aundef]) h
end
section
variable {ext : Exts} {prog : FuncId → Option RFunc} {fr : AFrame} {H : AHeap} {KF : AFrame → AHeap → Prop} {os : List ROper} {d : Nat}
theorem Fo.pcall {n dd D : Nat} {f : FuncId} {o : ROpd} {l : List ROpd} {args : List AVal} {v v' : AVal} (hn : fuel0 + D ≤ n) (hf : o.ev fr = .func (.func f) [] []) (hl : l.map (·.ev fr) = args) [hc : PureCon ext prog f args H dd v] (hd : Nat.ble dd D = true) (hv : v = v')
    (h : ∀ H1, ExtI H H1 → WpO (callN ext prog n) os (upd fr d v') H1 KF) : WpO (callN ext prog n) (⟨some d, .call o l, none⟩ :: os) fr H KF := by
  subst hv; exact WpO.do (WpX.pcall hn hf hl hd h)
end
section
variable {call : ACall} {n ref : Nat} {its : List DItem} {H0 H H1 : AHeap} {E : List (Nat × AHeap)} {Rd : List (Nat × (AHeap → Bool))} {fr : AFrame} {K : AFrame → AHeap → Prop} {b : Nat} {pre : Bool} {g : Option (Nat × Bool)} {d : Nat}
theorem Fe.pure {op : ROp} {v v' : AVal} (hw : ROper.wanted fr ⟨some d, op, g⟩ = true) (hx : op.exec noCall fr H = some (v, H)) (hv : v = v') (h : WpE call (n + 1) ref its H0 E Rd (upd fr d v') H K) : WpE call n ref (⟨⟨some d, op, g⟩, b, 0, pre⟩ :: its) H0 E Rd fr H K := by
  subst hv; exact WpE.pure hw hx h
theorem Fe.read {op : ROp} {v v' : AVal} (hw : ROper.wanted fr ⟨some d, op, g⟩ = true) (hx : op.exec noCall fr H = some (v, H)) (hv : v = v') (hE : AllE b (fun H2 => op.exec noCall fr H2 = some (v, H2)) E) (h : WpE call (n + 1) ref its H0 E ((n, readOk op fr v) :: Rd) (upd fr d v') H K) : WpE call n ref (⟨⟨some d, op, g⟩, b, 1, pre⟩ :: its) H0 E Rd fr H K := by
  subst hv; exact WpE.read hw hx hE h
theorem Fe.skip {cls : Nat} {op : ROp} (hw : ROper.wanted fr ⟨some d, op, g⟩ = false) (h : WpE call (n + 1) (nextRef cls ref) its H0 E Rd (upd fr d aundef) H K) : WpE call n ref (⟨⟨some d, op, g⟩, b, cls, pre⟩ :: its) H0 E Rd fr H K := WpE.skip hw h
theorem Fe.made {op : ROp} {cs : List AVal} {e : TypeId} {k : Nat → AVal} {v : AVal} (hw : ROper.wanted fr ⟨some d, op, g⟩ = true) (hm : op.made fr = some (cs, e, k)) (hg : ghostIs H ref cs e = true) (hE : AllE b (fun H2 => ghostIs H2 ref cs e = true) E) (hv : k ref = v) (h : WpE call (n + 1) (ref + 1) its H0 E ((n, madeOk op fr ref) :: Rd) (upd fr d v) H K) : WpE call n ref (⟨⟨some d, op, g⟩, b, 3, pre⟩ :: its) H0 E Rd fr H K := by
  subst hv; exact WpE.made hw hm hg hE h
theorem Fe.effect0 {op : ROp} {v : AVal} (hw : ROper.wanted fr ⟨none, op, g⟩ = true) (hx : op.exec call fr H = some (v, H1)) (hR : AllR b H1 Rd) (h : WpE call (n + 1) ref its H0 ((n, H) :: E) Rd fr H1 K) : WpE call n ref (⟨⟨none, op, g⟩, b, 2, pre⟩ :: its) H0 E Rd fr H K := WpE.effect hw hx hR h
end
section
variable {ext : Exts} {prog : FuncId → Option RFunc} {n ref : Nat} {its : List DItem} {H0 H H1 : AHeap} {E : List (Nat × AHeap)} {Rd : List (Nat × (AHeap → Bool))} {fr : AFrame} {K : AFrame → AHeap → Prop} {b : Nat} {pre : Bool} {g : Option (Nat × Bool)} {d : Nat}
theorem Fe.pcall {m dd D : Nat} {f : FuncId} {o : ROpd} {l : List ROpd} {args : List AVal} {v v' : AVal} (hw : ROper.wanted fr ⟨some d, .call o l, g⟩ = true) (hn : fuel0 + D ≤ m) (hf : o.ev fr = .func (.func f) [] []) (hl : l.map (·.ev fr) = args) [hc : PureCon ext prog f args H dd v] (hd : Nat.ble dd D = true) (hv : v = v')
    (h : ∀ H1, ExtI H H1 → AllR b H1 Rd ∧ WpE (callN ext prog m) (n + 1) ref its H0 ((n, H) :: E) Rd (upd fr d v') H1 K) : WpE (callN ext prog m) n ref (⟨⟨some d, .call o l, g⟩, b, 2, pre⟩ :: its) H0 E Rd fr H K := by
  subst hv; exact WpE.pcall hw hn hf hl hd h
theorem Fe.con {m dd D : Nat} {f : FuncId} {o : ROpd} {l : List ROpd} {args : List AVal} {R : AVal → AHeap → Prop} (hw : ROper.wanted fr ⟨some d, .call o l, g⟩ = true) (hn : fuel0 + D ≤ m) (hd : Nat.ble dd D = true) (hf : o.ev fr = .func (.func f) [] []) (hl : l.map (·.ev fr) = args) (hc : Con ext prog dd f args H R)
    (h : ∀ v H1, R v H1 → AllR b H1 Rd ∧ WpE (callN ext prog m) (n + 1) ref its H0 ((n, H) :: E) Rd (upd fr d v) H1 K) : WpE (callN ext prog m) n ref (⟨⟨some d, .call o l, g⟩, b, 2, pre⟩ :: its) H0 E Rd fr H K := WpE.con hw hn hd hf hl hc h
end
end Go.Am
namespace Go.Am
open Go
section
variable {call : ACall} {fr : AFrame} {H : AHeap} {KF : AFrame → AHeap → Prop} {os : List ROper} {d : Nat}
theorem Fo.mov {x : ROpd} {v : AVal} (hx : x.ev fr = v) (h : WpO call os (upd fr d v) H KF) : WpO call (⟨some d, .mov x, none⟩ :: os) fr H KF := by subst hx; exact WpO.do (WpX.mov h)
theorem Fo.fa {x : ROpd} {r o off : Nat} (hx : x.ev fr = .ptr r o) (h : WpO call os (upd fr d (.ptr r (o + off))) H KF) : WpO call (⟨some d, .fieldAddr off x, none⟩ :: os) fr H KF := WpO.do (WpX.fieldAddr hx h)
theorem Fo.pickT {c a b : ROpd} {v : AVal} (hc : c.ev fr = .bool true) (hx : a.ev fr = v) (h : WpO call os (upd fr d v) H KF) : WpO call (⟨some d, .pick c a b, none⟩ :: os) fr H KF := by subst hx; exact WpO.do (WpX.pick hc h)
theorem Fo.pickF {c a b : ROpd} {v : AVal} (hc : c.ev fr = .bool false) (hx : b.ev fr = v) (h : WpO call os (upd fr d v) H KF) : WpO call (⟨some d, .pick c a b, none⟩ :: os) fr H KF := by subst hx; exact WpO.do (WpX.pick hc h)
theorem Fo.extr {x : ROpd} {i : Nat} {vs : List AVal} {v : AVal} (hx : x.ev fr = .tuple vs) (hv : vs[i]? = some v) (h : WpO call os (upd fr d v) H KF) : WpO call (⟨some d, .extract x i, none⟩ :: os) fr H KF := WpO.do (WpX.extract hx hv h)
theorem Fo.bin {op : BinOp} {x y : ROpd} {a b v v' : AVal} (hx : x.ev fr = a) (hy : y.ev fr = b) (hv : aBin op a b = some v) (he : v = v') (h : WpO call os (upd fr d v') H KF) : WpO call (⟨some d, .bin op x y, none⟩ :: os) fr H KF := by
  subst hx hy he
  exact WpO.step rfl ⟨v, H, by simp only [ROp.exec, hv, M.ofOption, M.pure], h⟩
end
end Go.Am
namespace Go.Am
open Go
section
variable {call : ACall} {fr : AFrame} {H : AHeap} {KF : AFrame → AHeap → Prop} {os : List ROper} {d : Nat}
theorem Fo.boxA {e : TypeId} {x : ROpd} {cs : List AVal} (hx : x.ev fr = .agg cs) (h : WpO call os (upd fr d (.ptr H.n 0)) (H.push (.row cs true (2 * e))) KF) : WpO call (⟨some d, .box e x, none⟩ :: os) fr H KF := Fo.box hx rfl h
theorem Fo.box1 {e : TypeId} {x : ROpd} {v : AVal} (hx : x.ev fr = v) [o : OneV v] (h : WpO call os (upd fr d (.ptr H.n 0)) (H.push (.row [v] true (2 * e))) KF) : WpO call (⟨some d, .box e x, none⟩ :: os) fr H KF := Fo.box hx o.cells h
end
end Go.Am

namespace Go.Am
open Go
section
variable {call : ACall} {lf : Nat} {fr : AFrame} {H : AHeap} {Q : RExit → AFrame → AHeap → Prop} {KF : AFrame → AHeap → Prop} {os : List ROper} {d : Nat}
theorem mI {x : ROpd} {k : IntKind} {n : Int} (h : WpO call os (upd fr d (.int k n)) H KF) (hx : x.ev fr = .int k n := by exact rfl) : WpO call (⟨some d, .mov x, none⟩ :: os) fr H KF := Fo.mov hx h
theorem mB {x : ROpd} {b : Bool} (h : WpO call os (upd fr d (.bool b)) H KF) (hx : x.ev fr = .bool b := by exact rfl) : WpO call (⟨some d, .mov x, none⟩ :: os) fr H KF := Fo.mov hx h
theorem mT {x : ROpd} {l : List AVal} (h : WpO call os (upd fr d (.tuple l)) H KF) (hx : x.ev fr = .tuple l := by exact rfl) : WpO call (⟨some d, .mov x, none⟩ :: os) fr H KF := Fo.mov hx h
theorem mF {x : ROpd} {f : Fn} {a b : List AVal} (h : WpO call os (upd fr d (.func f a b)) H KF) (hx : x.ev fr = .func f a b := by exact rfl) : WpO call (⟨some d, .mov x, none⟩ :: os) fr H KF := Fo.mov hx h
theorem mN {x : ROpd} (h : WpO call os (upd fr d .nslice) H KF) (hx : x.ev fr = .nslice := by exact rfl) : WpO call (⟨some d, .mov x, none⟩ :: os) fr H KF := Fo.mov hx h
theorem tB {c a b : ROpd} {n : Bool} (h : WpO call os (upd fr d (.bool n)) H KF) (hc : c.ev fr = .bool true := by exact rfl) (hx : a.ev fr = .bool n := by exact rfl) : WpO call (⟨some d, .pick c a b, none⟩ :: os) fr H KF := Fo.pickT hc hx h
theorem fB {c a b : ROpd} {n : Bool} (h : WpO call os (upd fr d (.bool n)) H KF) (hc : c.ev fr = .bool false := by exact rfl) (hx : b.ev fr = .bool n := by exact rfl) : WpO call (⟨some d, .pick c a b, none⟩ :: os) fr H KF := Fo.pickF hc hx h
theorem sq {a b : RCode} (h : Wp call lf a fr H fun x fr' H' => match x with | .normal => Wp call lf b fr' H' Q | e => Q e fr' H') : Wp call lf (.seq a b) fr H Q := Wp.seq h
theorem rg {ops : List ROper} (h : ∀ KF : AFrame → AHeap → Prop, (∀ fr' H', Q .normal fr' H' → KF fr' H') → WpO call ops fr H KF) : Wp call lf (.region ops) fr H Q := Fr.region h
theorem ct {c : ROpd} {t e : RCode} (hc : c.ev fr = .bool true) (h : Wp call lf t fr H Q) : Wp call lf (.cond c t e) fr H Q := Wp.cond (b := true) hc h
theorem cf {c : ROpd} {t e : RCode} (hc : c.ev fr = .bool false) (h : Wp call lf e fr H Q) : Wp call lf (.cond c t e) fr H Q := Wp.cond (b := false) hc h
theorem nl {A : AFrame → AHeap → Prop} (hK : ∀ fr H, A fr H → KF fr H) (h : A fr H) : WpO call [] fr H KF := WpO.nil (hK _ _ h)
theorem sk (h : Q .normal fr H) : Wp call lf .skip fr H Q := Wp.skip h
theorem rt (h : Q .ret fr H) : Wp call lf .ret fr H Q := Wp.ret h
theorem xi {id : Nat} (h : Q (.exit id) fr H) : Wp call lf (.exit id) fr H Q := Wp.exit h
theorem oy {d : Option Nat} {op : ROp} {t : Nat} {want b : Bool} (h : WpO call (⟨d, op, none⟩ :: os) fr H KF) (hb : fr t = .bool b := by exact rfl) (hw : b = want := by exact rfl) : WpO call (⟨d, op, some (t, want)⟩ :: os) fr H KF := Fo.yes hb hw h
theorem ox {d : Nat} {op : ROp} {t : Nat} {want b : Bool} (h : WpO call os (upd fr d aundef) H KF) (hb : fr t = .bool b := by exact rfl) (hw : (!b) = want := by exact rfl) : WpO call (⟨some d, op, some (t, want)⟩ :: os) fr H KF := Fo.no hb hw h
theorem fd {x : ROpd} {r o off : Nat} (h : WpO call os (upd fr d (.ptr r (o + off))) H KF) (hx : x.ev fr = .ptr r o := by exact rfl) : WpO call (⟨some d, .fieldAddr off x, none⟩ :: os) fr H KF := Fo.fa hx h
theorem mv {x : ROpd} {v : AVal} (h : WpO call os (upd fr d v) H KF) (hx : x.ev fr = v := by simp only [↓nrmL, nrmK, Nat.reduceEqDiff, ↓reduceIte]; rfl) : WpO call (⟨some d, .mov x, none⟩ :: os) fr H KF := Fo.mov hx h
theorem b0 {op : BinOp} {x y : ROpd} {a b v : AVal} (h : WpO call os (upd fr d v) H KF) (hx : x.ev fr = a := by exact rfl) (hy : y.ev fr = b := by exact rfl) (hv : aBin op a b = some v := by exact rfl) : WpO call (⟨some d, .bin op x y, none⟩ :: os) fr H KF := Fo.bin hx hy hv rfl h
theorem bn {op : BinOp} {x y : ROpd} {a b v v' : AVal} (hx : x.ev fr = a) (hy : y.ev fr = b) (hv : aBin op a b = some v) (he : v = v') (h : WpO call os (upd fr d v') H KF) : WpO call (⟨some d, .bin op x y, none⟩ :: os) fr H KF := Fo.bin hx hy hv he h
theorem xt {x : ROpd} {i : Nat} {vs : List AVal} {v : AVal} (h : WpO call os (upd fr d v) H KF) (hx : x.ev fr = .tuple vs := by exact rfl) (hv : vs[i]? = some v := by exact rfl) : WpO call (⟨some d, .extract x i, none⟩ :: os) fr H KF := Fo.extr hx hv h
theorem bA {e : TypeId} {x : ROpd} {cs : List AVal} (h : WpO call os (upd fr d (.ptr H.n 0)) (H.push (.row cs true (2 * e))) KF) (hx : x.ev fr = .agg cs := by exact rfl) : WpO call (⟨some d, .box e x, none⟩ :: os) fr H KF := Fo.boxA hx h
theorem nw {e : TypeId} {cs : List AVal} (h : WpO call os (upd fr d (.ptr H.n 0)) (H.push (.row cs true (2 * e))) KF) : WpO call (⟨some d, .new e cs, none⟩ :: os) fr H KF := Fo.new h
theorem ln {x : ROpd} {p : AVal} {sz n : Nat} {cs : List AVal} (hx : x.ev fr = p) [s : SliceAt H p sz n cs] (h : WpO call os (upd fr d (.int .i64 n)) H KF) : WpO call (⟨some d, .lenS x, none⟩ :: os) fr H KF := Fo.len hx rfl h
theorem ob {z : List AVal} {ps : List (Nat × Nat × ROpd)} {cs cs' : List AVal} (hc : cs = cs') (h : WpO call os (upd fr d (.agg cs')) H KF) (hf : aFill fr z ps = some cs := by repeat (first | refine aFill1 (by first | exact (rfl : _ = AVal.int _ _) | exact (rfl : _ = AVal.ptr _ _) | exact (rfl : _ = AVal.bool _) | exact (rfl : _ = AVal.agg _) | exact (rfl : _ = AVal.tuple _) | exact (rfl : _ = AVal.func _ _ _) | exact (rfl : _ = AVal.nslice) | ((try simp only [↓nrmL, nrmK, Nat.reduceEqDiff, ↓reduceIte]); rfl)) rfl ?_ | rfl)) : WpO call (⟨some d, .build z ps, none⟩ :: os) fr H KF := Fo.build hf hc h
theorem so {a x : ROpd} {n r off : Nat} {cs : List AVal} {e : TypeId} {v : AVal} {vs l : List AVal} {os : List ROper} (ha : a.ev fr = .ptr r off) (hx : x.ev fr = v) (hvs : v.cells = vs) (hn : Nat.beq vs.length n = true) [hg : HasRow H r cs true e] (hl : Nat.ble (off + vs.length) cs.length = true)
    (hs : setAt cs off vs = l) (h : WpO call os fr (H.set r (.row l true e)) KF) (ho : vs.all AVal.one = true := by repeat (first | rfl | refine allOne_cons ?_)) : WpO call (⟨none, .store n a x, none⟩ :: os) fr H KF := Fo.st ha hx hvs hn hl ho hs h
end
theorem xs {call : ACall} {fr : AFrame} {H : AHeap} {a x : ROpd} {n r off : Nat} {cs : List AVal} {e : TypeId} {v : AVal} {vs l : List AVal} (ha : a.ev fr = .ptr r off) (hx : x.ev fr = v) (hvs : v.cells = vs) (hn : Nat.beq vs.length n = true) [hg : HasRow H r cs true e] (hl : Nat.ble (off + vs.length) cs.length = true)
    (hs : setAt cs off vs = l) (ho : vs.all AVal.one = true := by repeat (first | rfl | refine allOne_cons ?_)) : (ROp.store n a x).exec call fr H = some (aundef, H.set r (.row l true e)) := exec_st ha hx hvs hn hl ho hs
theorem rz {A : Prop} {fr : AFrame} {res : List RRes} {H : AHeap} {vs : List AVal} {Q : List AVal → Prop} (hA : A) (h : Q vs) (hg : getAll fr res H = some (vs, H) := by first | rfl | exact getAllC rfl rfl rfl rfl | exact getAllT rfl (getAllC rfl rfl rfl rfl) | exact getAllC rfl rfl rfl (getAllC rfl rfl rfl rfl) | exact getAllC1 rfl rfl rfl) : A ∧ ∃ vs, getAll fr res H = some (vs, H) ∧ Q vs := ⟨hA, vs, hg, h⟩
section
variable {call : ACall} {n ref : Nat} {its : List DItem} {H0 H H1 : AHeap} {E : List (Nat × AHeap)} {Rd : List (Nat × (AHeap → Bool))} {fr : AFrame} {K : AFrame → AHeap → Prop} {b : Nat} {pre : Bool} {g : Option (Nat × Bool)} {d : Nat}
theorem Er {op : ROp} {v v' : AVal} (hw : ROper.wanted fr ⟨some d, op, g⟩ = true) (hx : op.exec noCall fr H = some (v, H)) (hv : v = v') (h : WpE call (n + 1) ref its H0 E ((n, readOk op fr v) :: Rd) (upd fr d v') H K) (hE : AllE b (fun H2 => op.exec noCall fr H2 = some (v, H2)) E := by repeat (first | exact trivial | refine ⟨(by first | exact Or.inl (by dsimp only; decide) | exact Or.inr (exec_ld rfl rfl) | exact Or.inr (exec_ld rfl (by assumption)) | exact Or.inr (exec_ldN rfl rfl rfl) | exact Or.inr (exec_ldB rfl (by omega)) | exact Or.inr (exec_ldI rfl (by omega)) | exact Or.inr ghost_of), ?_⟩)) : WpE call n ref (⟨⟨some d, op, g⟩, b, 1, pre⟩ :: its) H0 E Rd fr H K := Fe.read hw hx hv hE h
theorem Em {op : ROp} {cs : List AVal} {e : TypeId} {k : Nat → AVal} {v : AVal} (hw : ROper.wanted fr ⟨some d, op, g⟩ = true) (hm : op.made fr = some (cs, e, k)) (hg : ghostIs H ref cs e = true) (hv : k ref = v) (h : WpE call (n + 1) (ref + 1) its H0 E ((n, madeOk op fr ref) :: Rd) (upd fr d v) H K) (hE : AllE b (fun H2 => ghostIs H2 ref cs e = true) E := by repeat (first | exact trivial | refine ⟨(by first | exact Or.inl (by dsimp only; decide) | exact Or.inr (exec_ld rfl rfl) | exact Or.inr (exec_ld rfl (by assumption)) | exact Or.inr (exec_ldN rfl rfl rfl) | exact Or.inr (exec_ldB rfl (by omega)) | exact Or.inr (exec_ldI rfl (by omega)) | exact Or.inr ghost_of), ?_⟩)) : WpE call n ref (⟨⟨some d, op, g⟩, b, 3, pre⟩ :: its) H0 E Rd fr H K := Fe.made hw hm hg hE hv h
theorem Ee {op : ROp} {v : AVal} (hw : ROper.wanted fr ⟨none, op, g⟩ = true) (hx : op.exec call fr H = some (v, H1)) (h : WpE call (n + 1) ref its H0 ((n, H) :: E) Rd fr H1 K) (hR : AllR b H1 Rd := by repeat (first | exact trivial | refine ⟨(by first | exact Or.inl (by dsimp only; decide) | exact Or.inr (readOk_of (exec_ld rfl rfl)) | exact Or.inr (readOk_of (exec_ld rfl (by assumption))) | exact Or.inr (readOk_of (exec_ldN rfl rfl rfl)) | exact Or.inr (readOk_of (exec_ldB rfl (by omega))) | exact Or.inr (readOk_of (exec_ldI rfl (by omega))) | exact Or.inr (made_of rfl)), ?_⟩)) : WpE call n ref (⟨⟨none, op, g⟩, b, 2, pre⟩ :: its) H0 E Rd fr H K := Fe.effect0 hw hx hR h
theorem ar {B : Prop} (h : B) (hR : AllR b H1 Rd := by repeat (first | exact trivial | refine ⟨(by first | exact Or.inl (by dsimp only; decide) | exact Or.inr (readOk_of (exec_ld rfl rfl)) | exact Or.inr (readOk_of (exec_ld rfl (by assumption))) | exact Or.inr (readOk_of (exec_ldN rfl rfl rfl)) | exact Or.inr (readOk_of (exec_ldB rfl (by omega))) | exact Or.inr (readOk_of (exec_ldI rfl (by omega))) | exact Or.inr (made_of rfl)), ?_⟩)) : AllR b H1 Rd ∧ B := ⟨hR, h⟩
end
theorem nrmZ : type_of% nrm ∧ type_of% nrmS := ⟨nrm, nrmS⟩
end Go.Am


namespace Go.Am
open Go
open Nat renaming reduceEqDiff → qe, reduceAdd → qz
open Int renaming reduceBEq → qa, reduceBNe → qn
attribute [local irreducible] Wp WpO WpX WpE
def sideB (a : Int) : Bool := decide (a ≥ 0) && decide (a ≤ 640)
instance K_side (a : Int) (H : AHeap) : PureCon ext prog 81 [.int .i64 a] H 1 (.bool (sideB a)) := ⟨by
 refine con_of (show prog 81 = some c81 from rfl) rfl rfl fun n hn => ?_
 unfold sideB
 cases h1 : decide (a ≥ 0) <;> cases h2 : decide (a ≤ 640)
 ·skip
  repeat first | refine ox ?_ | refine mI ?_ | refine mB ?_ | refine bn rfl rfl rfl (by simp only [h1, h2]; rfl) ?_ | refine fB ?_ | refine nl hKF ?_ | refine sq ?_ | refine rg fun KF hKF => ?_ | refine rt ?_ | dsimp only
  exact ⟨trivial, _, rfl, rfl, Ext0.ext⟩
 ·skip
  repeat first | refine ox ?_ | refine mI ?_ | refine mB ?_ | refine bn rfl rfl rfl (by simp only [h1, h2]; rfl) ?_ | refine fB ?_ | refine nl hKF ?_ | refine sq ?_ | refine rg fun KF hKF => ?_ | refine rt ?_ | dsimp only
  exact ⟨trivial, _, rfl, rfl, Ext0.ext⟩
 ·skip
  repeat first | refine oy ?_ | refine mI ?_ | refine mB ?_ | refine bn rfl rfl rfl (by simp only [h1, h2]; rfl) ?_ | refine tB ?_ | refine nl hKF ?_ | refine sq ?_ | refine rg fun KF hKF => ?_ | refine rt ?_ | dsimp only
  exact ⟨trivial, _, rfl, rfl, Ext0.ext⟩
 ·skip
  repeat first | refine oy ?_ | refine mI ?_ | refine mB ?_ | refine bn rfl rfl rfl (by simp only [h1, h2]; rfl) ?_ | refine tB ?_ | refine nl hKF ?_ | refine sq ?_ | refine rg fun KF hKF => ?_ | refine rt ?_ | dsimp only
  exact ⟨trivial, _, rfl, rfl, Ext0.ext⟩⟩
instance K_sized (a b k : Int) (H : AHeap) : PureCon ext prog 66 [.int .i64 a, .int .i64 b, .int .i64 k] H 2 (.bool (sideB a && sideB b && (k == IntKind.i64.wrap (a * b)))) := ⟨by
 refine con_of (show prog 66 = some c66 from rfl) rfl rfl fun n hn => ?_
 cases h1 : sideB a
 ·skip
  repeat first | refine ox ?_ | refine mI ?_ | refine mB ?_ | refine fB ?_ | (refine Fo.pcall (v' := ?_) hn rfl (by simp only [↓nrmL, nrmZ, qe, ↓reduceIte, qz, qa, qn, h1, List.map]; rfl) rfl ?hv fun _ _ => ?_; case hv => (simp only [h1]; rfl)) | refine nl hKF ?_ | refine sq ?_ | refine rg fun KF hKF => ?_ | refine rt ?_ | dsimp only
  exact ⟨trivial, _, rfl, rfl, Ext0.ext⟩
 cases h2 : sideB b
 ·skip
  repeat first | refine oy ?_ | refine ox ?_ | refine mI ?_ | refine mB ?_ | refine tB ?_ | refine fB ?_ | (refine Fo.pcall (v' := ?_) hn rfl (by simp only [↓nrmL, nrmZ, qe, ↓reduceIte, qz, qa, qn, h1, h2, List.map]; rfl) rfl ?hv fun _ _ => ?_; case hv => (simp only [h1, h2]; rfl)) | refine nl hKF ?_ | refine sq ?_ | refine rg fun KF hKF => ?_ | refine rt ?_ | dsimp only
  exact ⟨trivial, _, rfl, rfl, Ext0.ext⟩
 ·skip
  repeat first | refine oy ?_ | refine mI ?_ | refine mB ?_ | refine b0 ?_ | refine tB ?_ | (refine Fo.pcall (v' := ?_) hn rfl (by simp only [↓nrmL, nrmZ, qe, ↓reduceIte, qz, qa, qn, h1, h2, List.map]; rfl) rfl ?hv fun _ _ => ?_; case hv => (simp only [h1, h2]; rfl)) | refine nl hKF ?_ | refine sq ?_ | refine rg fun KF hKF => ?_ | refine rt ?_ | dsimp only
  exact ⟨trivial, _, rfl, rfl, Ext0.ext⟩⟩
end Go.Am


namespace Go.Am
open Go
attribute [local irreducible] Wp WpO WpX WpE
structure Img where
 w : Int
 h : Int
 px : List UInt8
 deriving DecidableEq
def Img.zero : Img := ⟨0, 0, []⟩
def sizedB (a b k : Int) : Bool := sideB a && sideB b && (k == IntKind.i64.wrap (a * b))
def Img.sized (g : Img) : Bool := sizedB g.w g.h g.px.length
def NewInk (H H' : AHeap) (v : AVal) (g : Img) : Prop := ∃ p, v = .agg [.int .i64 g.w, .int .i64 g.h, p] ∧ BytesI H' p g.px ∧ FreshS H p ∧ WrS H' p ∧ Ext H H'
end Go.Am


namespace Go.Am
open Go
attribute [local irreducible] Wp WpO WpX WpE
theorem sized_nat {w h : Int} {n : Nat} (hs : sizedB w h n = true) : ∃ a b : Nat, w = a ∧ h = b ∧ a ≤ 640 ∧ b ≤ 640 ∧ n = a * b := by
 simp only [sizedB, sideB, Bool.and_eq_true, decide_eq_true_eq, beq_iff_eq] at hs
 obtain ⟨⟨⟨h1, h2⟩, h3, h4⟩, h5⟩ := hs
 refine ⟨w.toNat, h.toNat, by omega, by omega, by omega, by omega, ?_⟩
 obtain ⟨a, rfl⟩ : ∃ a : Nat, w = a := ⟨w.toNat, by omega⟩
 obtain ⟨b, rfl⟩ : ∃ b : Nat, h = b := ⟨h.toNat, by omega⟩
 have hm : a * b ≤ 640 * 640 := Nat.mul_le_mul (by omega) (by omega)
 rw [← Int.natCast_mul, w64 (by omega)] at h5
 simp only [Int.toNat_natCast]
 omega
def InkRes (H H' : AHeap) (v : AVal) (r : Img × Int) : Prop := ∃ q, v = .tuple [q, .int .i64 r.2] ∧ NewInk H H' q r.1
theorem newZero {H H' : AHeap} [x : Ext0 H H'] : NewInk H H' (.agg [.int .i64 0, .int .i64 0, .nslice]) Img.zero := ⟨.nslice, rfl, ⟨Or.inl ⟨rfl, rfl, rfl⟩⟩, ⟨fun _ _ _ _ _ e => by cases e⟩, ⟨fun _ _ _ _ _ e => by cases e⟩, x.ext⟩
end Go.Am


namespace Go.Am
open Go
open Nat renaming reduceEqDiff → qe, reduceAdd → qz
open Int renaming reduceBEq → qa, reduceBNe → qn
attribute [local irreducible] Wp WpO WpX WpE
def NewBytes (H H' : AHeap) (v : AVal) (l : List UInt8) : Prop := BytesI H' v l ∧ FreshS H v ∧ WrS H' v ∧ Ext H H'
theorem K_CopyBytes {H : AHeap} {p : AVal} {l : List UInt8} [hp : BytesI H p l] (hl : l.length < 2 ^ 40) : Con ext prog 1 24 [p] H fun v H' => NewBytes H H' v l := by
 refine con_of (show prog 24 = some c24 from rfl) rfl rfl fun n hn => ?_
 repeat first | refine mN ?_ | refine mv ?_ | refine nl hKF ?_ | refine sq ?_ | refine rg fun KF hKF => ?_
 refine WpO.do (WpX.appendNil rfl (by simp only [↓nrmL, nrmZ, qe, ↓reduceIte, qz, qa, qn, List.map] <;> rfl) hl fun v H1 h1 h2 h3 h4 => ?_)
 refine mv ?_
 refine nl hKF ?_
 refine rt ?_
 dsimp only
 refine rz trivial ?_
 exact ⟨h1, h2, h3, Ext0.ext⟩
end Go.Am


namespace Go.Am
open Go
open Nat renaming reduceEqDiff → qe, reduceAdd → qz
open Int renaming reduceBEq → qa, reduceBNe → qn
attribute [local irreducible] Wp WpO WpX WpE
theorem wm {a b : Nat} (h : a * b < 9223372036854775808) : IntKind.i64.wrap ((a : Int) * (b : Int)) = ((a * b : Nat) : Int) := by rw [← Int.natCast_mul]; exact w64 (by omega)
theorem wa {a b : Nat} (h : a + b < 9223372036854775808) : IntKind.i64.wrap ((a : Int) + (b : Int)) = ((a + b : Nat) : Int) := by rw [← Int.natCast_add]; exact w64 (by omega)
theorem wa1 {a : Nat} (h : a < 9223372036854775807) : IntKind.i64.wrap ((a : Int) + 1) = ((a + 1 : Nat) : Int) := by rw [w64 (by omega)]; omega
theorem idx_lt {x y w h : Nat} (hx : x < w) (hy : y < h) : y * w + x < w * h := by
 have : (y + 1) * w ≤ h * w := Nat.mul_le_mul_right _ hy
 rw [Nat.mul_comm w h]
 rw [Nat.add_mul] at this
 omega
def filled (f : Nat → UInt8) (k n : Nat) : List UInt8 := (List.range n).map fun i => if i < k then f i else 0
theorem filled_length (f : Nat → UInt8) (k n : Nat) : (filled f k n).length = n := by simp [filled]
theorem filled_zero (f : Nat → UInt8) (n : Nat) : filled f 0 n = List.replicate n 0 := by
 apply List.ext_getElem <;> simp [filled]
theorem filled_all (f : Nat → UInt8) (n : Nat) : filled f n n = (List.range n).map f := by
 apply List.ext_getElem
 ·simp [filled]
 ·intro i h1 h2
  simp [filled] at h1 ⊢
  intro h; omega
theorem filled_succ (f : Nat → UInt8) {k n : Nat} : (filled f k n).set k (f k) = filled f (k + 1) n := by
 apply List.ext_getElem
 ·simp [filled]
 ·intro i h1 h2
  simp only [filled, List.getElem_set, List.getElem_map, List.getElem_range]
  by_cases hik : k = i
  ·subst hik; simp
  ·have : i < k + 1 ↔ i < k := by omega
   simp [hik, this]
theorem filled_skip {f : Nat → UInt8} {k n : Nat} (h0 : f k = 0) : filled f (k + 1) n = filled f k n := by
 rw [← filled_succ f, h0]
 apply List.ext_getElem
 ·simp
 ·intro i h1 h2
  rw [List.getElem_set]
  split
  ·rename_i e; subst e; simp [filled]
  ·rfl
instance K_refFits {w h : Int} {H : AHeap} : PureCon ext prog 36 [.int .i64 w, .int .i64 h] H 1 (.bool (sideB w && sideB h)) := ⟨by
 refine con_of (show prog 36 = some c36 from rfl) rfl rfl fun n hn => ?_
 unfold sideB
 cases h1 : decide (w ≥ 0)
 ·skip
  repeat first | refine ox ?_ | refine mI ?_ | refine mB ?_ | refine bn rfl rfl rfl (by simp only [h1]; rfl) ?_ | refine fB ?_ | refine nl hKF ?_ | refine sq ?_ | refine rg fun KF hKF => ?_ | refine rt ?_ | dsimp only
  exact ⟨trivial, _, rfl, rfl, Ext0.ext⟩
 cases h2 : decide (w ≤ 640)
 ·skip
  repeat first | refine oy ?_ | refine ox ?_ | refine mI ?_ | refine mB ?_ | refine bn rfl rfl rfl (by simp only [h1, h2]; rfl) ?_ | refine tB ?_ | refine fB ?_ | refine nl hKF ?_ | refine sq ?_ | refine rg fun KF hKF => ?_ | refine rt ?_ | dsimp only
  exact ⟨trivial, _, rfl, rfl, Ext0.ext⟩
 cases h3 : decide (h ≥ 0)
 ·skip
  repeat first | refine oy ?_ | refine ox ?_ | refine mI ?_ | refine mB ?_ | refine bn rfl rfl rfl (by simp only [h1, h2, h3]; rfl) ?_ | refine tB ?_ | refine fB ?_ | refine nl hKF ?_ | refine sq ?_ | refine rg fun KF hKF => ?_ | refine rt ?_ | dsimp only
  exact ⟨trivial, _, rfl, rfl, Ext0.ext⟩
 cases h4 : decide (h ≤ 640)
 ·skip
  repeat first | refine oy ?_ | refine mI ?_ | refine mB ?_ | refine bn rfl rfl rfl (by simp only [h1, h2, h3, h4]; rfl) ?_ | refine tB ?_ | refine nl hKF ?_ | refine sq ?_ | refine rg fun KF hKF => ?_ | refine rt ?_ | dsimp only
  exact ⟨trivial, _, rfl, rfl, Ext0.ext⟩
 ·skip
  repeat first | refine oy ?_ | refine mI ?_ | refine mB ?_ | refine bn rfl rfl rfl (by simp only [h1, h2, h3, h4]; rfl) ?_ | refine tB ?_ | refine nl hKF ?_ | refine sq ?_ | refine rg fun KF hKF => ?_ | refine rt ?_ | dsimp only
  exact ⟨trivial, _, rfl, rfl, Ext0.ext⟩⟩
theorem K_refNew {w h : Nat} {H : AHeap} (hw : w ≤ 640) (hh : h ≤ 640) : Con ext prog 1 62 [.int .i64 w, .int .i64 h] H fun v H' => NewInk H H' v ⟨w, h, List.replicate (w * h) 0⟩ := by
 refine con_of (show prog 62 = some c62 from rfl) rfl rfl fun n hn => ?_
 have hm : w * h ≤ 640 * 640 := Nat.mul_le_mul hw hh
 have hc : IntKind.i64.wrap ((w : Int) * (h : Int)) = ((w * h : Nat) : Int) := wm (by omega)
 repeat first | refine mI ?_ | refine bn rfl rfl rfl (by simp only [hc]; rfl) ?_ | refine nw ?_ | refine nl hKF ?_ | refine sq ?_ | refine rg fun KF hKF => ?_
 refine WpO.do (WpX.mkB rfl rfl rfl (by omega) fun p H1 e1 hb hf hw' hx => ?_); try simp only [↓nrmL, nrmZ, qe, ↓reduceIte, qz, qa, qn, hc]
 haveI := hb.one
 refine ob (cs' := ?_) ?hc ?_; case hc => (simp only [↓nrmL, nrmZ, qe, ↓reduceIte, qz, qa, qn]; rfl)
 refine so rfl (rfl : _ = AVal.agg _) rfl rfl rfl (by simp only [↓nrmL, nrmZ, qe, ↓reduceIte, qz, qa, qn]; rfl) ?_
 refine nl hKF ?_
 refine rt ?_
 dsimp only
 refine rz trivial ?_
 exact ⟨p, rfl, inferInstance, hf.weak, inferInstance, Ext0.ext⟩
theorem K_refSet {x y w : Nat} {h : Int} {p : AVal} {H : AHeap} {l : List UInt8} [hp : BytesI H p l] [hw : WrS H p] (hi : y * w + x < l.length) (hl : l.length < 2 ^ 40) : Con ext prog 1 64 [.agg [.int .i64 w, .int .i64 h, p], .int .i64 x, .int .i64 y] H fun v H' => BytesI H' p (l.set (y * w + x) 1) ∧ WrS H' p ∧ ExtP H H' p := by
 refine con_of (show prog 64 = some c64 from rfl) rfl rfl fun n hn => ?_
 haveI := hp.one
 have h1 : IntKind.i64.wrap ((y : Int) * (w : Int)) = ((y * w : Nat) : Int) := wm (by omega)
 have h2 : IntKind.i64.wrap (((y * w : Nat) : Int) + (x : Int)) = ((y * w + x : Nat) : Int) := wa (by omega)
 repeat first | refine mI ?_ | refine fd ?_ | refine Fo.ld rfl rfl ?_ | refine bn rfl rfl rfl (by simp only [h1, h2]; rfl) ?_ | refine bA ?_ | (refine Fo.idx (by simp only [↓nrmL, nrmK, qe, ↓reduceIte]; rfl) rfl ?_ (by simp only [↓nrmL, nrmZ, qe, ↓reduceIte, qz, qa, qn, h1, h2]; rfl) ?_; (focus omega)) | refine nl hKF ?_ | refine sq ?_ | refine rg fun KF hKF => ?_
 refine WpO.do' (WpX.stB 1 rfl rfl rfl hi fun H4 hb4 hw4 hx4 => ?_)
 refine nl hKF ?_
 dsimp only
 exact ⟨trivial, _, rfl, hb4, hw4, (inferInstance : ExtP0 H H4 p).ext⟩
end Go.Am


namespace Go.Am
open Go
attribute [local irreducible] Wp WpO WpX WpE
end Go.Am


namespace Go.Am
open Go
attribute [local irreducible] Wp WpO WpX WpE
def lvStep (acc : List Int) (b : UInt8) : List Int := acc.set b.toNat (acc.getD b.toNat 0 + 1)
def lv (l : List UInt8) : List Int := l.foldl lvStep (List.replicate 256 0)
instance intsNil {H : AHeap} : IntsI H .nslice [] := ⟨Or.inl ⟨rfl, rfl, rfl⟩⟩
instance bytesNil {H : AHeap} : BytesI H .nslice [] := ⟨Or.inl ⟨rfl, rfl, rfl⟩⟩
end Go.Am


namespace Go.Am
open Go
open Nat renaming reduceEqDiff → qe, reduceAdd → qz
open Int renaming reduceBEq → qa, reduceBNe → qn
attribute [local irreducible] Wp WpO WpX WpE
theorem eq_of_gets {α : Type} {l m : List α} (hl : l.length = m.length) (h : ∀ j, j < l.length → l[j]? = m[j]?) : l = m := by
 apply List.ext_getElem?
 intro i
 by_cases hi : i < l.length
 ·exact h i hi
 ·rw [List.getElem?_eq_none (by omega), List.getElem?_eq_none (by omega)]
class Short {α : Type} (l : List α) : Prop where
 le : l.length ≤ 999999
instance K_SameBytes {p q : AVal} {H : AHeap} {l m : List UInt8} [hp : BytesI H p l] [hq : BytesI H q m] [hs : Short l] : PureCon ext prog 37 [p, q] H 1 (.bool (decide (l = m))) := ⟨by
 refine con_of (show prog 37 = some c37 from rfl) rfl rfl fun n hn => ?_
 have hsl := hs.le
 by_cases hlm : l.length = m.length
 ·have h1 : (((l.length : Nat) : Int) != ((m.length : Nat) : Int)) = false := by simp [hlm]
  repeat first | refine mI ?_ | refine mB ?_ | refine mv ?_ | refine bn rfl rfl rfl (by simp only [h1]; rfl) ?_ | refine ln (by simp only [↓nrmL, nrmK, qe, ↓reduceIte]; rfl) ?_ | refine nl hKF ?_ | refine sq ?_ | refine rg fun KF hKF => ?_ | refine cf rfl ?_ | refine sk ?_ | refine Wp.block ?_ | dsimp only
  refine Wp.loopS [4, 5, 11, 12, 13, 14, 15, 16, 17, 18, 19, 20, 21, 22, 23, 24, 25] (fun i : Nat => [(5, .int .i64 i)]) (fun H3 i H2 => i ≤ l.length ∧ (∀ j, j < i → l[j]? = m[j]?) ∧ H2 = H3) (fun i => l.length - i) 0 rfl (fun _ => rfl) ⟨rfl, trivial⟩ ⟨Nat.zero_le _, fun j hj => by omega, rfl⟩ (by unfold fuel0 at hn; omega) ?_
  rintro i g H2 ⟨hi, heq, rfl⟩
  simp only [↓nrmL, nrmZ, qe, ↓reduceIte, qz, qa, qn]
  cases hc : decide ((i : Int) < (l.length : Int))
  ·have hil : i = l.length := by have := of_decide_eq_false hc; omega
   subst hil
   have hd : decide (l = m) = true := decide_eq_true (eq_of_gets hlm heq)
   rw [hd]
   repeat first | refine mI ?_ | refine mB ?_ | refine mv ?_ | refine bn rfl rfl rfl (by simp only [hc]; rfl) ?_ | refine ln (by simp only [↓nrmL, nrmK, qe, ↓reduceIte]; rfl) ?_ | refine nl hKF ?_ | refine sq ?_ | refine rg fun KF hKF => ?_ | refine cf rfl ?_ | refine rt ?_ | refine xi ?_ | dsimp only
   refine rz trivial ?_
   exact ⟨rfl, Ext0.ext⟩
  ·have hil : i < l.length := by have := of_decide_eq_true hc; omega
   have him : i < m.length := by omega
   have hw1 := wa1 (a := i) (by omega)
   cases hne : (((l[i].toNat : Nat) : Int) != ((m[i].toNat : Nat) : Int))
   ·skip
    repeat first | refine mI ?_ | refine mv ?_ | refine bn rfl rfl rfl (by simp only [hc, hne]; rfl) ?_ | refine b0 ?_ | refine ln (by simp only [↓nrmL, nrmK, qe, ↓reduceIte]; rfl) ?_ | (refine Fo.idx (by simp only [↓nrmL, nrmK, qe, ↓reduceIte]; rfl) rfl ?_ (by simp only [↓nrmL, nrmZ, qe, ↓reduceIte, qz, qa, qn, hc, hne]; rfl) ?_; (focus omega)) | (refine Fo.ldB rfl ?_ rfl ?_; (focus omega)) | refine nl hKF ?_ | refine sq ?_ | refine rg fun KF hKF => ?_ | refine Fr.quiet rfl rfl fun KF hKF => ?_ | refine ct rfl ?_ | refine cf rfl ?_ | refine sk ?_ | refine Wp.block ?_ | dsimp only
    refine ⟨i + 1, by omega, ⟨by simp only [↓nrmL, nrmZ, qe, ↓reduceIte, qz, qa, qn]; rw [hw1], trivial⟩, hil, fun j hj => ?_, rfl⟩
    by_cases hj2 : j < i
    ·exact heq j hj2
    ·have : j = i := by omega
     subst this
     have h2 : l[j].toNat = m[j].toNat := by simp at hne; omega
     have : l[j] = m[j] := UInt8.toNat_inj.1 h2
     simp [hil, him, this]
   ·have hd : decide (l = m) = false := decide_eq_false (fun e => by subst e; simp at hne)
    rw [hd]
    repeat first | refine mI ?_ | refine mB ?_ | refine mv ?_ | refine bn rfl rfl rfl (by simp only [hc, hne]; rfl) ?_ | refine ln (by simp only [↓nrmL, nrmK, qe, ↓reduceIte]; rfl) ?_ | (refine Fo.idx (by simp only [↓nrmL, nrmK, qe, ↓reduceIte]; rfl) rfl ?_ (by simp only [↓nrmL, nrmZ, qe, ↓reduceIte, qz, qa, qn, hc, hne]; rfl) ?_; (focus omega)) | (refine Fo.ldB rfl ?_ rfl ?_; (focus omega)) | refine nl hKF ?_ | refine sq ?_ | refine rg fun KF hKF => ?_ | refine Fr.quiet rfl rfl fun KF hKF => ?_ | refine ct rfl ?_ | refine sk ?_ | refine rt ?_ | refine Wp.block ?_ | dsimp only
    refine rz trivial ?_
    exact ⟨rfl, Ext0.ext⟩
 ·have h1 : (((l.length : Nat) : Int) != ((m.length : Nat) : Int)) = true := by simp; omega
  have hd : decide (l = m) = false := decide_eq_false (fun e => by subst e; exact hlm rfl)
  rw [hd]
  repeat first | refine mB ?_ | refine mv ?_ | refine bn rfl rfl rfl (by simp only [h1]; rfl) ?_ | refine ln (by simp only [↓nrmL, nrmK, qe, ↓reduceIte]; rfl) ?_ | refine nl hKF ?_ | refine sq ?_ | refine rg fun KF hKF => ?_ | refine ct rfl ?_ | refine rt ?_ | dsimp only
  refine rz trivial ?_
  exact ⟨rfl, Ext0.ext⟩⟩
instance K_SameInk {p q : AVal} {H : AHeap} {w h w' h' : Int} {l m : List UInt8} [hp : BytesI H p l] [hq : BytesI H q m] [hs : Short l] : PureCon ext prog 16 [.agg [.int .i64 w, .int .i64 h, p], .agg [.int .i64 w', .int .i64 h', q]] H 2 (.bool (decide ((⟨w, h, l⟩ : Img) = ⟨w', h', m⟩))) := ⟨by
 refine con_of (show prog 16 = some c16 from rfl) rfl rfl fun n hn => ?_
 haveI := hp.one
 haveI := hq.one
 have e : decide ((⟨w, h, l⟩ : Img) = ⟨w', h', m⟩) = ((w == w') && (h == h') && decide (l = m)) := by
  by_cases h1 : w = w' <;> by_cases h2 : h = h' <;> by_cases h3 : l = m <;> simp [h1, h2, h3]
 rw [e]
 cases h1 : (w == w')
 ·skip
  repeat first | refine ox ?_ | refine mB ?_ | refine fd ?_ | refine Fo.ld rfl rfl ?_ | refine bn rfl rfl rfl (by simp only [h1]; rfl) ?_ | refine fB ?_ | refine bA ?_ | refine nl hKF ?_ | refine sq ?_ | refine rg fun KF hKF => ?_ | refine rt ?_ | dsimp only
  refine rz trivial ?_
  exact ⟨rfl, Ext0.ext⟩
 cases h2 : (h == h')
 ·skip
  repeat first | refine oy ?_ | refine ox ?_ | refine mB ?_ | refine fd ?_ | refine Fo.ld rfl rfl ?_ | refine bn rfl rfl rfl (by simp only [h1, h2]; rfl) ?_ | refine tB ?_ | refine fB ?_ | refine bA ?_ | refine nl hKF ?_ | refine sq ?_ | refine rg fun KF hKF => ?_ | refine rt ?_ | dsimp only
  refine rz trivial ?_
  exact ⟨rfl, Ext0.ext⟩
 ·skip
  repeat first | refine oy ?_ | refine mB ?_ | refine fd ?_ | refine Fo.ld rfl rfl ?_ | refine bn rfl rfl rfl (by simp only [h1, h2]; rfl) ?_ | refine tB ?_ | (refine Fo.pcall (v' := ?_) hn rfl (by simp only [↓nrmL, nrmZ, qe, ↓reduceIte, qz, qa, qn, h1, h2, List.map]; rfl) rfl ?hv fun _ _ => ?_; case hv => rfl) | refine bA ?_ | refine nl hKF ?_ | refine sq ?_ | refine rg fun KF hKF => ?_ | refine rt ?_ | dsimp only
  refine rz trivial ?_
  exact ⟨rfl, Ext0.ext⟩⟩
end Go.Am


namespace Go.Am
open Go
attribute [local irreducible] Wp WpO WpX WpE
instance K_awake {H : AHeap} : PureCon ext prog 5 [] H 0 (.bool true) := ⟨fun n hn => by
 obtain ⟨k, rfl⟩ : ∃ k, n = k + 1 := ⟨n - 1, by unfold fuel0 at hn; omega⟩
 have e1 : prog 5 = some ⟨0, .ext 3, []⟩ := rfl
 refine ⟨.bool true, H, ?_, rfl, Ext.refl H⟩
 rw [call_ext e1]
 rfl⟩
end Go.Am


namespace Go.Am
open Go
open Nat renaming reduceEqDiff → qe, reduceAdd → qz
open Int renaming reduceBEq → qa, reduceBNe → qn
attribute [local irreducible] Wp WpO WpX WpE
theorem ws1 {a : Nat} (h : 0 < a) (h2 : a < 9223372036854775807) : IntKind.i64.wrap ((a : Int) - 1) = ((a - 1 : Nat) : Int) := by rw [w64 (by omega)]; omega
def okAt (b : Nat) (l : List Int) (x : Nat) : Bool := decide (0 ≤ l.getD x 0) && decide (l.getD x 0 < (b : Int)) && (x == 0 || (decide (l.getD (x - 1) 0 - 1 ≤ l.getD x 0) && decide (l.getD x 0 ≤ l.getD (x - 1) 0 + 1)))
def okTo (b : Nat) (l : List Int) (x : Nat) : Bool := (List.range x).all (okAt b l)
def pathB (a b : Nat) (l : List Int) : Bool := l.length != 0 && l.length == a && okTo b l l.length
theorem okTo_succ {b : Nat} {l : List Int} {x : Nat} : okTo b l (x + 1) = (okTo b l x && okAt b l x) := by simp [okTo, List.range_succ, List.all_append]
theorem okTo_bad {b : Nat} {l : List Int} {x n : Nat} (h : okAt b l x = false) (hx : x < n) : okTo b l n = false := by
 cases h2 : okTo b l n with
 | false => rfl
 | true =>
  have := List.all_eq_true.1 h2 x (List.mem_range.2 hx)
  rw [h] at this; cases this
theorem okTo_at {b : Nat} {l : List Int} {x n : Nat} (h : okTo b l n = true) (hx : x < n) : okAt b l x = true := List.all_eq_true.1 h x (List.mem_range.2 hx)
theorem getD_at {l : List Int} {x : Nat} (h : x < l.length) : l.getD x 0 = l[x] := by rw [List.getD_eq_getElem?_getD, List.getElem?_eq_getElem h, Option.getD_some]
theorem okTo_range {b : Nat} {l : List Int} {x n : Nat} (h : okTo b l n = true) (hx : x < n) (hl : x < l.length) : 0 ≤ l[x] ∧ l[x] < (b : Int) := by
 have := okTo_at h hx
 simp only [okAt, Bool.and_eq_true, decide_eq_true_eq, getD_at hl] at this
 exact ⟨this.1.1, this.1.2⟩
theorem pathB_len {a b : Nat} {l : List Int} (h : pathB a b l = true) : l.length = a ∧ 0 < a := by
 simp only [pathB, Bool.and_eq_true, bne_iff_ne, beq_iff_eq] at h
 omega
theorem pathB_range {a b : Nat} {l : List Int} (h : pathB a b l = true) {x : Nat} (hx : x < l.length) : 0 ≤ l[x] ∧ l[x] < (b : Int) := by
 simp only [pathB, Bool.and_eq_true] at h
 exact okTo_range h.2 hx hx
class Side (n : Nat) : Prop where
 le : n ≤ 640
instance K_isPath {a b : Nat} {p q : AVal} {H : AHeap} {g : List UInt8} {l : List Int} [hp : BytesI H p g] [hq : IntsI H q l] [ha : Side a] [hb : Side b] : PureCon ext prog 47 [.agg [.int .i64 (a : Int), .int .i64 (b : Int), p], q] H 1 (.bool (pathB a b l)) := ⟨by
 refine con_of (show prog 47 = some c47 from rfl) rfl rfl fun n hn => ?_
 have ha := ha.le
 have hb := hb.le
 haveI := hp.one
 haveI := hq.one
 cases h0 : (((l.length : Nat) : Int) == 0)
 rotate_left
 ·have hl0 : l.length = 0 := by simpa using h0
  have e1 : pathB a b l = false := by simp [pathB, hl0]
  rw [e1]
  repeat first | refine ox ?_ | refine mB ?_ | refine mv ?_ | refine bn rfl rfl rfl (by simp only [h0]; rfl) ?_ | refine tB ?_ | refine ln (by simp only [↓nrmL, nrmK, qe, ↓reduceIte]; rfl) ?_ | refine bA ?_ | refine nl hKF ?_ | refine sq ?_ | refine rg fun KF hKF => ?_ | refine ct rfl ?_ | refine rt ?_ | dsimp only
  refine rz trivial ?_
  exact ⟨rfl, Ext0.ext⟩
 have hl0 : l.length ≠ 0 := by simpa using h0
 cases h1 : (((l.length : Nat) : Int) != (a : Int))
 rotate_left
 ·have hl1 : l.length ≠ a := by intro e; rw [e] at h1; simp at h1
  have e1 : pathB a b l = false := by simp [pathB, hl1]
  rw [e1]
  repeat first | refine oy ?_ | refine mB ?_ | refine mv ?_ | refine fd ?_ | refine Fo.ld rfl rfl ?_ | refine bn rfl rfl rfl (by simp only [h0, h1]; rfl) ?_ | refine fB ?_ | refine ln (by simp only [↓nrmL, nrmK, qe, ↓reduceIte]; rfl) ?_ | refine bA ?_ | refine nl hKF ?_ | refine sq ?_ | refine rg fun KF hKF => ?_ | refine ct rfl ?_ | refine rt ?_ | dsimp only
  refine rz trivial ?_
  exact ⟨rfl, Ext0.ext⟩
 have hl1 : l.length = a := by have h7 := h1; simp only [bne_eq_false_iff_eq] at h7; omega
 have e0 : pathB a b l = okTo b l l.length := by simp [pathB, hl1]; omega
 rw [e0]
 repeat first | refine oy ?_ | refine mI ?_ | refine mB ?_ | refine mv ?_ | refine fd ?_ | refine Fo.ld rfl rfl ?_ | refine bn rfl rfl rfl (by simp only [h0, h1]; rfl) ?_ | refine fB ?_ | refine ln (by simp only [↓nrmL, nrmK, qe, ↓reduceIte]; rfl) ?_ | refine bA ?_ | refine nl hKF ?_ | refine sq ?_ | refine rg fun KF hKF => ?_ | refine cf rfl ?_ | refine sk ?_ | refine Wp.block ?_ | dsimp only
 refine Wp.loopS [4, 5, 6, 19, 20, 21, 22, 23, 24, 25, 26, 27, 28, 29, 30, 31, 32, 33, 34, 35, 36, 37, 38, 39, 40, 41, 42, 43, 44, 45, 46, 47, 48, 49, 50, 51, 52, 53, 54] (fun x : Nat => [(19, .int .i64 x)]) (fun H3 x H2 => x ≤ l.length ∧ okTo b l x = true ∧ Ext0 H3 H2 ∧ H2 = H3) (fun x => l.length - x) 0 rfl (fun _ => rfl) ⟨rfl, trivial⟩ ⟨Nat.zero_le _, rfl, inferInstance, rfl⟩ (by unfold fuel0 at hn; omega) ?_
 rintro x g2 H2 ⟨hx, hok, _, rfl⟩
 simp only [↓nrmL, nrmZ, qe, ↓reduceIte, qz, qa, qn]
 cases hc : decide ((x : Int) < ((l.length : Nat) : Int))
 ·have hxl : x = l.length := by have := of_decide_eq_false hc; omega
  subst hxl
  rw [hok]
  repeat first | refine mB ?_ | refine bn rfl rfl rfl (by simp only [hc]; rfl) ?_ | refine nl hKF ?_ | refine sq ?_ | refine rg fun KF hKF => ?_ | refine cf rfl ?_ | refine rt ?_ | refine xi ?_ | dsimp only
  refine rz trivial ?_
  exact ⟨rfl, Ext0.ext⟩
 have hxl : x < l.length := by have := of_decide_eq_true hc; omega
 have hw1 := wa1 (a := x) (by omega)
 cases h2 : decide (l[x] < 0)
 rotate_left
 ·rw [okTo_bad (x := x) (n := l.length) (by simp only [okAt, getD_at hxl]; have := of_decide_eq_true h2; rw [decide_eq_false (by omega)]; rfl) hxl]
  repeat first | refine ox ?_ | refine mI ?_ | refine mB ?_ | refine bn rfl rfl rfl (by simp only [hc, h2]; rfl) ?_ | refine tB ?_ | (refine Fo.idx (by simp only [↓nrmL, nrmK, qe, ↓reduceIte]; rfl) rfl ?_ (by simp only [↓nrmL, nrmZ, qe, ↓reduceIte, qz, qa, qn, hc, h2]; rfl) ?_; (focus omega)) | (refine Fo.ldI rfl ?_ rfl ?_; (focus omega)) | refine nl hKF ?_ | refine sq ?_ | refine rg fun KF hKF => ?_ | refine ct rfl ?_ | refine sk ?_ | refine rt ?_ | refine Wp.block ?_ | dsimp only
  refine rz trivial ?_
  exact ⟨rfl, Ext0.ext⟩
 cases h3 : decide (l[x] ≥ (b : Int))
 rotate_left
 ·rw [okTo_bad (x := x) (n := l.length) (by simp only [okAt, getD_at hxl]; have := of_decide_eq_true h3; rw [decide_eq_false (p := l[x] < (b : Int)) (by omega), Bool.and_false]; rfl) hxl]
  repeat first | refine oy ?_ | refine mI ?_ | refine mB ?_ | refine fd ?_ | refine Fo.ld rfl rfl ?_ | refine bn rfl rfl rfl (by simp only [hc, h2, h3]; rfl) ?_ | refine fB ?_ | (refine Fo.idx (by simp only [↓nrmL, nrmK, qe, ↓reduceIte]; rfl) rfl ?_ (by simp only [↓nrmL, nrmZ, qe, ↓reduceIte, qz, qa, qn, hc, h2, h3]; rfl) ?_; (focus omega)) | (refine Fo.ldI rfl ?_ rfl ?_; (focus omega)) | refine nl hKF ?_ | refine sq ?_ | refine rg fun KF hKF => ?_ | refine ct rfl ?_ | refine sk ?_ | refine rt ?_ | refine Wp.block ?_ | dsimp only
  refine rz trivial ?_
  exact ⟨rfl, Ext0.ext⟩
 have g1 : 0 ≤ l[x] := by have := of_decide_eq_false h2; omega
 have g3 : l[x] < (b : Int) := by have := of_decide_eq_false h3; omega
 cases h4 : decide ((x : Int) > 0)
 ·have hx0 : x = 0 := by have := of_decide_eq_false h4; omega
  subst hx0
  have e2 : okTo b l (0 + 1) = true := by rw [okTo_succ, hok, okAt, getD_at hxl, decide_eq_true g1, decide_eq_true g3]; rfl
  repeat first | refine oy ?_ | refine ox ?_ | refine Fo.noU rfl ?_ | refine mI ?_ | refine mB ?_ | refine fd ?_ | refine Fo.ld rfl rfl ?_ | refine bn rfl rfl rfl (by simp only [hc, h2, h3, h4]; rfl) ?_ | refine b0 ?_ | refine fB ?_ | (refine Fo.idx (by simp only [↓nrmL, nrmK, qe, ↓reduceIte]; rfl) rfl ?_ (by simp only [↓nrmL, nrmZ, qe, ↓reduceIte, qz, qa, qn, hc, h2, h3, h4]; rfl) ?_; (focus omega)) | (refine Fo.ldI rfl ?_ rfl ?_; (focus omega)) | refine nl hKF ?_ | refine sq ?_ | refine rg fun KF hKF => ?_ | refine ct rfl ?_ | refine cf rfl ?_ | refine sk ?_ | refine Wp.block ?_ | dsimp only
  refine ⟨0 + 1, by omega, ⟨by simp only [↓nrmL, nrmZ, qe, ↓reduceIte, qz, qa, qn]; rw [hw1], trivial⟩, hxl, e2, inferInstance, rfl⟩
 have hx0 : 0 < x := by have := of_decide_eq_true h4; omega
 have hw2 := ws1 (a := x) hx0 (by omega)
 have hxm : x - 1 < l.length := by omega
 obtain ⟨m1, m2⟩ := okTo_range hok (x := x - 1) (by omega) hxm
 have hw3 : IntKind.i64.wrap (l[x - 1] - 1) = l[x - 1] - 1 := w64 (by omega)
 have hw4 : IntKind.i64.wrap (l[x - 1] + 1) = l[x - 1] + 1 := w64 (by omega)
 cases h5 : decide (l[x] < l[x - 1] - 1)
 rotate_left
 ·rw [okTo_bad (x := x) (n := l.length) (by
   have h5 := of_decide_eq_true h5
   simp only [okAt, getD_at hxl, getD_at hxm]
   rw [decide_eq_false (p := l[x - 1] - 1 ≤ l[x]) (by omega), Bool.false_and, Bool.or_false, beq_eq_false_iff_ne.2 (by omega), Bool.and_false]) hxl]
  repeat first | refine oy ?_ | refine ox ?_ | refine mI ?_ | refine mB ?_ | refine mv ?_ | refine fd ?_ | refine Fo.ld rfl rfl ?_ | refine bn rfl rfl rfl (by simp only [hc, h2, h3, h4, hw2, hw3, hw4, h5]; rfl) ?_ | refine tB ?_ | refine fB ?_ | (refine Fo.idx (by simp only [↓nrmL, nrmK, qe, ↓reduceIte]; rfl) rfl ?_ (by simp only [↓nrmL, nrmZ, qe, ↓reduceIte, qz, qa, qn, hc, h2, h3, h4, hw2, hw3, hw4, h5]; rfl) ?_; (focus omega)) | (refine Fo.ldI rfl ?_ rfl ?_; (focus omega)) | refine nl hKF ?_ | refine sq ?_ | refine rg fun KF hKF => ?_ | refine ct rfl ?_ | refine cf rfl ?_ | refine sk ?_ | refine rt ?_ | refine Wp.block ?_ | dsimp only
  refine rz trivial ?_
  exact ⟨rfl, Ext0.ext⟩
 cases h6 : decide (l[x] > l[x - 1] + 1)
 rotate_left
 ·rw [okTo_bad (x := x) (n := l.length) (by
   have h6 := of_decide_eq_true h6
   simp only [okAt, getD_at hxl, getD_at hxm]
   rw [decide_eq_false (p := l[x] ≤ l[x - 1] + 1) (by omega), Bool.and_false, Bool.or_false, beq_eq_false_iff_ne.2 (by omega), Bool.and_false]) hxl]
  repeat first | refine oy ?_ | refine mI ?_ | refine mB ?_ | refine mv ?_ | refine fd ?_ | refine Fo.ld rfl rfl ?_ | refine bn rfl rfl rfl (by simp only [hc, h2, h3, h4, hw2, hw3, hw4, h5, h6]; rfl) ?_ | refine tB ?_ | refine fB ?_ | (refine Fo.idx (by simp only [↓nrmL, nrmK, qe, ↓reduceIte]; rfl) rfl ?_ (by simp only [↓nrmL, nrmZ, qe, ↓reduceIte, qz, qa, qn, hc, h2, h3, h4, hw2, hw3, hw4, h5, h6]; rfl) ?_; (focus omega)) | (refine Fo.ldI rfl ?_ rfl ?_; (focus omega)) | refine nl hKF ?_ | refine sq ?_ | refine rg fun KF hKF => ?_ | refine ct rfl ?_ | refine cf rfl ?_ | refine sk ?_ | refine rt ?_ | refine Wp.block ?_ | dsimp only
  refine rz trivial ?_
  exact ⟨rfl, Ext0.ext⟩
 have e2 : okTo b l (x + 1) = true := by
  have h5 := of_decide_eq_false h5
  have h6 := of_decide_eq_false h6
  rw [okTo_succ, hok, okAt, getD_at hxl, getD_at hxm, decide_eq_true g1, decide_eq_true g3, decide_eq_true (p := l[x - 1] - 1 ≤ l[x]) (by omega), decide_eq_true (p := l[x] ≤ l[x - 1] + 1) (by omega)]
  simp
 repeat first | refine oy ?_ | refine mI ?_ | refine mB ?_ | refine mv ?_ | refine fd ?_ | refine Fo.ld rfl rfl ?_ | refine bn rfl rfl rfl (by simp only [hc, h2, h3, h4, hw2, hw3, hw4, h5, h6]; rfl) ?_ | refine b0 ?_ | refine tB ?_ | refine fB ?_ | (refine Fo.idx (by simp only [↓nrmL, nrmK, qe, ↓reduceIte]; rfl) rfl ?_ (by simp only [↓nrmL, nrmZ, qe, ↓reduceIte, qz, qa, qn, hc, h2, h3, h4, hw2, hw3, hw4, h5, h6]; rfl) ?_; (focus omega)) | (refine Fo.ldI rfl ?_ rfl ?_; (focus omega)) | refine nl hKF ?_ | refine sq ?_ | refine rg fun KF hKF => ?_ | refine ct rfl ?_ | refine cf rfl ?_ | refine sk ?_ | refine Wp.block ?_ | dsimp only
 refine ⟨x + 1, by omega, ⟨by simp only [↓nrmL, nrmZ, qe, ↓reduceIte, qz, qa, qn]; rw [hw1], trivial⟩, hxl, e2, inferInstance, rfl⟩⟩
def belowTo (l m : List Int) (x : Nat) : Bool := (List.range x).all fun i => decide (l.getD i 0 < m.getD i 0)
def aboveB (l m : List Int) : Bool := belowTo l m l.length
class LenLe (l m : List Int) : Prop where
 le : l.length ≤ m.length
 sm : l.length ≤ 999999
instance K_above {p q : AVal} {H : AHeap} {l m : List Int} [hp : IntsI H p l] [hq : IntsI H q m] [hl : LenLe l m] : PureCon ext prog 56 [p, q] H 1 (.bool (aboveB l m)) := ⟨by
 refine con_of (show prog 56 = some c56 from rfl) rfl rfl fun n hn => ?_
 have hlm := hl.le
 have hsm := hl.sm
 repeat first | refine mI ?_ | refine mB ?_ | refine mv ?_ | refine ln (by simp only [↓nrmL, nrmK, qe, ↓reduceIte]; rfl) ?_ | refine nl hKF ?_ | refine sq ?_ | refine rg fun KF hKF => ?_ | refine Wp.block ?_ | dsimp only
 refine Wp.loopS [4, 5, 8, 9, 10, 11, 12, 13, 14, 15, 16, 17, 18, 19, 20] (fun x : Nat => [(8, .int .i64 x)]) (fun H3 x H2 => x ≤ l.length ∧ belowTo l m x = true ∧ H2 = H3) (fun x => l.length - x) 0 rfl (fun _ => rfl) ⟨rfl, trivial⟩ ⟨Nat.zero_le _, rfl, rfl⟩ (by unfold fuel0 at hn; omega) ?_
 rintro x g2 H2 ⟨hx, hok, rfl⟩
 simp only [↓nrmL, nrmZ, qe, ↓reduceIte, qz, qa, qn]
 cases hc : decide ((x : Int) < ((l.length : Nat) : Int))
 ·have hxl : x = l.length := by have := of_decide_eq_false hc; omega
  have e1 : aboveB l m = true := by rw [aboveB, ← hxl, hok]
  rw [e1]
  repeat first | refine mB ?_ | refine bn rfl rfl rfl (by simp only [hc]; rfl) ?_ | refine nl hKF ?_ | refine sq ?_ | refine rg fun KF hKF => ?_ | refine cf rfl ?_ | refine rt ?_ | refine xi ?_ | dsimp only
  refine rz trivial ?_
  exact ⟨rfl, Ext0.ext⟩
 have hxl : x < l.length := by have := of_decide_eq_true hc; omega
 have hxm : x < m.length := by omega
 have hw1 := wa1 (a := x) (by omega)
 cases h2 : decide (l[x] ≥ m[x])
 ·have e2 : belowTo l m (x + 1) = true := by
   have := of_decide_eq_false h2
   have e3 : belowTo l m (x + 1) = (belowTo l m x && decide (l.getD x 0 < m.getD x 0)) := by simp [belowTo, List.range_succ, List.all_append]
   rw [e3, hok, getD_at hxl, getD_at hxm, decide_eq_true (by omega)]; rfl
  repeat first | refine mI ?_ | refine mv ?_ | refine bn rfl rfl rfl (by simp only [hc, h2]; rfl) ?_ | refine b0 ?_ | (refine Fo.idx (by simp only [↓nrmL, nrmK, qe, ↓reduceIte]; rfl) rfl ?_ (by simp only [↓nrmL, nrmZ, qe, ↓reduceIte, qz, qa, qn, hc, h2]; rfl) ?_; (focus omega)) | (refine Fo.ldI rfl ?_ rfl ?_; (focus omega)) | refine nl hKF ?_ | refine sq ?_ | refine rg fun KF hKF => ?_ | refine Fr.quiet rfl rfl fun KF hKF => ?_ | refine ct rfl ?_ | refine cf rfl ?_ | refine sk ?_ | refine Wp.block ?_ | dsimp only
  refine ⟨x + 1, by omega, ⟨by simp only [↓nrmL, nrmZ, qe, ↓reduceIte, qz, qa, qn]; rw [hw1], trivial⟩, hxl, e2, rfl⟩
 ·have e2 : aboveB l m = false := by
   have h2 := of_decide_eq_true h2
   cases h3 : aboveB l m with
   | false => rfl
   | true =>
    have := List.all_eq_true.1 h3 x (List.mem_range.2 hxl)
    rw [getD_at hxl, getD_at hxm, decide_eq_true_eq] at this
    omega
  rw [e2]
  repeat first | refine mI ?_ | refine mB ?_ | refine mv ?_ | refine bn rfl rfl rfl (by simp only [hc, h2]; rfl) ?_ | (refine Fo.idx (by simp only [↓nrmL, nrmK, qe, ↓reduceIte]; rfl) rfl ?_ (by simp only [↓nrmL, nrmZ, qe, ↓reduceIte, qz, qa, qn, hc, h2]; rfl) ?_; (focus omega)) | (refine Fo.ldI rfl ?_ rfl ?_; (focus omega)) | refine nl hKF ?_ | refine sq ?_ | refine rg fun KF hKF => ?_ | refine Fr.quiet rfl rfl fun KF hKF => ?_ | refine ct rfl ?_ | refine sk ?_ | refine rt ?_ | refine Wp.block ?_ | dsimp only
  refine rz trivial ?_
  exact ⟨rfl, Ext0.ext⟩⟩
end Go.Am


namespace Go.Am
open Go
open Nat renaming reduceEqDiff → qe, reduceAdd → qz
open Int renaming reduceBEq → qa, reduceBNe → qn
attribute [local irreducible] Wp WpO WpX WpE
instance K_bCount {p : AVal} {H : AHeap} {l : List UInt8} {k : Int} {b : UInt8} [hp : BytesI H p l] [hb : IsU8 k b] : PureCon ext prog 83 [p, .int .u8 k] H 0 (.int .i64 (l.count b : Nat)) := ⟨fun n hn => by
 obtain ⟨m, rfl⟩ : ∃ m, n = m + 1 := ⟨n - 1, by unfold fuel0 at hn; omega⟩
 have e1 : prog 83 = some ⟨0, .ext 0, []⟩ := rfl
 refine ⟨_, H, ?_, rfl, Ext.refl H⟩
 rw [call_ext e1]
 have hb' := hb.eq
 subst hb'
 show aBytesFn (fun l => .int .i64 (Lib.countByte l (UInt8.ofNat ((b.toNat : Int)).toNat))) p H = _
 rw [aBytesFn_at]
 simp [Lib.countByte]⟩
instance K_bytesCount {p q : AVal} {H : AHeap} {l : List UInt8} {b : UInt8} [hp : BytesI H p l] [hq : BytesI H q [b]] : PureCon ext prog 67 [p, q] H 1 (.int .i64 (l.count b : Nat)) := ⟨by
 refine con_of (show prog 67 = some c67 from rfl) rfl rfl fun n hn => ?_
 have e0 : [b].length = 1 := rfl
 repeat first | refine mI ?_ | refine mv ?_ | refine b0 ?_ | (refine Fo.pcall (v' := ?_) hn rfl (by simp only [↓nrmL, nrmZ, qe, ↓reduceIte, qz, qa, qn, e0, List.map]; rfl) rfl ?hv fun _ _ => ?_; case hv => rfl) | (refine Fo.len (v := ?_) (by simp only [↓nrmL, nrmK, qe, ↓reduceIte]; rfl) ?hv ?_; case hv => (simp only [e0]; rfl)) | (refine Fo.idx (by simp only [↓nrmL, nrmK, qe, ↓reduceIte]; rfl) rfl ?_ (by simp only [↓nrmL, nrmZ, qe, ↓reduceIte, qz, qa, qn, e0]; rfl) ?_; (focus omega)) | (refine Fo.ldB rfl ?_ rfl ?_; (focus omega)) | refine nl hKF ?_ | refine sq ?_ | refine rg fun KF hKF => ?_ | refine ct rfl ?_ | refine cf rfl ?_ | refine sk ?_ | refine rt ?_ | dsimp only
 refine rz trivial ?_
 exact ⟨rfl, Ext0.ext⟩⟩
end Go.Am


namespace Go.Am
open Go
open Nat renaming reduceEqDiff → qe, reduceAdd → qz
open Int renaming reduceBEq → qa, reduceBNe → qn
attribute [local irreducible] Wp WpO WpX WpE
instance K_count {p : AVal} {H : AHeap} {w h : Int} {l : List UInt8} [hp : BytesI H p l] : PureCon ext prog 68 [.agg [.int .i64 w, .int .i64 h, p]] H 2 (.int .i64 (l.count 1 : Nat)) := ⟨by
 refine con_of (show prog 68 = some c68 from rfl) rfl rfl fun n hn => ?_
 haveI := hp.one
 repeat first | refine mI ?_ | refine fd ?_ | refine Fo.ld rfl rfl ?_ | (refine Fo.pcall (v' := ?_) hn rfl (by simp only [↓nrmL, nrmZ, qe, ↓reduceIte, qz, qa, qn, List.map]; rfl) rfl ?hv fun _ _ => ?_; case hv => rfl) | refine bA ?_ | refine Fo.bslice rfl (by simp only [↓nrmL, nrmZ, qe, ↓reduceIte, qz, qa, qn]; rfl) ?_ | refine nl hKF ?_ | refine sq ?_ | refine rg fun KF hKF => ?_ | refine rt ?_ | dsimp only
 refine rz trivial ?_
 exact ⟨rfl, Ext0.ext⟩⟩
def Img.err (g : Img) : Int := bif g.sized then bif pxOk g.px then 0 else 3 else 2
instance K_Check {p : AVal} {H : AHeap} {w h : Int} {l : List UInt8} [hp : BytesI H p l] : PureCon ext prog 39 [.agg [.int .i64 w, .int .i64 h, p]] H 3 (.int .i64 (Img.err ⟨w, h, l⟩)) := ⟨by
 refine con_of (show prog 39 = some c39 from rfl) rfl rfl fun n hn => ?_
 haveI := hp.one
 unfold Img.err Img.sized sizedB
 cases h1 : (sideB w && sideB h && ((l.length : Nat) == IntKind.i64.wrap (w * h)))
 ·skip
  simp only [h1]
  repeat first | refine mI ?_ | refine fd ?_ | refine Fo.ld rfl rfl ?_ | (refine Fo.pcall (v' := ?_) hn rfl (by simp only [↓nrmL, nrmZ, qe, ↓reduceIte, qz, qa, qn, h1, List.map]; rfl) rfl ?hv fun _ _ => ?_; case hv => (simp only [↓nrmL, nrmZ, qe, ↓reduceIte, qz, qa, qn, h1]; rfl)) | refine ln (by simp only [↓nrmL, nrmK, qe, ↓reduceIte]; rfl) ?_ | refine bA ?_ | refine Fo.now rfl rfl (by simp only [↓nrmL, nrmZ, qe, ↓reduceIte, qz, qa, qn, h1]; rfl) ?_ | refine nl hKF ?_ | refine sq ?_ | refine rg fun KF hKF => ?_ | refine ct rfl ?_ | refine rt ?_ | dsimp only
  refine rz trivial ?_
  exact ⟨rfl, Ext0.ext⟩
 ·obtain ⟨a, b, rfl, rfl, ha, hb, hl⟩ := sized_nat (n := l.length) h1
  have hm : a * b ≤ 640 * 640 := Nat.mul_le_mul ha hb
  have hc0 := count_le l 0
  have hc1 := count_le l 1
  have hw := wa (a := l.count 0) (b := l.count 1) (by omega)
  have h2 : (((l.count 0 + l.count 1 : Nat) : Int) != ((l.length : Nat) : Int)) = !(pxOk l) := by
   have := count01 l
   cases hp : pxOk l
   ·have : l.count 0 + l.count 1 ≠ l.length := fun e => by rw [this] at e; rw [hp] at e; cases e
    simp; omega
   ·have := this.2 hp
    simp [this]
  simp only [h1]
  repeat first | refine mI ?_ | refine fd ?_ | refine Fo.ld rfl rfl ?_ | (refine Fo.pcall (v' := ?_) hn rfl (by simp only [↓nrmL, nrmZ, qe, ↓reduceIte, qz, qa, qn, h1, List.map]; rfl) rfl ?hv fun _ _ => ?_; case hv => (simp only [↓nrmL, nrmZ, qe, ↓reduceIte, qz, qa, qn, h1]; rfl)) | refine ln (by simp only [↓nrmL, nrmK, qe, ↓reduceIte]; rfl) ?_ | refine bA ?_ | refine Fo.now rfl rfl (by simp only [↓nrmL, nrmZ, qe, ↓reduceIte, qz, qa, qn, h1]; rfl) ?_ | refine nl hKF ?_ | refine sq ?_ | refine rg fun KF hKF => ?_ | refine cf rfl ?_ | refine sk ?_ | dsimp only
  refine Fr.dregionE [.row [.int .u8 0] true (2 * 5)] ?_ fun KF hKF => ?_
  ·skip
   refine oracle_pre rfl rfl rfl rfl ?_; (try simp only [↓nrmL, nrmZ, qe, ↓reduceIte, qz, qa, qn])
   refine oracle_pre rfl rfl rfl (exec_ld rfl rfl) ?_; (try simp only [↓nrmL, nrmZ, qe, ↓reduceIte, qz, qa, qn])
   refine oracle_made rfl rfl rfl ?_; (try simp only [↓nrmL, nrmZ, qe, ↓reduceIte, qz, qa, qn])
   exact oracle_none _ _ _ _ rfl
  simp only [pushAll]
  simp only [↓nrmL, nrmZ, qe, ↓reduceIte, qz, qa, qn, hw]
  repeat first | refine Er rfl (exec_ld rfl rfl) rfl ?_ | refine Er rfl (exec_ldN rfl rfl (by simp only [↓nrmL, nrmZ, qe, ↓reduceIte, qz, qa, qn, hw]; rfl)) rfl ?_ | refine Fe.pure rfl (exec_lenP (by (try simp only [↓nrmL, nrmZ, qe, ↓reduceIte, qz, qa, qn, hw]); rfl)) rfl ?_ | refine Fe.pure rfl rfl (by simp only [↓nrmL, nrmZ, qe, ↓reduceIte, qz, qa, qn, hw]; rfl) ?_ | refine Fe.pure rfl rfl rfl ?_ | refine Em rfl rfl ghost_of rfl ?_ | (refine Fe.pcall (v' := ?_) rfl hn rfl (by simp only [↓nrmL, nrmZ, qe, ↓reduceIte, qz, qa, qn, hw, List.map]; rfl) rfl ?hv fun _ _ => ar ?_; case hv => rfl) | refine WpE.nil (hKF _ _ ?_)
  cases hp2 : pxOk l
  ·rw [hp2] at h2
   simp only [hw, h2]
   refine ct rfl ?_
   refine sq ?_
   refine rg fun KF hKF => ?_
   refine mI ?_
   refine nl hKF ?_
   refine rt ?_
   dsimp only
   refine rz trivial ?_
   exact ⟨rfl, Ext0.ext⟩
  ·rw [hp2] at h2
   simp only [hw, h2]
   refine cf rfl ?_
   refine sk ?_
   refine sq ?_
   refine rg fun KF hKF => ?_
   refine mI ?_
   refine nl hKF ?_
   refine rt ?_
   dsimp only
   refine rz trivial ?_
   exact ⟨rfl, Ext0.ext⟩⟩
end Go.Am


namespace Go.Am
open Go
open Nat renaming reduceEqDiff → qe, reduceAdd → qz
open Int renaming reduceBEq → qa, reduceBNe → qn
attribute [local irreducible] Wp WpO WpX WpE
theorem K_Clone {H : AHeap} {p : AVal} {l : List UInt8} [hp : BytesI H p l] (hl : l.length < 2 ^ 40) : Con ext prog 1 60 [p] H fun v H' => NewBytes H H' v l := by
 refine con_of (show prog 60 = some c60 from rfl) rfl rfl fun n hn => ?_
 rcases hp.it with ⟨rfl, h0, _⟩ | ⟨r, off, cap, row, rw, e, rfl, hr, hg, hle, hc, _⟩
 ·have : l = [] := List.eq_nil_of_length_eq_zero h0
  subst this
  repeat first | refine mN ?_ | refine Fo.now rfl rfl (by simp only [↓nrmL, nrmZ, qe, ↓reduceIte, qz, qa, qn]; rfl) ?_ | refine nl hKF ?_ | refine sq ?_ | refine rg fun KF hKF => ?_ | refine ct rfl ?_ | refine rt ?_ | dsimp only
  refine rz trivial ?_
  exact (show NewBytes H H .nslice [] from ⟨inferInstance, ⟨fun _ _ _ _ _ e => by cases e⟩, ⟨fun _ _ _ _ _ e => by cases e⟩, Ext0.ext⟩)
 ·skip
  repeat first | refine mN ?_ | refine mv ?_ | refine Fo.bslice rfl rfl ?_ | refine Fo.now rfl rfl (by simp only [↓nrmL, nrmZ, qe, ↓reduceIte, qz, qa, qn]; rfl) ?_ | refine nl hKF ?_ | refine sq ?_ | refine rg fun KF hKF => ?_ | refine cf rfl ?_ | refine sk ?_
  refine WpO.do (WpX.appendE rfl (by simp only [↓nrmL, nrmZ, qe, ↓reduceIte, qz, qa, qn, List.map] <;> rfl) hl fun v H1 h1 h2 h3 h4 => ?_)
  refine mv ?_
  refine nl hKF ?_
  refine rt ?_
  dsimp only
  refine rz trivial ?_
  refine (show NewBytes H H1 v l from ⟨h1, ⟨fun r' _ _ _ _ e => ?_⟩, h3, Ext0.ext⟩)
  rcases h2 _ _ _ _ _ e with rfl | h5
  ·exact Nat.le_refl _
  ·exact Nat.le_trans (Nat.le_succ _) h5
theorem K_CopyInk {H : AHeap} {a b : Int} {p : AVal} {l : List UInt8} [hp : BytesI H p l] (hl : l.length < 2 ^ 40) : Con ext prog 2 6 [.agg [.int .i64 a, .int .i64 b, p]] H fun v H' => NewInk H H' v ⟨a, b, l⟩ := by
 refine con_of (show prog 6 = some c6 from rfl) rfl rfl fun n hn => ?_
 haveI := hp.one
 refine sq ?_
 refine rg fun KF hKF => ?_
 refine bA ?_
 refine nw ?_
 refine nl hKF ?_
 refine sq ?_
 refine Fr.dregion0 rfl fun KF hKF => ?_
 repeat first | refine Er rfl (exec_ld rfl rfl) rfl ?_ | refine Fe.pure rfl rfl (by simp only [↓nrmL, nrmZ, qe, ↓reduceIte, qz, qa, qn]; rfl) ?_
 refine Fe.con rfl hn rfl rfl (by simp only [↓nrmL, nrmZ, qe, ↓reduceIte, qz, qa, qn, List.map] <;> rfl) (K_CopyBytes hl) fun v H1 ⟨h1, h2, h3, h4⟩ => ?_
 haveI : ExtI _ H1 := ⟨h4⟩
 haveI := h1.one
 refine ar ?_
 refine Fe.pure rfl (exec_build (by repeat (first | refine aFill1 (by (try simp only [↓nrmL, nrmZ, qe, ↓reduceIte, qz, qa, qn]); rfl) rfl ?_ | rfl))) (by simp only [↓nrmL, nrmZ, qe, ↓reduceIte, qz, qa, qn]; rfl) ?_
 refine Ee rfl (xs rfl (by (try simp only [↓nrmL, nrmZ, qe, ↓reduceIte, qz, qa, qn]); rfl) rfl rfl rfl (by (try simp only [↓nrmL, nrmZ, qe, ↓reduceIte, qz, qa, qn]); rfl)) ?_
 refine WpE.nil (hKF _ _ ?_)
 refine rt ?_
 dsimp only
 refine rz trivial ?_
 exact ⟨v, rfl, inferInstance, h2.weak, inferInstance, Ext0.ext⟩
end Go.Am


namespace Go.Am
open Go
attribute [local irreducible] Wp WpO WpX WpE
theorem Img.ok {g : Img} (h : (g.err == 0) = true) : g.sized = true ∧ pxOk g.px = true := by
 unfold Img.err at h
 cases h1 : g.sized
 ·rw [h1] at h; cases h
 ·cases h2 : pxOk g.px
  ·rw [h1, h2] at h; cases h
  ·exact ⟨rfl, rfl⟩
end Go.Am


namespace Go.Am
open Go
attribute [local irreducible] Wp WpO WpX WpE
def combSpec (op : UInt8 → UInt8 → UInt8) (g h : Img) : Img × Int :=
 bif g.err == 0 then bif h.err == 0 then bif g.w == h.w && g.h == h.h then (⟨g.w, g.h, List.zipWith op g.px h.px⟩, 0) else (.zero, 2) else (.zero, h.err) else (.zero, g.err)
class PixFn (F : FuncId) (op : outParam (UInt8 → UInt8 → UInt8)) : Prop where
 con : ∀ (a b : UInt8) (H : AHeap), PureCon ext prog F [.int .u8 (a.toNat : Int), .int .u8 (b.toNat : Int)] H 1 (.int .u8 ((op a b).toNat : Int))
instance {F : FuncId} {op : UInt8 → UInt8 → UInt8} {a b : UInt8} {H : AHeap} [h : PixFn F op] : PureCon ext prog F [.int .u8 (a.toNat : Int), .int .u8 (b.toNat : Int)] H 1 (.int .u8 ((op a b).toNat : Int)) := h.con a b H
end Go.Am


namespace Go.Am
open Go
open Nat renaming reduceEqDiff → qe, reduceAdd → qz
open Int renaming reduceBEq → qa, reduceBNe → qn
attribute [local irreducible] Wp WpO WpX WpE
def inkB (w h : Int) (l : List UInt8) (x y : Int) : Bool := decide (x ≥ 0) && (decide (x < w) && (decide (y ≥ 0) && (decide (y < h) && (l.getD (y * w + x).toNat 0 == 1))))
theorem inkB_nat {a b x y : Nat} {l : List UInt8} (hx : x < a) (hy : y < b) : inkB a b l x y = (l.getD (y * a + x) 0 == 1) := by
 have e : ((y : Int) * (a : Int) + (x : Int)).toNat = y * a + x := by rw [← Int.natCast_mul, ← Int.natCast_add]; rfl
 have h1 : decide ((x : Int) ≥ 0) = true := decide_eq_true (by omega)
 have h2 : decide ((x : Int) < (a : Int)) = true := decide_eq_true (by omega)
 have h3 : decide ((y : Int) ≥ 0) = true := decide_eq_true (by omega)
 have h4 : decide ((y : Int) < (b : Int)) = true := decide_eq_true (by omega)
 simp only [inkB, h1, h2, h3, h4, e, Bool.true_and]
class Fits (w h : Int) (l : List UInt8) : Prop where
 it : sizedB w h l.length = true
theorem u8_one (c : UInt8) : (((c.toNat : Nat) : Int) == 1) = (c == 1) := by
 by_cases h : c = 1
 ·subst h; rfl
 ·have h2 : c.toNat ≠ 1 := fun e => h (UInt8.toNat_inj.1 e)
  have h1 : (c == 1) = false := by simpa using h
  rw [h1]
  simp only [beq_eq_false_iff_ne, ne_eq]
  omega
theorem u8_zero (c : UInt8) : (((c.toNat : Nat) : Int) == 0) = (c == 0) := by
 by_cases h : c = 0
 ·subst h; rfl
 ·have h2 : c.toNat ≠ 0 := fun e => h (UInt8.toNat_inj.1 e)
  have h1 : (c == 0) = false := by simpa using h
  rw [h1]
  simp only [beq_eq_false_iff_ne, ne_eq]
  omega
instance K_refInk {p : AVal} {H : AHeap} {w h x y : Int} {l : List UInt8} [hp : BytesI H p l] [hs : Fits w h l] : PureCon ext prog 63 [.agg [.int .i64 w, .int .i64 h, p], .int .i64 x, .int .i64 y] H 1 (.bool (inkB w h l x y)) := ⟨by
 refine con_of (show prog 63 = some c63 from rfl) rfl rfl fun n hn => ?_
 haveI := hp.one
 obtain ⟨a, b, rfl, rfl, ha, hb, hl⟩ := sized_nat hs.it
 have hm : a * b ≤ 640 * 640 := Nat.mul_le_mul ha hb
 cases h1 : decide (x ≥ 0)
 ·have e : inkB a b l x y = false := by simp only [inkB, h1, Bool.false_and]
  rw [e]
  repeat first | refine ox ?_ | refine mI ?_ | refine mB ?_ | refine bn rfl rfl rfl (by simp only [h1]; rfl) ?_ | refine fB ?_ | refine bA ?_ | refine nl hKF ?_ | refine sq ?_ | refine rg fun KF hKF => ?_ | refine rt ?_ | dsimp only
  refine rz trivial ?_
  exact ⟨rfl, Ext0.ext⟩
 cases h2 : decide (x < (a : Int))
 ·have e : inkB a b l x y = false := by simp only [inkB, h1, h2, Bool.false_and, Bool.and_false]
  rw [e]
  repeat first | refine oy ?_ | refine ox ?_ | refine mI ?_ | refine mB ?_ | refine fd ?_ | refine Fo.ld rfl rfl ?_ | refine bn rfl rfl rfl (by simp only [h1, h2]; rfl) ?_ | refine tB ?_ | refine fB ?_ | refine bA ?_ | refine nl hKF ?_ | refine sq ?_ | refine rg fun KF hKF => ?_ | refine rt ?_ | dsimp only
  refine rz trivial ?_
  exact ⟨rfl, Ext0.ext⟩
 cases h3 : decide (y ≥ 0)
 ·have e : inkB a b l x y = false := by simp only [inkB, h1, h2, h3, Bool.false_and, Bool.and_false]
  rw [e]
  repeat first | refine oy ?_ | refine ox ?_ | refine mI ?_ | refine mB ?_ | refine fd ?_ | refine Fo.ld rfl rfl ?_ | refine bn rfl rfl rfl (by simp only [h1, h2, h3]; rfl) ?_ | refine tB ?_ | refine fB ?_ | refine bA ?_ | refine nl hKF ?_ | refine sq ?_ | refine rg fun KF hKF => ?_ | refine rt ?_ | dsimp only
  refine rz trivial ?_
  exact ⟨rfl, Ext0.ext⟩
 cases h4 : decide (y < (b : Int))
 ·have e : inkB a b l x y = false := by simp only [inkB, h1, h2, h3, h4, Bool.false_and, Bool.and_false]
  rw [e]
  repeat first | refine oy ?_ | refine ox ?_ | refine mI ?_ | refine mB ?_ | refine fd ?_ | refine Fo.ld rfl rfl ?_ | refine bn rfl rfl rfl (by simp only [h1, h2, h3, h4]; rfl) ?_ | refine tB ?_ | refine fB ?_ | refine bA ?_ | refine nl hKF ?_ | refine sq ?_ | refine rg fun KF hKF => ?_ | refine rt ?_ | dsimp only
  refine rz trivial ?_
  exact ⟨rfl, Ext0.ext⟩
 obtain ⟨x, rfl⟩ : ∃ k : Nat, x = k := ⟨x.toNat, by have := of_decide_eq_true h1; omega⟩
 obtain ⟨y, rfl⟩ : ∃ k : Nat, y = k := ⟨y.toNat, by have := of_decide_eq_true h3; omega⟩
 have hx : x < a := by have := of_decide_eq_true h2; omega
 have hy : y < b := by have := of_decide_eq_true h4; omega
 have hlt := idx_lt hx hy
 have hil : y * a + x < l.length := by omega
 have h5 : IntKind.i64.wrap ((y : Int) * (a : Int)) = ((y * a : Nat) : Int) := wm (by omega)
 have h6 : IntKind.i64.wrap (((y * a : Nat) : Int) + (x : Int)) = ((y * a + x : Nat) : Int) := wa (by omega)
 have e : inkB a b l x y = (l[y * a + x] == 1) := by rw [inkB_nat hx hy]; simp [hil]
 rw [e]
 repeat first | refine oy ?_ | refine mI ?_ | refine mB ?_ | refine fd ?_ | refine Fo.ld rfl rfl ?_ | refine bn rfl rfl rfl (by simp only [h1, h2, h3, h4, h5, h6, u8_one]; rfl) ?_ | refine tB ?_ | refine bA ?_ | (refine Fo.idx (by simp only [↓nrmL, nrmK, qe, ↓reduceIte]; rfl) rfl ?_ (by simp only [↓nrmL, nrmZ, qe, ↓reduceIte, qz, qa, qn, h1, h2, h3, h4, h5, h6, u8_one]; rfl) ?_; (focus omega)) | (refine Fo.ldB rfl ?_ rfl ?_; (focus omega)) | refine nl hKF ?_ | refine sq ?_ | refine rg fun KF hKF => ?_ | refine rt ?_ | dsimp only
 refine rz trivial ?_
 exact ⟨rfl, Ext0.ext⟩⟩
instance K_ink {p : AVal} {H : AHeap} {w h x y : Int} {l : List UInt8} [hp : BytesI H p l] [hs : Fits w h l] : PureCon ext prog 55 [.agg [.int .i64 w, .int .i64 h, p], .int .i64 x, .int .i64 y] H 1 (.bool (inkB w h l x y)) := ⟨by
 refine con_of (show prog 55 = some c55 from rfl) rfl rfl fun n hn => ?_
 haveI := hp.one
 obtain ⟨a, b, rfl, rfl, ha, hb, hl⟩ := sized_nat hs.it
 have hm : a * b ≤ 640 * 640 := Nat.mul_le_mul ha hb
 cases h1 : decide (x ≥ 0)
 ·have e : inkB a b l x y = false := by simp only [inkB, h1, Bool.false_and]
  rw [e]
  repeat first | refine ox ?_ | refine mI ?_ | refine mB ?_ | refine bn rfl rfl rfl (by simp only [h1]; rfl) ?_ | refine fB ?_ | refine bA ?_ | refine nl hKF ?_ | refine sq ?_ | refine rg fun KF hKF => ?_ | refine rt ?_ | dsimp only
  refine rz trivial ?_
  exact ⟨rfl, Ext0.ext⟩
 cases h2 : decide (x < (a : Int))
 ·have e : inkB a b l x y = false := by simp only [inkB, h1, h2, Bool.false_and, Bool.and_false]
  rw [e]
  repeat first | refine oy ?_ | refine ox ?_ | refine mI ?_ | refine mB ?_ | refine fd ?_ | refine Fo.ld rfl rfl ?_ | refine bn rfl rfl rfl (by simp only [h1, h2]; rfl) ?_ | refine tB ?_ | refine fB ?_ | refine bA ?_ | refine nl hKF ?_ | refine sq ?_ | refine rg fun KF hKF => ?_ | refine rt ?_ | dsimp only
  refine rz trivial ?_
  exact ⟨rfl, Ext0.ext⟩
 cases h3 : decide (y ≥ 0)
 ·have e : inkB a b l x y = false := by simp only [inkB, h1, h2, h3, Bool.false_and, Bool.and_false]
  rw [e]
  repeat first | refine oy ?_ | refine ox ?_ | refine mI ?_ | refine mB ?_ | refine fd ?_ | refine Fo.ld rfl rfl ?_ | refine bn rfl rfl rfl (by simp only [h1, h2, h3]; rfl) ?_ | refine tB ?_ | refine fB ?_ | refine bA ?_ | refine nl hKF ?_ | refine sq ?_ | refine rg fun KF hKF => ?_ | refine rt ?_ | dsimp only
  refine rz trivial ?_
  exact ⟨rfl, Ext0.ext⟩
 cases h4 : decide (y < (b : Int))
 ·have e : inkB a b l x y = false := by simp only [inkB, h1, h2, h3, h4, Bool.false_and, Bool.and_false]
  rw [e]
  repeat first | refine oy ?_ | refine ox ?_ | refine mI ?_ | refine mB ?_ | refine fd ?_ | refine Fo.ld rfl rfl ?_ | refine bn rfl rfl rfl (by simp only [h1, h2, h3, h4]; rfl) ?_ | refine tB ?_ | refine fB ?_ | refine bA ?_ | refine nl hKF ?_ | refine sq ?_ | refine rg fun KF hKF => ?_ | refine rt ?_ | dsimp only
  refine rz trivial ?_
  exact ⟨rfl, Ext0.ext⟩
 obtain ⟨x, rfl⟩ : ∃ k : Nat, x = k := ⟨x.toNat, by have := of_decide_eq_true h1; omega⟩
 obtain ⟨y, rfl⟩ : ∃ k : Nat, y = k := ⟨y.toNat, by have := of_decide_eq_true h3; omega⟩
 have hx : x < a := by have := of_decide_eq_true h2; omega
 have hy : y < b := by have := of_decide_eq_true h4; omega
 have hlt := idx_lt hx hy
 have hil : y * a + x < l.length := by omega
 have h5 : IntKind.i64.wrap ((y : Int) * (a : Int)) = ((y * a : Nat) : Int) := wm (by omega)
 have h6 : IntKind.i64.wrap (((y * a : Nat) : Int) + (x : Int)) = ((y * a + x : Nat) : Int) := wa (by omega)
 have e : inkB a b l x y = (l[y * a + x] == 1) := by rw [inkB_nat hx hy]; simp [hil]
 rw [e]
 repeat first | refine oy ?_ | refine mI ?_ | refine mB ?_ | refine fd ?_ | refine Fo.ld rfl rfl ?_ | refine bn rfl rfl rfl (by simp only [h1, h2, h3, h4, h5, h6, u8_one]; rfl) ?_ | refine tB ?_ | refine bA ?_ | (refine Fo.idx (by simp only [↓nrmL, nrmK, qe, ↓reduceIte]; rfl) rfl ?_ (by simp only [↓nrmL, nrmZ, qe, ↓reduceIte, qz, qa, qn, h1, h2, h3, h4, h5, h6, u8_one]; rfl) ?_; (focus omega)) | (refine Fo.ldB rfl ?_ rfl ?_; (focus omega)) | refine nl hKF ?_ | refine sq ?_ | refine rg fun KF hKF => ?_ | refine rt ?_ | dsimp only
 refine rz trivial ?_
 exact ⟨rfl, Ext0.ext⟩⟩
theorem pxOk_take {l : List UInt8} {i : Nat} (h : i < l.length) : pxOk (l.take (i + 1)) = (pxOk (l.take i) && (l[i] == 0 || l[i] == 1)) := by
 rw [List.take_succ_eq_append_getElem h]
 simp only [pxOk, List.all_append, List.all_cons, List.all_nil, Bool.and_true]
theorem pxOk_bad {l : List UInt8} {i : Nat} (h : i < l.length) (hb : (l[i] == 0 || l[i] == 1) = false) : pxOk l = false := by
 cases hp : pxOk l
 ·rfl
 ·have := List.all_eq_true.1 hp l[i] (List.getElem_mem h)
  rw [hb] at this; cases this
instance K_refCheck {p : AVal} {H : AHeap} {w h : Int} {l : List UInt8} [hp : BytesI H p l] : PureCon ext prog 13 [.agg [.int .i64 w, .int .i64 h, p]] H 2 (.int .i64 (Img.err ⟨w, h, l⟩)) := ⟨by
 refine con_of (show prog 13 = some c13 from rfl) rfl rfl fun n hn => ?_
 haveI := hp.one
 unfold Img.err Img.sized sizedB
 cases h1 : (sideB w && sideB h)
 ·skip
  simp only [h1]
  repeat first | refine ox ?_ | refine mI ?_ | refine mB ?_ | refine fd ?_ | refine Fo.ld rfl rfl ?_ | refine tB ?_ | (refine Fo.pcall (v' := ?_) hn rfl (by simp only [↓nrmL, nrmZ, qe, ↓reduceIte, qz, qa, qn, h1, List.map]; rfl) rfl ?hv fun _ _ => ?_; case hv => (simp only [h1]; rfl)) | refine bA ?_ | refine Fo.now rfl rfl (by simp only [↓nrmL, nrmZ, qe, ↓reduceIte, qz, qa, qn, h1]; rfl) ?_ | refine nl hKF ?_ | refine sq ?_ | refine rg fun KF hKF => ?_ | refine ct rfl ?_ | refine rt ?_ | dsimp only
  refine rz trivial ?_
  exact ⟨rfl, Ext0.ext⟩
 cases h2 : (((l.length : Nat) : Int) == IntKind.i64.wrap (w * h))
 ·skip
  simp only [h1, h2, bne]
  repeat first | refine oy ?_ | refine mI ?_ | refine mB ?_ | refine fd ?_ | refine Fo.ld rfl rfl ?_ | refine bn rfl rfl rfl (by simp only [h1, h2, bne]; rfl) ?_ | refine b0 ?_ | refine fB ?_ | (refine Fo.pcall (v' := ?_) hn rfl (by simp only [↓nrmL, nrmZ, qe, ↓reduceIte, qz, qa, qn, h1, h2, bne, List.map]; rfl) rfl ?hv fun _ _ => ?_; case hv => (simp only [h1, h2, bne]; rfl)) | refine ln (by simp only [↓nrmL, nrmK, qe, ↓reduceIte]; rfl) ?_ | refine bA ?_ | refine Fo.now rfl rfl (by simp only [↓nrmL, nrmZ, qe, ↓reduceIte, qz, qa, qn, h1, h2, bne]; rfl) ?_ | refine nl hKF ?_ | refine sq ?_ | refine rg fun KF hKF => ?_ | refine ct rfl ?_ | refine rt ?_ | dsimp only
  refine rz trivial ?_
  exact ⟨rfl, Ext0.ext⟩
 have hs : sizedB w h l.length = true := by unfold sizedB; rw [h1, h2]; rfl
 obtain ⟨a, b, _, _, ha, hb, hl⟩ := sized_nat hs
 have hm : a * b ≤ 640 * 640 := Nat.mul_le_mul ha hb
 simp only [h1, h2, bne]
 repeat first | refine oy ?_ | refine mI ?_ | refine mB ?_ | refine fd ?_ | refine Fo.ld rfl rfl ?_ | refine bn rfl rfl rfl (by simp only [h1, h2, bne]; rfl) ?_ | refine b0 ?_ | refine fB ?_ | (refine Fo.pcall (v' := ?_) hn rfl (by simp only [↓nrmL, nrmZ, qe, ↓reduceIte, qz, qa, qn, h1, h2, bne, List.map]; rfl) rfl ?hv fun _ _ => ?_; case hv => (simp only [h1, h2, bne]; rfl)) | refine ln (by simp only [↓nrmL, nrmK, qe, ↓reduceIte]; rfl) ?_ | refine bA ?_ | refine Fo.now rfl rfl (by simp only [↓nrmL, nrmZ, qe, ↓reduceIte, qz, qa, qn, h1, h2, bne]; rfl) ?_ | refine nl hKF ?_ | refine sq ?_ | refine rg fun KF hKF => ?_ | refine cf rfl ?_ | refine sk ?_ | refine Wp.block ?_ | dsimp only
 refine Wp.loopS [2, 3, 21, 22, 23, 24, 25, 26, 27, 28, 29, 30, 31, 32, 33, 34, 35, 36, 37, 38, 39, 40, 41] (fun i : Nat => [(3, .int .i64 i)]) (fun H3 i H2 => i ≤ l.length ∧ pxOk (l.take i) = true ∧ H2 = H3) (fun i => l.length - i) 0 rfl (fun _ => rfl) ⟨rfl, trivial⟩ ⟨Nat.zero_le _, rfl, rfl⟩ (by unfold fuel0 at hn; omega) ?_
 rintro i g H2 ⟨hi, hok, rfl⟩
 simp only [↓nrmL, nrmZ, qe, ↓reduceIte, qz, qa, qn]
 cases hc : decide ((i : Int) < (l.length : Int))
 ·have hil : i = l.length := by have := of_decide_eq_false hc; omega
  subst hil
  rw [List.take_length] at hok
  repeat first | refine mI ?_ | refine fd ?_ | refine Fo.ld rfl rfl ?_ | refine bn rfl rfl rfl (by simp only [hc]; rfl) ?_ | refine ln (by simp only [↓nrmL, nrmK, qe, ↓reduceIte]; rfl) ?_ | refine nl hKF ?_ | refine sq ?_ | refine rg fun KF hKF => ?_ | refine cf rfl ?_ | refine rt ?_ | refine xi ?_ | dsimp only
  refine rz trivial ?_
  exact ⟨by rw [hok]; rfl, Ext0.ext⟩
 ·have hil : i < l.length := by have := of_decide_eq_true hc; omega
  have hw1 := wa1 (a := i) (by omega)
  cases h0 : (l[i] == 0)
  ·cases h4 : (l[i] == 1)
   ·skip
    repeat first | refine oy ?_ | refine mI ?_ | refine mB ?_ | refine fd ?_ | refine Fo.ld rfl rfl ?_ | refine bn rfl rfl rfl (by simp only [hc, bne, u8_zero, u8_one, h0, h4]; rfl) ?_ | refine tB ?_ | refine ln (by simp only [↓nrmL, nrmK, qe, ↓reduceIte]; rfl) ?_ | (refine Fo.idx (by simp only [↓nrmL, nrmK, qe, ↓reduceIte]; rfl) rfl ?_ (by simp only [↓nrmL, nrmZ, qe, ↓reduceIte, qz, qa, qn, hc, bne, u8_zero, u8_one, h0, h4]; rfl) ?_; (focus omega)) | (refine Fo.ldB rfl ?_ rfl ?_; (focus omega)) | refine nl hKF ?_ | refine sq ?_ | refine rg fun KF hKF => ?_ | refine ct rfl ?_ | refine sk ?_ | refine rt ?_ | refine Wp.block ?_ | dsimp only
    refine rz trivial ?_
    exact ⟨by rw [pxOk_bad hil (by rw [h0, h4]; rfl)]; rfl, Ext0.ext⟩
   ·skip
    repeat first | refine oy ?_ | refine mI ?_ | refine mB ?_ | refine fd ?_ | refine Fo.ld rfl rfl ?_ | refine bn rfl rfl rfl (by simp only [hc, bne, u8_zero, u8_one, h0, h4]; rfl) ?_ | refine b0 ?_ | refine tB ?_ | refine ln (by simp only [↓nrmL, nrmK, qe, ↓reduceIte]; rfl) ?_ | (refine Fo.idx (by simp only [↓nrmL, nrmK, qe, ↓reduceIte]; rfl) rfl ?_ (by simp only [↓nrmL, nrmZ, qe, ↓reduceIte, qz, qa, qn, hc, bne, u8_zero, u8_one, h0, h4]; rfl) ?_; (focus omega)) | (refine Fo.ldB rfl ?_ rfl ?_; (focus omega)) | refine nl hKF ?_ | refine sq ?_ | refine rg fun KF hKF => ?_ | refine ct rfl ?_ | refine cf rfl ?_ | refine sk ?_ | refine Wp.block ?_ | dsimp only
    exact ⟨i + 1, by omega, ⟨by simp only [↓nrmL, nrmZ, qe, ↓reduceIte, qz, qa, qn]; rw [hw1], trivial⟩, hil, by rw [pxOk_take hil, hok, h0, h4]; rfl, rfl⟩
  ·skip
   repeat first | refine ox ?_ | refine mI ?_ | refine mB ?_ | refine fd ?_ | refine Fo.ld rfl rfl ?_ | refine bn rfl rfl rfl (by simp only [hc, bne, u8_zero, u8_one, h0]; rfl) ?_ | refine b0 ?_ | refine fB ?_ | refine ln (by simp only [↓nrmL, nrmK, qe, ↓reduceIte]; rfl) ?_ | (refine Fo.idx (by simp only [↓nrmL, nrmK, qe, ↓reduceIte]; rfl) rfl ?_ (by simp only [↓nrmL, nrmZ, qe, ↓reduceIte, qz, qa, qn, hc, bne, u8_zero, u8_one, h0]; rfl) ?_; (focus omega)) | (refine Fo.ldB rfl ?_ rfl ?_; (focus omega)) | refine nl hKF ?_ | refine sq ?_ | refine rg fun KF hKF => ?_ | refine ct rfl ?_ | refine cf rfl ?_ | refine sk ?_ | refine Wp.block ?_ | dsimp only
   exact ⟨i + 1, by omega, ⟨by simp only [↓nrmL, nrmZ, qe, ↓reduceIte, qz, qa, qn]; rw [hw1], trivial⟩, hil, by rw [pxOk_take hil, hok, h0]; rfl, rfl⟩⟩
end Go.Am


namespace Go.Am
open Go
open Nat renaming reduceEqDiff → qe, reduceAdd → qz
open Int renaming reduceBEq → qa, reduceBNe → qn
attribute [local irreducible] Wp WpO WpX WpE
class Rows (H : AHeap) (ps : List AVal) (ls : List (List Int)) : Prop where
 it : ∀ (i : Nat) (h : i < ls.length), ∃ q, ps[i]? = some q ∧ IntsI H q ls[i]
class LinesI (H : AHeap) (p : AVal) (ls : outParam (List (List Int))) : Prop where
 it : ∃ ps : List AVal, SliceAt H p 1 ls.length ps ∧ Rows H ps ls
theorem Rows.ext {H H' : AHeap} {ps : List AVal} {ls : List (List Int)} (h : Rows H ps ls) (x : Ext H H') : Rows H' ps ls := ⟨fun i hi => by
 obtain ⟨q, h1, h2⟩ := h.it i hi
 haveI : ExtI H H' := ⟨x⟩
 exact ⟨q, h1, inferInstance⟩⟩
theorem LinesI.ext {H H' : AHeap} {p : AVal} {ls : List (List Int)} (h : LinesI H p ls) (x : Ext H H') : LinesI H' p ls := by
 obtain ⟨ps, h1, h2⟩ := h.it
 haveI : ExtI H H' := ⟨x⟩
 exact ⟨ps, inferInstance, h2.ext x⟩
instance {H : AHeap} {o : AObj} {p : AVal} {ls : List (List Int)} [h : LinesI H p ls] : LinesI (H.push o) p ls := h.ext ((Ext.refl H).push o)
instance {H H' : AHeap} {p : AVal} {ls : List (List Int)} [x : ExtI H H'] [h : LinesI H p ls] : LinesI H' p ls := h.ext x.ext
def fitAt (a b : Nat) (ls : List (List Int)) (i : Nat) : Bool := pathB a b (ls.getD i []) && (i == 0 || aboveB (ls.getD (i - 1) []) (ls.getD i []))
def fitTo (a b : Nat) (ls : List (List Int)) (x : Nat) : Bool := (List.range x).all (fitAt a b ls)
def fitsB (a b : Nat) (ls : List (List Int)) : Bool := ls.length == 5 && fitTo a b ls 5
theorem fitTo_succ {a b : Nat} {ls : List (List Int)} {x : Nat} : fitTo a b ls (x + 1) = (fitTo a b ls x && fitAt a b ls x) := by simp [fitTo, List.range_succ, List.all_append]
theorem fitTo_bad {a b : Nat} {ls : List (List Int)} {x n : Nat} (h : fitAt a b ls x = false) (hx : x < n) : fitTo a b ls n = false := by
 cases h2 : fitTo a b ls n with
 | false => rfl
 | true =>
  have := List.all_eq_true.1 h2 x (List.mem_range.2 hx)
  rw [h] at this; cases this
theorem getDL_at {ls : List (List Int)} {x : Nat} (h : x < ls.length) : ls.getD x [] = ls[x] := by rw [List.getD_eq_getElem?_getD, List.getElem?_eq_getElem h, Option.getD_some]
theorem fitTo_path {a b : Nat} {ls : List (List Int)} {x n : Nat} (h : fitTo a b ls n = true) (hx : x < n) (hl : x < ls.length) : pathB a b ls[x] = true := by
 have := List.all_eq_true.1 h x (List.mem_range.2 hx)
 simp only [fitAt, Bool.and_eq_true, getDL_at hl] at this
 exact this.1
theorem fitsB_iff {a b : Nat} {ls : List (List Int)} (h : fitsB a b ls = true) : ls.length = 5 ∧ (∀ i (hi : i < ls.length), pathB a b ls[i] = true) := by
 simp only [fitsB, Bool.and_eq_true, beq_iff_eq] at h
 exact ⟨h.1, fun i hi => fitTo_path h.2 (by omega) hi⟩
instance K_fits {a b : Nat} {p q : AVal} {H : AHeap} {g : List UInt8} {ls : List (List Int)} [hp : BytesI H p g] [hq : LinesI H q ls] [ha : Side a] [hb : Side b] : PureCon ext prog 27 [.agg [.int .i64 (a : Int), .int .i64 (b : Int), p], .agg [q]] H 3 (.bool (fitsB a b ls)) := ⟨by
 refine con_of (show prog 27 = some c27 from rfl) rfl rfl fun n hn => ?_
 obtain ⟨ps, hps, hrw⟩ := hq.it
 haveI := hp.one
 haveI := hps.one
 have hal := ha.le
 cases h0 : (((ls.length : Nat) : Int) != 5)
 rotate_left
 ·have e1 : fitsB a b ls = false := by
   have : ls.length ≠ 5 := by intro e; rw [e] at h0; simp at h0
   simp [fitsB, this]
  rw [e1]
  repeat first | refine mB ?_ | refine fd ?_ | refine Fo.ld rfl rfl ?_ | refine bn rfl rfl rfl (by simp only [h0]; rfl) ?_ | refine ln (by simp only [↓nrmL, nrmK, qe, ↓reduceIte]; rfl) ?_ | refine bA ?_ | refine nl hKF ?_ | refine sq ?_ | refine rg fun KF hKF => ?_ | refine ct rfl ?_ | refine rt ?_ | dsimp only
  refine rz trivial ?_
  exact ⟨rfl, Ext0.ext⟩
 have hl5 : ls.length = 5 := by have h7 := h0; simp only [bne_eq_false_iff_eq] at h7; omega
 have e0 : fitsB a b ls = fitTo a b ls ls.length := by simp [fitsB, hl5]
 rw [e0]
 repeat first | refine mI ?_ | refine mB ?_ | refine fd ?_ | refine Fo.ld rfl rfl ?_ | refine bn rfl rfl rfl (by simp only [h0]; rfl) ?_ | refine ln (by simp only [↓nrmL, nrmK, qe, ↓reduceIte]; rfl) ?_ | refine bA ?_ | refine nl hKF ?_ | refine sq ?_ | refine rg fun KF hKF => ?_ | refine cf rfl ?_ | refine sk ?_ | refine Wp.block ?_ | dsimp only
 refine Wp.loopS [4, 5, 6, 14, 15, 16, 17, 18, 19, 20, 21, 22, 23, 24, 25, 26, 27, 28, 29, 30, 31, 32, 33, 34, 35, 36, 37, 38] (fun x : Nat => [(14, .int .i64 x)]) (fun H3 x H2 => x ≤ ls.length ∧ fitTo a b ls x = true ∧ Ext0 H3 H2) (fun x => ls.length - x) 0 rfl (fun _ => rfl) ⟨rfl, trivial⟩ ⟨Nat.zero_le _, rfl, inferInstance⟩ (by unfold fuel0 at hn; omega) ?_
 rintro x g2 H2 ⟨hx, hok, ⟨hx2⟩⟩
 haveI : ExtI _ H2 := ⟨hx2⟩
 simp only [↓nrmL, nrmZ, qe, ↓reduceIte, qz, qa, qn]
 cases hc : decide ((x : Int) < ((ls.length : Nat) : Int))
 ·have hxl : x = ls.length := by have := of_decide_eq_false hc; omega
  subst hxl
  rw [hok]
  repeat first | refine mB ?_ | refine bn rfl rfl rfl (by simp only [hc]; rfl) ?_ | refine nl hKF ?_ | refine sq ?_ | refine rg fun KF hKF => ?_ | refine cf rfl ?_ | refine rt ?_ | refine xi ?_ | dsimp only
  refine rz trivial ?_
  exact ⟨rfl, Ext0.ext⟩
 have hxl : x < ls.length := by have := of_decide_eq_true hc; omega
 have hw1 := wa1 (a := x) (by omega)
 obtain ⟨qi, hqi, hIi⟩ := hrw.it x hxl
 haveI := hIi
 haveI := hIi.one
 cases hpa : pathB a b ls[x]
 ·rw [fitTo_bad (x := x) (n := ls.length) (by rw [fitAt, getDL_at hxl, hpa]; rfl) hxl]
  repeat first | refine mI ?_ | refine bn rfl rfl rfl (by simp only [hc]; rfl) ?_ | (refine Fo.idx (by simp only [↓nrmL, nrmK, qe, ↓reduceIte]; rfl) rfl ?_ (by simp only [↓nrmL, nrmZ, qe, ↓reduceIte, qz, qa, qn, hc]; rfl) ?_; (focus omega)) | refine nl hKF ?_ | refine sq ?_ | refine rg fun KF hKF => ?_ | refine ct rfl ?_ | refine sk ?_ | refine Wp.block ?_
  refine Fo.now rfl (exec_ldP (p := q) (j := x) rfl hqi) rfl ?_
  repeat first | refine ox ?_ | refine Fo.noU rfl ?_ | refine mI ?_ | refine mB ?_ | refine mv ?_ | refine Fo.ldN rfl rfl (by simp only [↓nrmL, nrmZ, qe, ↓reduceIte, qz, qa, qn, hpa]; rfl) ?_ | refine tB ?_ | (refine Fo.pcall (v' := ?_) hn rfl (by simp only [↓nrmL, nrmZ, qe, ↓reduceIte, qz, qa, qn, hpa, List.map]; rfl) rfl ?hv fun _ _ => ?_; case hv => (simp only [hpa]; rfl)) | refine Fo.now rfl rfl (by simp only [↓nrmL, nrmZ, qe, ↓reduceIte, qz, qa, qn, hpa]; rfl) ?_ | refine nl hKF ?_ | refine sq ?_ | refine rg fun KF hKF => ?_ | refine ct rfl ?_ | refine rt ?_ | dsimp only
  refine rz trivial ?_
  exact ⟨rfl, Ext0.ext⟩
 obtain ⟨hpl, _⟩ := pathB_len hpa
 cases h4 : decide ((x : Int) > 0)
 ·have hx0 : x = 0 := by have := of_decide_eq_false h4; omega
  have e2 : fitTo a b ls (x + 1) = true := by rw [fitTo_succ, hok, fitAt, getDL_at hxl, hpa]; simp [hx0]
  repeat first | refine mI ?_ | refine bn rfl rfl rfl (by simp only [hc]; rfl) ?_ | (refine Fo.idx (by simp only [↓nrmL, nrmK, qe, ↓reduceIte]; rfl) rfl ?_ (by simp only [↓nrmL, nrmZ, qe, ↓reduceIte, qz, qa, qn, hc]; rfl) ?_; (focus omega)) | refine nl hKF ?_ | refine sq ?_ | refine rg fun KF hKF => ?_ | refine ct rfl ?_ | refine sk ?_ | refine Wp.block ?_
  refine Fo.now rfl (exec_ldP (p := q) (j := x) rfl hqi) rfl ?_
  repeat first | refine oy ?_ | refine ox ?_ | refine mI ?_ | refine mB ?_ | refine mv ?_ | refine Fo.ldN rfl rfl (by simp only [↓nrmL, nrmZ, qe, ↓reduceIte, qz, qa, qn, hpa, h4]; rfl) ?_ | refine bn rfl rfl rfl (by simp only [hpa, h4]; rfl) ?_ | refine b0 ?_ | refine fB ?_ | (refine Fo.pcall (v' := ?_) hn rfl (by simp only [↓nrmL, nrmZ, qe, ↓reduceIte, qz, qa, qn, hpa, h4, List.map]; rfl) rfl ?hv fun _ _ => ?_; case hv => (simp only [hpa, h4]; rfl)) | refine Fo.now rfl rfl (by simp only [↓nrmL, nrmZ, qe, ↓reduceIte, qz, qa, qn, hpa, h4]; rfl) ?_ | refine nl hKF ?_ | refine sq ?_ | refine rg fun KF hKF => ?_ | refine cf rfl ?_ | refine sk ?_ | dsimp only
  refine ⟨x + 1, by omega, ⟨by simp only [↓nrmL, nrmZ, qe, ↓reduceIte, qz, qa, qn]; rw [hw1], trivial⟩, hxl, e2, inferInstance⟩
 have hx0 : 0 < x := by have := of_decide_eq_true h4; omega
 have hw2 := ws1 (a := x) hx0 (by omega)
 have hxm : x - 1 < ls.length := by omega
 obtain ⟨qm, hqm, hIm⟩ := hrw.it (x - 1) hxm
 haveI := hIm
 haveI := hIm.one
 have hpm : pathB a b ls[x - 1] = true := fitTo_path hok (by omega) hxm
 obtain ⟨hml, _⟩ := pathB_len hpm
 haveI : LenLe ls[x - 1] ls[x] := ⟨by omega, by omega⟩
 have e2 : fitTo a b ls (x + 1) = aboveB ls[x - 1] ls[x] := by
  rw [fitTo_succ, hok, fitAt, getDL_at hxl, getDL_at hxm, hpa, beq_eq_false_iff_ne.2 (by omega)]; rfl
 cases hab : aboveB ls[x - 1] ls[x]
 ·rw [fitTo_bad (x := x) (n := ls.length) (by rw [fitAt, getDL_at hxl, getDL_at hxm, hab, beq_eq_false_iff_ne.2 (by omega), Bool.or_false, Bool.and_false]) hxl]
  repeat first | refine mI ?_ | refine bn rfl rfl rfl (by simp only [hc]; rfl) ?_ | (refine Fo.idx (by simp only [↓nrmL, nrmK, qe, ↓reduceIte]; rfl) rfl ?_ (by simp only [↓nrmL, nrmZ, qe, ↓reduceIte, qz, qa, qn, hc]; rfl) ?_; (focus omega)) | refine nl hKF ?_ | refine sq ?_ | refine rg fun KF hKF => ?_ | refine ct rfl ?_ | refine sk ?_ | refine Wp.block ?_
  refine Fo.now rfl (exec_ldP (p := q) (j := x) rfl hqi) rfl ?_
  repeat first | refine oy ?_ | refine mI ?_ | refine mB ?_ | refine mv ?_ | refine fd ?_ | refine Fo.ld rfl rfl ?_ | refine Fo.ldN rfl rfl (by simp only [↓nrmL, nrmZ, qe, ↓reduceIte, qz, qa, qn, hpa, h4, hw2]; rfl) ?_ | refine bn rfl rfl rfl (by simp only [hpa, h4, hw2]; rfl) ?_ | (refine Fo.pcall (v' := ?_) hn rfl (by simp only [↓nrmL, nrmZ, qe, ↓reduceIte, qz, qa, qn, hpa, h4, hw2, List.map]; rfl) rfl ?hv fun _ _ => ?_; case hv => (simp only [hpa, h4, hw2]; rfl)) | (refine Fo.idx (by simp only [↓nrmL, nrmK, qe, ↓reduceIte]; rfl) rfl ?_ (by simp only [↓nrmL, nrmZ, qe, ↓reduceIte, qz, qa, qn, hpa, h4, hw2]; rfl) ?_; (focus omega)) | refine Fo.now rfl rfl (by simp only [↓nrmL, nrmZ, qe, ↓reduceIte, qz, qa, qn, hpa, h4, hw2]; rfl) ?_ | refine nl hKF ?_ | refine sq ?_ | refine rg fun KF hKF => ?_
  refine Fo.now rfl (exec_ldP (p := q) (j := x - 1) rfl hqm) rfl ?_
  simp only [↓nrmL, nrmZ, qe, ↓reduceIte, qz, qa, qn, hab]
  repeat first | refine oy ?_ | refine mB ?_ | refine mv ?_ | refine tB ?_ | refine fB ?_ | (refine Fo.pcall (v' := ?_) hn rfl (by simp only [↓nrmL, nrmZ, qe, ↓reduceIte, qz, qa, qn, hab, List.map]; rfl) rfl ?hv fun _ _ => ?_; case hv => (simp only [hab]; rfl)) | refine Fo.now rfl rfl (by simp only [↓nrmL, nrmZ, qe, ↓reduceIte, qz, qa, qn, hab]; rfl) ?_ | refine nl hKF ?_ | refine sq ?_ | refine rg fun KF hKF => ?_ | refine ct rfl ?_ | refine rt ?_ | dsimp only
  refine rz trivial ?_
  exact ⟨rfl, Ext0.ext⟩
 rw [hab] at e2
 repeat first | refine mI ?_ | refine bn rfl rfl rfl (by simp only [hc]; rfl) ?_ | (refine Fo.idx (by simp only [↓nrmL, nrmK, qe, ↓reduceIte]; rfl) rfl ?_ (by simp only [↓nrmL, nrmZ, qe, ↓reduceIte, qz, qa, qn, hc]; rfl) ?_; (focus omega)) | refine nl hKF ?_ | refine sq ?_ | refine rg fun KF hKF => ?_ | refine ct rfl ?_ | refine sk ?_ | refine Wp.block ?_
 refine Fo.now rfl (exec_ldP (p := q) (j := x) rfl hqi) rfl ?_
 repeat first | refine oy ?_ | refine mI ?_ | refine mB ?_ | refine mv ?_ | refine fd ?_ | refine Fo.ld rfl rfl ?_ | refine Fo.ldN rfl rfl (by simp only [↓nrmL, nrmZ, qe, ↓reduceIte, qz, qa, qn, hpa, h4, hw2]; rfl) ?_ | refine bn rfl rfl rfl (by simp only [hpa, h4, hw2]; rfl) ?_ | (refine Fo.pcall (v' := ?_) hn rfl (by simp only [↓nrmL, nrmZ, qe, ↓reduceIte, qz, qa, qn, hpa, h4, hw2, List.map]; rfl) rfl ?hv fun _ _ => ?_; case hv => (simp only [hpa, h4, hw2]; rfl)) | (refine Fo.idx (by simp only [↓nrmL, nrmK, qe, ↓reduceIte]; rfl) rfl ?_ (by simp only [↓nrmL, nrmZ, qe, ↓reduceIte, qz, qa, qn, hpa, h4, hw2]; rfl) ?_; (focus omega)) | refine Fo.now rfl rfl (by simp only [↓nrmL, nrmZ, qe, ↓reduceIte, qz, qa, qn, hpa, h4, hw2]; rfl) ?_ | refine nl hKF ?_ | refine sq ?_ | refine rg fun KF hKF => ?_
 refine Fo.now rfl (exec_ldP (p := q) (j := x - 1) rfl hqm) rfl ?_
 simp only [↓nrmL, nrmZ, qe, ↓reduceIte, qz, qa, qn, hab]
 repeat first | refine oy ?_ | refine mI ?_ | refine mv ?_ | refine b0 ?_ | refine tB ?_ | refine fB ?_ | (refine Fo.pcall (v' := ?_) hn rfl (by simp only [↓nrmL, nrmZ, qe, ↓reduceIte, qz, qa, qn, hab, List.map]; rfl) rfl ?hv fun _ _ => ?_; case hv => (simp only [hab]; rfl)) | refine Fo.now rfl rfl (by simp only [↓nrmL, nrmZ, qe, ↓reduceIte, qz, qa, qn, hab]; rfl) ?_ | refine nl hKF ?_ | refine rg fun KF hKF => ?_ | refine cf rfl ?_ | refine sk ?_ | dsimp only
 refine ⟨x + 1, by omega, ⟨by simp only [↓nrmL, nrmZ, qe, ↓reduceIte, qz, qa, qn]; rw [hw1], trivial⟩, hxl, e2, inferInstance⟩⟩
end Go.Am

namespace Go.Am
open Go
class Part (p : outParam AVal) (v : AVal) (a n : outParam Nat) : Prop where
  it : (n = 0 ∧ aLenS v = some (.int .i64 0) ∧ v.cells = [v] ∧ v.one = true) ∨ ∃ r off len cap cap', p = .slice r off len cap 1 ∧ v = .slice r (off + a) n cap' 1 ∧ a + n ≤ len
theorem Part.one {p v : AVal} {a n : Nat} (h : Part p v a n) : OneV v := by
  rcases h.it with ⟨_, _, h1, h2⟩ | ⟨r, off, len, cap, cap', _, rfl, _⟩
  · exact ⟨h1, h2⟩
  · infer_instance
theorem Part.lenS {p v : AVal} {a n : Nat} (h : Part p v a n) : aLenS v = some (.int .i64 n) := by
  rcases h.it with ⟨rfl, h1, _⟩ | ⟨r, off, len, cap, cap', _, rfl, _⟩
  · exact h1
  · rfl
section
variable {call : ACall} {fr : AFrame} {H : AHeap} {KF : AFrame → AHeap → Prop} {os : List ROper} {d : Nat}
theorem cells_sub {row : List AVal} {l : List UInt8} {off a b : Nat} (hc : (row.drop off).take l.length = cellsB l) (hb : b ≤ l.length) : (row.drop (off + a)).take (b - a) = cellsB ((l.drop a).take (b - a)) := by
  have h1 : (cellsB l).drop a = cellsB (l.drop a) := by simp [cellsB, List.map_drop]
  have h2 : ∀ (k : Nat) (m : List UInt8), (cellsB m).take k = cellsB (m.take k) := fun k m => by simp [cellsB, List.map_take]
  rw [← h2, ← h1, ← hc, List.drop_take, List.drop_drop, List.take_take]
  congr 1
  omega
def bnd (o : Option AVal) (dflt n : Nat) : Prop := (o = none ∧ n = dflt) ∨ ∃ k, o = some (.int k n)
theorem exec_slc {x : ROpd} {lo hi : Option ROpd} {p : AVal} {l : List UInt8} {a b : Nat} (hx : x.ev fr = p) (hlo : bnd (lo.map (·.ev fr)) 0 a) (hhi : bnd (hi.map (·.ev fr)) l.length b) (hab : a ≤ b) (hbl : b ≤ l.length) [s : BytesI H p l] :
    ∃ v H', (ROp.sliceS 1 x lo hi none).exec call fr H = some (v, H') ∧ Part p v a (b - a) ∧ BytesI H' v ((l.drop a).take (b - a)) ∧ Ext H H' := by
  have hlen : ((l.drop a).take (b - a)).length = b - a := by rw [List.length_take, List.length_drop]; omega
  have hl1 : ∀ h, a ≤ h → aLow h (lo.map (·.ev fr)) = some a := by
    intro h hh
    rcases hlo with ⟨h1, rfl⟩ | ⟨k, h1⟩
    · rw [h1]; rfl
    · rw [h1]
      have : (0 : Int) ≤ (a : Int) ∧ (a : Int) ≤ (h : Int) := by omega
      simp only [aLow, aBound, if_pos this, Int.toNat_natCast]
  have hh1 : ∀ y, b ≤ y → aHigh l.length y (hi.map (·.ev fr)) = some b := by
    intro y hy
    rcases hhi with ⟨h1, rfl⟩ | ⟨k, h1⟩
    · rw [h1]; rfl
    · rw [h1]
      have : (0 : Int) ≤ (b : Int) ∧ (b : Int) ≤ (y : Int) := by omega
      simp only [aHigh, aBound, if_pos this, Int.toNat_natCast]
  rcases s.it with ⟨rfl, h0, _⟩ | ⟨r, off, cap, row, rw, e, rfl, hr, hg, hl, hc, hcap⟩
  · have e1 : b = 0 := by omega
    have e2 : a = 0 := by omega
    subst e1 e2
    have hb0 : aBounds 0 (some 0) (lo.map (·.ev fr)) (hi.map (·.ev fr)) none = some (0, 0, some 0) := by
      have h1 := hh1 (capD 0 (some 0)) (Nat.zero_le _)
      rw [h0] at h1
      simp only [aBounds, h1, hl1 0 (Nat.zero_le _)]
    refine ⟨.nslice, H, by simp only [ROp.exec, hx, Option.map_none, aSliceS, hb0, M.pure], ⟨Or.inl ⟨rfl, rfl, rfl, rfl⟩⟩, ?_, Ext.refl H⟩
    have e3 : (l.drop 0).take (0 - 0) = [] := by simp
    rw [e3]
    exact ⟨Or.inl ⟨rfl, rfl, rfl⟩⟩
  · rw [Nat.mul_one] at hl hc
    have hb0 : aBounds l.length cap (lo.map (·.ev fr)) (hi.map (·.ev fr)) none = some (a, b, cap) := by
      simp only [aBounds, hh1 _ (Nat.le_trans hbl hcap), hl1 b hab]
    have hsub := cells_sub (a := a) hc hbl
    have full : ∀ cap', (b - a ≤ capD (b - a) cap') → BytesI H (.slice r (off + a) (b - a) cap' 1) ((l.drop a).take (b - a)) := by
      intro cap' hc'
      unfold BytesI
      rw [hlen]
      exact ⟨Or.inr ⟨r, off + a, cap', row, rw, e, rfl, hr, hg, by omega, by rw [Nat.mul_one]; exact hsub, hc'⟩⟩
    have none0 : a = b → ∀ cap', BytesI H (.slice r off (b - a) cap' 1) ((l.drop a).take (b - a)) := by
      intro hE cap'
      subst hE
      have e3 : (l.drop a).take (a - a) = [] := by simp
      rw [e3, Nat.sub_self]
      exact ⟨Or.inr ⟨r, off, cap', row, rw, e, rfl, hr, hg, by simp; omega, by simp [cellsB], Nat.zero_le _⟩⟩
    cases cap with
    | some c =>
      simp only [capD] at hcap
      by_cases hca : c = a
      · have hE : a = b := by omega
        refine ⟨.slice r off (b - a) (some 0) 1, H, by simp only [ROp.exec, hx, Option.map_none, aSliceS, ne_eq, not_true, if_false, hb0, M.pure, if_pos hca], ⟨Or.inl ⟨by omega, by rw [hE, Nat.sub_self]; rfl, rfl, rfl⟩⟩, none0 hE _, Ext.refl H⟩
      · refine ⟨.slice r (off + a) (b - a) (some (c - a)) 1, H, by simp only [ROp.exec, hx, Option.map_none, aSliceS, ne_eq, not_true, if_false, hb0, M.pure, if_neg hca, Nat.mul_one], ⟨Or.inr ⟨r, off, l.length, some c, some (c - a), rfl, rfl, by omega⟩⟩, full _ (by simp only [capD]; omega), Ext.refl H⟩
    | none =>
      have h2 : ¬ row.length < off + l.length := by omega
      have hrow : aRow r H = some ((row, rw), H) := by simp only [aRow, if_pos hr, hg]
      by_cases hcd : a < b ∨ a = 0
      · refine ⟨.slice r (off + a) (b - a) none 1, H, ?_, ⟨Or.inr ⟨r, off, l.length, none, none, rfl, rfl, by omega⟩⟩, full _ (Nat.le_refl _), Ext.refl H⟩
        simp only [ROp.exec, hx, Option.map_none, aSliceS, ne_eq, not_true, if_false, hb0, Nat.mul_one, Nat.one_ne_zero, M.bind, hrow, if_neg h2, if_pos hcd, M.pure]
      · have hE : a = b := by omega
        refine ⟨.slice H.n 0 0 none 1, H.push (.row [] false 0), ?_, ⟨Or.inl ⟨by omega, rfl, rfl, rfl⟩⟩, ?_, (Ext.refl H).push _⟩
        · simp only [ROp.exec, hx, Option.map_none, aSliceS, ne_eq, not_true, if_false, hb0, Nat.mul_one, Nat.one_ne_zero, M.bind, hrow, if_neg h2, if_neg hcd, M.pure, aNew]
        · have e3 : (l.drop a).take (b - a) = [] := by rw [hE, Nat.sub_self]; simp
          rw [e3]
          exact ⟨Or.inr ⟨H.n, 0, none, [], false, 0, rfl, Nat.lt_succ_self _, push_get_eq, by simp, by simp [cellsB], Nat.zero_le _⟩⟩
theorem Fo.slc {x : ROpd} {lo hi : Option ROpd} {p : AVal} {l : List UInt8} {a b : Nat} (hx : x.ev fr = p) (hlo : bnd (lo.map (·.ev fr)) 0 a) (hhi : bnd (hi.map (·.ev fr)) l.length b) (hab : a ≤ b) (hbl : b ≤ l.length) [s : BytesI H p l]
    (h : ∀ v H1, Part p v a (b - a) → BytesI H1 v ((l.drop a).take (b - a)) → ExtI H H1 → WpO call os (upd fr d v) H1 KF) : WpO call (⟨some d, .sliceS 1 x lo hi none, none⟩ :: os) fr H KF := by
  obtain ⟨v, H1, h1, h2, h3, h4⟩ := exec_slc (call := call) hx hlo hhi hab hbl (s := s)
  exact WpO.step rfl ⟨v, H1, h1, h v H1 h2 h3 ⟨h4⟩⟩
end
theorem row_le {a b y : Nat} (hy : y < b) : y * a + a ≤ a * b := by
  have : (y + 1) * a ≤ b * a := Nat.mul_le_mul_right _ hy
  rw [Nat.add_mul, Nat.one_mul] at this
  rw [Nat.mul_comm a b]; exact this
end Go.Am

namespace Go.Am
open Go
class OwnS (H : AHeap) (p : AVal) (sz : outParam Nat) (n : outParam Nat) (cs : outParam (List AVal)) (e : outParam TypeId) : Prop where
  it : (p = .nslice ∧ n = 0 ∧ cs = []) ∨ ∃ r e', p = .slice r 0 n none sz ∧ r < H.n ∧ H.get r = .row cs true e' ∧ e' / 2 = e ∧ cs.length = n * sz ∧ 0 < n
theorem OwnS.sl {H : AHeap} {p : AVal} {sz n : Nat} {cs : List AVal} {e : TypeId} (h : OwnS H p sz n cs e) : SliceAt H p sz n cs := by
  rcases h.it with ⟨h1, h2, h3⟩ | ⟨r, e', h1, h2, h3, h4, h5, h6⟩
  · exact ⟨Or.inl ⟨h1, h2, h3⟩⟩
  · exact ⟨Or.inr ⟨r, 0, none, cs, true, e', h1, h2, h3, by omega, by rw [List.drop_zero, List.take_of_length_le (by omega)], Nat.le_refl _⟩⟩
theorem OwnS.wr {H : AHeap} {p : AVal} {sz n : Nat} {cs : List AVal} {e : TypeId} (h : OwnS H p sz n cs e) : WrS H p := ⟨fun r off len cap s q => by
  rcases h.it with ⟨h1, _⟩ | ⟨r', e', h1, h2, h3, _⟩
  · rw [h1] at q; cases q
  · rw [h1] at q; cases q; exact ⟨cs, e', h3⟩⟩
theorem OwnS.keep {H H' : AHeap} {p : AVal} {sz n : Nat} {cs : List AVal} {e : TypeId} (h : OwnS H p sz n cs e) (hn : H.n ≤ H'.n) (hg : ∀ r off len cap sz, p = .slice r off len cap sz → r < H.n → H'.get r = H.get r) : OwnS H' p sz n cs e := by
  rcases h.it with ⟨h1, h2, h3⟩ | ⟨r, e', h1, h2, h3, h4⟩
  · exact ⟨Or.inl ⟨h1, h2, h3⟩⟩
  · exact ⟨Or.inr ⟨r, e', h1, by omega, by rw [hg _ _ _ _ _ h1 h2]; exact h3, h4⟩⟩
instance {H H' : AHeap} {p : AVal} {sz n : Nat} {cs : List AVal} {e : TypeId} [x : ExtI H H'] [h : OwnS H p sz n cs e] : OwnS H' p sz n cs e := h.keep x.ext.n fun _ _ _ _ _ _ hr => x.ext.get _ hr
instance {H : AHeap} {o : AObj} {p : AVal} {sz n : Nat} {cs : List AVal} {e : TypeId} [h : OwnS H p sz n cs e] : OwnS (H.push o) p sz n cs e := h.keep (Nat.le_succ _) fun _ _ _ _ _ _ hr => push_get_lt hr
instance {H : AHeap} {s : Nat} {o : AObj} {p : AVal} {sz n : Nat} {cs : List AVal} {e : TypeId} [h : OwnS H p sz n cs e] [k : RowNe p s] : OwnS (H.set s o) p sz n cs e := h.keep (Nat.le_refl _) fun _ _ _ _ _ e _ => set_get_ne (k.ne _ _ _ _ _ e)
instance {H H' : AHeap} {p q : AVal} {sz n : Nat} {cs : List AVal} {e : TypeId} [x : ExtP H H' q] [h : OwnS H p sz n cs e] [k : SepS p q] : OwnS H' p sz n cs e := h.keep x.n fun r _ _ _ _ e hr => x.get r hr ⟨fun r' _ _ _ _ e' => fun hh => k.ne _ _ _ _ _ _ _ _ _ _ e e' hh.symm⟩
theorem exec_grow {H : AHeap} {p q : AVal} {sz n k bytes : Nat} {cs new : List AVal} {e : TypeId} (h : OwnS H p sz n cs e) (hf : aLenOf q = some k ∧ aFirst sz k q H = some (new, H)) (hnl : new.length = k * sz) (hsz : 0 < sz) (hb : 0 < bytes) (hk : 0 < k) (hroom : 2 * (n + k) * bytes ≤ 2 ^ 48) (hone : new.all AVal.one = true) :
    ∃ p' H', aAppend e sz bytes p q H = some (p', H') ∧ OwnS H' p' sz (n + k) (cs ++ new) e ∧ FreshS H p' ∧ ExtP H H' p := by
  have hk0 : ¬ k = 0 := by omega
  have hs0 : ¬ sz = 0 := by omega
  have hb0 : ¬ bytes = 0 := by omega
  rcases h.it with ⟨rfl, rfl, rfl⟩ | ⟨r, e', rfl, h2, h3, h4, h5, h6⟩
  · refine ⟨.slice H.n 0 k none sz, H.push (.row new true (2 * e)), ?_, ⟨Or.inr ⟨H.n, 2 * e, by rw [Nat.zero_add], Nat.lt_succ_self _, by rw [List.nil_append]; exact push_get_eq, half_even _, by rw [List.nil_append, Nat.zero_add]; exact hnl, by omega⟩⟩, ⟨fun _ _ _ _ _ q => by cases q; exact Nat.le_refl _⟩, ⟨Nat.le_succ _, fun r hr _ => push_get_lt hr⟩⟩
    rw [Nat.zero_add] at hroom
    simp only [aAppend, hf.1]
    rw [bind_of hf.2]
    simp only [hone, hnl, Bool.not_true, ne_eq, not_true, decide_false, hs0, hb0, Bool.or_false, Bool.false_eq_true, if_false, hk0, if_pos hroom, M.bind, aNew, M.pure]
  · have hcl : 0 + n * sz ≤ cs.length := by omega
    have hno : ¬ (0 + (n + k) * sz ≤ cs.length) := by
      have : 0 < k * sz := Nat.mul_pos hk hsz
      rw [Nat.add_mul]; omega
    refine ⟨.slice H.n 0 (n + k) none sz, (H.set r .dead).push (.row (cs ++ new) true (2 * e + 1)), ?_, ⟨Or.inr ⟨H.n, 2 * e + 1, rfl, Nat.lt_succ_self _, push_get_eq (H := H.set r .dead), half_odd _, by rw [List.length_append, hnl, h5, Nat.add_mul], by omega⟩⟩, ⟨fun _ _ _ _ _ q => by cases q; exact Nat.le_refl _⟩, ⟨Nat.le_succ _, fun s hs hne => by
      have hsr : s ≠ r := fun q => hne.ne _ _ _ _ _ rfl q.symm
      rw [push_get_lt (H := H.set r .dead) hs, set_get_ne hsr]⟩⟩
    have ha : aRow r H = some ((cs, true), H) := by simp only [aRow, if_pos h2, h3]
    have hmv : aMove r e (.row (((cs.drop 0).take (n * sz)) ++ new) true (2 * e + 1)) H = some (H.n, (H.set r .dead).push (.row (cs ++ new) true (2 * e + 1))) := by
      simp only [aMove, h3, h4, nbeq_self]
      rw [List.drop_zero, List.take_of_length_le (by omega)]
    simp only [aAppend, hf.1]
    rw [bind_of hf.2]
    simp only [hone, hnl, Bool.not_true, ne_eq, not_true, decide_false, hs0, hb0, Bool.or_false, Bool.false_eq_true, if_false]
    rw [bind_of ha]
    simp only [hk0, if_false, hno, Bool.true_and, decide_eq_true hcl, decide_eq_true hroom, Bool.and_true, if_true]
    rw [bind_of hmv]
    rfl
theorem aFirst_at {H : AHeap} {q : AVal} {sz k : Nat} {new : List AVal} (h : SliceAt H q sz k new) : aLenOf q = some k ∧ aFirst sz k q H = some (new, H) := by
  rcases h.it with ⟨rfl, rfl, rfl⟩ | ⟨r, off, cap, row, rw, e0, rfl, hr, hg, hle, hc, _⟩
  · exact ⟨rfl, rfl⟩
  · exact ⟨rfl, by simp only [aFirst, ne_eq, not_true, if_false, M.bind, aRow, if_pos hr, hg, if_pos hle, hc, M.pure]⟩
section
variable {call : ACall} {fr : AFrame} {H : AHeap} {K : AVal → AHeap → Prop}
theorem WpX.grow {e : TypeId} {x y : ROpd} {p q : AVal} {sz n k bytes : Nat} {cs new : List AVal} (hx : x.ev fr = p) (hy : y.ev fr = q) [h : OwnS H p sz n cs e] [hq : SliceAt H q sz k new] (hsz : 0 < sz) (hb : 0 < bytes) (hk : 0 < k) (hroom : 2 * (n + k) * bytes ≤ 2 ^ 48) (hone : new.all AVal.one = true)
    (hK : ∀ p' H', OwnS H' p' sz (n + k) (cs ++ new) e → FreshS H p' → ExtP H H' p → K p' H') : WpX (.append e sz bytes x y) call fr H K := by
  obtain ⟨p', H', h1, h2, h3, h4⟩ := exec_grow h (aFirst_at hq) hq.len hsz hb hk hroom hone
  exact ⟨p', H', by simp only [ROp.exec, hx, hy]; exact h1, hK p' H' h2 h3 h4⟩
end
class HasLoop (H : AHeap) (r : Nat) (R : outParam RLoop) : Prop where
  lt : r < H.n
  get : H.get r = .loop R
instance {H : AHeap} {r : Nat} {R : RLoop} [h : HasLoop H r R] : LtN r H := ⟨h.lt⟩
theorem HasLoop.ext {H H' : AHeap} {r : Nat} {R : RLoop} (h : HasLoop H r R) (x : Ext H H') : HasLoop H' r R := ⟨Nat.lt_of_lt_of_le h.lt x.n, by rw [x.get r h.lt]; exact h.get⟩
instance {H H' : AHeap} {r : Nat} {R : RLoop} [x : ExtI H H'] [h : HasLoop H r R] : HasLoop H' r R := h.ext x.ext
instance {H : AHeap} {o : AObj} {r : Nat} {R : RLoop} [h : HasLoop H r R] : HasLoop (H.push o) r R := ⟨Nat.lt_succ_of_lt h.lt, by rw [push_get_lt h.lt]; exact h.get⟩
instance {H : AHeap} {R : RLoop} : HasLoop (H.push (.loop R)) H.n R := ⟨Nat.lt_succ_self _, push_get_eq⟩
instance {H : AHeap} {s : Nat} {o : AObj} {r : Nat} {R : RLoop} [h : HasLoop H r R] [k : NeR r s] : HasLoop (H.set s o) r R := ⟨h.lt, by rw [set_get_ne k.ne]; exact h.get⟩
instance {H : AHeap} {r : Nat} {R R' : RLoop} [h : HasLoop H r R'] : HasLoop (H.set r (.loop R)) r R := ⟨h.lt, set_get_eq⟩
instance {H H' : AHeap} {r : Nat} {R : RLoop} {q : AVal} [x : ExtP H H' q] [h : HasLoop H r R] [k : RowNe q r] : HasLoop H' r R := ⟨Nat.lt_of_lt_of_le h.lt x.n, by rw [x.get r h.lt k]; exact h.get⟩
theorem con_ofR {ext : Exts} {prog : FuncId → Option RFunc} {d : Nat} {f : FuncId} {rf : RFunc} {c : RCode} {args : List AVal} {H : AHeap} {Q : AVal → AHeap → Prop} (hp : prog f = some rf) (hc : rf.body = .ranges c) (hn : Nat.ble args.length rf.nt = true)
    (h : ∀ n, fuel0 + d ≤ n → Wp (callN ext prog n) n c (argFrame args) H fun x fr' H' => (match x with | .exit _ => False | _ => True) ∧ ∃ H2, takeMarks (marksOf (fr' rf.nt)) H' = some ((), H2) ∧ ∃ vs, getAll fr' rf.results H2 = some (vs, H2) ∧ Q (aResult vs) H2) : Con ext prog (d + 1) f args H Q := by
  intro n hle
  obtain ⟨k, rfl⟩ : ∃ k, n = k + 1 := ⟨n - 1, by unfold fuel0 at hle; omega⟩
  obtain ⟨nt, body, res⟩ := rf
  simp only [] at hc
  subst hc
  obtain ⟨x, fr', H', h1, h2, H2, h5, vs, h3, h4⟩ := h k (by omega)
  refine ⟨aResult vs, H2, ?_, h4⟩
  have hlt : ¬ nt < args.length := by have := Nat.le_of_ble_eq_true hn; simp only at this; omega
  simp only at h5 h3
  simp only [callN, hp, RFunc.run, if_neg hlt, M.bind, h1]
  cases x with
  | exit i => exact h2.elim
  | normal => simp only [M.bind, h5, h3, M.pure]
  | ret => simp only [M.bind, h5, h3, M.pure]
theorem takeMarks1 {H : AHeap} {d l : Nat} {R : RLoop} (h : HasLoop H l R) (hs : R.st = 3) (hd : R.d = d) : takeMarks [.ptr d l] H = some ((), H.set l (.loop { R with st := 4 })) := by
  have h1 : Nat.blt l H.n = true := by simpa using h.lt
  have h2 : (Nat.beq R.st 3 && Nat.beq R.d d) = true := by rw [hs, hd]; simp
  have h3 : takeMark (.ptr d l) H = some ((), H.set l (.loop { R with st := 4 })) := by
    show (match Nat.blt l H.n, H.get l with
      | true, .loop R => (match Nat.beq R.st 3 && Nat.beq R.d d with
        | true => some ((), H.set l (.loop { R with st := 4 }))
        | false => none)
      | _, _ => none) = _
    rw [h1, h.get]
    simp only [h2]
  show M.bind (takeMark (.ptr d l)) (fun _ => takeMarks []) H = _
  simp only [M.bind, h3, takeMarks, M.pure]
section
variable {call : ACall} {lf : Nat} {fr : AFrame} {H : AHeap} {Q : RExit → AFrame → AHeap → Prop}
theorem Wp.range {fns : List FuncId} {nt : Nat} {g : ROpd} {ps : List Nat} {a b : RCode} {gf : FuncId} {fi ca vs : List AVal} (hg : g.ev fr = .func (.func gf) fi ca) (hv : fr nt = .tuple vs) (hf : fns.contains gf = true)
    (h : ∃ v H2 R, call gf (fi ++ [.yield (H.n + 1)] ++ ca) ((H.push .dead).push (.loop ⟨H.n, nt, fr, ps, a, b, 0, .normal⟩)) = some (v, H2) ∧ H2.get (H.n + 1) = .loop R ∧ (Nat.beq R.st 1 || Nat.beq R.st 4) = false ∧
      Q R.pend (upd fr nt (.tuple (.ptr H.n (H.n + 1) :: vs))) (H2.set (H.n + 1) (.loop { R with st := 3 }))) : Wp call lf (.rangeFunc fns nt g ps a b) fr H Q := by
  obtain ⟨v, H2, R, h1, h2, h3, h4⟩ := h
  refine ⟨_, _, _, ?_, h4⟩
  simp only [RCode.exec, hg, hv, hf, h1, h2, h3]
end
theorem round_next {ext : Exts} {prog : FuncId → Option RFunc} {k r : Nat} {avs : List AVal} {H : AHeap} {K : AHeap → Prop} (hp : prog yieldId = none) {R : RLoop} (hl : HasLoop H r R) (hst : R.st = 0) (hpd : R.pend = .normal) (hlen : (Nat.beq avs.length R.ps.length && R.ps.all (fun t => Nat.blt t R.nt)) = true)
    (h : Wp (callN ext prog k) k R.assign (setAll R.fr (R.ps.zip avs)) H fun x fr1 H1 => x = .normal ∧ HasLoop H1 r R ∧ Wp (callN ext prog k) k R.body fr1 (H1.set r (.loop { R with st := 1 })) fun x _ H2 => x = .normal ∧ HasLoop H2 r { R with st := 1 } ∧ K (H2.set r (.loop R))) :
    ∃ H', callN ext prog (k + 1) yieldId (.yield r :: avs) H = some (.bool true, H') ∧ K H' := by
  obtain ⟨x, fr1, H1, h1, rfl, h2, x2, fr2, H2, h3, rfl, h4, h5⟩ := h
  refine ⟨_, ?_, h5⟩
  have e1 : Nat.blt r H.n = true := by simpa using hl.lt
  have e2 : Nat.beq R.st 0 = true := by rw [hst]; rfl
  have e3 : ({ R with st := 0, pend := .normal } : RLoop) = R := by rw [← hst, ← hpd]
  have e4 : Nat.beq yieldId yieldId = true := by simp
  simp only [callN, hp, e4]
  unfold roundRun
  simp only [e1, hl.get, hlen, h1, h2.get, e2, h3, h4.get, Nat.beq_refl, e3]
end Go.Am

namespace Go.Am
open Go
abbrev Bs := List UInt8
abbrev strV (l : Bs) : AVal := .str ⟨l.toArray⟩
theorem str_size (l : Bs) : (⟨l.toArray⟩ : ByteArray).size = l.length := by
  show l.toArray.size = l.length
  simp
section
variable {call : ACall} {fr : AFrame} {H : AHeap} {KF : AFrame → AHeap → Prop} {os : List ROper} {d : Nat}
theorem exec_lenStr {x : ROpd} {l : Bs} (hx : x.ev fr = strV l) : (ROp.lenStr x).exec call fr H = some (.int .i64 l.length, H) := by
  simp only [ROp.exec, hx, aLenStr, str_size, M.ofOption, M.pure]
theorem Fo.lenStr {x : ROpd} {l : Bs} {v : AVal} (hx : x.ev fr = strV l) (hv : AVal.int .i64 l.length = v) (h : WpO call os (upd fr d v) H KF) : WpO call (⟨some d, .lenStr x, none⟩ :: os) fr H KF := by
  subst hv; exact WpO.step rfl ⟨_, _, exec_lenStr hx, h⟩
end
theorem Fo.uptr {call : ACall} {fr : AFrame} {H : AHeap} {KF : AFrame → AHeap → Prop} {os : List ROper} {d : Nat} {t s r : Nat} {x : ROpd} {cs : List AVal} (hx : x.ev fr = .ptr r 0) [h : HasRow H r cs true (2 * t)] (hs : Nat.ble s cs.length = true) (h0 : Nat.blt 0 s = true) (hK : WpO call os (upd fr d (.ptr r 0)) H KF) :
    WpO call (⟨some d, .uptr t s x, none⟩ :: os) fr H KF := by
  refine WpO.step rfl ⟨.ptr r 0, H, ?_, hK⟩
  have h1 : Nat.blt r H.n = true := by simpa using h.lt
  have h2 : (Nat.blt r H.n && Nat.beq 0 0 && Nat.blt 0 s) = true := by rw [h1, h0]; rfl
  have h3 : (Nat.beq (2 * t) (2 * t) && Nat.ble s cs.length) = true := by rw [hs]; simp
  have h4 : aUptr t s (.ptr r 0) H = some (.ptr r 0, H) := by
    show (match Nat.blt r H.n && Nat.beq 0 0 && Nat.blt 0 s with
      | true => (match H.get r with
        | .row cs true e => (match Nat.beq e (2 * t) && Nat.ble s cs.length with
          | true => some (AVal.ptr r 0, H)
          | false => none)
        | _ => none)
      | false => none) = _
    rw [h2, h.get]
    simp only [h3]
  show aUptr t s (x.ev fr) H = _
  rw [hx, h4]
theorem Fo.eqD {call : ACall} {fr : AFrame} {H : AHeap} {KF : AFrame → AHeap → Prop} {os : List ROper} {d : Nat} {neg bb : Bool} {D : EqDesc} {x y : ROpd} {a b v : AVal} (hx : x.ev fr = a) (hy : y.ev fr = b) (he : aEq D a b = some bb) (hv : AVal.bool (match neg with | true => !bb | false => bb) = v) (h : WpO call os (upd fr d v) H KF) :
    WpO call (⟨some d, .eq neg D x y, none⟩ :: os) fr H KF := by
  subst hv
  refine WpO.step rfl ⟨_, H, ?_, h⟩
  simp only [ROp.exec, hx, hy, he]
  cases neg <;> rfl
theorem WpX.growX {call : ACall} {fr : AFrame} {H : AHeap} {K : AVal → AHeap → Prop} {e : TypeId} {x y : ROpd} {p q : AVal} {sz n k bytes : Nat} {cs new : List AVal} (hx : x.ev fr = p) (hy : y.ev fr = q) (h : OwnS H p sz n cs e) (hq : SliceAt H q sz k new) (hsz : 0 < sz) (hb : 0 < bytes) (hk : 0 < k) (hroom : 2 * (n + k) * bytes ≤ 2 ^ 48) (hone : new.all AVal.one = true)
    (hK : ∀ p' H', OwnS H' p' sz (n + k) (cs ++ new) e → FreshS H p' → ExtP H H' p → K p' H') : WpX (.append e sz bytes x y) call fr H K := WpX.grow hx hy hsz hb hk hroom hone hK
theorem WpX.pcallC {ext : Exts} {prog : FuncId → Option RFunc} {fr : AFrame} {H : AHeap} {K : AVal → AHeap → Prop} {n d D : Nat} {f : FuncId} {o : ROpd} {l : List ROpd} {args caps : List AVal} {v : AVal} (hn : fuel0 + D ≤ n) (hf : o.ev fr = .func (.func f) [] caps) (hl : l.map (·.ev fr) ++ caps = args) [hc : PureCon ext prog f args H d v] (hd : Nat.ble d D = true) (h : ∀ H1, ExtI H H1 → K v H1) : WpX (.call o l) (callN ext prog n) fr H K := by
  obtain ⟨u, H', h1, rfl, h2⟩ := hc.con n (by have := Nat.le_of_ble_eq_true hd; omega)
  refine ⟨u, H', ?_, h H' ⟨h2⟩⟩
  simp only [ROp.exec, hf, aCallV, List.nil_append, hl]
  exact h1
theorem WpX.yield {call : ACall} {fr : AFrame} {H : AHeap} {K : AVal → AHeap → Prop} {r : Nat} {o : ROpd} {l : List ROpd} {args : List AVal} (hf : o.ev fr = .yield r) (hl : l.map (·.ev fr) = args) (h : ∃ v H', call yieldId (.yield r :: args) H = some (v, H') ∧ K v H') : WpX (.call o l) call fr H K := by
  obtain ⟨v, H', h1, h2⟩ := h
  refine ⟨v, H', ?_, h2⟩
  simp only [ROp.exec, hf, hl, aCallV]
  exact h1
theorem exec_ldNP {call : ACall} {fr : AFrame} {H : AHeap} {a : ROpd} {p : AVal} {sz n j m : Nat} {cs l : List AVal} (ha : a.ev fr = .ptr (rowOf p) (offOf p + j)) [s : SliceAt H p sz n cs] (hm : 0 < m) (hv : j + m ≤ cs.length) (hl : (cs.drop j).take m = l) : (ROp.load (some m) a).exec call fr H = some (.agg l, H) := by
  obtain ⟨v, H', h1, h2, h3⟩ := WpX.ldNP (call := call) (K := fun v H' => v = .agg l ∧ H' = H) ha hm hv hl ⟨rfl, rfl⟩
  rw [h1, h2, h3]
theorem Fo.stO {call : ACall} {fr : AFrame} {H : AHeap} {KF : AFrame → AHeap → Prop} {os : List ROper} {a x : ROpd} {r off : Nat} {cs l : List AVal} {e : TypeId} {v : AVal} (ha : a.ev fr = .ptr r off) (hx : x.ev fr = v) [o : OneV v] [hg : HasRow H r cs true e] (hl : Nat.ble (off + 1) cs.length = true) (hs : cs.set off v = l) (h : WpO call os fr (H.set r (.row l true e)) KF) :
    WpO call (⟨none, .store 1 a x, none⟩ :: os) fr H KF :=
  WpO.do' (WpX.st ha hx o.cells rfl hl (by simp only [List.all_cons, o.one, List.all_nil, Bool.and_self]) (by rw [← hs]; rfl) h)
end Go.Am

namespace Go.Am
open Go Go.RowKit
section
variable {call : ACall} {fr : AFrame} {H : AHeap}
theorem exec_pre {x y : ROpd} {p : AVal} {k : IntKind} {n b : Nat} {cs : List AVal} (hx : x.ev fr = p) (hy : y.ev fr = .int k (b : Int)) (hb : b ≤ n) [s : SliceAt H p 1 n cs] :
    ∃ v, (ROp.sliceS 1 x none (some y) none).exec call fr H = some (v, H) ∧ SliceAt H v 1 b (cs.take b) ∧ OneV v ∧ (∀ r off len cap sz, v = .slice r off len cap sz → ∃ off' len' cap' sz', p = .slice r off' len' cap' sz') := by
  have hbd : ∀ y0, b ≤ y0 → aBound y0 (.int k (b : Int)) = some b := by
    intro y0 hy0
    simp only [aBound]
    rw [if_pos (by omega), Int.toNat_natCast]
  rcases s.it with ⟨rfl, rfl, rfl⟩ | ⟨r, off, cap, row, rw, e, rfl, hr, hg, hl, hc, hcap⟩
  · have : b = 0 := by omega
    subst this
    refine ⟨.nslice, ?_, ⟨Or.inl ⟨rfl, rfl, rfl⟩⟩, inferInstance, fun _ _ _ _ _ e => by cases e⟩
    simp only [ROp.exec, hx, Option.map_none, Option.map_some, hy, aSliceS, aBounds, aHigh, capD, hbd 0 (Nat.le_refl _), aLow, M.pure]
  · rw [Nat.mul_one] at hl hc
    have hb0 : aBounds n cap none (some (.int k (b : Int))) none = some (0, b, cap) := by
      simp only [aBounds, aHigh, hbd _ (Nat.le_trans hb hcap), aLow]
    have hs : ∀ cap', b ≤ capD b cap' → SliceAt H (.slice r off b cap' 1) 1 b (cs.take b) := fun cap' h' =>
      ⟨Or.inr ⟨r, off, cap', row, rw, e, rfl, hr, hg, by omega, by rw [Nat.mul_one, ← hc, List.take_take, Nat.min_eq_left hb], h'⟩⟩
    cases cap with
    | some c =>
      simp only [capD] at hcap
      by_cases hc0 : c = 0
      · have : b = 0 := by omega
        subst this
        refine ⟨.slice r off 0 (some 0) 1, ?_, hs _ (Nat.zero_le _), inferInstance, fun _ _ _ _ _ e => by cases e; exact ⟨_, _, _, _, rfl⟩⟩
        simp only [ROp.exec, hx, Option.map_none, Option.map_some, hy, aSliceS, ne_eq, not_true, if_false, hb0, M.pure, if_pos hc0]
      · refine ⟨.slice r off b (some c) 1, ?_, hs _ (by simp only [capD]; omega), inferInstance, fun _ _ _ _ _ e => by cases e; exact ⟨_, _, _, _, rfl⟩⟩
        simp only [ROp.exec, hx, Option.map_none, Option.map_some, hy, aSliceS, ne_eq, not_true, if_false, hb0, M.pure, if_neg hc0, Nat.zero_mul, Nat.add_zero, Nat.sub_zero]
    | none =>
      refine ⟨.slice r off b none 1, ?_, hs _ (Nat.le_refl _), inferInstance, fun _ _ _ _ _ e => by cases e; exact ⟨_, _, _, _, rfl⟩⟩
      have h2 : ¬ row.length < off + n := by omega
      have hrow : aRow r H = some ((row, rw), H) := by simp only [aRow, if_pos hr, hg]
      simp only [ROp.exec, hx, Option.map_none, Option.map_some, hy, aSliceS, ne_eq, not_true, if_false, hb0, Nat.mul_one, Nat.one_ne_zero, M.bind, hrow, if_neg h2, or_true, if_true, M.pure, Nat.add_zero, Nat.sub_zero]
theorem Fo.pre {KF : AFrame → AHeap → Prop} {os : List ROper} {d : Nat} {x y : ROpd} {p : AVal} {k : IntKind} {n b : Nat} {cs : List AVal} (hx : x.ev fr = p) (hy : y.ev fr = .int k (b : Int)) (hb : b ≤ n) [s : SliceAt H p 1 n cs]
    (h : ∀ v, SliceAt H v 1 b (cs.take b) → OneV v → (∀ r off len cap sz, v = .slice r off len cap sz → ∃ off' len' cap' sz', p = .slice r off' len' cap' sz') → WpO call os (upd fr d v) H KF) : WpO call (⟨some d, .sliceS 1 x none (some y) none, none⟩ :: os) fr H KF := by
  obtain ⟨v, h1, h2, h3, h4⟩ := exec_pre (call := call) hx hy hb (s := s)
  exact WpO.step rfl ⟨v, H, h1, h v h2 h3 h4⟩
end
section
variable {P : Program} {H : AHeap} {n : Nat} {t e : TypeId} {cs : List AVal}
end
section
variable {call : ACall} {lf : Nat} {fr : AFrame} {H : AHeap} {Q : RExit → AFrame → AHeap → Prop} {a b : RCode}
end
end Go.Am


namespace Go.Am
open Go
open Nat renaming reduceEqDiff → qe, reduceAdd → qz
open Int renaming reduceBEq → qa, reduceBNe → qn
attribute [local irreducible] Wp WpO WpX WpE
theorem exec_appendAny {H : AHeap} {p : AVal} {k bytes : Nat} {cs : List AVal} (h : SliceAt H p 1 k cs) (hb : 0 < bytes) (hroom : 2 * k * bytes ≤ 2 ^ 48) (hone : cs.all AVal.one = true) (e : TypeId) :
  ∃ v H', aAppend e 1 bytes .nslice p H = some (v, H') ∧ OwnS H' v 1 k cs e ∧ FreshS H v ∧ Ext H H' := by
 by_cases hk : k = 0
 ·subst hk
  have hcs : cs = [] := by have := h.len; simpa using this
  subst hcs
  refine ⟨.nslice, H, ?_, ⟨Or.inl ⟨rfl, rfl, rfl⟩⟩, ⟨fun _ _ _ _ _ e => by cases e⟩, Ext.refl H⟩
  obtain ⟨h1, h2⟩ := aFirst_at h
  simp only [aAppend, h1, M.bind, h2]
  simp [show ¬ bytes = 0 by omega]
  rfl
 ·obtain ⟨v, H', h1, h2, h3, h4⟩ := exec_grow (H := H) (p := .nslice) (q := p) (sz := 1) (n := 0) (k := k) (bytes := bytes) (cs := []) (new := cs) (e := e) ⟨Or.inl ⟨rfl, rfl, rfl⟩⟩ (aFirst_at h) (h.len) (by decide) hb (by omega) (by rw [Nat.zero_add]; exact hroom) hone
  rw [Nat.zero_add, List.nil_append] at h2
  exact ⟨v, H', h1, h2, h3, ⟨h4.n, fun r hr => h4.get r hr ⟨fun _ _ _ _ _ e => by cases e⟩⟩⟩
theorem WpX.appendAny {call : ACall} {fr : AFrame} {H : AHeap} {K : AVal → AHeap → Prop} {e : TypeId} {x y : ROpd} {p : AVal} {k bytes : Nat} {cs : List AVal} (hx : x.ev fr = .nslice) (hy : y.ev fr = p) (h : SliceAt H p 1 k cs) (hb : 0 < bytes) (hroom : 2 * k * bytes ≤ 2 ^ 48) (hone : cs.all AVal.one = true)
  (hk : ∀ v H', OwnS H' v 1 k cs e → FreshS H v → ExtI H H' → K v H') : WpX (.append e 1 bytes x y) call fr H K := by
 obtain ⟨v, H', h1, h2, h3, h5⟩ := exec_appendAny h hb hroom hone e
 exact WpX.now (v := v) (H1 := H') (by simp only [ROp.exec, hx, hy]; exact h1) (hk v H' h2 h3 ⟨h5⟩)
theorem cellsI_ones (l : List Int) : (cellsI l).all AVal.one = true := by simp [cellsI, AVal.one]
class SlimI (l : List Int) : Prop where
 le : l.length ≤ 17592186044416
class SlimL (ls : List (List Int)) : Prop where
 le : ls.length ≤ 5864062014805
 it : ∀ (i : Nat) (h : i < ls.length), SlimI ls[i]
theorem row_one1 {H : AHeap} {r : Nat} {a : AVal} {rw : Bool} {ty : TypeId} (h : HasRow H r [a] rw ty) : SliceAt H (.slice r 0 1 (some 1) 1) 1 1 [a] := ⟨Or.inr ⟨r, 0, some 1, _, rw, ty, rfl, h.lt, h.get, by simp, rfl, Nat.le_refl _⟩⟩
theorem K_CopyInts {H : AHeap} {p : AVal} {l : List Int} [hp : IntsI H p l] [hs : SlimI l] : Con ext prog 1 78 [p] H fun v H' => OwnS H' v 1 l.length (cellsI l) 3 ∧ FreshS H v ∧ Ext H H' := by
 refine con_of (show prog 78 = some c78 from rfl) rfl rfl fun n hn => ?_
 have hle := hs.le
 repeat first | refine mN ?_ | refine mv ?_ | refine nl hKF ?_ | refine sq ?_ | refine rg fun KF hKF => ?_
 refine WpO.do (WpX.appendAny (p := p) (k := l.length) (cs := cellsI l) rfl (by simp only [↓nrmL, nrmZ, qe, ↓reduceIte, qz, qa, qn, List.map] <;> rfl) hp (by decide) (by omega) (cellsI_ones l) fun v H1 h1 h2 h3 => ?_)
 haveI := h1.sl.one
 refine mv ?_
 refine nl hKF ?_
 refine rt ?_
 dsimp only
 refine rz trivial ?_
 exact ⟨h1, h2, Ext0.ext⟩
structure Copied (B : Nat) (H : AHeap) (cells : List AVal) (ls : List (List Int)) (i : Nat) : Prop where
 it : ∀ j (h : j < ls.length), j < i → ∃ q, cells[j]? = some q ∧ OwnS H q 1 ls[j].length (cellsI ls[j]) 3 ∧ ∀ r off len cap sz, q = .slice r off len cap sz → B ≤ r
theorem Copied.keep {B : Nat} {H H' : AHeap} {cells : List AVal} {ls : List (List Int)} {i : Nat} (h : Copied B H cells ls i) (hn : H.n ≤ H'.n) (hg : ∀ s cs e, s < H.n → B ≤ s → H.get s = .row cs true e → e / 2 = 3 → H'.get s = H.get s) : Copied B H' cells ls i := ⟨fun j h1 h2 => by
 obtain ⟨q, h3, h4, h5⟩ := h.it j h1 h2
 refine ⟨q, h3, ?_, h5⟩
 rcases h4.it with ⟨a1, a2, a3⟩ | ⟨r, e', a1, a2, a3, a4, a5, a6⟩
 ·exact ⟨Or.inl ⟨a1, a2, a3⟩⟩
 ·exact ⟨Or.inr ⟨r, e', a1, by omega, by rw [hg r _ _ a2 (h5 _ _ _ _ _ a1) a3 a4]; exact a3, a4, a5, a6⟩⟩⟩
def LinesF (B : Nat) (H' : AHeap) (v : AVal) (ls : List (List Int)) : Prop := ∀ H'', H'.n ≤ H''.n → (∀ r, B ≤ r → r < H'.n → H''.get r = H'.get r) → LinesI H'' v ls
theorem LinesF.mk {B : Nat} {H' : AHeap} {v : AVal} {cells : List AVal} {ls : List (List Int)} {e : TypeId} (h : Copied B H' cells ls ls.length) (ho : OwnS H' v 1 ls.length cells e) (hB : ∀ r off len cap sz, v = .slice r off len cap sz → B ≤ r) : LinesF B H' v ls := fun H'' hn hg => by
 have h2 := h.keep hn fun s cs e h1 h2 _ _ => hg s h2 h1
 have ho2 : OwnS H'' v 1 ls.length cells e := ho.keep hn fun r _ _ _ _ e h1 => hg r (hB _ _ _ _ _ e) h1
 exact ⟨cells, ho2.sl, ⟨fun j hj => by obtain ⟨q, a1, a2, _⟩ := h2.it j hj hj; exact ⟨q, a1, a2.sl⟩⟩⟩
theorem LinesF.now {B : Nat} {H' : AHeap} {v : AVal} {ls : List (List Int)} (h : LinesF B H' v ls) : LinesI H' v ls := h H' (Nat.le_refl _) fun _ _ _ => rfl
theorem LinesF.weak {B B' : Nat} {H' : AHeap} {v : AVal} {ls : List (List Int)} (h : LinesF B H' v ls) (hB : B' ≤ B) : LinesF B' H' v ls := fun H'' hn hg => h H'' hn fun r h1 h2 => hg r (by omega) h2
theorem LinesF.step {B : Nat} {H' H2 : AHeap} {v : AVal} {ls : List (List Int)} (h : LinesF B H' v ls) (hn : H'.n ≤ H2.n) (hg : ∀ r, B ≤ r → r < H'.n → H2.get r = H'.get r) : LinesF B H2 v ls := fun H'' hn' hg' => h H'' (by omega) fun r h1 h2 => by rw [hg' r h1 (by omega), hg r h1 h2]
theorem OwnS.tn {H : AHeap} {p : AVal} {sz n s : Nat} {cs cs' : List AVal} {e e' : TypeId} {rw : Bool} (h : OwnS H p sz n cs e) (hg : H.get s = .row cs' rw e') (hne : e' / 2 ≠ e) : RowNe p s := ⟨fun r off len cap sz' q => by
 rcases h.it with ⟨rfl, _⟩ | ⟨r2, e2, rfl, h2, h3, h4, _⟩
 ·cases q
 ·cases q
  intro q; subst q
  rw [hg] at h3; cases h3
  exact hne h4⟩
instance K_SameInts {p q : AVal} {H : AHeap} {l m : List Int} [hp : IntsI H p l] [hq : IntsI H q m] [hs : SlimI l] : PureCon ext prog 80 [p, q] H 1 (.bool (decide (l = m))) := ⟨by
 refine con_of (show prog 80 = some c80 from rfl) rfl rfl fun n hn => ?_
 have hsl := hs.le
 by_cases hlm : l.length = m.length
 ·have h1 : (((l.length : Nat) : Int) != ((m.length : Nat) : Int)) = false := by simp [hlm]
  repeat first | refine mI ?_ | refine mB ?_ | refine mv ?_ | refine bn rfl rfl rfl (by simp only [h1]; rfl) ?_ | refine ln (by simp only [↓nrmL, nrmK, qe, ↓reduceIte]; rfl) ?_ | refine nl hKF ?_ | refine sq ?_ | refine rg fun KF hKF => ?_ | refine cf rfl ?_ | refine sk ?_ | refine Wp.block ?_ | dsimp only
  refine Wp.loopS [4, 5, 11, 12, 13, 14, 15, 16, 17, 18, 19, 20, 21, 22, 23, 24, 25] (fun i : Nat => [(5, .int .i64 i)]) (fun H3 i H2 => i ≤ l.length ∧ (∀ j, j < i → l[j]? = m[j]?) ∧ H2 = H3) (fun i => l.length - i) 0 rfl (fun _ => rfl) ⟨rfl, trivial⟩ ⟨Nat.zero_le _, fun j hj => by omega, rfl⟩ (by unfold fuel0 at hn; omega) ?_
  rintro i g H2 ⟨hi, heq, rfl⟩
  simp only [↓nrmL, nrmZ, qe, ↓reduceIte, qz, qa, qn]
  cases hc : decide ((i : Int) < (l.length : Int))
  ·have hil : i = l.length := by have := of_decide_eq_false hc; omega
   subst hil
   have hd : decide (l = m) = true := decide_eq_true (eq_of_gets hlm heq)
   rw [hd]
   repeat first | refine mI ?_ | refine mB ?_ | refine mv ?_ | refine bn rfl rfl rfl (by simp only [hc]; rfl) ?_ | refine ln (by simp only [↓nrmL, nrmK, qe, ↓reduceIte]; rfl) ?_ | refine nl hKF ?_ | refine sq ?_ | refine rg fun KF hKF => ?_ | refine cf rfl ?_ | refine rt ?_ | refine xi ?_ | dsimp only
   refine rz trivial ?_
   exact ⟨rfl, Ext0.ext⟩
  ·have hil : i < l.length := by have := of_decide_eq_true hc; omega
   have him : i < m.length := by omega
   have hw1 := wa1 (a := i) (by omega)
   cases hne : (l[i] != m[i])
   ·skip
    repeat first | refine mI ?_ | refine mv ?_ | refine bn rfl rfl rfl (by simp only [hc, hne]; rfl) ?_ | refine b0 ?_ | refine ln (by simp only [↓nrmL, nrmK, qe, ↓reduceIte]; rfl) ?_ | (refine Fo.idx (by simp only [↓nrmL, nrmK, qe, ↓reduceIte]; rfl) rfl ?_ (by simp only [↓nrmL, nrmZ, qe, ↓reduceIte, qz, qa, qn, hc, hne]; rfl) ?_; (focus omega)) | (refine Fo.ldI rfl ?_ rfl ?_; (focus omega)) | refine nl hKF ?_ | refine sq ?_ | refine rg fun KF hKF => ?_ | refine Fr.quiet rfl rfl fun KF hKF => ?_ | refine ct rfl ?_ | refine cf rfl ?_ | refine sk ?_ | refine Wp.block ?_ | dsimp only
    refine ⟨i + 1, by omega, ⟨by simp only [↓nrmL, nrmZ, qe, ↓reduceIte, qz, qa, qn]; rw [hw1], trivial⟩, hil, fun j hj => ?_, rfl⟩
    by_cases hj2 : j < i
    ·exact heq j hj2
    ·have : j = i := by omega
     subst this
     have h2 : l[j] = m[j] := by simpa [bne] using hne
     simp [hil, him, h2]
   ·have hd : decide (l = m) = false := decide_eq_false (fun e => by subst e; simp at hne)
    rw [hd]
    repeat first | refine mI ?_ | refine mB ?_ | refine mv ?_ | refine bn rfl rfl rfl (by simp only [hc, hne]; rfl) ?_ | refine ln (by simp only [↓nrmL, nrmK, qe, ↓reduceIte]; rfl) ?_ | (refine Fo.idx (by simp only [↓nrmL, nrmK, qe, ↓reduceIte]; rfl) rfl ?_ (by simp only [↓nrmL, nrmZ, qe, ↓reduceIte, qz, qa, qn, hc, hne]; rfl) ?_; (focus omega)) | (refine Fo.ldI rfl ?_ rfl ?_; (focus omega)) | refine nl hKF ?_ | refine sq ?_ | refine rg fun KF hKF => ?_ | refine Fr.quiet rfl rfl fun KF hKF => ?_ | refine ct rfl ?_ | refine sk ?_ | refine rt ?_ | refine Wp.block ?_ | dsimp only
    refine rz trivial ?_
    exact ⟨rfl, Ext0.ext⟩
 ·have h1 : (((l.length : Nat) : Int) != ((m.length : Nat) : Int)) = true := by simp; omega
  have hd : decide (l = m) = false := decide_eq_false (fun e => by subst e; exact hlm rfl)
  rw [hd]
  repeat first | refine mB ?_ | refine mv ?_ | refine bn rfl rfl rfl (by simp only [h1]; rfl) ?_ | refine ln (by simp only [↓nrmL, nrmK, qe, ↓reduceIte]; rfl) ?_ | refine nl hKF ?_ | refine sq ?_ | refine rg fun KF hKF => ?_ | refine ct rfl ?_ | refine rt ?_ | dsimp only
  refine rz trivial ?_
  exact ⟨rfl, Ext0.ext⟩⟩
theorem lists_eq {l m : List (List Int)} (hlm : l.length = m.length) (h : ∀ j (h1 : j < l.length) (h2 : j < m.length), l[j] = m[j]) : l = m := List.ext_getElem hlm h
instance K_SameLists {p q : AVal} {H : AHeap} {l m : List (List Int)} [hp : LinesI H p l] [hq : LinesI H q m] [hs : SlimL l] : PureCon ext prog 65 [p, q] H 2 (.bool (decide (l = m))) := ⟨by
 refine con_of (show prog 65 = some c65 from rfl) rfl rfl fun n hn => ?_
 have hsl := hs.le
 obtain ⟨ps, hps, hrp⟩ := hp.it
 obtain ⟨qs, hqs, hrq⟩ := hq.it
 haveI := hps
 haveI := hqs
 haveI := hps.one
 haveI := hqs.one
 by_cases hlm : l.length = m.length
 ·have h1 : (((l.length : Nat) : Int) != ((m.length : Nat) : Int)) = false := by simp [hlm]
  repeat first | refine mI ?_ | refine mB ?_ | refine mv ?_ | refine bn rfl rfl rfl (by simp only [h1]; rfl) ?_ | refine ln (by simp only [↓nrmL, nrmK, qe, ↓reduceIte]; rfl) ?_ | refine nl hKF ?_ | refine sq ?_ | refine rg fun KF hKF => ?_ | refine cf rfl ?_ | refine sk ?_ | refine Wp.block ?_ | dsimp only
  refine Wp.loopS [4, 5, 11, 12, 13, 14, 15, 16, 17, 18, 19, 20, 21, 22, 23, 24, 25, 26] (fun i : Nat => [(5, .int .i64 i)]) (fun H3 i H2 => i ≤ l.length ∧ (∀ j (h1 : j < l.length) (h2 : j < m.length), j < i → l[j] = m[j]) ∧ Ext0 H3 H2) (fun i => l.length - i) 0 rfl (fun _ => rfl) ⟨rfl, trivial⟩ ⟨Nat.zero_le _, fun j _ _ hj => by omega, inferInstance⟩ (by unfold fuel0 at hn; omega) ?_
  rintro i g H2 ⟨hi, heq, ⟨hx⟩⟩
  haveI : ExtI _ H2 := ⟨hx⟩
  simp only [↓nrmL, nrmZ, qe, ↓reduceIte, qz, qa, qn]
  cases hc : decide ((i : Int) < (l.length : Int))
  ·have hil : i = l.length := by have := of_decide_eq_false hc; omega
   subst hil
   have hd : decide (l = m) = true := decide_eq_true (lists_eq hlm fun j a b => heq j a b a)
   rw [hd]
   repeat first | refine mI ?_ | refine mB ?_ | refine mv ?_ | refine bn rfl rfl rfl (by simp only [hc]; rfl) ?_ | refine ln (by simp only [↓nrmL, nrmK, qe, ↓reduceIte]; rfl) ?_ | refine nl hKF ?_ | refine sq ?_ | refine rg fun KF hKF => ?_ | refine cf rfl ?_ | refine rt ?_ | refine xi ?_ | dsimp only
   refine rz trivial ?_
   exact ⟨rfl, Ext0.ext⟩
  have hil : i < l.length := by have := of_decide_eq_true hc; omega
  have him : i < m.length := by omega
  have hw1 := wa1 (a := i) (by omega)
  obtain ⟨a, ha, hIa⟩ := hrp.it i hil
  obtain ⟨b, hb, hIb⟩ := hrq.it i him
  haveI := hIa
  haveI := hIb
  haveI := hIa.one
  haveI := hIb.one
  haveI := hs.it i hil
  cases hne : decide (l[i] = m[i])
  ·have hd : decide (l = m) = false := decide_eq_false (fun e => by subst e; simp at hne)
   rw [hd]
   repeat first | refine mI ?_ | refine mv ?_ | refine bn rfl rfl rfl (by simp only [hc]; rfl) ?_ | refine ln (by simp only [↓nrmL, nrmK, qe, ↓reduceIte]; rfl) ?_ | refine nl hKF ?_ | refine sq ?_ | refine rg fun KF hKF => ?_ | refine ct rfl ?_ | refine sk ?_ | refine Wp.block ?_ | dsimp only
   refine Fr.dregion0 rfl fun KF hKF => ?_
   refine Fe.pure rfl rfl (by simp only [↓nrmL, nrmZ, qe, ↓reduceIte, qz, qa, qn]; rfl) ?_
   refine Fe.pure rfl rfl (by simp only [↓nrmL, nrmZ, qe, ↓reduceIte, qz, qa, qn]; rfl) ?_
   refine Fe.pure rfl (exec_idxP (by (try simp only [↓nrmL, nrmZ, qe, ↓reduceIte, qz, qa, qn]); rfl) rfl ?_) (by simp only [↓nrmL, nrmZ, qe, ↓reduceIte, qz, qa, qn]; rfl) ?_; (focus omega)
   refine Fe.read rfl (exec_ldP (p := p) (j := i) rfl ha) rfl trivial ?_
   refine Fe.pure rfl rfl (by simp only [↓nrmL, nrmZ, qe, ↓reduceIte, qz, qa, qn]; rfl) ?_
   refine Fe.pure rfl rfl (by simp only [↓nrmL, nrmZ, qe, ↓reduceIte, qz, qa, qn]; rfl) ?_
   refine Fe.pure rfl (exec_idxP (by (try simp only [↓nrmL, nrmZ, qe, ↓reduceIte, qz, qa, qn]); rfl) rfl ?_) (by simp only [↓nrmL, nrmZ, qe, ↓reduceIte, qz, qa, qn]; rfl) ?_; (focus omega)
   refine Fe.read rfl (exec_ldP (p := q) (j := i) rfl hb) rfl trivial ?_
   simp only [↓nrmL, nrmZ, qe, ↓reduceIte, qz, qa, qn, hne]
   refine Fe.pcall (v' := ?_) rfl hn rfl (by simp only [↓nrmL, nrmZ, qe, ↓reduceIte, qz, qa, qn, hne, List.map]; rfl) rfl ?hv fun _ _ => ar ?_; case hv => (simp only [hne]; rfl)
   refine Fe.pure rfl rfl (by simp only [↓nrmL, nrmZ, qe, ↓reduceIte, qz, qa, qn, hne]; rfl) ?_
   refine WpE.nil (hKF _ _ ?_)
   refine ct rfl ?_
   refine sq ?_
   refine rg fun KF hKF => ?_
   refine mB ?_
   refine nl hKF ?_
   refine rt ?_
   dsimp only
   refine rz trivial ?_
   exact ⟨rfl, Ext0.ext⟩
  ·skip
   repeat first | refine mI ?_ | refine mv ?_ | refine bn rfl rfl rfl (by simp only [hc]; rfl) ?_ | refine ln (by simp only [↓nrmL, nrmK, qe, ↓reduceIte]; rfl) ?_ | refine nl hKF ?_ | refine sq ?_ | refine rg fun KF hKF => ?_ | refine ct rfl ?_ | refine sk ?_ | refine Wp.block ?_ | dsimp only
   refine Fr.dregion0 rfl fun KF hKF => ?_
   refine Fe.pure rfl rfl (by simp only [↓nrmL, nrmZ, qe, ↓reduceIte, qz, qa, qn]; rfl) ?_
   refine Fe.pure rfl rfl (by simp only [↓nrmL, nrmZ, qe, ↓reduceIte, qz, qa, qn]; rfl) ?_
   refine Fe.pure rfl (exec_idxP (by (try simp only [↓nrmL, nrmZ, qe, ↓reduceIte, qz, qa, qn]); rfl) rfl ?_) (by simp only [↓nrmL, nrmZ, qe, ↓reduceIte, qz, qa, qn]; rfl) ?_; (focus omega)
   refine Fe.read rfl (exec_ldP (p := p) (j := i) rfl ha) rfl trivial ?_
   refine Fe.pure rfl rfl (by simp only [↓nrmL, nrmZ, qe, ↓reduceIte, qz, qa, qn]; rfl) ?_
   refine Fe.pure rfl rfl (by simp only [↓nrmL, nrmZ, qe, ↓reduceIte, qz, qa, qn]; rfl) ?_
   refine Fe.pure rfl (exec_idxP (by (try simp only [↓nrmL, nrmZ, qe, ↓reduceIte, qz, qa, qn]); rfl) rfl ?_) (by simp only [↓nrmL, nrmZ, qe, ↓reduceIte, qz, qa, qn]; rfl) ?_; (focus omega)
   refine Fe.read rfl (exec_ldP (p := q) (j := i) rfl hb) rfl trivial ?_
   simp only [↓nrmL, nrmZ, qe, ↓reduceIte, qz, qa, qn, hne]
   refine Fe.pcall (v' := ?_) rfl hn rfl (by simp only [↓nrmL, nrmZ, qe, ↓reduceIte, qz, qa, qn, hne, List.map]; rfl) rfl ?hv fun _ _ => ar ?_; case hv => (simp only [hne]; rfl)
   refine Fe.pure rfl rfl (by simp only [↓nrmL, nrmZ, qe, ↓reduceIte, qz, qa, qn, hne]; rfl) ?_
   refine WpE.nil (hKF _ _ ?_)
   refine cf rfl ?_
   refine sk ?_
   refine rg fun KF hKF => ?_
   refine mI ?_
   refine b0 ?_
   refine mI ?_
   refine nl hKF ?_
   dsimp only
   refine ⟨i + 1, by omega, ⟨by simp only [↓nrmL, nrmZ, qe, ↓reduceIte, qz, qa, qn]; rw [hw1], trivial⟩, hil, fun j h1 h2 hj => ?_, inferInstance⟩
   by_cases hj2 : j < i
   ·exact heq j h1 h2 hj2
   ·have : j = i := by omega
    subst this
    exact of_decide_eq_true hne
 ·have h1 : (((l.length : Nat) : Int) != ((m.length : Nat) : Int)) = true := by simp; omega
  have hd : decide (l = m) = false := decide_eq_false (fun e => by subst e; exact hlm rfl)
  rw [hd]
  repeat first | refine mB ?_ | refine mv ?_ | refine bn rfl rfl rfl (by simp only [h1]; rfl) ?_ | refine ln (by simp only [↓nrmL, nrmK, qe, ↓reduceIte]; rfl) ?_ | refine nl hKF ?_ | refine sq ?_ | refine rg fun KF hKF => ?_ | refine ct rfl ?_ | refine rt ?_ | dsimp only
  refine rz trivial ?_
  exact ⟨rfl, Ext0.ext⟩⟩
instance K_SameStave {p q : AVal} {H : AHeap} {l m : List (List Int)} [hp : LinesI H p l] [hq : LinesI H q m] [hs : SlimL l] : PureCon ext prog 38 [.agg [p], .agg [q]] H 3 (.bool (decide (l = m))) := ⟨by
 refine con_of (show prog 38 = some c38 from rfl) rfl rfl fun n hn => ?_
 obtain ⟨ps, hps, hrp⟩ := hp.it
 obtain ⟨qs, hqs, hrq⟩ := hq.it
 haveI := hps.one
 haveI := hqs.one
 repeat first | refine mB ?_ | refine fd ?_ | refine Fo.ld rfl rfl ?_ | (refine Fo.pcall (v' := ?_) hn rfl (by simp only [↓nrmL, nrmZ, qe, ↓reduceIte, qz, qa, qn, List.map]; rfl) rfl ?hv fun _ _ => ?_; case hv => rfl) | refine bA ?_ | refine nl hKF ?_ | refine sq ?_ | refine rg fun KF hKF => ?_ | refine rt ?_ | dsimp only
 refine rz trivial ?_
 exact ⟨rfl, Ext0.ext⟩⟩
end Go.Am


namespace Go.Am
open Go
open Nat renaming reduceEqDiff → qe, reduceAdd → qz
open Int renaming reduceBEq → qa, reduceBNe → qn
attribute [local irreducible] Wp WpO WpX WpE
instance K_refIsPath {a b : Nat} {p q : AVal} {H : AHeap} {g : List UInt8} {l : List Int} [hp : BytesI H p g] [hq : IntsI H q l] [ha : Side a] [hb : Side b] : PureCon ext prog 57 [.agg [.int .i64 (a : Int), .int .i64 (b : Int), p], q] H 1 (.bool (pathB a b l)) := ⟨by
 refine con_of (show prog 57 = some c57 from rfl) rfl rfl fun n hn => ?_
 have ha := ha.le
 have hb := hb.le
 haveI := hp.one
 haveI := hq.one
 cases h0 : ((a : Int) == 0)
 rotate_left
 ·have hl0 : a = 0 := by simpa using h0
  have e1 : pathB a b l = false := by
   cases h : pathB a b l with
   | false => rfl
   | true => have := (pathB_len h).2; omega
  rw [e1]
  repeat first | refine ox ?_ | refine mB ?_ | refine fd ?_ | refine Fo.ld rfl rfl ?_ | refine bn rfl rfl rfl (by simp only [h0]; rfl) ?_ | refine tB ?_ | refine bA ?_ | refine nl hKF ?_ | refine sq ?_ | refine rg fun KF hKF => ?_ | refine ct rfl ?_ | refine rt ?_ | dsimp only
  refine rz trivial ?_
  exact ⟨rfl, Ext0.ext⟩
 have hl0 : a ≠ 0 := by simpa using h0
 cases hb0 : ((b : Int) == 0)
 rotate_left
 ·have hl0 : b = 0 := by simpa using hb0
  have e1 : pathB a b l = false := by
   cases h : pathB a b l with
   | false => rfl
   | true =>
    have h1 := pathB_len h
    have h2 := pathB_range h (x := 0) (by omega)
    omega
  rw [e1]
  repeat first | refine oy ?_ | refine ox ?_ | refine mB ?_ | refine fd ?_ | refine Fo.ld rfl rfl ?_ | refine bn rfl rfl rfl (by simp only [h0, hb0]; rfl) ?_ | refine tB ?_ | refine fB ?_ | refine bA ?_ | refine nl hKF ?_ | refine sq ?_ | refine rg fun KF hKF => ?_ | refine ct rfl ?_ | refine rt ?_ | dsimp only
  refine rz trivial ?_
  exact ⟨rfl, Ext0.ext⟩
 cases h1 : (((l.length : Nat) : Int) != (a : Int))
 rotate_left
 ·have hl1 : l.length ≠ a := by intro e; rw [e] at h1; simp at h1
  have e1 : pathB a b l = false := by simp [pathB, hl1]
  rw [e1]
  repeat first | refine oy ?_ | refine mB ?_ | refine mv ?_ | refine fd ?_ | refine Fo.ld rfl rfl ?_ | refine bn rfl rfl rfl (by simp only [h0, hb0, h1]; rfl) ?_ | refine fB ?_ | refine ln (by simp only [↓nrmL, nrmK, qe, ↓reduceIte]; rfl) ?_ | refine bA ?_ | refine nl hKF ?_ | refine sq ?_ | refine rg fun KF hKF => ?_ | refine ct rfl ?_ | refine rt ?_ | dsimp only
  refine rz trivial ?_
  exact ⟨rfl, Ext0.ext⟩
 have hl1 : l.length = a := by have h7 := h1; simp only [bne_eq_false_iff_eq] at h7; omega
 have e0 : pathB a b l = okTo b l l.length := by simp [pathB, hl1]; omega
 rw [e0]
 repeat first | refine oy ?_ | refine mI ?_ | refine mB ?_ | refine mv ?_ | refine fd ?_ | refine Fo.ld rfl rfl ?_ | refine bn rfl rfl rfl (by simp only [h0, hb0, h1]; rfl) ?_ | refine fB ?_ | refine ln (by simp only [↓nrmL, nrmK, qe, ↓reduceIte]; rfl) ?_ | refine bA ?_ | refine nl hKF ?_ | refine sq ?_ | refine rg fun KF hKF => ?_ | refine cf rfl ?_ | refine sk ?_ | refine Wp.block ?_ | dsimp only
 refine Wp.loopS [4, 5, 21, 22, 23, 24, 25, 26, 27, 28, 29, 30, 31, 32, 33, 34, 35, 36, 37, 38, 39, 40, 41, 42, 43, 44, 45, 46, 47, 48, 49, 50, 51, 52, 53, 54, 55, 56, 57, 58, 59, 60, 61, 62, 63, 64, 65, 66, 67, 68] (fun x : Nat => [(5, .int .i64 x)]) (fun H3 x H2 => x ≤ l.length ∧ okTo b l x = true ∧ H2 = H3) (fun x => l.length - x) 0 rfl (fun _ => rfl) ⟨rfl, trivial⟩ ⟨Nat.zero_le _, rfl, rfl⟩ (by unfold fuel0 at hn; omega) ?_
 rintro x g2 H2 ⟨hx, hok, rfl⟩
 simp only [↓nrmL, nrmZ, qe, ↓reduceIte, qz, qa, qn]
 cases hc : decide ((x : Int) < ((l.length : Nat) : Int))
 ·have hxl : x = l.length := by have := of_decide_eq_false hc; omega
  subst hxl
  rw [hok]
  repeat first | refine mI ?_ | refine mB ?_ | refine mv ?_ | refine bn rfl rfl rfl (by simp only [hc]; rfl) ?_ | refine ln (by simp only [↓nrmL, nrmK, qe, ↓reduceIte]; rfl) ?_ | refine nl hKF ?_ | refine sq ?_ | refine rg fun KF hKF => ?_ | refine cf rfl ?_ | refine rt ?_ | refine xi ?_ | dsimp only
  refine rz trivial ?_
  exact ⟨rfl, Ext0.ext⟩
 have hxl : x < l.length := by have := of_decide_eq_true hc; omega
 have hw1 := wa1 (a := x) (by omega)
 cases h2 : decide (l[x] < 0)
 rotate_left
 ·rw [okTo_bad (x := x) (n := l.length) (by simp only [okAt, getD_at hxl]; have := of_decide_eq_true h2; rw [decide_eq_false (by omega)]; rfl) hxl]
  repeat first | refine ox ?_ | refine mI ?_ | refine mB ?_ | refine mv ?_ | refine bn rfl rfl rfl (by simp only [hc, h2]; rfl) ?_ | refine tB ?_ | refine ln (by simp only [↓nrmL, nrmK, qe, ↓reduceIte]; rfl) ?_ | (refine Fo.idx (by simp only [↓nrmL, nrmK, qe, ↓reduceIte]; rfl) rfl ?_ (by simp only [↓nrmL, nrmZ, qe, ↓reduceIte, qz, qa, qn, hc, h2]; rfl) ?_; (focus omega)) | (refine Fo.ldI rfl ?_ rfl ?_; (focus omega)) | refine nl hKF ?_ | refine sq ?_ | refine rg fun KF hKF => ?_ | refine Fr.quiet rfl rfl fun KF hKF => ?_ | refine ct rfl ?_ | refine sk ?_ | refine rt ?_ | refine Wp.block ?_ | dsimp only
  refine rz trivial ?_
  exact ⟨rfl, Ext0.ext⟩
 cases h3 : decide (l[x] ≥ (b : Int))
 rotate_left
 ·rw [okTo_bad (x := x) (n := l.length) (by simp only [okAt, getD_at hxl]; have := of_decide_eq_true h3; rw [decide_eq_false (p := l[x] < (b : Int)) (by omega), Bool.and_false]; rfl) hxl]
  repeat first | refine oy ?_ | refine mI ?_ | refine mB ?_ | refine mv ?_ | refine fd ?_ | refine Fo.ld rfl rfl ?_ | refine bn rfl rfl rfl (by simp only [hc, h2, h3]; rfl) ?_ | refine fB ?_ | refine ln (by simp only [↓nrmL, nrmK, qe, ↓reduceIte]; rfl) ?_ | (refine Fo.idx (by simp only [↓nrmL, nrmK, qe, ↓reduceIte]; rfl) rfl ?_ (by simp only [↓nrmL, nrmZ, qe, ↓reduceIte, qz, qa, qn, hc, h2, h3]; rfl) ?_; (focus omega)) | (refine Fo.ldI rfl ?_ rfl ?_; (focus omega)) | refine nl hKF ?_ | refine sq ?_ | refine rg fun KF hKF => ?_ | refine Fr.quiet rfl rfl fun KF hKF => ?_ | refine ct rfl ?_ | refine sk ?_ | refine rt ?_ | refine Wp.block ?_ | dsimp only
  refine rz trivial ?_
  exact ⟨rfl, Ext0.ext⟩
 have g1 : 0 ≤ l[x] := by have := of_decide_eq_false h2; omega
 have g3 : l[x] < (b : Int) := by have := of_decide_eq_false h3; omega
 cases h4 : decide ((x : Int) > 0)
 ·have hx0 : x = 0 := by have := of_decide_eq_false h4; omega
  subst hx0
  have e2 : okTo b l (0 + 1) = true := by rw [okTo_succ, hok, okAt, getD_at hxl, decide_eq_true g1, decide_eq_true g3]; rfl
  repeat first | refine oy ?_ | refine ox ?_ | refine Fo.noU rfl ?_ | refine mI ?_ | refine mB ?_ | refine mv ?_ | refine fd ?_ | refine Fo.ld rfl rfl ?_ | refine bn rfl rfl rfl (by simp only [hc, h2, h3, h4]; rfl) ?_ | refine b0 ?_ | refine fB ?_ | refine ln (by simp only [↓nrmL, nrmK, qe, ↓reduceIte]; rfl) ?_ | (refine Fo.idx (by simp only [↓nrmL, nrmK, qe, ↓reduceIte]; rfl) rfl ?_ (by simp only [↓nrmL, nrmZ, qe, ↓reduceIte, qz, qa, qn, hc, h2, h3, h4]; rfl) ?_; (focus omega)) | (refine Fo.ldI rfl ?_ rfl ?_; (focus omega)) | refine nl hKF ?_ | refine sq ?_ | refine rg fun KF hKF => ?_ | refine Fr.quiet rfl rfl fun KF hKF => ?_ | refine ct rfl ?_ | refine cf rfl ?_ | refine sk ?_ | refine Wp.block ?_ | dsimp only
  refine ⟨0 + 1, by omega, ⟨by simp only [↓nrmL, nrmZ, qe, ↓reduceIte, qz, qa, qn]; rw [hw1], trivial⟩, hxl, e2, rfl⟩
 have hx0 : 0 < x := by have := of_decide_eq_true h4; omega
 have hw2 := ws1 (a := x) hx0 (by omega)
 have hxm : x - 1 < l.length := by omega
 obtain ⟨m1, m2⟩ := okTo_range hok (x := x - 1) (by omega) hxm
 have hw3 : IntKind.i64.wrap (l[x] - l[x - 1]) = l[x] - l[x - 1] := w64 (by omega)
 have hw4 : IntKind.i64.wrap (l[x - 1] - l[x]) = l[x - 1] - l[x] := w64 (by omega)
 cases h5 : decide (l[x] - l[x - 1] > 1)
 rotate_left
 ·rw [okTo_bad (x := x) (n := l.length) (by
   have h5 := of_decide_eq_true h5
   simp only [okAt, getD_at hxl, getD_at hxm]
   rw [decide_eq_false (p := l[x] ≤ l[x - 1] + 1) (by omega), Bool.and_false, Bool.or_false, beq_eq_false_iff_ne.2 (by omega), Bool.and_false]) hxl]
  repeat first | refine oy ?_ | refine ox ?_ | refine mI ?_ | refine mB ?_ | refine mv ?_ | refine fd ?_ | refine Fo.ld rfl rfl ?_ | refine bn rfl rfl rfl (by simp only [hc, h2, h3, h4, hw2, hw3, hw4, h5]; rfl) ?_ | refine tB ?_ | refine fB ?_ | refine ln (by simp only [↓nrmL, nrmK, qe, ↓reduceIte]; rfl) ?_ | (refine Fo.idx (by simp only [↓nrmL, nrmK, qe, ↓reduceIte]; rfl) rfl ?_ (by simp only [↓nrmL, nrmZ, qe, ↓reduceIte, qz, qa, qn, hc, h2, h3, h4, hw2, hw3, hw4, h5]; rfl) ?_; (focus omega)) | (refine Fo.ldI rfl ?_ rfl ?_; (focus omega)) | refine nl hKF ?_ | refine sq ?_ | refine rg fun KF hKF => ?_ | refine Fr.quiet rfl rfl fun KF hKF => ?_ | refine ct rfl ?_ | refine cf rfl ?_ | refine sk ?_ | refine rt ?_ | refine Wp.block ?_ | dsimp only
  refine rz trivial ?_
  exact ⟨rfl, Ext0.ext⟩
 cases h6 : decide (l[x - 1] - l[x] > 1)
 rotate_left
 ·rw [okTo_bad (x := x) (n := l.length) (by
   have h6 := of_decide_eq_true h6
   simp only [okAt, getD_at hxl, getD_at hxm]
   rw [decide_eq_false (p := l[x - 1] - 1 ≤ l[x]) (by omega), Bool.false_and, Bool.or_false, beq_eq_false_iff_ne.2 (by omega), Bool.and_false]) hxl]
  repeat first | refine oy ?_ | refine mI ?_ | refine mB ?_ | refine mv ?_ | refine fd ?_ | refine Fo.ld rfl rfl ?_ | refine bn rfl rfl rfl (by simp only [hc, h2, h3, h4, hw2, hw3, hw4, h5, h6]; rfl) ?_ | refine tB ?_ | refine fB ?_ | refine ln (by simp only [↓nrmL, nrmK, qe, ↓reduceIte]; rfl) ?_ | (refine Fo.idx (by simp only [↓nrmL, nrmK, qe, ↓reduceIte]; rfl) rfl ?_ (by simp only [↓nrmL, nrmZ, qe, ↓reduceIte, qz, qa, qn, hc, h2, h3, h4, hw2, hw3, hw4, h5, h6]; rfl) ?_; (focus omega)) | (refine Fo.ldI rfl ?_ rfl ?_; (focus omega)) | refine nl hKF ?_ | refine sq ?_ | refine rg fun KF hKF => ?_ | refine Fr.quiet rfl rfl fun KF hKF => ?_ | refine ct rfl ?_ | refine cf rfl ?_ | refine sk ?_ | refine rt ?_ | refine Wp.block ?_ | dsimp only
  refine rz trivial ?_
  exact ⟨rfl, Ext0.ext⟩
 have e2 : okTo b l (x + 1) = true := by
  have h5 := of_decide_eq_false h5
  have h6 := of_decide_eq_false h6
  rw [okTo_succ, hok, okAt, getD_at hxl, getD_at hxm, decide_eq_true g1, decide_eq_true g3, decide_eq_true (p := l[x - 1] - 1 ≤ l[x]) (by omega), decide_eq_true (p := l[x] ≤ l[x - 1] + 1) (by omega)]
  simp
 repeat first | refine oy ?_ | refine mI ?_ | refine mB ?_ | refine mv ?_ | refine fd ?_ | refine Fo.ld rfl rfl ?_ | refine bn rfl rfl rfl (by simp only [hc, h2, h3, h4, hw2, hw3, hw4, h5, h6]; rfl) ?_ | refine b0 ?_ | refine tB ?_ | refine fB ?_ | refine ln (by simp only [↓nrmL, nrmK, qe, ↓reduceIte]; rfl) ?_ | (refine Fo.idx (by simp only [↓nrmL, nrmK, qe, ↓reduceIte]; rfl) rfl ?_ (by simp only [↓nrmL, nrmZ, qe, ↓reduceIte, qz, qa, qn, hc, h2, h3, h4, hw2, hw3, hw4, h5, h6]; rfl) ?_; (focus omega)) | (refine Fo.ldI rfl ?_ rfl ?_; (focus omega)) | refine nl hKF ?_ | refine sq ?_ | refine rg fun KF hKF => ?_ | refine Fr.quiet rfl rfl fun KF hKF => ?_ | refine ct rfl ?_ | refine cf rfl ?_ | refine sk ?_ | refine Wp.block ?_ | dsimp only
 refine ⟨x + 1, by omega, ⟨by simp only [↓nrmL, nrmZ, qe, ↓reduceIte, qz, qa, qn]; rw [hw1], trivial⟩, hxl, e2, rfl⟩⟩
theorem fitsB_bad {a b : Nat} {ls : List (List Int)} {x : Nat} (h : pathB a b (ls.getD x []) = false) (hx : x < 5) : fitsB a b ls = false := by
 rw [fitsB, fitTo_bad (x := x) (by rw [fitAt, h]; rfl) hx, Bool.and_false]
theorem aboveB_iff {l m : List Int} : aboveB l m = true ↔ ∀ x, x < l.length → l.getD x 0 < m.getD x 0 := by
 simp [aboveB, belowTo]
theorem fitsB_of {a b : Nat} {ls : List (List Int)} (h5 : ls.length = 5) (hp : ∀ i, i < 5 → pathB a b (ls.getD i []) = true) (hb : ∀ x, x < a → ∀ i, 1 ≤ i → i < 5 → (ls.getD (i - 1) []).getD x 0 < (ls.getD i []).getD x 0) : fitsB a b ls = true := by
 have : fitTo a b ls 5 = true := by
  rw [fitTo, List.all_eq_true]
  intro i hi
  have hi := List.mem_range.1 hi
  rw [fitAt, hp i hi]
  by_cases h0 : i = 0
  ·simp [h0]
  ·have : aboveB (ls.getD (i - 1) []) (ls.getD i []) = true := aboveB_iff.2 fun x hx => hb x (by have := (pathB_len (hp (i - 1) (by omega))).1; omega) i (by omega) hi
   rw [this]; simp
 rw [fitsB, this, h5]; rfl
theorem fitsB_not {a b : Nat} {ls : List (List Int)} {x i : Nat} (hp : ∀ i, i < 5 → pathB a b (ls.getD i []) = true) (hx : x < a) (h1 : 1 ≤ i) (hi : i < 5) (hb : (ls.getD i []).getD x 0 ≤ (ls.getD (i - 1) []).getD x 0) : fitsB a b ls = false := by
 have : aboveB (ls.getD (i - 1) []) (ls.getD i []) = false := by
  cases h : aboveB (ls.getD (i - 1) []) (ls.getD i []) with
  | false => rfl
  | true =>
   have := aboveB_iff.1 h x (by have := (pathB_len (hp (i - 1) (by omega))).1; omega)
   omega
 rw [fitsB, fitTo_bad (x := i) (by rw [fitAt, this, beq_eq_false_iff_ne.2 (by omega), Bool.or_false, Bool.and_false]) hi, Bool.and_false]
instance K_refStFits {a b : Nat} {p q : AVal} {H : AHeap} {g : List UInt8} {ls : List (List Int)} [hp : BytesI H p g] [hq : LinesI H q ls] [ha : Side a] [hb : Side b] : PureCon ext prog 30 [.agg [.int .i64 (a : Int), .int .i64 (b : Int), p], .agg [q]] H 2 (.bool (fitsB a b ls)) := ⟨by
 refine con_of (show prog 30 = some c30 from rfl) rfl rfl fun n hn => ?_
 obtain ⟨ps, hps, hrw⟩ := hq.it
 haveI := hp.one
 haveI := hps.one
 have hal := ha.le
 cases h0 : (((ls.length : Nat) : Int) != 5)
 rotate_left
 ·have e1 : fitsB a b ls = false := by
   have : ls.length ≠ 5 := by intro e; rw [e] at h0; simp at h0
   simp [fitsB, this]
  rw [e1]
  repeat first | refine mB ?_ | refine fd ?_ | refine Fo.ld rfl rfl ?_ | refine bn rfl rfl rfl (by simp only [h0]; rfl) ?_ | refine ln (by simp only [↓nrmL, nrmK, qe, ↓reduceIte]; rfl) ?_ | refine bA ?_ | refine nl hKF ?_ | refine sq ?_ | refine rg fun KF hKF => ?_ | refine ct rfl ?_ | refine rt ?_ | dsimp only
  refine rz trivial ?_
  exact ⟨rfl, Ext0.ext⟩
 have hl5 : ls.length = 5 := by have h7 := h0; simp only [bne_eq_false_iff_eq] at h7; omega
 repeat first | refine mI ?_ | refine mB ?_ | refine fd ?_ | refine Fo.ld rfl rfl ?_ | refine bn rfl rfl rfl (by simp only [h0]; rfl) ?_ | refine ln (by simp only [↓nrmL, nrmK, qe, ↓reduceIte]; rfl) ?_ | refine bA ?_ | refine nl hKF ?_ | refine sq ?_ | refine rg fun KF hKF => ?_ | refine cf rfl ?_ | refine sk ?_ | refine Wp.block ?_ | dsimp only
 refine Wp.loopS [4, 5, 12, 13, 14, 15, 16, 17, 18, 19, 20, 21, 22, 23] (fun x : Nat => [(5, .int .i64 x)]) (fun H3 x H2 => x ≤ 5 ∧ (∀ i, i < x → pathB a b (ls.getD i []) = true) ∧ Ext0 H3 H2) (fun x => 5 - x) 0 rfl (fun _ => rfl) ⟨rfl, trivial⟩ ⟨Nat.zero_le _, fun i hi => by omega, inferInstance⟩ (by unfold fuel0 at hn; omega) ?_
 rintro x g2 H2 ⟨hx, hok, ⟨hx2⟩⟩
 haveI : ExtI _ H2 := ⟨hx2⟩
 simp only [↓nrmL, nrmZ, qe, ↓reduceIte, qz, qa, qn]
 cases hc : decide ((x : Int) < 5)
 rotate_left
 ·have hxl : x < ls.length := by have := of_decide_eq_true hc; omega
  have hw1 := wa1 (a := x) (by omega)
  obtain ⟨qi, hqi, hIi⟩ := hrw.it x hxl
  haveI := hIi
  haveI := hIi.one
  cases hpa : pathB a b ls[x]
  ·rw [fitsB_bad (x := x) (by rw [getDL_at hxl, hpa]) (by omega)]
   repeat first | refine mI ?_ | refine bn rfl rfl rfl (by simp only [hc]; rfl) ?_ | refine nl hKF ?_ | refine sq ?_ | refine rg fun KF hKF => ?_ | refine ct rfl ?_ | refine sk ?_ | refine Wp.block ?_ | dsimp only
   refine Fr.dregion0 rfl fun KF hKF => ?_
   repeat first | refine Er rfl (exec_ld rfl rfl) rfl ?_ | refine Er rfl (exec_ldN rfl rfl (by simp only [↓nrmL, nrmZ, qe, ↓reduceIte, qz, qa, qn]; rfl)) rfl ?_ | refine Fe.pure rfl rfl (by simp only [↓nrmL, nrmZ, qe, ↓reduceIte, qz, qa, qn]; rfl) ?_ | (refine Fe.pure rfl (exec_idxP (by (try simp only [↓nrmL, nrmZ, qe, ↓reduceIte, qz, qa, qn]); rfl) rfl ?_) (by simp only [↓nrmL, nrmZ, qe, ↓reduceIte, qz, qa, qn]; rfl) ?_; (focus omega))
   refine Fe.read rfl (exec_ldP (p := q) (j := x) rfl hqi) rfl trivial ?_
   simp only [↓nrmL, nrmZ, qe, ↓reduceIte, qz, qa, qn, hpa]
   refine Fe.pcall (v' := ?_) rfl hn rfl (by simp only [↓nrmL, nrmZ, qe, ↓reduceIte, qz, qa, qn, hpa, List.map]; rfl) rfl ?hv fun _ _ => ar ?_; case hv => (simp only [hpa]; rfl)
   refine Fe.pure rfl rfl (by simp only [↓nrmL, nrmZ, qe, ↓reduceIte, qz, qa, qn, hpa]; rfl) ?_
   refine WpE.nil (hKF _ _ ?_)
   refine ct rfl ?_
   refine sq ?_
   refine rg fun KF hKF => ?_
   refine mB ?_
   refine nl hKF ?_
   refine rt ?_
   dsimp only
   refine rz trivial ?_
   exact ⟨rfl, Ext0.ext⟩
  ·skip
   repeat first | refine mI ?_ | refine bn rfl rfl rfl (by simp only [hc]; rfl) ?_ | refine nl hKF ?_ | refine sq ?_ | refine rg fun KF hKF => ?_ | refine ct rfl ?_ | refine sk ?_ | refine Wp.block ?_ | dsimp only
   refine Fr.dregion0 rfl fun KF hKF => ?_
   repeat first | refine Er rfl (exec_ld rfl rfl) rfl ?_ | refine Er rfl (exec_ldN rfl rfl (by simp only [↓nrmL, nrmZ, qe, ↓reduceIte, qz, qa, qn]; rfl)) rfl ?_ | refine Fe.pure rfl rfl (by simp only [↓nrmL, nrmZ, qe, ↓reduceIte, qz, qa, qn]; rfl) ?_ | (refine Fe.pure rfl (exec_idxP (by (try simp only [↓nrmL, nrmZ, qe, ↓reduceIte, qz, qa, qn]); rfl) rfl ?_) (by simp only [↓nrmL, nrmZ, qe, ↓reduceIte, qz, qa, qn]; rfl) ?_; (focus omega))
   refine Fe.read rfl (exec_ldP (p := q) (j := x) rfl hqi) rfl trivial ?_
   simp only [↓nrmL, nrmZ, qe, ↓reduceIte, qz, qa, qn, hpa]
   refine Fe.pcall (v' := ?_) rfl hn rfl (by simp only [↓nrmL, nrmZ, qe, ↓reduceIte, qz, qa, qn, hpa, List.map]; rfl) rfl ?hv fun _ _ => ar ?_; case hv => (simp only [hpa]; rfl)
   refine Fe.pure rfl rfl (by simp only [↓nrmL, nrmZ, qe, ↓reduceIte, qz, qa, qn, hpa]; rfl) ?_
   refine WpE.nil (hKF _ _ ?_)
   refine cf rfl ?_
   refine sk ?_
   refine rg fun KF hKF => ?_
   refine mI ?_
   refine b0 ?_
   refine mI ?_
   refine nl hKF ?_
   dsimp only
   refine ⟨x + 1, by omega, ⟨by simp only [↓nrmL, nrmZ, qe, ↓reduceIte, qz, qa, qn]; rw [hw1], trivial⟩, by omega, fun i hi => ?_, inferInstance⟩
   by_cases e : i = x
   ·rw [e, getDL_at hxl, hpa]
   ·exact hok i (by omega)
 have hx5 : x = 5 := by have := of_decide_eq_false hc; omega
 rw [hx5] at hok
 repeat first | refine mI ?_ | refine bn rfl rfl rfl (by simp only [hc]; rfl) ?_ | refine nl hKF ?_ | refine sq ?_ | refine rg fun KF hKF => ?_ | refine cf rfl ?_ | refine Wp.block ?_ | refine xi ?_ | dsimp only
 refine Wp.loopS [4, 6, 7, 24, 25, 26, 27, 28, 29, 30, 31, 32, 33, 34, 35, 36, 37, 38, 39, 40, 41, 42, 43, 44, 45, 46, 47, 48, 49, 50, 51] (fun x : Nat => [(6, .int .i64 x)]) (fun H3 x H4 => x ≤ a ∧ (∀ c, c < x → ∀ i, 1 ≤ i → i < 5 → (ls.getD (i - 1) []).getD c 0 < (ls.getD i []).getD c 0) ∧ H4 = H3) (fun x => a - x) 0 rfl (fun _ => rfl) ⟨rfl, trivial⟩ ⟨Nat.zero_le _, fun c hc => by omega, rfl⟩ (by unfold fuel0 at hn; omega) ?_
 rintro y g3 H4 ⟨hy, hbel, rfl⟩
 simp only [↓nrmL, nrmZ, qe, ↓reduceIte, qz, qa, qn]
 cases hc2 : decide ((y : Int) < (a : Int))
 ·have hya : y = a := by have := of_decide_eq_false hc2; omega
  rw [fitsB_of hl5 hok (fun x hx => hbel x (by omega))]
  repeat first | refine mI ?_ | refine mB ?_ | refine fd ?_ | refine Fo.ld rfl rfl ?_ | refine bn rfl rfl rfl (by simp only [hc2]; rfl) ?_ | refine nl hKF ?_ | refine sq ?_ | refine rg fun KF hKF => ?_ | refine cf rfl ?_ | refine rt ?_ | refine xi ?_ | dsimp only
  refine rz trivial ?_
  exact ⟨rfl, Ext0.ext⟩
 have hya : y < a := by have := of_decide_eq_true hc2; omega
 have hw1 := wa1 (a := y) (by omega)
 repeat first | refine mI ?_ | refine fd ?_ | refine Fo.ld rfl rfl ?_ | refine bn rfl rfl rfl (by simp only [hc2]; rfl) ?_ | refine nl hKF ?_ | refine sq ?_ | refine rg fun KF hKF => ?_ | refine ct rfl ?_ | refine sk ?_ | refine Wp.block ?_ | dsimp only
 refine Wp.loopS [4, 7, 30, 31, 32, 33, 34, 35, 36, 37, 38, 39, 40, 41, 42, 43, 44, 45, 46, 47, 48, 49, 50, 51] (fun i : Nat => [(7, .int .i64 i)]) (fun H3 i H5 => 1 ≤ i ∧ i ≤ 5 ∧ (∀ j, 1 ≤ j → j < i → (ls.getD (j - 1) []).getD y 0 < (ls.getD j []).getD y 0) ∧ H5 = H3) (fun i => 5 - i) 1 rfl (fun _ => rfl) ⟨rfl, trivial⟩ ⟨Nat.le_refl _, by omega, fun j h1 h2 => by omega, rfl⟩ (by unfold fuel0 at hn; omega) ?_
 rintro i g4 H5 ⟨hi1, hi5, hin, rfl⟩
 simp only [↓nrmL, nrmZ, qe, ↓reduceIte, qz, qa, qn]
 cases hc3 : decide ((i : Int) < 5)
 ·have hie : i = 5 := by have := of_decide_eq_false hc3; omega
  repeat first | refine mI ?_ | refine bn rfl rfl rfl (by simp only [hc3]; rfl) ?_ | refine b0 ?_ | refine nl hKF ?_ | refine sq ?_ | refine rg fun KF hKF => ?_ | refine cf rfl ?_ | refine xi ?_ | dsimp only
  refine ⟨y + 1, by omega, ⟨by simp only [↓nrmL, nrmZ, qe, ↓reduceIte, qz, qa, qn]; rw [hw1], trivial⟩, hya, fun c hcy j h1 h2 => ?_, rfl⟩
  by_cases e : c = y
  ·rw [e]; exact hin j h1 (by omega)
  ·exact hbel c (by omega) j h1 h2
 have hie : i < 5 := by have := of_decide_eq_true hc3; omega
 have hw3 := wa1 (a := i) (by omega)
 have hw2 := ws1 (a := i) (by omega) (by omega)
 have hil : i < ls.length := by omega
 have him : i - 1 < ls.length := by omega
 obtain ⟨qi, hqi, hIi⟩ := hrw.it i hil
 obtain ⟨qm, hqm, hIm⟩ := hrw.it (i - 1) him
 haveI := hIi
 haveI := hIm
 haveI := hIi.one
 haveI := hIm.one
 have hyi : y < ls[i].length := by have := (pathB_len (hok i hie)).1; rw [getDL_at hil] at this; omega
 have hym : y < ls[i - 1].length := by have := (pathB_len (hok (i - 1) (by omega))).1; rw [getDL_at him] at this; omega
 cases hle : decide (ls[i][y] ≤ ls[i - 1][y])
 rotate_left
 ·have h9 := of_decide_eq_true hle
  rw [fitsB_not (i := i) (x := y) hok hya hi1 hie (by rw [getDL_at hil, getDL_at him, getD_at hyi, getD_at hym]; exact h9)]
  repeat first | refine mI ?_ | refine fd ?_ | refine Fo.ld rfl rfl ?_ | refine bn rfl rfl rfl (by simp only [hc3]; rfl) ?_ | (refine Fo.idx (by simp only [↓nrmL, nrmK, qe, ↓reduceIte]; rfl) rfl ?_ (by simp only [↓nrmL, nrmZ, qe, ↓reduceIte, qz, qa, qn, hc3]; rfl) ?_; (focus omega)) | refine nl hKF ?_ | refine sq ?_ | refine rg fun KF hKF => ?_ | refine Fr.quiet rfl rfl fun KF hKF => ?_ | refine ct rfl ?_ | refine sk ?_ | refine Wp.block ?_
  refine Fo.now rfl (exec_ldP (p := q) (j := i) rfl hqi) rfl ?_
  simp only [↓nrmL, nrmZ, qe, ↓reduceIte, qz, qa, qn, hw2]
  repeat first | refine mI ?_ | refine fd ?_ | refine Fo.ld rfl rfl ?_ | refine bn rfl rfl rfl (by simp only [hw2]; rfl) ?_ | (refine Fo.idx (by simp only [↓nrmL, nrmK, qe, ↓reduceIte]; rfl) rfl ?_ (by simp only [↓nrmL, nrmZ, qe, ↓reduceIte, qz, qa, qn, hw2]; rfl) ?_; (focus omega)) | (refine Fo.ldI rfl ?_ rfl ?_; (focus omega))
  refine Fo.now rfl (exec_ldP (p := q) (j := i - 1) rfl hqm) rfl ?_
  simp only [↓nrmL, nrmZ, qe, ↓reduceIte, qz, qa, qn, hle]
  refine mI ?_
  refine Fo.idx (by simp only [↓nrmL, nrmK, qe, ↓reduceIte]; rfl) rfl ?_ (by simp only [↓nrmL, nrmZ, qe, ↓reduceIte, qz, qa, qn, hle]; rfl) ?_; (focus omega)
  refine Fo.ldI rfl ?_ rfl ?_; (focus omega)
  refine bn rfl rfl rfl (by simp only [hle]; rfl) ?_
  refine nl hKF ?_
  refine ct rfl ?_
  refine sq ?_
  refine rg fun KF hKF => ?_
  refine mB ?_
  refine nl hKF ?_
  refine rt ?_
  dsimp only
  refine rz trivial ?_
  exact ⟨rfl, Ext0.ext⟩
 have h9 := of_decide_eq_false hle
 repeat first | refine mI ?_ | refine fd ?_ | refine Fo.ld rfl rfl ?_ | refine bn rfl rfl rfl (by simp only [hc3]; rfl) ?_ | (refine Fo.idx (by simp only [↓nrmL, nrmK, qe, ↓reduceIte]; rfl) rfl ?_ (by simp only [↓nrmL, nrmZ, qe, ↓reduceIte, qz, qa, qn, hc3]; rfl) ?_; (focus omega)) | refine nl hKF ?_ | refine sq ?_ | refine rg fun KF hKF => ?_ | refine Fr.quiet rfl rfl fun KF hKF => ?_ | refine ct rfl ?_ | refine sk ?_ | refine Wp.block ?_
 refine Fo.now rfl (exec_ldP (p := q) (j := i) rfl hqi) rfl ?_
 simp only [↓nrmL, nrmZ, qe, ↓reduceIte, qz, qa, qn, hw2]
 repeat first | refine mI ?_ | refine fd ?_ | refine Fo.ld rfl rfl ?_ | refine bn rfl rfl rfl (by simp only [hw2]; rfl) ?_ | (refine Fo.idx (by simp only [↓nrmL, nrmK, qe, ↓reduceIte]; rfl) rfl ?_ (by simp only [↓nrmL, nrmZ, qe, ↓reduceIte, qz, qa, qn, hw2]; rfl) ?_; (focus omega)) | (refine Fo.ldI rfl ?_ rfl ?_; (focus omega))
 refine Fo.now rfl (exec_ldP (p := q) (j := i - 1) rfl hqm) rfl ?_
 simp only [↓nrmL, nrmZ, qe, ↓reduceIte, qz, qa, qn, hle]
 repeat first | refine mI ?_ | refine bn rfl rfl rfl (by simp only [hle]; rfl) ?_ | refine b0 ?_ | (refine Fo.idx (by simp only [↓nrmL, nrmK, qe, ↓reduceIte]; rfl) rfl ?_ (by simp only [↓nrmL, nrmZ, qe, ↓reduceIte, qz, qa, qn, hle]; rfl) ?_; (focus omega)) | (refine Fo.ldI rfl ?_ rfl ?_; (focus omega)) | refine nl hKF ?_ | refine rg fun KF hKF => ?_ | refine cf rfl ?_ | refine sk ?_ | dsimp only
 refine ⟨i + 1, by omega, ⟨by simp only [↓nrmL, nrmZ, qe, ↓reduceIte, qz, qa, qn]; rw [hw3], trivial⟩, by omega, by omega, fun j h1 h2 => ?_, rfl⟩
 by_cases e : j = i
 ·rw [e, getDL_at hil, getDL_at him, getD_at hyi, getD_at hym]; omega
 ·exact hin j h1 (by omega)⟩
end Go.Am


namespace Go.Am
open Go
attribute [local irreducible] Wp WpO WpX WpE
theorem px_get {l : List UInt8} (h : pxOk l = true) {i : Nat} (hi : i < l.length) : l.getD i 0 = 0 ∨ l.getD i 0 = 1 := by
 have := List.all_eq_true.1 h l[i] (List.getElem_mem hi)
 simp only [Bool.or_eq_true, beq_iff_eq] at this
 simpa [hi] using this
end Go.Am


namespace Go.Am
open Go
attribute [local irreducible] Wp WpO WpX WpE
end Go.Am
