import Derived.Test.YtpochhefklmnfaaAmBC
import Derived.Test.YtpochhefklmnfaaProg
import Derived.Test.YtpochhefklmnfaaRows
import Derived.WalkKit
import Derived.ProofKit
import Derived.OpenShut
import Derived.Deep.DeepHandedRow
import Derived.Lib.LaidTab
import Derived.Lib.Strings
set_option linter.unusedSimpArgs false
set_option linter.unusedVariables false
set_option maxHeartbeats 8000000
set_option maxRecDepth 100000
set_option synthInstance.maxHeartbeats 4000000
set_option synthInstance.maxSize 1000000000
set_option linter.unusedVariables false
namespace Go.Am
open Go
noncomputable def fA : AVal → AVal := @AVal.rec (fun _ => AVal) (fun _ => PUnit) AVal.bool AVal.int AVal.str AVal.nptr AVal.ptr AVal.nslice AVal.slice AVal.nfunc (fun f a b _ _ => AVal.func f a b) AVal.niface (fun t v _ => AVal.iface t v) (fun l _ => AVal.agg l) (fun l _ => AVal.tuple l) AVal.yield AVal.eslice AVal.map AVal.nmap PUnit.unit (fun _ _ _ _ => PUnit.unit)
theorem fA_eq (v : AVal) : fA v = v := by cases v <;> rfl
noncomputable def fO : AObj → AObj := @AObj.rec (fun _ => AObj) AObj.dead AObj.row AObj.iter AObj.loop AObj.mapo
theorem fO_eq (v : AObj) : fO v = v := by cases v <;> rfl
noncomputable def hF (H : AHeap) : AHeap := ⟨Nat.add H.n 0, fun i => fO (H.get i)⟩
theorem hF_eq (H : AHeap) : hF H = H := by simp only [hF, fO_eq]; rfl
noncomputable def xl (fr : AFrame) (d : Nat) (v : AVal) : AFrame := fun i => @Bool.rec (fun _ => AVal) (fA (fr i)) v (Nat.beq i d)
theorem xl_eq (fr : AFrame) (d : Nat) (v : AVal) : xl fr d v = upd fr d v := by
  funext i
  unfold xl upd
  rw [fA_eq]
  cases Nat.beq i d <;> rfl
noncomputable def xput (fr : AFrame) (d : Option Nat) (v : AVal) : AFrame := @Option.rec Nat (fun _ => AFrame) fr (fun d => xl fr d v) d
theorem xput_eq (fr : AFrame) (d : Option Nat) (v : AVal) : xput fr d v = put fr d v := by
  cases d with
  | none => rfl
  | some d => exact xl_eq fr d v
noncomputable def xev (fr : AFrame) (x : ROpd) : AVal := @ROpd.rec (fun _ => AVal) (fun t => fr t) (fun v => v) x
theorem xev_eq (fr : AFrame) (x : ROpd) : xev fr x = x.ev fr := by cases x <;> rfl
noncomputable def xwant (o : ROper) (fr : AFrame) : Bool := @Option.rec (Nat × Bool) (fun _ => Bool) true (fun g => match fr g.1 with | .bool b => (match g.2 with | true => b | false => !b) | _ => false) o.guard
theorem xwant_eq (o : ROper) (fr : AFrame) : xwant o fr = o.wanted fr := by
  unfold xwant ROper.wanted
  cases o.guard with
  | none => rfl
  | some g => rfl
noncomputable def xW (r : Option (AVal × AHeap)) : Option (AVal × AHeap) := match r with | some (v, H) => some (v, hF H) | none => none
theorem xW_eq (r : Option (AVal × AHeap)) : xW r = r := by
  cases r with
  | none => rfl
  | some p => simp only [xW, hF_eq]
abbrev XF := ACall → AFrame → AHeap → Option (AVal × AHeap)
noncomputable def x_mov : ROpd → XF := fun x _ fr H => some (xev fr x, H)
noncomputable def x_pick : ROpd → ROpd → ROpd → XF := fun c a b _ fr H => match xev fr c with | .bool t => some (match t with | true => xev fr a | false => xev fr b, H) | _ => none
noncomputable def x_new : TypeId → (List AVal) → XF := fun e cs _ _ H => some (.ptr H.n 0, hF (H.push (.row cs true (2 * e))))
noncomputable def x_box : TypeId → ROpd → XF := fun e x _ fr H => some (.ptr H.n 0, hF (H.push (.row (xev fr x).cells true (2 * e))))
noncomputable def x_build : (List AVal) → (List (Nat × Nat × ROpd)) → XF := fun x0 x1 call fr H => ROp.exec call fr (ROp.build x0 x1) H
noncomputable def x_buildSlice : TypeId → Nat → Nat → (List AVal) → (List (Nat × Nat × ROpd)) → XF := fun x0 x1 x2 x3 x4 call fr H => xW (ROp.exec call fr (ROp.buildSlice x0 x1 x2 x3 x4) H)
noncomputable def x_load : (Option Nat) → ROpd → XF := fun g a _ fr H => aLoad g (xev fr a) H
noncomputable def x_store : Nat → ROpd → ROpd → XF := fun n a x _ fr H => xW (aStore n (xev fr a) (xev fr x) H)
noncomputable def x_nilCheck : ROpd → XF := fun x0 call fr H => ROp.exec call fr (ROp.nilCheck x0) H
noncomputable def x_bin : BinOp → ROpd → ROpd → XF := fun op x y _ fr H => M.ofOption (aBin op (xev fr x) (xev fr y)) H
noncomputable def x_eq : Bool → EqDesc → ROpd → ROpd → XF := fun x0 x1 x2 x3 call fr H => ROp.exec call fr (ROp.eq x0 x1 x2 x3) H
noncomputable def x_un : UnOp → ROpd → XF := fun x0 x1 call fr H => ROp.exec call fr (ROp.un x0 x1) H
noncomputable def x_convInt : IntKind → ROpd → XF := fun x0 x1 call fr H => ROp.exec call fr (ROp.convInt x0 x1) H
noncomputable def x_mkIface : TypeId → ROpd → XF := fun x0 x1 call fr H => ROp.exec call fr (ROp.mkIface x0 x1) H
noncomputable def x_mkFunc : Fn → (List ROpd) → (List ROpd) → XF := fun fn first caps _ fr H => some (.func fn (first.map (·.ev fr)) (caps.map (·.ev fr)), H)
noncomputable def x_makeSlice : TypeId → (List AVal) → Nat → ROpd → ROpd → XF := fun x0 x1 x2 x3 x4 call fr H => xW (ROp.exec call fr (ROp.makeSlice x0 x1 x2 x3 x4) H)
noncomputable def x_sliceS : Nat → ROpd → (Option ROpd) → (Option ROpd) → (Option ROpd) → XF := fun sz x lo hi mx _ fr H => aSliceS sz (xev fr x) (lo.map (·.ev fr)) (hi.map (·.ev fr)) (mx.map (·.ev fr)) H
noncomputable def x_sliceStr : ROpd → (Option ROpd) → (Option ROpd) → XF := fun x0 x1 x2 call fr H => ROp.exec call fr (ROp.sliceStr x0 x1 x2) H
noncomputable def x_sliceArr : Nat → Nat → ROpd → (Option ROpd) → (Option ROpd) → (Option ROpd) → XF := fun x0 x1 x2 x3 x4 x5 call fr H => ROp.exec call fr (ROp.sliceArr x0 x1 x2 x3 x4 x5) H
noncomputable def x_fieldAddr : Nat → ROpd → XF := fun off x _ fr H => M.ofOption (aFieldAddr off (xev fr x)) H
noncomputable def x_field : (Option Nat) → Nat → ROpd → XF := fun x0 x1 x2 call fr H => ROp.exec call fr (ROp.field x0 x1 x2) H
noncomputable def x_idxS : Nat → ROpd → ROpd → XF := fun sz x i _ fr H => M.ofOption (aIdxS sz (xev fr x) (xev fr i)) H
noncomputable def x_idxA : Nat → Nat → ROpd → ROpd → XF := fun x0 x1 x2 x3 call fr H => ROp.exec call fr (ROp.idxA x0 x1 x2 x3) H
noncomputable def x_indexA : Nat → Nat → Bool → ROpd → ROpd → XF := fun x0 x1 x2 x3 x4 call fr H => ROp.exec call fr (ROp.indexA x0 x1 x2 x3 x4) H
noncomputable def x_indexStr : ROpd → ROpd → XF := fun x0 x1 call fr H => ROp.exec call fr (ROp.indexStr x0 x1) H
noncomputable def x_rangeStr : ROpd → XF := fun x0 call fr H => ROp.exec call fr (ROp.rangeStr x0) H
noncomputable def x_nextStr : ROpd → XF := fun x0 call fr H => ROp.exec call fr (ROp.nextStr x0) H
noncomputable def x_extract : ROpd → Nat → XF := fun x i _ fr H => M.ofOption (aExtract i (xev fr x)) H
noncomputable def x_call : ROpd → (List ROpd) → XF := fun f args call fr H => aCallV call (xev fr f) (args.map (·.ev fr)) H
noncomputable def x_lenS : ROpd → XF := fun x _ fr H => M.ofOption (aLenS (xev fr x)) H
noncomputable def x_lenStr : ROpd → XF := fun x0 call fr H => ROp.exec call fr (ROp.lenStr x0) H
noncomputable def x_lenA : Nat → XF := fun x0 call fr H => ROp.exec call fr (ROp.lenA x0) H
noncomputable def x_capS : ROpd → XF := fun x0 call fr H => ROp.exec call fr (ROp.capS x0) H
noncomputable def x_appendZ : TypeId → Nat → Nat → (List AVal) → ROpd → ROpd → XF := fun x0 x1 x2 x3 x4 x5 call fr H => xW (ROp.exec call fr (ROp.appendZ x0 x1 x2 x3 x4 x5) H)
noncomputable def x_append : TypeId → Nat → Nat → ROpd → ROpd → XF := fun e sz bytes x y _ fr H => xW (aAppend e sz bytes (xev fr x) (xev fr y) H)
noncomputable def x_copy : Nat → ROpd → ROpd → XF := fun x0 x1 x2 call fr H => xW (ROp.exec call fr (ROp.copy x0 x1 x2) H)
noncomputable def x_minmax : Bool → (List ROpd) → XF := fun b xs _ fr H => (match xs with | [] => M.fail | x :: rest => M.ofOption (aMinMax b (xev fr x) (rest.map (fun y => ROpd.ev fr y)))) H
noncomputable def x_bytesToStr : ROpd → XF := fun x0 call fr H => xW (ROp.exec call fr (ROp.bytesToStr x0) H)
noncomputable def x_strToBytes : TypeId → ROpd → XF := fun x0 x1 call fr H => xW (ROp.exec call fr (ROp.strToBytes x0 x1) H)
noncomputable def x_uptr : TypeId → Nat → ROpd → XF := fun x0 x1 x2 call fr H => xW (ROp.exec call fr (ROp.uptr x0 x1 x2) H)
noncomputable def x_sliceData : Nat → ROpd → XF := fun x0 x1 call fr H => xW (ROp.exec call fr (ROp.sliceData x0 x1) H)
noncomputable def x_unsafeStr : TypeId → ROpd → ROpd → XF := fun x0 x1 x2 call fr H => xW (ROp.exec call fr (ROp.unsafeStr x0 x1 x2) H)
noncomputable def x_lookup : EqDesc → AVal → Bool → ROpd → ROpd → XF := fun x0 x1 x2 x3 x4 call fr H => ROp.exec call fr (ROp.lookup x0 x1 x2 x3 x4) H
noncomputable def x_mapLit : (List (AVal × AVal)) → XF := fun x0 call fr H => ROp.exec call fr (ROp.mapLit x0) H
noncomputable def xOp : ROp → XF := @ROp.rec (fun _ => XF) x_mov x_pick x_new x_box x_build x_buildSlice x_load x_store x_nilCheck x_bin x_eq x_un x_convInt x_mkIface x_mkFunc x_makeSlice x_sliceS x_sliceStr x_sliceArr x_fieldAddr x_field x_idxS x_idxA x_indexA x_indexStr x_rangeStr x_nextStr x_extract x_call x_lenS x_lenStr x_lenA x_capS x_appendZ x_append x_copy x_minmax x_bytesToStr x_strToBytes x_uptr x_sliceData x_unsafeStr x_lookup x_mapLit
theorem xOp_eq (op : ROp) (call : ACall) (fr : AFrame) (H : AHeap) : xOp op call fr H = op.exec call fr H := by
  cases op
  case pick c a b =>
    show x_pick c a b call fr H = _
    simp only [x_pick, xev_eq, ROp.exec]
    cases c.ev fr <;> rfl
  all_goals first
    | rfl
    | exact xW_eq _
    | (unfold xOp; simp only [x_mov, x_new, x_box, x_load, x_store, x_bin, x_fieldAddr, x_idxS, x_extract, x_call, x_lenS, x_sliceS, x_append, x_minmax, xev_eq, hF_eq, xW_eq]; rfl)
abbrev XO := ACall → AFrame → AHeap → Option (AFrame × AHeap)
def xNil : XO := fun _ fr H => some (fr, H)
noncomputable def xCons (o : ROper) (_ : List ROper) (ih : XO) : XO := fun call fr H => @Bool.rec (fun _ => Option (AFrame × AHeap)) (ih call (xput fr o.dst aundef) H)
  (@Option.rec (AVal × AHeap) (fun _ => Option (AFrame × AHeap)) none (fun p => @Prod.rec AVal AHeap (fun _ => Option (AFrame × AHeap)) (fun v H' => @Option.rec Nat (fun _ => Option (AFrame × AHeap)) (ih call fr H') (fun d => ih call (xl fr d v) H') o.dst) p) (xOp o.op call fr H)) (xwant o fr)
noncomputable def xOps : List ROper → XO := @List.rec ROper (fun _ => XO) xNil xCons
theorem xOps_eq (call : ACall) : ∀ (os : List ROper) (fr : AFrame) (H : AHeap), xOps os call fr H = execOps call os fr H := by
  intro os
  induction os with
  | nil => intro fr H; rfl
  | cons o os ih =>
    intro fr H
    show xCons o os (xOps os) call fr H = _
    unfold xCons execOps
    rw [xwant_eq, xOp_eq]
    cases o.wanted fr with
    | false => rw [xput_eq]; exact ih _ _
    | true =>
      simp only [M.bind]
      cases o.op.exec call fr H with
      | none => rfl
      | some r =>
        obtain ⟨v, H'⟩ := r
        simp only
        rw [← ih]
        cases o.dst with
        | none => rfl
        | some d =>
          show xOps os call (xl fr d v) H' = _
          rw [xl_eq]
          rfl
abbrev XT := Nat → ACall → AFrame → AHeap → Option (List DRec × AFrame × AHeap)
noncomputable def xLook (fr : AFrame) (op : ROp) (H : AHeap) : Option AVal :=
  match xOp op noCall fr H with
  | some (v, H1) => match Nat.beq H1.n H.n with
    | true => some v
    | false => match op with
      | .sliceS sz x lo hi mx => aSliceE sz (x.ev fr) (lo.map (·.ev fr)) (hi.map (·.ev fr)) (mx.map (·.ev fr))
      | _ => none
  | none => none
theorem xLook_eq (fr : AFrame) (op : ROp) (H : AHeap) : xLook fr op H = op.look fr H := by
  unfold xLook ROp.look
  rw [xOp_eq]
  rfl
noncomputable def xStep (call : ACall) (it : DItem) (ref : Nat) (fr : AFrame) (H : AHeap) : Option (AVal × Bool × AHeap) :=
  match Nat.beq it.cls 2 with
  | true => match xOp it.o.op call fr H with
    | some (v, H1) => some (v, true, H1)
    | none => none
  | false => match Nat.beq it.cls 3 with
    | true => match it.o.op.made fr with
      | some (cs, e, k) => match ghostIs H ref cs e with | true => some (k ref, false, H) | false => none
      | none => none
    | false => match xLook fr it.o.op H with
      | some v => some (v, false, H)
      | none => none
theorem xStep_eq (call : ACall) (it : DItem) (ref : Nat) (fr : AFrame) (H : AHeap) : xStep call it ref fr H = dstep call it ref fr H := by
  unfold xStep dstep
  rw [xOp_eq, xLook_eq]
  rfl
def xTNil : XT := fun _ _ fr H => some ([], fr, H)
noncomputable def xTCons (it : DItem) (_ : List DItem) (ih : XT) : XT := fun ref call fr H =>
    match it.o.wanted fr with
    | false => match ih (nextRef it.cls ref) call (xput fr it.o.dst aundef) H with
      | some (R, fr', H') => some (⟨it.o, it.b, it.cls, fr, aundef, false, false, H, ref⟩ :: R, fr', H')
      | none => none
    | true => match xStep call it ref fr H with
      | none => none
      | some (v, eff, H1) => match ih (nextRef it.cls ref) call (xput fr it.o.dst v) H1 with
        | some (R, fr', H') => some (⟨it.o, it.b, it.cls, fr, v, true, eff, H1, ref⟩ :: R, fr', H')
        | none => none
noncomputable def xText : List DItem → XT := @List.rec DItem (fun _ => XT) xTNil xTCons
theorem xText_eq (call : ACall) : ∀ (its : List DItem) (ref : Nat) (fr : AFrame) (H : AHeap), xText its ref call fr H = dtext call its ref fr H := by
  intro its
  induction its with
  | nil => intro ref fr H; rfl
  | cons it its ih =>
    intro ref fr H
    show xTCons it its (xText its) ref call fr H = _
    unfold xTCons dtext
    simp only [xput_eq]
    cases it.o.wanted fr with
    | false => simp only [ih]; rfl
    | true =>
      simp only [xStep_eq]
      cases dstep call it ref fr H with
      | none => rfl
      | some r => simp only [ih]; rfl
noncomputable def xOkAt (r : DRec) (H : AHeap) : Bool :=
  match Nat.beq r.cls 3 with
  | true => match r.o.op.made r.fr with
    | some (cs, e, _) => ghostIs H r.ref cs e
    | none => false
  | false => match xLook r.fr r.o.op H with
    | some v => abeq v r.v
    | none => false
theorem xOkAt_eq (r : DRec) (H : AHeap) : xOkAt r H = r.okAt H := by
  unfold xOkAt DRec.okAt
  rw [xLook_eq]
  rfl
noncomputable def xChk (r : DRec) (k : Nat) : List DRec → Nat → AHeap → Bool → Bool := @List.rec DRec (fun _ => Nat → AHeap → Bool → Bool)
  (fun _ cur may => match may with | true => xOkAt r cur | false => true)
  (fun e _ ih i cur may => match e.eff with
    | false => ih (i + 1) cur may
    | true => match may with
      | false => ih (i + 1) e.hp (!(e.b.testBit k))
      | true => match r.b.testBit i with
        | true => ih (i + 1) e.hp (!(e.b.testBit k))
        | false => match xOkAt r cur with
          | true => ih (i + 1) e.hp (!(e.b.testBit k))
          | false => false)
theorem xChk_eq (r : DRec) (k : Nat) : ∀ (es : List DRec) (i : Nat) (cur : AHeap) (may : Bool), xChk r k es i cur may = r.chk k es i cur may := by
  intro es
  induction es with
  | nil =>
    intro i cur may
    cases may
    · rfl
    · show xOkAt r cur = (false || r.okAt cur)
      rw [xOkAt_eq]; rfl
  | cons e es ih =>
    intro i cur may
    unfold DRec.chk
    show (match e.eff with
    | false => xChk r k es (i + 1) cur may
    | true => match may with
      | false => xChk r k es (i + 1) e.hp (!(e.b.testBit k))
      | true => match r.b.testBit i with
        | true => xChk r k es (i + 1) e.hp (!(e.b.testBit k))
        | false => match xOkAt r cur with
          | true => xChk r k es (i + 1) e.hp (!(e.b.testBit k))
          | false => false) = _
    cases e.eff with
    | false => exact ih _ _ _
    | true =>
      simp only [ih, xOkAt_eq]
      cases may <;> cases r.b.testBit i <;> cases r.okAt cur <;> simp
noncomputable def xCheck (R : List DRec) (H0 : AHeap) : List DRec → Nat → Bool := @List.rec DRec (fun _ => Nat → Bool)
  (fun _ => true)
  (fun r _ ih k => match r.want with
    | false => ih (k + 1)
    | true => match Nat.beq r.cls 1 with
      | true => (match xChk r k R 0 H0 true with | true => ih (k + 1) | false => false)
      | false => match Nat.beq r.cls 3 with
        | true => (match xChk r k R 0 H0 true with | true => ih (k + 1) | false => false)
        | false => ih (k + 1))
theorem xCheck_eq (R : List DRec) (H0 : AHeap) : ∀ (rs : List DRec) (k : Nat), xCheck R H0 rs k = dcheck R H0 rs k := by
  intro rs
  induction rs with
  | nil => intro k; rfl
  | cons r rs ih =>
    intro k
    unfold dcheck
    show (match r.want with
    | false => xCheck R H0 rs (k + 1)
    | true => match Nat.beq r.cls 1 with
      | true => (match xChk r k R 0 H0 true with | true => xCheck R H0 rs (k + 1) | false => false)
      | false => match Nat.beq r.cls 3 with
        | true => (match xChk r k R 0 H0 true with | true => xCheck R H0 rs (k + 1) | false => false)
        | false => xCheck R H0 rs (k + 1)) = _
    simp only [ih, xChk_eq]
    cases r.want <;> cases Nat.beq r.cls 1 <;> cases Nat.beq r.cls 3 <;> simp <;> cases r.chk k R 0 H0 true <;> rfl
abbrev XC := ACall → Nat → AFrame → AHeap → Option ((RExit × AFrame) × AHeap)
def xSkip : XC := fun _ _ fr H => some ((.normal, fr), H)
noncomputable def xRegion (ops : List ROper) : XC := fun call _ fr H => match xOps ops call fr H with
  | some (fr', H') => some ((.normal, fr'), H')
  | none => none
noncomputable def xDregion (ops : List DItem) : XC := fun call _ fr H => match xText ops H.n call fr (hF (pushAll H (oracle ops H.n fr H))) with
  | some (R, fr', H') => match xCheck R (hF (pushAll H (oracle ops H.n fr H))) R 0 with | true => some ((.normal, fr'), H') | false => none
  | none => none
noncomputable def xSeq (_ _ : RCode) (a b : XC) : XC := fun call lf fr H => @Option.rec ((RExit × AFrame) × AHeap) (fun _ => Option ((RExit × AFrame) × AHeap)) none
  (fun p => @Prod.rec (RExit × AFrame) AHeap (fun _ => Option ((RExit × AFrame) × AHeap)) (fun y H' => @Prod.rec RExit AFrame (fun _ => Option ((RExit × AFrame) × AHeap)) (fun x fr' => match x with
    | .normal => b call lf fr' H'
    | e => some ((e, fr'), H')) y) p) (a call lf fr H)
noncomputable def xCond (c : ROpd) (_ _ : RCode) (t e : XC) : XC := fun call lf fr H => match xev fr c with
  | .bool b => match b with | true => t call lf fr H | false => e call lf fr H
  | _ => none
def xBlock (id : Nat) (_ : RCode) (b : XC) : XC := fun call lf fr H => match b call lf fr H with
  | some ((x, fr'), H') => match x with
    | .exit id' => match Nat.beq id' id with | true => some ((.normal, fr'), H') | false => some ((.exit id', fr'), H')
    | e => some ((e, fr'), H')
  | none => none
noncomputable def xLoopN (body : AFrame → AHeap → Option ((RExit × AFrame) × AHeap)) : Nat → AFrame → AHeap → Option ((RExit × AFrame) × AHeap) := @Nat.rec (fun _ => AFrame → AHeap → Option ((RExit × AFrame) × AHeap))
  (fun _ _ => none)
  (fun _ ih fr H => match body fr H with
    | some ((x, fr'), H') => match x with
      | .normal => ih fr' H'
      | e => some ((e, fr'), H')
    | none => none)
noncomputable def xLoop (_ : RCode) (b : XC) : XC := fun call lf fr H => xLoopN (b call lf) lf fr H
def xScope (_ : RCode) (b : XC) : XC := b
def xExit (id : Nat) : XC := fun _ _ fr H => some ((.exit id, fr), H)
def xRet : XC := fun _ _ fr H => some ((.ret, fr), H)
def xFail : XC := fun _ _ _ _ => none
noncomputable def xRange (fns : List FuncId) (nt : Nat) (g : ROpd) (ps : List Nat) (a b : RCode) (_ _ : XC) : XC := fun call _ fr H => match g.ev fr, fr nt with
    | .func (.func gf) fi ca, .tuple vs => match fns.contains gf with
      | true => match call gf (fi ++ [.yield (H.n + 1)] ++ ca) (hF ((H.push .dead).push (.loop ⟨H.n, nt, fr, ps, a, b, 0, .normal⟩))) with
        | some (_, H2) => match H2.get (H.n + 1) with
          | .loop R => match Nat.beq R.st 1 || Nat.beq R.st 4 with
            | false => some ((R.pend, upd fr nt (.tuple (.ptr H.n (H.n + 1) :: vs))), hF <| H2.set (H.n + 1) (.loop { R with st := 3 }))
            | true => none
          | _ => none
        | none => none
      | false => none
    | _, _ => none
noncomputable def xCode : RCode → XC := @RCode.rec (fun _ => XC) xSkip xRegion xDregion xSeq xCond xBlock xLoop xScope xSkip xExit xRet xFail xRange
noncomputable def xRun (ext : Exts) (call : ACall) (lf : Nat) (fn : RFunc) (args : List AVal) (H : AHeap) : Option (AVal × AHeap) :=
  match fn.body with
  | .ext name => ext name args H
  | .code c => match Nat.blt fn.nt args.length with
    | true => none
    | false => match xCode c call lf (argFrame args) H with
      | some ((x, fr), H1) => match x with
        | .exit _ => none
        | _ => match getAll fr fn.results H1 with
          | some (vs, H2) => some (aResult vs, H2)
          | none => none
      | none => none
  | .ranges c => match Nat.blt fn.nt args.length with
    | true => none
    | false => match xCode c call lf (argFrame args) H with
      | some ((x, fr), H1) => match x with
        | .exit _ => none
        | _ => match takeMarks (marksOf (fr fn.nt)) H1 with
          | some (_, H2) => match getAll fr fn.results H2 with
            | some (vs, H3) => some (aResult vs, H3)
            | none => none
          | none => none
      | none => none
noncomputable def xRound (call : ACall) (lf : Nat) (r : Nat) (args : List AVal) (H : AHeap) : Option (AVal × AHeap) :=
  match Nat.blt r H.n, H.get r with
  | true, .loop R => match Nat.beq args.length R.ps.length && R.ps.all (fun t => Nat.blt t R.nt) with
    | true => match xCode R.assign call lf (setAll R.fr (R.ps.zip args)) H with
      | some ((.normal, fr1), H1) => match H1.get r with
        | .loop R1 => match Nat.beq R1.st 0 with
          | true => match xCode R.body call lf fr1 (hF (H1.set r (.loop { R1 with st := 1 }))) with
            | some ((x, _), H2) => match H2.get r with
              | .loop R2 => match Nat.beq R2.st 1 with
                | true => some (.bool (match x with | .normal => true | _ => false), hF <| H2.set r (.loop { R2 with st := (match x with | .normal => 0 | _ => 2), pend := x }))
                | false => none
              | _ => none
            | none => none
          | false => none
        | _ => none
      | _ => none
    | false => none
  | _, _ => none
noncomputable def xCallN (ext : Exts) (prog : FuncId → Option RFunc) : Nat → ACall := @Nat.rec (fun _ => ACall) (fun _ _ _ => none)
  (fun n ih f args H => match prog f with
    | some fn => xRun ext ih n fn args H
    | none => match Nat.beq f yieldId, args with
      | true, .yield r :: as1 => xRound ih n r as1 H
      | _, _ => none)
theorem xLoopN_eq (body : AFrame → M (RExit × AFrame)) : ∀ (n : Nat) (fr : AFrame) (H : AHeap), xLoopN body n fr H = loopN body n fr H := by
  intro n
  induction n with
  | zero => intro fr H; rfl
  | succ n ih =>
    intro fr H
    show (match body fr H with
    | some ((x, fr'), H') => match x with
      | .normal => xLoopN body n fr' H'
      | e => some ((e, fr'), H')
    | none => none) = _
    simp only [loopN, M.bind]
    cases body fr H with
    | none => rfl
    | some r =>
      obtain ⟨⟨x, fr'⟩, H'⟩ := r
      cases x with
      | normal => exact ih _ _
      | _ => rfl
theorem xCode_eq (call : ACall) (lf : Nat) : ∀ (c : RCode) (fr : AFrame) (H : AHeap), xCode c call lf fr H = c.exec call lf fr H := by
  intro c
  induction c with
  | skip => intro fr H; rfl
  | label => intro fr H; rfl
  | exit id => intro fr H; rfl
  | ret => intro fr H; rfl
  | fail => intro fr H; rfl
  | region ops =>
    intro fr H
    show xRegion ops call lf fr H = _
    simp only [xRegion, xOps_eq, RCode.exec, M.bind]
    cases execOps call ops fr H <;> rfl
  | dregion ops =>
    intro fr H
    show xDregion ops call lf fr H = _
    simp only [xDregion, hF_eq, xText_eq, xCheck_eq, RCode.exec]
    rfl
  | seq a b iha ihb =>
    intro fr H
    show xSeq a b (xCode a) (xCode b) call lf fr H = _
    simp only [xSeq, iha, RCode.exec, M.bind]
    cases a.exec call lf fr H with
    | none => rfl
    | some r =>
      obtain ⟨⟨x, fr'⟩, H'⟩ := r
      cases x with
      | normal => exact ihb _ _
      | _ => rfl
  | cond c t e iht ihe =>
    intro fr H
    show xCond c t e (xCode t) (xCode e) call lf fr H = _
    simp only [xCond, xev_eq, iht, ihe, RCode.exec]
    cases c.ev fr with
    | bool b => cases b <;> rfl
    | _ => rfl
  | block id b ih =>
    intro fr H
    show xBlock id b (xCode b) call lf fr H = _
    simp only [xBlock, ih, RCode.exec, M.bind]
    cases b.exec call lf fr H with
    | none => rfl
    | some r =>
      obtain ⟨⟨x, fr'⟩, H'⟩ := r
      cases x with
      | exit id' => simp only; cases Nat.beq id' id <;> rfl
      | _ => rfl
  | loop b ih =>
    intro fr H
    show xLoopN (xCode b call lf) lf fr H = _
    rw [show xCode b call lf = b.exec call lf from funext fun fr => funext fun H => ih fr H, xLoopN_eq]
    rfl
  | scope b ih => intro fr H; exact ih fr H
  | rangeFunc fns nt g ps a b _ _ =>
    intro fr H
    show xRange fns nt g ps a b (xCode a) (xCode b) call lf fr H = _
    simp only [xRange, hF_eq, RCode.exec]
    rfl
theorem xRun_eq (ext : Exts) (call : ACall) (lf : Nat) (fn : RFunc) (args : List AVal) (H : AHeap) : xRun ext call lf fn args H = fn.run ext call lf args H := by
  unfold xRun RFunc.run
  cases fn.body with
  | ext name => rfl
  | code c =>
    simp only [xCode_eq]
    cases e : Nat.blt fn.nt args.length with
    | true =>
      have h : fn.nt < args.length := by rw [← Nat.blt_eq]; exact e
      rw [if_pos h]; rfl
    | false =>
      have h : ¬ fn.nt < args.length := by rw [← Nat.blt_eq, e]; exact Bool.noConfusion
      rw [if_neg h]
      simp only [M.bind]
      cases c.exec call lf (argFrame args) H with
      | none => rfl
      | some r =>
        obtain ⟨⟨x, fr⟩, H1⟩ := r
        cases x <;> first
          | rfl
          | (simp only [M.bind]; cases getAll fr fn.results H1 <;> rfl)
  | ranges c =>
    simp only [xCode_eq]
    cases e : Nat.blt fn.nt args.length with
    | true =>
      have h : fn.nt < args.length := by rw [← Nat.blt_eq]; exact e
      rw [if_pos h]; rfl
    | false =>
      have h : ¬ fn.nt < args.length := by rw [← Nat.blt_eq, e]; exact Bool.noConfusion
      rw [if_neg h]
      simp only [M.bind]
      cases c.exec call lf (argFrame args) H with
      | none => rfl
      | some r =>
        obtain ⟨⟨x, fr⟩, H1⟩ := r
        cases x <;> first
          | rfl
          | (simp only [M.bind]
             cases takeMarks (marksOf (fr fn.nt)) H1 with
             | none => rfl
             | some r2 =>
               obtain ⟨u, H2⟩ := r2
               simp only
               cases getAll fr fn.results H2 <;> rfl)
theorem xRound_eq (call : ACall) (lf : Nat) (r : Nat) (args : List AVal) (H : AHeap) : xRound call lf r args H = roundRun call lf r args H := by
  unfold xRound roundRun
  simp only [xCode_eq, hF_eq]
  rfl
theorem xCallN_eq (ext : Exts) (prog : FuncId → Option RFunc) : ∀ (n : Nat) (f : FuncId) (args : List AVal) (H : AHeap), xCallN ext prog n f args H = callN ext prog n f args H := by
  intro n
  induction n with
  | zero => intro f args H; rfl
  | succ n ih =>
    intro f args H
    have ih' : xCallN ext prog n = callN ext prog n := funext fun f => funext fun a => funext fun H => ih f a H
    show (match prog f with
    | some fn => xRun ext (xCallN ext prog n) n fn args H
    | none => match Nat.beq f yieldId, args with
      | true, .yield r :: as1 => xRound (xCallN ext prog n) n r as1 H
      | _, _ => none) = _
    unfold callN
    simp only [ih', xRun_eq, xRound_eq]
    cases prog f with
    | some fn => rfl
    | none =>
      cases Nat.beq f yieldId <;> cases args with
      | nil => rfl
      | cons a l => cases a <;> rfl
end Go.Am

namespace Go.Am
open Go Go.Proofs
theorem ext_of {P : Program} {e e' : Exts} {f : FuncId} {k : Nat} (h : ExtSim P e f k) (hk : e' k = e k) : ExtSim P e' f k := fun S args H v H' m w vargs hG hx => h S args H v H' m w vargs hG (by rw [← hk]; exact hx)
def OkF (f : FuncId) (rf : RFunc) : Prop := (∃ fn c, Try.prog.funcs[f]? = some fn ∧ fn.body = some c ∧ cFunc Try.prog fn = some rf) ∨ ∃ name, rf.body = .ext name ∧ ExtSim Try.prog ext f name
theorem spT {b : Bool} {x y : Option RFunc} {f : FuncId} {rf : RFunc} (h1 : x = some rf → OkF f rf) (h2 : y = some rf → OkF f rf) (h : cond b x y = some rf) : OkF f rf := by
  cases b
  · exact h2 h
  · exact h1 h
theorem lfT {n : Nat} {f : FuncId} {rf c : RFunc} (k : OkF n c) (h : cond (Nat.beq f n) (some c) none = some rf) : OkF f rf := by
  cases hb : Nat.beq f n with
  | true =>
    rw [hb] at h
    obtain rfl := Nat.eq_of_beq_eq_true hb
    cases h
    exact k
  | false =>
    rw [hb] at h
    cases h
theorem k6 : OkF 6 c6 := .inl ⟨_,_,Try.func6,rfl,by kernel_rfl⟩
theorem k12 : OkF 12 c12 := .inl ⟨_,_,Try.func12,rfl,by kernel_rfl⟩
theorem k14 : OkF 14 c14 := .inl ⟨_,_,Try.func14,rfl,by kernel_rfl⟩
theorem k15 : OkF 15 c15 := .inl ⟨_,_,Try.func15,rfl,by kernel_rfl⟩
theorem k17 : OkF 17 c17 := .inl ⟨_,_,Try.func17,rfl,by kernel_rfl⟩
theorem k18 : OkF 18 c18 := .inl ⟨_,_,Try.func18,rfl,by kernel_rfl⟩
theorem k21 : OkF 21 c21 := .inl ⟨_,_,Try.func21,rfl,by kernel_rfl⟩
theorem k27 : OkF 27 c27 := .inl ⟨_,_,Try.func27,rfl,by kernel_rfl⟩
theorem k28 : OkF 28 c28 := .inl ⟨_,_,Try.func28,rfl,by kernel_rfl⟩
theorem k31 : OkF 31 c31 := .inl ⟨_,_,Try.func31,rfl,by kernel_rfl⟩
theorem k33 : OkF 33 c33 := .inl ⟨_,_,Try.func33,rfl,by kernel_rfl⟩
theorem k35 : OkF 35 c35 := .inl ⟨_,_,Try.func35,rfl,by kernel_rfl⟩
theorem k36 : OkF 36 c36 := .inl ⟨_,_,Try.func36,rfl,by kernel_rfl⟩
theorem k37 : OkF 37 c37 := .inl ⟨_,_,Try.func37,rfl,by kernel_rfl⟩
theorem k38 : OkF 38 c38 := .inl ⟨_,_,Try.func38,rfl,by kernel_rfl⟩
theorem k39 : OkF 39 c39 := .inl ⟨_,_,Try.func39,rfl,by kernel_rfl⟩
theorem k47 : OkF 47 c47 := .inl ⟨_,_,Try.func47,rfl,by kernel_rfl⟩
theorem k48 : OkF 48 c48 := .inl ⟨_,_,Try.func48,rfl,by kernel_rfl⟩
theorem k50 : OkF 50 c50 := .inl ⟨_,_,Try.func50,rfl,by kernel_rfl⟩
theorem k51 : OkF 51 c51 := .inl ⟨_,_,Try.func51,rfl,by kernel_rfl⟩
theorem k52 : OkF 52 c52 := .inl ⟨_,_,Try.func52,rfl,by kernel_rfl⟩
theorem k53 : OkF 53 c53 := .inl ⟨_,_,Try.func53,rfl,by kernel_rfl⟩
theorem k56 : OkF 56 c56 := .inl ⟨_,_,Try.func56,rfl,by kernel_rfl⟩
theorem k57 : OkF 57 c57 := .inl ⟨_,_,Try.func57,rfl,by kernel_rfl⟩
theorem k58 : OkF 58 c58 := .inl ⟨_,_,Try.func58,rfl,by kernel_rfl⟩
theorem k59 : OkF 59 c59 := .inl ⟨_,_,Try.func59,rfl,by kernel_rfl⟩
theorem k60 : OkF 60 c60 := .inl ⟨_,_,Try.func60,rfl,by kernel_rfl⟩
theorem k61 : OkF 61 c61 := .inl ⟨_,_,Try.func61,rfl,by kernel_rfl⟩
theorem k62 : OkF 62 c62 := .inl ⟨_,_,Try.func62,rfl,by kernel_rfl⟩
theorem k65 : OkF 65 c65 := .inl ⟨_,_,Try.func65,rfl,by kernel_rfl⟩
theorem k72 : OkF 72 c72 := .inl ⟨_,_,Try.func72,rfl,by kernel_rfl⟩
theorem k73 : OkF 73 c73 := .inl ⟨_,_,Try.func73,rfl,by kernel_rfl⟩
theorem k75 : OkF 75 c75 := .inl ⟨_,_,Try.func75,rfl,by kernel_rfl⟩
theorem k79 : OkF 79 c79 := .inl ⟨_,_,Try.func79,rfl,by kernel_rfl⟩
theorem k80 : OkF 80 c80 := .inl ⟨_,_,Try.func80,rfl,by kernel_rfl⟩
theorem k81 : OkF 81 c81 := .inl ⟨_,_,Try.func81,rfl,by kernel_rfl⟩
theorem k82 : OkF 82 c82 := .inl ⟨_,_,Try.func82,rfl,by kernel_rfl⟩
theorem k83 : OkF 83 c83 := .inl ⟨_,_,Try.func83,rfl,by kernel_rfl⟩
theorem k84 : OkF 84 c84 := .inl ⟨_,_,Try.func84,rfl,by kernel_rfl⟩
theorem k85 : OkF 85 c85 := .inl ⟨_,_,Try.func85,rfl,by kernel_rfl⟩
theorem k86 : OkF 86 c86 := .inl ⟨_,_,Try.func86,rfl,by kernel_rfl⟩
theorem k90 : OkF 90 c90 := .inl ⟨_,_,Try.func90,rfl,by kernel_rfl⟩
theorem k91 : OkF 91 c91 := .inl ⟨_,_,Try.func91,rfl,by kernel_rfl⟩
theorem k93 : OkF 93 c93 := .inl ⟨_,_,Try.func93,rfl,by kernel_rfl⟩
theorem k94 : OkF 94 c94 := .inl ⟨_,_,Try.func94,rfl,by kernel_rfl⟩
theorem k95 : OkF 95 c95 := .inl ⟨_,_,Try.func95,rfl,by kernel_rfl⟩
theorem k96 : OkF 96 c96 := .inl ⟨_,_,Try.func96,rfl,by kernel_rfl⟩
theorem k97 : OkF 97 c97 := .inl ⟨_,_,Try.func97,rfl,by kernel_rfl⟩
theorem k98 : OkF 98 c98 := .inl ⟨_,_,Try.func98,rfl,by kernel_rfl⟩
theorem k99 : OkF 99 c99 := .inl ⟨_,_,Try.func99,rfl,by kernel_rfl⟩
theorem k101 : OkF 101 c101 := .inl ⟨_,_,Try.func101,rfl,by kernel_rfl⟩
theorem k103 : OkF 103 c103 := .inl ⟨_,_,Try.func103,rfl,by kernel_rfl⟩
theorem k104 : OkF 104 c104 := .inl ⟨_,_,Try.func104,rfl,by kernel_rfl⟩
theorem k105 : OkF 105 c105 := .inl ⟨_,_,Try.func105,rfl,by kernel_rfl⟩
theorem k106 : OkF 106 c106 := .inl ⟨_,_,Try.func106,rfl,by kernel_rfl⟩
theorem k107 : OkF 107 c107 := .inl ⟨_,_,Try.func107,rfl,by kernel_rfl⟩
theorem k108 : OkF 108 c108 := .inl ⟨_,_,Try.func108,rfl,by kernel_rfl⟩
theorem k109 : OkF 109 c109 := .inl ⟨_,_,Try.func109,rfl,by kernel_rfl⟩
theorem k111 : OkF 111 ⟨0,.ext 0,[]⟩ := .inr ⟨_,rfl,ext_count rfl Try.func111 (by kernel_rfl) (by kernel_rfl) (by kernel_rfl) (by kernel_rfl)⟩
theorem k113 : OkF 113 c113 := .inl ⟨_,_,Try.func113,rfl,by kernel_rfl⟩
theorem k114 : OkF 114 c114 := .inl ⟨_,_,Try.func114,rfl,by kernel_rfl⟩
theorem k117 : OkF 117 c117 := .inl ⟨_,_,Try.func117,rfl,by kernel_rfl⟩
theorem k119 : OkF 119 c119 := .inl ⟨_,_,Try.func119,rfl,by kernel_rfl⟩
theorem k123 : OkF 123 c123 := .inl ⟨_,_,Try.func123,rfl,by kernel_rfl⟩
theorem k124 : OkF 124 c124 := .inl ⟨_,_,Try.func124,rfl,by kernel_rfl⟩
theorem k125 : OkF 125 c125 := .inl ⟨_,_,Try.func125,rfl,by kernel_rfl⟩
theorem k126 : OkF 126 c126 := .inl ⟨_,_,Try.func126,rfl,by kernel_rfl⟩
theorem k133 : OkF 133 c133 := .inl ⟨_,_,Try.func133,rfl,by kernel_rfl⟩
theorem k138 : OkF 138 c138 := .inl ⟨_,_,Try.func138,rfl,by kernel_rfl⟩
theorem k139 : OkF 139 c139 := .inl ⟨_,_,Try.func139,rfl,by kernel_rfl⟩
theorem k140 : OkF 140 ⟨0,.ext 1,[]⟩ := .inr ⟨_,rfl,ext_indexByte rfl Try.func140 (by kernel_rfl) (by kernel_rfl) (by kernel_rfl) (by kernel_rfl)⟩
theorem k142 : OkF 142 c142 := .inl ⟨_,_,Try.func142,rfl,by kernel_rfl⟩
theorem progOk0 : ProgOk Try.prog ext prog0 := ⟨rfl, by decide +kernel, fun f rf => show prog0 f = some rf → OkF f rf from (spT (spT (spT (spT (spT (lfT k12) (lfT k14)) (spT (lfT k15) (lfT k17))) (spT (spT (lfT k18) (lfT k27)) (spT (lfT k47) (lfT k48)))) (spT (spT (spT (lfT k50) (lfT k51)) (spT (lfT k52) (lfT k53))) (spT (spT (lfT k56) (lfT k57)) (spT (lfT k58) (spT (lfT k59) (lfT k60)))))) (spT (spT (spT (spT (lfT k72) (lfT k73)) (spT (lfT k79) (lfT k86))) (spT (spT (lfT k90) (lfT k91)) (spT (lfT k93) (spT (lfT k94) (lfT k95))))) (spT (spT (spT (lfT k96) (lfT k97)) (spT (lfT k98) (lfT k103))) (spT (spT (lfT k111) (lfT k113)) (spT (lfT k114) (spT (lfT k123) (lfT k133)))))))⟩
def isTrue : Option (AVal × AHeap) → Bool | some (.bool true, _) => true | _ => false
theorem isTrue_some {r : Option (AVal × AHeap)} (h : isTrue r = true) : ∃ H', r = some (.bool true, H') := by
  cases r with
  | none => cases h
  | some p =>
    obtain ⟨v, H'⟩ := p
    cases v with
    | bool b => cases b with
      | true => exact ⟨H', rfl⟩
      | false => cases h
    | _ => cases h
theorem awake_true : isTrue (callN ext prog0 300 12 [] (tableHeap Try.prog.globals.size aroundT)) = true := by
  rw [← xCallN_eq]
  kernel_rfl
theorem mixed : Try.prog.follows .mixedOrders = true := by kernel_rfl
theorem k12e : ExtSim Try.prog ext 12 3 := ext_closed mixed progOk0 (T := aroundT) Try.func12 rfl (by decide +kernel) (v := .bool true) rfl (by kernel_rfl) (isTrue_some awake_true) rfl
theorem k12f : OkF 12 ⟨0,.ext 3,[]⟩ := .inr ⟨_,rfl,k12e⟩
theorem progOk : ProgOk Try.prog ext prog := ⟨rfl, by decide +kernel, fun f rf => show prog f = some rf → OkF f rf from (spT (spT (spT (spT (spT (spT (lfT k6) (lfT k12f)) (spT (lfT k14) (lfT k18))) (spT (spT (lfT k21) (lfT k27)) (spT (lfT k28) (lfT k31)))) (spT (spT (spT (lfT k33) (lfT k35)) (spT (lfT k36) (lfT k37))) (spT (spT (lfT k38) (lfT k39)) (spT (lfT k50) (spT (lfT k51) (lfT k52)))))) (spT (spT (spT (spT (lfT k53) (lfT k56)) (spT (lfT k57) (lfT k58))) (spT (spT (lfT k59) (lfT k60)) (spT (lfT k61) (lfT k62)))) (spT (spT (spT (lfT k65) (lfT k72)) (spT (lfT k73) (lfT k75))) (spT (spT (lfT k79) (lfT k80)) (spT (lfT k81) (spT (lfT k82) (lfT k83))))))) (spT (spT (spT (spT (spT (lfT k84) (lfT k85)) (spT (lfT k86) (lfT k90))) (spT (spT (lfT k91) (lfT k93)) (spT (lfT k94) (lfT k95)))) (spT (spT (spT (lfT k96) (lfT k97)) (spT (lfT k98) (lfT k99))) (spT (spT (lfT k101) (lfT k103)) (spT (lfT k104) (spT (lfT k105) (lfT k106)))))) (spT (spT (spT (spT (lfT k107) (lfT k108)) (spT (lfT k109) (lfT k111))) (spT (spT (lfT k113) (lfT k114)) (spT (lfT k117) (lfT k119)))) (spT (spT (spT (lfT k123) (lfT k124)) (spT (lfT k125) (lfT k126))) (spT (spT (lfT k133) (lfT k138)) (spT (lfT k139) (spT (lfT k140) (lfT k142))))))))⟩
end Go.Am

namespace Go.Proofs.Ytpochhefklmnfaa.Laid
open Go.ChangeShapes Go.WideShapes Go.ChangeAt Go.RowKit Go.Am
theorem own : ownKnob Try.prog.godebug = none := by kernel_rfl
theorem laidOut : laidOutB Try.prog = true := by kernel_rfl
theorem rowed : mapsRowed Try.prog = true := by kernel_rfl
theorem full : ∀ t e, t < Try.prog.types.size → Try.prog.underlying t = some (.slice e) → 0 < Try.prog.cellsOf e := slices_full_of Try.prog (by kernel_rfl)
theorem around_cells {W : World} : ∀ t ∈ aroundT, ∀ (i : Nat) (v : AVal), t.2[i]? = some v → ∃ x, emb (fun _ => none) v = some x ∧ W.cell? ⟨t.1, i, none⟩ = some x := by
  intro t ht; cases ht
noncomputable def laidWorld (os : Os) : World := World.holding Try.prog os ⟨#[], #[], []⟩
end Go.Proofs.Ytpochhefklmnfaa.Laid

namespace Go.Am
open Go
def madeOk (op : ROp) (fr : AFrame) (ref : Nat) (H : AHeap) : Bool := match op.made fr with
  | some (cs, e, _) => ghostIs H ref cs e
  | none => false
def WpE (call : ACall) (n ref : Nat) (its : List DItem) (H0 : AHeap) (E : List (Nat × AHeap)) (Rd : List (Nat × (AHeap → Bool))) (fr : AFrame) (H : AHeap) (K : AFrame → AHeap → Prop) : Prop :=
  ∀ R0 E0 Rd0, R0.length = n → (∀ p ∈ E0, p ∈ E) → (∀ p ∈ Rd0, (p.1, DRec.okAt p.2) ∈ Rd) → DInv R0 H0 H E0 Rd0 → ∃ R1 fr' H', dtext call its ref fr H = some (R1, fr', H') ∧ dcheck (R0 ++ R1) H0 (R0 ++ R1) 0 = true ∧ K fr' H'
def AllE (b : Nat) (ok : AHeap → Prop) : List (Nat × AHeap) → Prop
  | [] => True
  | p :: l => (b.testBit p.1 = true ∨ ok p.2) ∧ AllE b ok l
def AllR (b : Nat) (H : AHeap) : List (Nat × (AHeap → Bool)) → Prop
  | [] => True
  | p :: l => (b.testBit p.1 = true ∨ p.2 H = true) ∧ AllR b H l
theorem AllE.imp {b : Nat} {ok ok' : AHeap → Prop} (f : ∀ H, ok H → ok' H) : ∀ {l : List (Nat × AHeap)}, AllE b ok l → AllE b ok' l
  | [], _ => trivial
  | _ :: _, h => ⟨h.1.imp id (f _), AllE.imp f h.2⟩
theorem AllE.get {b : Nat} {ok : AHeap → Prop} {l : List (Nat × AHeap)} (h : AllE b ok l) : ∀ p ∈ l, b.testBit p.1 = true ∨ ok p.2 := by
  induction l with
  | nil => simp
  | cons q l ih => intro p hp; rcases List.mem_cons.1 hp with rfl | hp; exact h.1; exact ih h.2 p hp
theorem AllR.get {b : Nat} {H : AHeap} {l : List (Nat × (AHeap → Bool))} (h : AllR b H l) : ∀ p ∈ l, b.testBit p.1 = true ∨ p.2 H = true := by
  induction l with
  | nil => simp
  | cons q l ih => intro p hp; rcases List.mem_cons.1 hp with rfl | hp; exact h.1; exact ih h.2 p hp
theorem madeOk_eq {r : DRec} (hc : Nat.beq r.cls 3 = true) : r.okAt = madeOk r.o.op r.fr r.ref := by
  funext H
  unfold DRec.okAt madeOk
  rw [hc]
  rfl
section
variable {call : ACall} {lf n ref : Nat} {its : List DItem} {H0 H H1 : AHeap} {E : List (Nat × AHeap)} {Rd : List (Nat × (AHeap → Bool))} {fr : AFrame} {K : AFrame → AHeap → Prop} {Q : RExit → AFrame → AHeap → Prop} {op : ROp} {v : AVal} {b : Nat} {pre : Bool} {g : Option (Nat × Bool)}
theorem WpE.nil (h : K fr H) : WpE call n ref [] H0 E Rd fr H K := fun R0 E0 Rd0 _ _ _ hI => ⟨[], fr, H, rfl, by rw [List.append_nil]; exact hI.done, h⟩
theorem WpE.next {it : DItem} {R0 : List DRec} {r : DRec} {E' : List (Nat × AHeap)} {Rd' : List (Nat × (AHeap → Bool))} {E0' : List (Nat × AHeap)} {Rd0' : List (Nat × DRec)} {fr1 : AFrame} (hn : R0.length = n) (he : ∀ p ∈ E0', p ∈ E') (hrd : ∀ p ∈ Rd0', (p.1, DRec.okAt p.2) ∈ Rd')
    (hI : DInv (R0 ++ [r]) H0 H1 E0' Rd0') (hd : ∀ R1 fr' H', dtext call its (nextRef it.cls ref) fr1 H1 = some (R1, fr', H') → dtext call (it :: its) ref fr H = some (r :: R1, fr', H')) (h : WpE call (n + 1) (nextRef it.cls ref) its H0 E' Rd' fr1 H1 K) :
    ∃ R1 fr' H', dtext call (it :: its) ref fr H = some (R1, fr', H') ∧ dcheck (R0 ++ R1) H0 (R0 ++ R1) 0 = true ∧ K fr' H' := by
  obtain ⟨R1, fr', H', h1, h2, h3⟩ := h (R0 ++ [r]) E0' Rd0' (by simp [hn]) he hrd hI
  exact ⟨r :: R1, fr', H', hd _ _ _ h1, by rw [List.append_assoc] at h2; exact h2, h3⟩
theorem WpE.skip {d : Option Nat} {cls : Nat} (hw : ROper.wanted fr ⟨d, op, g⟩ = false) (h : WpE call (n + 1) (nextRef cls ref) its H0 E Rd (put fr d aundef) H K) : WpE call n ref (⟨⟨d, op, g⟩, b, cls, pre⟩ :: its) H0 E Rd fr H K := fun R0 E0 Rd0 hn he hrd hI =>
  WpE.next (r := ⟨⟨d, op, g⟩, b, cls, fr, aundef, false, false, H, ref⟩) hn he hrd (hI.plain rfl rfl) (fun R1 fr' H' hd => by
    simp only [dtext, hw, hd]) h
theorem WpE.pure {d : Option Nat} (hw : ROper.wanted fr ⟨d, op, g⟩ = true) (hx : op.exec noCall fr H = some (v, H)) (h : WpE call (n + 1) ref its H0 E Rd (put fr d v) H K) : WpE call n ref (⟨⟨d, op, g⟩, b, 0, pre⟩ :: its) H0 E Rd fr H K := fun R0 E0 Rd0 hn he hrd hI =>
  WpE.next (r := ⟨⟨d, op, g⟩, b, 0, fr, v, true, false, H, ref⟩) hn he hrd (hI.plain rfl rfl) (fun R1 fr' H' hd => by
    simp only [dtext, hw, dstep, look_of hx rfl]
    simp only [Nat.beq, nextRef] at hd ⊢
    simp [hd]) h
theorem WpE.look {d : Option Nat} (hw : ROper.wanted fr ⟨d, op, g⟩ = true) (hx : op.look fr H = some v) (hE : AllE b (fun H2 => op.look fr H2 = some v) E) (h : WpE call (n + 1) ref its H0 E ((n, readOk op fr v) :: Rd) (put fr d v) H K) : WpE call n ref (⟨⟨d, op, g⟩, b, 1, pre⟩ :: its) H0 E Rd fr H K := fun R0 E0 Rd0 hn he hrd hI =>
  WpE.next (r := ⟨⟨d, op, g⟩, b, 1, fr, v, true, false, H, ref⟩) (Rd0' := Rd0 ++ [(R0.length, ⟨⟨d, op, g⟩, b, 1, fr, v, true, false, H, ref⟩)]) hn he (by
      intro p hp
      rcases List.mem_append.1 hp with hp | hp
      · exact List.mem_cons_of_mem _ (hrd p hp)
      · simp only [List.mem_singleton] at hp
        subst hp
        rw [hn, readOk_eq rfl]
        exact List.mem_cons_self)
    (hI.read rfl (okAt_look rfl hx) (fun p hp => (hE.get p (he p hp)).imp id fun q => okAt_look rfl q)) (fun R1 fr' H' hd => by
    simp only [dtext, hw, dstep, hx]
    simp only [Nat.beq, nextRef] at hd ⊢
    simp [hd]) h
theorem WpE.read {d : Option Nat} (hw : ROper.wanted fr ⟨d, op, g⟩ = true) (hx : op.exec noCall fr H = some (v, H)) (hE : AllE b (fun H2 => op.exec noCall fr H2 = some (v, H2)) E) (h : WpE call (n + 1) ref its H0 E ((n, readOk op fr v) :: Rd) (put fr d v) H K) : WpE call n ref (⟨⟨d, op, g⟩, b, 1, pre⟩ :: its) H0 E Rd fr H K :=
  WpE.look hw (look_of hx rfl) (AllE.imp (fun H2 q => look_of q rfl) hE) h
theorem WpE.effect {d : Option Nat} (hw : ROper.wanted fr ⟨d, op, g⟩ = true) (hx : op.exec call fr H = some (v, H1)) (hR : AllR b H1 Rd) (h : WpE call (n + 1) ref its H0 ((n, H) :: E) Rd (put fr d v) H1 K) : WpE call n ref (⟨⟨d, op, g⟩, b, 2, pre⟩ :: its) H0 E Rd fr H K := fun R0 E0 Rd0 hn he hrd hI =>
  WpE.next (r := ⟨⟨d, op, g⟩, b, 2, fr, v, true, true, H1, ref⟩) (E0' := E0 ++ [(n, H)]) hn (by
      intro p hp
      rcases List.mem_append.1 hp with hp | hp
      · exact List.mem_cons_of_mem _ (he p hp)
      · simp only [List.mem_singleton] at hp
        subst hp
        exact List.mem_cons_self) hrd (by
      have := hI.effect (e := ⟨⟨d, op, g⟩, b, 2, fr, v, true, true, H1, ref⟩) rfl rfl fun p hp => hR.get (p.1, p.2.okAt) (hrd p hp)
      rw [hn] at this; exact this) (fun R1 fr' H' hd => by
    simp only [dtext, hw, dstep, hx]
    simp only [Nat.beq, nextRef] at hd ⊢
    simp [hd]) h
theorem WpE.made {d : Option Nat} {cs : List AVal} {e : TypeId} {k : Nat → AVal} (hw : ROper.wanted fr ⟨d, op, g⟩ = true) (hm : op.made fr = some (cs, e, k)) (hg : ghostIs H ref cs e = true) (hE : AllE b (fun H2 => ghostIs H2 ref cs e = true) E) (h : WpE call (n + 1) (ref + 1) its H0 E ((n, madeOk op fr ref) :: Rd) (put fr d (k ref)) H K) : WpE call n ref (⟨⟨d, op, g⟩, b, 3, pre⟩ :: its) H0 E Rd fr H K := fun R0 E0 Rd0 hn he hrd hI =>
  WpE.next (r := ⟨⟨d, op, g⟩, b, 3, fr, k ref, true, false, H, ref⟩) (Rd0' := Rd0 ++ [(R0.length, ⟨⟨d, op, g⟩, b, 3, fr, k ref, true, false, H, ref⟩)]) hn he (by
      intro p hp
      rcases List.mem_append.1 hp with hp | hp
      · exact List.mem_cons_of_mem _ (hrd p hp)
      · simp only [List.mem_singleton] at hp
        subst hp
        rw [hn, madeOk_eq rfl]
        exact List.mem_cons_self)
    (hI.read rfl (by simp only [DRec.okAt, Nat.beq, hm, hg]) (fun p hp => (hE.get p (he p hp)).imp id fun q => by simp only [DRec.okAt, Nat.beq, hm, q])) (fun R1 fr' H' hd => by
    simp only [dtext, hw, dstep]
    simp only [Nat.beq, nextRef, hm, hg] at hd ⊢
    simp [hd]) h
theorem ghost_of {r : Nat} {cs : List AVal} {e : TypeId} [h : HasRow H r cs true (2 * e)] : ghostIs H r cs e = true := by
  unfold ghostIs
  have hlt := h.lt
  simp only [h.get, abeqL_refl, Nat.beq_refl, Bool.and_true, Bool.and_self]
  simpa using hlt
theorem made_of {r : Nat} {cs : List AVal} {e : TypeId} {k : Nat → AVal} (hm : op.made fr = some (cs, e, k)) [h : HasRow H r cs true (2 * e)] : madeOk op fr r H = true := by
  unfold madeOk
  rw [hm]
  exact ghost_of
theorem Wp.dregionE (os : List AObj) (ho : oracle its H.n fr H = os) (h : WpE call 0 H.n its (pushAll H os) [] [] fr (pushAll H os) fun fr' H' => Q .normal fr' H') : Wp call lf (.dregion its) fr H Q := by
  obtain ⟨R1, fr', H', h1, h2, h3⟩ := h [] [] [] rfl (by simp) (by simp) (DInv.nil _)
  refine ⟨.normal, fr', H', ?_, h3⟩
  simp only [RCode.exec, ho, h1]
  simp only [List.nil_append] at h2
  rw [h2]
theorem Wp.dregion0 (hno : (its.all fun it => !(Nat.beq it.cls 3)) = true) (h : WpE call 0 H.n its H [] [] fr H fun fr' H' => Q .normal fr' H') : Wp call lf (.dregion its) fr H Q :=
  Wp.dregionE [] (oracle_none its H.n fr H hno) h
theorem oracle_pre {it : DItem} {os : List AObj} {v : AVal} {H2 : AHeap} (hc : Nat.beq it.cls 3 = false) (hp : it.pre = true) (hw : it.o.wanted fr = true) (hx : it.o.op.exec noCall fr H = some (v, H2)) (h : oracle its ref (put fr it.o.dst v) H = os) : oracle (it :: its) ref fr H = os := by
  simp only [oracle, hc, hp, hw, hx, h]
theorem oracle_made {it : DItem} {os : List AObj} {cs : List AVal} {e : TypeId} {k : Nat → AVal} (hc : Nat.beq it.cls 3 = true) (hw : it.o.wanted fr = true) (hm : it.o.op.made fr = some (cs, e, k)) (h : oracle its (ref + 1) (put fr it.o.dst (k ref)) H = os) : oracle (it :: its) ref fr H = .row cs true (2 * e) :: os := by
  simp only [oracle, hc, hw, hm, h]
theorem made_mk {e : TypeId} {z : AVal} {by_ : Nat} {x y : ROpd} {k k' : IntKind} {a : Nat} (hx : x.ev fr = .int k a) (hy : y.ev fr = .int k' a) (h0 : by_ * a ≤ 2 ^ 47 ∧ a < 2 ^ 62) : (ROp.makeSlice e [z] by_ x y).made fr = some ((List.replicate a [z]).flatten, e, fun r => .slice r 0 a (some a) 1) := by
  have h1 : (0 : Int) ≤ (a : Int) ∧ (a : Int) ≤ a ∧ (by_ : Int) * a ≤ 2 ^ 47 ∧ (a : Int) < 2 ^ 62 := by
    have h2 : ((by_ * a : Nat) : Int) ≤ 2 ^ 47 := by omega
    rw [Int.natCast_mul] at h2
    omega
  simp only [ROp.made, hx, hy, if_pos h1, Int.toNat_natCast, List.length_singleton]
end
theorem WpE.pcall {ext : Exts} {prog : FuncId → Option RFunc} {m dd D : Nat} {f : FuncId} {o : ROpd} {l : List ROpd} {args : List AVal} {v : AVal} {d : Option Nat} {n ref : Nat} {its : List DItem} {H0 H : AHeap} {E : List (Nat × AHeap)} {Rd : List (Nat × (AHeap → Bool))} {fr : AFrame} {K : AFrame → AHeap → Prop} {b : Nat} {pre : Bool} {g : Option (Nat × Bool)}
    (hw : ROper.wanted fr ⟨d, .call o l, g⟩ = true) (hn : fuel0 + D ≤ m) (hf : o.ev fr = .func (.func f) [] []) (hl : l.map (·.ev fr) = args) [hc : PureCon ext prog f args H dd v] (hd : Nat.ble dd D = true)
    (h : ∀ H1, ExtI H H1 → AllR b H1 Rd ∧ WpE (callN ext prog m) (n + 1) ref its H0 ((n, H) :: E) Rd (put fr d v) H1 K) : WpE (callN ext prog m) n ref (⟨⟨d, .call o l, g⟩, b, 2, pre⟩ :: its) H0 E Rd fr H K := by
  obtain ⟨v', H1, hx, hv, hext⟩ := exec_con hc.con (Nat.le_trans (Nat.add_le_add_left (Nat.le_of_ble_eq_true hd) _) hn) hf hl
  subst hv
  obtain ⟨h1, h2⟩ := h H1 ⟨hext⟩
  exact WpE.effect hw hx h1 h2
theorem WpE.con {ext : Exts} {prog : FuncId → Option RFunc} {m dd D : Nat} {f : FuncId} {o : ROpd} {l : List ROpd} {args : List AVal} {R : AVal → AHeap → Prop} {d : Option Nat} {n ref : Nat} {its : List DItem} {H0 H : AHeap} {E : List (Nat × AHeap)} {Rd : List (Nat × (AHeap → Bool))} {fr : AFrame} {K : AFrame → AHeap → Prop} {b : Nat} {pre : Bool} {g : Option (Nat × Bool)}
    (hw : ROper.wanted fr ⟨d, .call o l, g⟩ = true) (hn : fuel0 + D ≤ m) (hd : Nat.ble dd D = true) (hf : o.ev fr = .func (.func f) [] []) (hl : l.map (·.ev fr) = args) (hc : Con ext prog dd f args H R)
    (h : ∀ v H1, R v H1 → AllR b H1 Rd ∧ WpE (callN ext prog m) (n + 1) ref its H0 ((n, H) :: E) Rd (put fr d v) H1 K) : WpE (callN ext prog m) n ref (⟨⟨d, .call o l, g⟩, b, 2, pre⟩ :: its) H0 E Rd fr H K := by
  obtain ⟨v', H1, hx, hv⟩ := exec_con hc (Nat.le_trans (Nat.add_le_add_left (Nat.le_of_ble_eq_true hd) _) hn) hf hl
  obtain ⟨h1, h2⟩ := h v' H1 hv
  exact WpE.effect hw hx h1 h2
section
variable {call : ACall} {fr : AFrame} {H : AHeap}
theorem exec_ldN {a : ROpd} {n r off : Nat} {cs : List AVal} {rw : Bool} {e : TypeId} {l : List AVal} (ha : a.ev fr = .ptr r off) [hg : HasRow H r cs rw e] (hv : Nat.ble (off + n) cs.length = true) (hl : (cs.drop off).take n = l) : (ROp.load (some n) a).exec call fr H = some (.agg l, H) := by
  subst hl
  simp only [ROp.exec, ha, aLoad, M.bind, aRow, if_pos hg.lt, hg.get, if_pos (Nat.le_of_ble_eq_true hv), M.pure]
theorem exec_lenP {x : ROpd} {p : AVal} {sz n : Nat} {cs : List AVal} (hx : x.ev fr = p) [s : SliceAt H p sz n cs] : (ROp.lenS x).exec call fr H = some (.int .i64 n, H) := by
  simp only [ROp.exec, hx, s.lenS, M.ofOption, M.pure]
theorem exec_ldB {a : ROpd} {p : AVal} {j : Nat} {l : List UInt8} (ha : a.ev fr = .ptr (rowOf p) (offOf p + j)) [s : BytesI H p l] (hj : j < l.length) : (ROp.load none a).exec call fr H = some (.int .u8 (l[j].toNat : Int), H) := exec_ldP ha (get_bytes hj)
theorem exec_ldI {a : ROpd} {p : AVal} {j : Nat} {l : List Int} (ha : a.ev fr = .ptr (rowOf p) (offOf p + j)) [s : IntsI H p l] (hj : j < l.length) : (ROp.load none a).exec call fr H = some (.int .i64 l[j], H) := exec_ldP ha (get_ints hj)
theorem exec_build {z : List AVal} {ps : List (Nat × Nat × ROpd)} {cs : List AVal} (hf : aFill fr z ps = some cs) : (ROp.build z ps).exec call fr H = some (.agg cs, H) := by simp only [ROp.exec, hf, M.pure]
end
end Go.Am

namespace Go.Am
open Go
open Nat renaming reduceEqDiff → qe, reduceAdd → qz
open Int renaming reduceBEq → qn, reduceBNe → qq
class IsU8 (k : Int) (b : outParam UInt8) : Prop where
  eq : k = (b.toNat : Int)
instance : IsU8 0 0 := ⟨rfl⟩
instance : IsU8 1 1 := ⟨rfl⟩
instance {b : UInt8} : IsU8 (b.toNat : Int) b := ⟨rfl⟩
instance {H : AHeap} {r : Nat} {k : Int} {b : UInt8} {rw : Bool} {e : TypeId} [h : HasRow H r [.int .u8 k] rw e] [x : IsU8 k b] : BytesI H (.slice r 0 1 (some 1) 1) [b] :=
  ⟨Or.inr ⟨r, 0, some 1, _, rw, e, rfl, h.lt, h.get, by simp, by rw [x.eq]; rfl, Nat.le_refl _⟩⟩
theorem bytesOf_cellsB (l : List UInt8) : bytesOf (cellsB l) = some l := by
  induction l with
  | nil => rfl
  | cons b l ih =>
    show (match bytesOf (cellsB l) with | some l => some (UInt8.ofNat ((b.toNat : Int)).toNat :: l) | none => none) = _
    rw [ih]
    simp
theorem aBytesFn_at {H : AHeap} {p : AVal} {l : List UInt8} [h : BytesI H p l] (f : List UInt8 → AVal) : aBytesFn f p H = some (f l, H) := by
  rcases h.it with ⟨rfl, h0, _⟩ | ⟨r, off, cap, row, rw, e, rfl, hr, hg, hl, hc, _⟩
  · have : l = [] := List.eq_nil_of_length_eq_zero h0
    subst this; rfl
  · have hl' : off + l.length ≤ row.length := by omega
    have hc' : (row.drop off).take l.length = cellsB l := by rw [← hc, Nat.mul_one]
    simp only [aBytesFn, ne_eq, not_true, if_false, M.bind, aRow, if_pos hr, hg, if_pos hl', hc', bytesOf_cellsB, M.pure]
def pxOk (l : List UInt8) : Bool := l.all fun b => b == 0 || b == 1
theorem count01 (l : List UInt8) : (l.count 0 + l.count 1 = l.length) ↔ pxOk l = true := by
  induction l with
  | nil => simp [pxOk]
  | cons b l ih =>
    have hle : l.count 0 + l.count 1 ≤ l.length := by
      clear ih
      induction l with
      | nil => simp
      | cons c l ihl =>
        simp only [List.count_cons, List.length_cons]
        by_cases h0 : c = 0
        · subst h0; simp; omega
        · by_cases h1 : c = 1
          · subst h1; simp; omega
          · simp [h0, h1]; omega
    simp only [pxOk, List.all_cons, Bool.and_eq_true, Bool.or_eq_true, beq_iff_eq, List.count_cons, List.length_cons] at ih ⊢
    by_cases h0 : b = 0
    · subst h0; simp at ih ⊢; rw [← ih]; omega
    · by_cases h1 : b = 1
      · subst h1; simp at ih ⊢; rw [← ih]; omega
      · simp [h0, h1]; omega
theorem count_le (l : List UInt8) (b : UInt8) : l.count b ≤ l.length := List.count_le_length
end Go.Am
namespace Go.Am
open Go
open Nat renaming reduceEqDiff → qe, reduceAdd → qz
open Int renaming reduceBEq → qn, reduceBNe → qq
theorem bind_of {α β : Type} {x : M α} {f : α → M β} {H H' : AHeap} {a : α} (h : x H = some (a, H')) : M.bind x f H = f a H' := by simp [M.bind, h]
theorem exec_appendE {H : AHeap} {p : AVal} {l : List UInt8} {r : Nat} {e0 : TypeId} [h : BytesI H p l] [g : HasRow H r [] true e0] (hl : l.length < 2 ^ 40) (e : TypeId) :
    ∃ v H', aAppend e 1 1 (.slice r 0 0 (some 0) 1) p H = some (v, H') ∧ BytesI H' v l ∧ (∀ r' off len cap sz, v = .slice r' off len cap sz → r' = r ∨ H.n ≤ r') ∧ WrS H' v ∧ Ext H H' := by
  have hf : aLenOf p = some l.length ∧ aFirst 1 l.length p H = some (cellsB l, H) := by
    rcases h.it with ⟨rfl, h0, _⟩ | ⟨r, off, cap, row, rw, e0, rfl, hr, hg, hle, hc, _⟩
    · have : l = [] := List.eq_nil_of_length_eq_zero h0
      subst this; exact ⟨rfl, rfl⟩
    · exact ⟨rfl, by simp only [aFirst, ne_eq, not_true, if_false, M.bind, aRow, if_pos hr, hg, if_pos hle, hc, M.pure]⟩
  have hg1 := g.get
  have hg0 := g.lt
  by_cases h0 : l = []
  · subst h0
    refine ⟨.slice r 0 0 (some 0) 1, H, ?_, ⟨Or.inr ⟨r, 0, some 0, [], true, e0, rfl, hg0, hg1, by simp, by simp [cellsB], Nat.le_refl _⟩⟩, fun r' _ _ _ _ e => by cases e; exact Or.inl rfl, ⟨fun _ _ _ _ _ e => by cases e; exact ⟨_, _, hg1⟩⟩, Ext.refl H⟩
    simp only [aAppend, hf.1, M.bind, List.length_nil] at hf ⊢
    simp only [hf.2]
    simp [cellsB, M.bind, aRow, hg0, hg1, M.pure]
  · have hn0 : ¬ l.length = 0 := by simpa using h0
    refine ⟨.slice H.n 0 (0 + l.length) none 1, H.push (.row (cellsB l) true (2 * e)), ?_, ?_, fun r' _ _ _ _ e => by cases e; exact Or.inr (Nat.le_refl _), ⟨fun _ _ _ _ _ e => by cases e; exact ⟨_, _, push_get_eq⟩⟩, (Ext.refl H).push _⟩
    · simp only [aAppend, hf.1, M.bind, hf.2, cellsB_one, cellsB_length]
      have hroom : 2 * (0 + l.length) * 1 ≤ 2 ^ 48 := by omega
      have hcap : ¬ (0 + l.length ≤ 0) := by omega
      have ha : aRow r H = some (([], true), H) := by simp only [aRow, if_pos hg0, hg1]
      rw [Nat.mul_one] at hroom
      simp only [Bool.not_true, Nat.mul_one, ne_eq, not_true, decide_false, qe, Bool.or_false, Bool.false_eq_true, if_false, hn0, if_neg hcap]
      rw [bind_of ha]
      have hcond : 0 + 0 ≤ ([] : List AVal).length ∧ 2 * (0 + l.length) ≤ 2 ^ 48 := ⟨by simp, hroom⟩
      simp only [if_pos hcond]
      rfl
    · rw [Nat.zero_add]
      exact ⟨Or.inr ⟨H.n, 0, none, cellsB l, true, 2 * e, rfl, Nat.lt_succ_self _, push_get_eq, by simp [cellsB_length], by rw [List.drop_zero, List.take_of_length_le (by rw [cellsB_length]; omega)], Nat.le_refl _⟩⟩
theorem WpX.appendE {call : ACall} {fr : AFrame} {H : AHeap} {K : AVal → AHeap → Prop} {e e0 : TypeId} {x y : ROpd} {p : AVal} {l : List UInt8} {r : Nat} (hx : x.ev fr = .slice r 0 0 (some 0) 1) (hy : y.ev fr = p) [h : BytesI H p l] [g : HasRow H r [] true e0] (hl : l.length < 2 ^ 40)
    (hk : ∀ v H', BytesI H' v l → (∀ r' off len cap sz, v = .slice r' off len cap sz → r' = r ∨ H.n ≤ r') → WrS H' v → ExtI H H' → K v H') : WpX (.append e 1 1 x y) call fr H K := by
  obtain ⟨v, H', h1, h2, h3, h4, h5⟩ := exec_appendE (H := H) (p := p) (r := r) hl e
  exact ⟨v, H', by simp only [ROp.exec, hx, hy]; exact h1, hk v H' h2 h3 h4 ⟨h5⟩⟩
end Go.Am
namespace Go.Am
open Go
open Nat renaming reduceEqDiff → qe, reduceAdd → qz
open Int renaming reduceBEq → qn, reduceBNe → qq
section
variable {call : ACall} {n ref : Nat} {its : List DItem} {H0 H : AHeap} {E : List (Nat × AHeap)} {Rd : List (Nat × (AHeap → Bool))} {fr : AFrame} {K : AFrame → AHeap → Prop} {b : Nat} {pre : Bool} {g : Option (Nat × Bool)}
theorem WpE.stB {d : Option Nat} {a x : ROpd} {p : AVal} {j : Nat} {l : List UInt8} {k : Int} (c : UInt8) (hw : ROper.wanted fr ⟨d, .store 1 a x, g⟩ = true) (ha : a.ev fr = .ptr (rowOf p) (offOf p + j)) (hx : x.ev fr = .int .u8 k) (hk : k = (c.toNat : Int)) [s : BytesI H p l] [w : WrS H p] (hj : j < l.length)
    (h : ∀ H1, BytesI H1 p (l.set j c) → WrS H1 p → ExtP H H1 p → AllR b H1 Rd ∧ WpE call (n + 1) ref its H0 ((n, H) :: E) Rd (put fr d aundef) H1 K) : WpE call n ref (⟨⟨d, .store 1 a x, g⟩, b, 2, pre⟩ :: its) H0 E Rd fr H K := by
  obtain ⟨v, H1, h1, rfl, h2, h3, h4⟩ := WpX.stB (call := call) (K := fun v H1 => v = aundef ∧ BytesI H1 p (l.set j c) ∧ WrS H1 p ∧ ExtP H H1 p) c ha hx hk hj fun H1 q1 q2 q3 => ⟨rfl, q1, q2, q3⟩
  obtain ⟨h5, h6⟩ := h H1 h2 h3 h4
  exact WpE.effect hw h1 h5 h6
theorem WpE.stI {d : Option Nat} {a x : ROpd} {p : AVal} {j : Nat} {l : List Int} {c : Int} (hw : ROper.wanted fr ⟨d, .store 1 a x, g⟩ = true) (ha : a.ev fr = .ptr (rowOf p) (offOf p + j)) (hx : x.ev fr = .int .i64 c) [s : IntsI H p l] [w : WrS H p] (hj : j < l.length)
    (h : ∀ H1, IntsI H1 p (l.set j c) → WrS H1 p → ExtP H H1 p → AllR b H1 Rd ∧ WpE call (n + 1) ref its H0 ((n, H) :: E) Rd (put fr d aundef) H1 K) : WpE call n ref (⟨⟨d, .store 1 a x, g⟩, b, 2, pre⟩ :: its) H0 E Rd fr H K := by
  obtain ⟨v, H1, h1, rfl, h2, h3, h4⟩ := WpX.stI (call := call) (K := fun v H1 => v = aundef ∧ IntsI H1 p (l.set j c) ∧ WrS H1 p ∧ ExtP H H1 p) ha hx hj fun H1 q1 q2 q3 => ⟨rfl, q1, q2, q3⟩
  obtain ⟨h5, h6⟩ := h H1 h2 h3 h4
  exact WpE.effect hw h1 h5 h6
end
end Go.Am

namespace Go.Am
open Go
theorem ag0 (v : AVal) (vs : List AVal) : argFrame (v :: vs) 0 = v := rfl
theorem ag1 (v w : AVal) (vs : List AVal) : argFrame (v :: w :: vs) 1 = w := rfl
theorem ag2 (v w x : AVal) (vs : List AVal) : argFrame (v :: w :: x :: vs) 2 = x := rfl
theorem ag3 (v w x y : AVal) (vs : List AVal) : argFrame (v :: w :: x :: y :: vs) 3 = y := rfl
theorem ag4 (v w x y z : AVal) (vs : List AVal) : argFrame (v :: w :: x :: y :: z :: vs) 4 = z := rfl
theorem fx1 (fr : AFrame) : updL [] fr = fr := rfl
theorem fx2 (p : Nat × AVal) (l : List (Nat × AVal)) (fr : AFrame) : updL (p :: l) fr = upd (updL l fr) p.1 p.2 := rfl
theorem fx3 (g fr : AFrame) : mix [] g fr = fr := rfl
theorem fx4 (d : Nat) (D : List Nat) (g fr : AFrame) : mix (d :: D) g fr = upd (mix D g fr) d (g d) := rfl
theorem nrmS : (∀ (a b : AVal) l, (a :: l).set 4 b = a :: l.set 3 b) ∧ (∀ (a b : AVal) l, (a :: l).set 5 b = a :: l.set 4 b) ∧ (∀ (a b : AVal) l, (a :: l).set 6 b = a :: l.set 5 b) ∧ (∀ (a b : AVal) l, (a :: l).set 7 b = a :: l.set 6 b) ∧ (∀ (a b : AVal) l, (a :: l).set 8 b = a :: l.set 7 b) ∧ (∀ (a b : AVal) l, (a :: l).set 9 b = a :: l.set 8 b) ∧ (∀ (a b : AVal) l, (a :: l).set 10 b = a :: l.set 9 b) ∧ (∀ (a b : AVal) l, (a :: l).set 11 b = a :: l.set 10 b) ∧ (∀ (a b : AVal) l, (a :: l).set 12 b = a :: l.set 11 b) ∧ (∀ (a b : AVal) l, (a :: l).set 13 b = a :: l.set 12 b) ∧ (∀ (a b : AVal) l, (a :: l).set 14 b = a :: l.set 13 b) ∧ (∀ (a b : AVal) l, (a :: l).set 15 b = a :: l.set 14 b) := ⟨fun _ _ _ => rfl, fun _ _ _ => rfl, fun _ _ _ => rfl, fun _ _ _ => rfl, fun _ _ _ => rfl, fun _ _ _ => rfl, fun _ _ _ => rfl, fun _ _ _ => rfl, fun _ _ _ => rfl, fun _ _ _ => rfl, fun _ _ _ => rfl, fun _ _ _ => rfl⟩
theorem nrmK : (∀ v vs, argFrame (v :: vs) 0 = v) ∧ (∀ v w vs, argFrame (v :: w :: vs) 1 = w) ∧ (∀ v w x vs, argFrame (v :: w :: x :: vs) 2 = x) ∧ (∀ v w x y vs, argFrame (v :: w :: x :: y :: vs) 3 = y) ∧ (∀ v w x y z vs, argFrame (v :: w :: x :: y :: z :: vs) 4 = z) ∧ (∀ v w x y z u vs, argFrame (v :: w :: x :: y :: z :: u :: vs) 5 = u) ∧ (∀ fr, updL [] fr = fr) ∧ (∀ p l fr, updL (p :: l) fr = upd (updL l fr) p.1 p.2) ∧ (∀ g fr, mix [] g fr = fr) ∧ (∀ d D g fr, mix (d :: D) g fr = upd (mix D g fr) d (g d)) := ⟨ag0, ag1, ag2, ag3, ag4, fun _ _ _ _ _ _ _ => rfl, fx1, fx2, fx3, fx4⟩
theorem nrmL : (∀ fr t, ROpd.ev fr (.tmp t) = fr t) ∧ (∀ fr v, ROpd.ev fr (.val v) = v) ∧ (∀ fr d v i, upd fr d v i = if i = d then v else fr i) := ⟨fun _ _ => rfl, fun _ _ => rfl, upd_at⟩
section
variable {call : ACall} {lf : Nat} {fr : AFrame} {H : AHeap} {Q : RExit → AFrame → AHeap → Prop} {KF : AFrame → AHeap → Prop} {os : List ROper} {d : Nat}
theorem Fr.region {ops : List ROper} (h : ∀ KF : AFrame → AHeap → Prop, (∀ fr' H', Q .normal fr' H' → KF fr' H') → WpO call ops fr H KF) : Wp call lf (.region ops) fr H Q := Wp.region (h _ fun _ _ q => q)
theorem Fr.quiet {its : List DItem} {ops : List ROper} (hq : quiet its = true) (ho : opsOf its = ops) (h : ∀ KF : AFrame → AHeap → Prop, (∀ fr' H', Q .normal fr' H' → KF fr' H') → WpO call ops fr H KF) : Wp call lf (.dregion its) fr H Q := Wp.dquiet hq ho (h _ fun _ _ q => q)
theorem Fr.dregion0 {its : List DItem} (hno : (its.all fun it => !(Nat.beq it.cls 3)) = true) (h : ∀ KF : AFrame → AHeap → Prop, (∀ fr' H', Q .normal fr' H' → KF fr' H') → WpE call 0 H.n its H [] [] fr H KF) : Wp call lf (.dregion its) fr H Q := Wp.dregion0 hno (h _ fun _ _ q => q)
theorem Fr.dregionE {its : List DItem} (os : List AObj) (ho : oracle its H.n fr H = os) (h : ∀ KF : AFrame → AHeap → Prop, (∀ fr' H', Q .normal fr' H' → KF fr' H') → WpE call 0 H.n its (pushAll H os) [] [] fr (pushAll H os) KF) : Wp call lf (.dregion its) fr H Q := Wp.dregionE os ho (h _ fun _ _ q => q)
theorem Fo.ld {a : ROpd} {r off : Nat} {cs : List AVal} {rw : Bool} {e : TypeId} {v : AVal} (ha : a.ev fr = .ptr r off) [hg : HasRow H r cs rw e] (hv : cs[off]? = some v) (h : WpO call os (upd fr d v) H KF) : WpO call (⟨some d, .load none a, none⟩ :: os) fr H KF := WpO.do (WpX.ld ha hv h)
theorem Fo.ldN {a : ROpd} {n r off : Nat} {cs : List AVal} {rw : Bool} {e : TypeId} {l : List AVal} (ha : a.ev fr = .ptr r off) [hg : HasRow H r cs rw e] (hv : Nat.ble (off + n) cs.length = true) (hl : (cs.drop off).take n = l) (h : WpO call os (upd fr d (.agg l)) H KF) : WpO call (⟨some d, .load (some n) a, none⟩ :: os) fr H KF := WpO.do (WpX.ldN ha hv hl h)
theorem Fo.len {x : ROpd} {p v : AVal} {sz n : Nat} {cs : List AVal} (hx : x.ev fr = p) [s : SliceAt H p sz n cs] (hv : AVal.int .i64 n = v) (h : WpO call os (upd fr d v) H KF) : WpO call (⟨some d, .lenS x, none⟩ :: os) fr H KF := by subst hv; exact WpO.do (WpX.lenP hx h)
theorem Fo.now {op : ROp} {v v' : AVal} {H1 : AHeap} (_ : nowOk op = true) (hx : op.exec call fr H = some (v, H1)) (hv : v = v') (h : WpO call os (upd fr d v') H1 KF) : WpO call (⟨some d, op, none⟩ :: os) fr H KF := by subst hv; exact WpO.step rfl ⟨v, H1, hx, h⟩
theorem Fo.box {e : TypeId} {x : ROpd} {v : AVal} {cs : List AVal} (hx : x.ev fr = v) (hc : v.cells = cs) (h : WpO call os (upd fr d (.ptr H.n 0)) (H.push (.row cs true (2 * e))) KF) : WpO call (⟨some d, .box e x, none⟩ :: os) fr H KF := by subst hx hc; exact WpO.do (WpX.box h)
theorem Fo.new {e : TypeId} {cs : List AVal} (h : WpO call os (upd fr d (.ptr H.n 0)) (H.push (.row cs true (2 * e))) KF) : WpO call (⟨some d, .new e cs, none⟩ :: os) fr H KF := WpO.do (WpX.new h)
theorem Fo.bslice {e : TypeId} {sz len : Nat} {zero : List AVal} {parts : List (Nat × Nat × ROpd)} {cs cs' : List AVal} (hf : aFill fr zero parts = some cs) (hc : cs = cs') (h : WpO call os (upd fr d (.slice H.n 0 len (some len) sz)) (H.push (.row cs' true (2 * e))) KF) : WpO call (⟨some d, .buildSlice e sz len zero parts, none⟩ :: os) fr H KF := by
  subst hc
  exact WpO.step rfl ⟨_, _, by simp only [ROp.exec, hf, M.bind, aNew, M.pure], h⟩
theorem Fo.st {a x : ROpd} {n r off : Nat} {cs : List AVal} {e : TypeId} {v : AVal} {vs l : List AVal} (ha : a.ev fr = .ptr r off) (hx : x.ev fr = v) (hvs : v.cells = vs) (hn : Nat.beq vs.length n = true) [hg : HasRow H r cs true e] (hl : Nat.ble (off + vs.length) cs.length = true) (ho : vs.all AVal.one = true)
    (hs : setAt cs off vs = l) (h : WpO call os fr (H.set r (.row l true e)) KF) : WpO call (⟨none, .store n a x, none⟩ :: os) fr H KF := WpO.do' (WpX.st ha hx hvs hn hl ho hs h)
theorem Fo.idx {x i : ROpd} {p : AVal} {sz n o : Nat} {cs : List AVal} {k : IntKind} {a : Int} (hx : x.ev fr = p) (hi : i.ev fr = .int k a) [s : SliceAt H p sz n cs] (h0 : 0 ≤ a ∧ a < n) (ho : offOf p + a.toNat * sz = o) (h : WpO call os (upd fr d (.ptr (rowOf p) o)) H KF) : WpO call (⟨some d, .idxS sz x i, none⟩ :: os) fr H KF := by
  subst ho; exact WpO.do (WpX.idxP hx hi h0 h)
theorem Fo.ldB {a : ROpd} {p v : AVal} {j : Nat} {l : List UInt8} (ha : a.ev fr = .ptr (rowOf p) (offOf p + j)) [s : BytesI H p l] (hj : j < l.length) (hv : AVal.int .u8 (l[j].toNat : Int) = v) (h : WpO call os (upd fr d v) H KF) : WpO call (⟨some d, .load none a, none⟩ :: os) fr H KF := by
  subst hv; exact WpO.do (WpX.ldB ha hj h)
theorem Fo.ldI {a : ROpd} {p v : AVal} {j : Nat} {l : List Int} (ha : a.ev fr = .ptr (rowOf p) (offOf p + j)) [s : IntsI H p l] (hj : j < l.length) (hv : AVal.int .i64 l[j] = v) (h : WpO call os (upd fr d v) H KF) : WpO call (⟨some d, .load none a, none⟩ :: os) fr H KF := by
  subst hv; exact WpO.do (WpX.ldI ha hj h)
theorem Fo.build {z : List AVal} {ps : List (Nat × Nat × ROpd)} {cs cs' : List AVal} (hf : aFill fr z ps = some cs) (hc : cs = cs') (h : WpO call os (upd fr d (.agg cs')) H KF) : WpO call (⟨some d, .build z ps, none⟩ :: os) fr H KF := by
  subst hc; exact WpO.do (WpX.build hf h)
theorem Fo.yes {d : Option Nat} {op : ROp} {t : Nat} {want b : Bool} (hb : fr t = .bool b) (hw : b = want) (h : WpO call (⟨d, op, none⟩ :: os) fr H KF) : WpO call (⟨d, op, some (t, want)⟩ :: os) fr H KF := WpO.guard hb (fun _ => h) fun q => absurd hw q
theorem Fo.no {d : Nat} {op : ROp} {t : Nat} {want b : Bool} (hb : fr t = .bool b) (hw : (!b) = want) (h : WpO call os (upd fr d aundef) H KF) : WpO call (⟨some d, op, some (t, want)⟩ :: os) fr H KF := WpO.guard hb (fun q => absurd q (by subst hw; cases b <;> decide)) fun _ => h
theorem Fo.noU {d : Nat} {op : ROp} {t : Nat} {want : Bool} (hb : fr t = aundef) (h : WpO call os (upd fr d aundef) H KF) : WpO call (⟨some d, op, some (t, want)⟩ :: os) fr H KF := WpO.skip (by simp only [ROper.wanted, hb, aundef]) h
end
section
variable {ext : Exts} {prog : FuncId → Option RFunc} {fr : AFrame} {H : AHeap} {KF : AFrame → AHeap → Prop} {os : List ROper} {d : Nat}
theorem Fo.pcall {n dd D : Nat} {f : FuncId} {o : ROpd} {l : List ROpd} {args : List AVal} {v v' : AVal} (hn : fuel0 + D ≤ n) (hf : o.ev fr = .func (.func f) [] []) (hl : l.map (·.ev fr) = args) [hc : PureCon ext prog f args H dd v] (hd : Nat.ble dd D = true) (hv : v = v')
    (h : ∀ H1, ExtI H H1 → WpO (callN ext prog n) os (upd fr d v') H1 KF) : WpO (callN ext prog n) (⟨some d, .call o l, none⟩ :: os) fr H KF := by
  subst hv; exact WpO.do (WpX.pcall hn hf hl hd h)
end
section
variable {call : ACall} {n ref : Nat} {its : List DItem} {H0 H H1 : AHeap} {E : List (Nat × AHeap)} {Rd : List (Nat × (AHeap → Bool))} {fr : AFrame} {K : AFrame → AHeap → Prop} {b : Nat} {pre : Bool} {g : Option (Nat × Bool)} {d : Nat}
theorem Fe.pure {op : ROp} {v v' : AVal} (hw : ROper.wanted fr ⟨some d, op, g⟩ = true) (hx : op.exec noCall fr H = some (v, H)) (hv : v = v') (h : WpE call (n + 1) ref its H0 E Rd (upd fr d v') H K) : WpE call n ref (⟨⟨some d, op, g⟩, b, 0, pre⟩ :: its) H0 E Rd fr H K := by
  subst hv; exact WpE.pure hw hx h
theorem Fe.read {op : ROp} {v v' : AVal} (hw : ROper.wanted fr ⟨some d, op, g⟩ = true) (hx : op.exec noCall fr H = some (v, H)) (hv : v = v') (hE : AllE b (fun H2 => op.exec noCall fr H2 = some (v, H2)) E) (h : WpE call (n + 1) ref its H0 E ((n, readOk op fr v) :: Rd) (upd fr d v') H K) : WpE call n ref (⟨⟨some d, op, g⟩, b, 1, pre⟩ :: its) H0 E Rd fr H K := by
  subst hv; exact WpE.read hw hx hE h
theorem Fe.skip {cls : Nat} {op : ROp} (hw : ROper.wanted fr ⟨some d, op, g⟩ = false) (h : WpE call (n + 1) (nextRef cls ref) its H0 E Rd (upd fr d aundef) H K) : WpE call n ref (⟨⟨some d, op, g⟩, b, cls, pre⟩ :: its) H0 E Rd fr H K := WpE.skip hw h
theorem Fe.made {op : ROp} {cs : List AVal} {e : TypeId} {k : Nat → AVal} {v : AVal} (hw : ROper.wanted fr ⟨some d, op, g⟩ = true) (hm : op.made fr = some (cs, e, k)) (hg : ghostIs H ref cs e = true) (hE : AllE b (fun H2 => ghostIs H2 ref cs e = true) E) (hv : k ref = v) (h : WpE call (n + 1) (ref + 1) its H0 E ((n, madeOk op fr ref) :: Rd) (upd fr d v) H K) : WpE call n ref (⟨⟨some d, op, g⟩, b, 3, pre⟩ :: its) H0 E Rd fr H K := by
  subst hv; exact WpE.made hw hm hg hE h
theorem Fe.effect0 {op : ROp} {v : AVal} (hw : ROper.wanted fr ⟨none, op, g⟩ = true) (hx : op.exec call fr H = some (v, H1)) (hR : AllR b H1 Rd) (h : WpE call (n + 1) ref its H0 ((n, H) :: E) Rd fr H1 K) : WpE call n ref (⟨⟨none, op, g⟩, b, 2, pre⟩ :: its) H0 E Rd fr H K := WpE.effect hw hx hR h
end
section
variable {ext : Exts} {prog : FuncId → Option RFunc} {n ref : Nat} {its : List DItem} {H0 H H1 : AHeap} {E : List (Nat × AHeap)} {Rd : List (Nat × (AHeap → Bool))} {fr : AFrame} {K : AFrame → AHeap → Prop} {b : Nat} {pre : Bool} {g : Option (Nat × Bool)} {d : Nat}
theorem Fe.pcall {m dd D : Nat} {f : FuncId} {o : ROpd} {l : List ROpd} {args : List AVal} {v v' : AVal} (hw : ROper.wanted fr ⟨some d, .call o l, g⟩ = true) (hn : fuel0 + D ≤ m) (hf : o.ev fr = .func (.func f) [] []) (hl : l.map (·.ev fr) = args) [hc : PureCon ext prog f args H dd v] (hd : Nat.ble dd D = true) (hv : v = v')
    (h : ∀ H1, ExtI H H1 → AllR b H1 Rd ∧ WpE (callN ext prog m) (n + 1) ref its H0 ((n, H) :: E) Rd (upd fr d v') H1 K) : WpE (callN ext prog m) n ref (⟨⟨some d, .call o l, g⟩, b, 2, pre⟩ :: its) H0 E Rd fr H K := by
  subst hv; exact WpE.pcall hw hn hf hl hd h
theorem Fe.con {m dd D : Nat} {f : FuncId} {o : ROpd} {l : List ROpd} {args : List AVal} {R : AVal → AHeap → Prop} (hw : ROper.wanted fr ⟨some d, .call o l, g⟩ = true) (hn : fuel0 + D ≤ m) (hd : Nat.ble dd D = true) (hf : o.ev fr = .func (.func f) [] []) (hl : l.map (·.ev fr) = args) (hc : Con ext prog dd f args H R)
    (h : ∀ v H1, R v H1 → AllR b H1 Rd ∧ WpE (callN ext prog m) (n + 1) ref its H0 ((n, H) :: E) Rd (upd fr d v) H1 K) : WpE (callN ext prog m) n ref (⟨⟨some d, .call o l, g⟩, b, 2, pre⟩ :: its) H0 E Rd fr H K := WpE.con hw hn hd hf hl hc h
end
end Go.Am
namespace Go.Am
open Go
section
variable {call : ACall} {fr : AFrame} {H : AHeap} {KF : AFrame → AHeap → Prop} {os : List ROper} {d : Nat}
theorem Fo.mov {x : ROpd} {v : AVal} (hx : x.ev fr = v) (h : WpO call os (upd fr d v) H KF) : WpO call (⟨some d, .mov x, none⟩ :: os) fr H KF := by subst hx; exact WpO.do (WpX.mov h)
theorem Fo.fa {x : ROpd} {r o off : Nat} (hx : x.ev fr = .ptr r o) (h : WpO call os (upd fr d (.ptr r (o + off))) H KF) : WpO call (⟨some d, .fieldAddr off x, none⟩ :: os) fr H KF := WpO.do (WpX.fieldAddr hx h)
theorem Fo.pickT {c a b : ROpd} {v : AVal} (hc : c.ev fr = .bool true) (hx : a.ev fr = v) (h : WpO call os (upd fr d v) H KF) : WpO call (⟨some d, .pick c a b, none⟩ :: os) fr H KF := by subst hx; exact WpO.do (WpX.pick hc h)
theorem Fo.pickF {c a b : ROpd} {v : AVal} (hc : c.ev fr = .bool false) (hx : b.ev fr = v) (h : WpO call os (upd fr d v) H KF) : WpO call (⟨some d, .pick c a b, none⟩ :: os) fr H KF := by subst hx; exact WpO.do (WpX.pick hc h)
theorem Fo.extr {x : ROpd} {i : Nat} {vs : List AVal} {v : AVal} (hx : x.ev fr = .tuple vs) (hv : vs[i]? = some v) (h : WpO call os (upd fr d v) H KF) : WpO call (⟨some d, .extract x i, none⟩ :: os) fr H KF := WpO.do (WpX.extract hx hv h)
theorem Fo.bin {op : BinOp} {x y : ROpd} {a b v v' : AVal} (hx : x.ev fr = a) (hy : y.ev fr = b) (hv : aBin op a b = some v) (he : v = v') (h : WpO call os (upd fr d v') H KF) : WpO call (⟨some d, .bin op x y, none⟩ :: os) fr H KF := by
  subst hx hy he
  exact WpO.step rfl ⟨v, H, by simp only [ROp.exec, hv, M.ofOption, M.pure], h⟩
end
end Go.Am
namespace Go.Am
open Go
section
variable {call : ACall} {fr : AFrame} {H : AHeap} {KF : AFrame → AHeap → Prop} {os : List ROper} {d : Nat}
theorem Fo.boxA {e : TypeId} {x : ROpd} {cs : List AVal} (hx : x.ev fr = .agg cs) (h : WpO call os (upd fr d (.ptr H.n 0)) (H.push (.row cs true (2 * e))) KF) : WpO call (⟨some d, .box e x, none⟩ :: os) fr H KF := Fo.box hx rfl h
theorem Fo.box1 {e : TypeId} {x : ROpd} {v : AVal} (hx : x.ev fr = v) [o : OneV v] (h : WpO call os (upd fr d (.ptr H.n 0)) (H.push (.row [v] true (2 * e))) KF) : WpO call (⟨some d, .box e x, none⟩ :: os) fr H KF := Fo.box hx o.cells h
end
end Go.Am

namespace Go.Am
open Go
section
variable {call : ACall} {lf : Nat} {fr : AFrame} {H : AHeap} {Q : RExit → AFrame → AHeap → Prop} {KF : AFrame → AHeap → Prop} {os : List ROper} {d : Nat}
theorem mI {x : ROpd} {k : IntKind} {n : Int} (h : WpO call os (upd fr d (.int k n)) H KF) (hx : x.ev fr = .int k n := by exact rfl) : WpO call (⟨some d, .mov x, none⟩ :: os) fr H KF := Fo.mov hx h
theorem mB {x : ROpd} {b : Bool} (h : WpO call os (upd fr d (.bool b)) H KF) (hx : x.ev fr = .bool b := by exact rfl) : WpO call (⟨some d, .mov x, none⟩ :: os) fr H KF := Fo.mov hx h
theorem mP {x : ROpd} {r o : Nat} (h : WpO call os (upd fr d (.ptr r o)) H KF) (hx : x.ev fr = .ptr r o := by exact rfl) : WpO call (⟨some d, .mov x, none⟩ :: os) fr H KF := Fo.mov hx h
theorem mT {x : ROpd} {l : List AVal} (h : WpO call os (upd fr d (.tuple l)) H KF) (hx : x.ev fr = .tuple l := by exact rfl) : WpO call (⟨some d, .mov x, none⟩ :: os) fr H KF := Fo.mov hx h
theorem mF {x : ROpd} {f : Fn} {a b : List AVal} (h : WpO call os (upd fr d (.func f a b)) H KF) (hx : x.ev fr = .func f a b := by exact rfl) : WpO call (⟨some d, .mov x, none⟩ :: os) fr H KF := Fo.mov hx h
theorem mN {x : ROpd} (h : WpO call os (upd fr d .nslice) H KF) (hx : x.ev fr = .nslice := by exact rfl) : WpO call (⟨some d, .mov x, none⟩ :: os) fr H KF := Fo.mov hx h
theorem tB {c a b : ROpd} {n : Bool} (h : WpO call os (upd fr d (.bool n)) H KF) (hc : c.ev fr = .bool true := by exact rfl) (hx : a.ev fr = .bool n := by exact rfl) : WpO call (⟨some d, .pick c a b, none⟩ :: os) fr H KF := Fo.pickT hc hx h
theorem fB {c a b : ROpd} {n : Bool} (h : WpO call os (upd fr d (.bool n)) H KF) (hc : c.ev fr = .bool false := by exact rfl) (hx : b.ev fr = .bool n := by exact rfl) : WpO call (⟨some d, .pick c a b, none⟩ :: os) fr H KF := Fo.pickF hc hx h
theorem sq {a b : RCode} (h : Wp call lf a fr H fun x fr' H' => match x with | .normal => Wp call lf b fr' H' Q | e => Q e fr' H') : Wp call lf (.seq a b) fr H Q := Wp.seq h
theorem rg {ops : List ROper} (h : ∀ KF : AFrame → AHeap → Prop, (∀ fr' H', Q .normal fr' H' → KF fr' H') → WpO call ops fr H KF) : Wp call lf (.region ops) fr H Q := Fr.region h
theorem ct {c : ROpd} {t e : RCode} (hc : c.ev fr = .bool true) (h : Wp call lf t fr H Q) : Wp call lf (.cond c t e) fr H Q := Wp.cond (b := true) hc h
theorem cf {c : ROpd} {t e : RCode} (hc : c.ev fr = .bool false) (h : Wp call lf e fr H Q) : Wp call lf (.cond c t e) fr H Q := Wp.cond (b := false) hc h
theorem nl {A : AFrame → AHeap → Prop} (hK : ∀ fr H, A fr H → KF fr H) (h : A fr H) : WpO call [] fr H KF := WpO.nil (hK _ _ h)
theorem sk (h : Q .normal fr H) : Wp call lf .skip fr H Q := Wp.skip h
theorem rt (h : Q .ret fr H) : Wp call lf .ret fr H Q := Wp.ret h
theorem xi {id : Nat} (h : Q (.exit id) fr H) : Wp call lf (.exit id) fr H Q := Wp.exit h
theorem oy {d : Option Nat} {op : ROp} {t : Nat} {want b : Bool} (h : WpO call (⟨d, op, none⟩ :: os) fr H KF) (hb : fr t = .bool b := by exact rfl) (hw : b = want := by exact rfl) : WpO call (⟨d, op, some (t, want)⟩ :: os) fr H KF := Fo.yes hb hw h
theorem ox {d : Nat} {op : ROp} {t : Nat} {want b : Bool} (h : WpO call os (upd fr d aundef) H KF) (hb : fr t = .bool b := by exact rfl) (hw : (!b) = want := by exact rfl) : WpO call (⟨some d, op, some (t, want)⟩ :: os) fr H KF := Fo.no hb hw h
theorem fd {x : ROpd} {r o off : Nat} (h : WpO call os (upd fr d (.ptr r (o + off))) H KF) (hx : x.ev fr = .ptr r o := by exact rfl) : WpO call (⟨some d, .fieldAddr off x, none⟩ :: os) fr H KF := Fo.fa hx h
theorem mv {x : ROpd} {v : AVal} (h : WpO call os (upd fr d v) H KF) (hx : x.ev fr = v := by simp only [↓nrmL, nrmK, Nat.reduceEqDiff, ↓reduceIte]; rfl) : WpO call (⟨some d, .mov x, none⟩ :: os) fr H KF := Fo.mov hx h
theorem b0 {op : BinOp} {x y : ROpd} {a b v : AVal} (h : WpO call os (upd fr d v) H KF) (hx : x.ev fr = a := by exact rfl) (hy : y.ev fr = b := by exact rfl) (hv : aBin op a b = some v := by exact rfl) : WpO call (⟨some d, .bin op x y, none⟩ :: os) fr H KF := Fo.bin hx hy hv rfl h
theorem bn {op : BinOp} {x y : ROpd} {a b v v' : AVal} (hx : x.ev fr = a) (hy : y.ev fr = b) (hv : aBin op a b = some v) (he : v = v') (h : WpO call os (upd fr d v') H KF) : WpO call (⟨some d, .bin op x y, none⟩ :: os) fr H KF := Fo.bin hx hy hv he h
theorem xt {x : ROpd} {i : Nat} {vs : List AVal} {v : AVal} (h : WpO call os (upd fr d v) H KF) (hx : x.ev fr = .tuple vs := by exact rfl) (hv : vs[i]? = some v := by exact rfl) : WpO call (⟨some d, .extract x i, none⟩ :: os) fr H KF := Fo.extr hx hv h
theorem bA {e : TypeId} {x : ROpd} {cs : List AVal} (h : WpO call os (upd fr d (.ptr H.n 0)) (H.push (.row cs true (2 * e))) KF) (hx : x.ev fr = .agg cs := by exact rfl) : WpO call (⟨some d, .box e x, none⟩ :: os) fr H KF := Fo.boxA hx h
theorem nw {e : TypeId} {cs : List AVal} (h : WpO call os (upd fr d (.ptr H.n 0)) (H.push (.row cs true (2 * e))) KF) : WpO call (⟨some d, .new e cs, none⟩ :: os) fr H KF := Fo.new h
theorem ln {x : ROpd} {p : AVal} {sz n : Nat} {cs : List AVal} (hx : x.ev fr = p) [s : SliceAt H p sz n cs] (h : WpO call os (upd fr d (.int .i64 n)) H KF) : WpO call (⟨some d, .lenS x, none⟩ :: os) fr H KF := Fo.len hx rfl h
theorem ob {z : List AVal} {ps : List (Nat × Nat × ROpd)} {cs cs' : List AVal} (hc : cs = cs') (h : WpO call os (upd fr d (.agg cs')) H KF) (hf : aFill fr z ps = some cs := by repeat (first | refine aFill1 (by first | exact (rfl : _ = AVal.int _ _) | exact (rfl : _ = AVal.ptr _ _) | exact (rfl : _ = AVal.bool _) | exact (rfl : _ = AVal.agg _) | exact (rfl : _ = AVal.tuple _) | exact (rfl : _ = AVal.func _ _ _) | exact (rfl : _ = AVal.nslice) | ((try simp only [↓nrmL, nrmK, Nat.reduceEqDiff, ↓reduceIte]); rfl)) rfl ?_ | rfl)) : WpO call (⟨some d, .build z ps, none⟩ :: os) fr H KF := Fo.build hf hc h
theorem so {a x : ROpd} {n r off : Nat} {cs : List AVal} {e : TypeId} {v : AVal} {vs l : List AVal} {os : List ROper} (ha : a.ev fr = .ptr r off) (hx : x.ev fr = v) (hvs : v.cells = vs) (hn : Nat.beq vs.length n = true) [hg : HasRow H r cs true e] (hl : Nat.ble (off + vs.length) cs.length = true)
    (hs : setAt cs off vs = l) (h : WpO call os fr (H.set r (.row l true e)) KF) (ho : vs.all AVal.one = true := by repeat (first | rfl | refine allOne_cons ?_)) : WpO call (⟨none, .store n a x, none⟩ :: os) fr H KF := Fo.st ha hx hvs hn hl ho hs h
end
theorem xs {call : ACall} {fr : AFrame} {H : AHeap} {a x : ROpd} {n r off : Nat} {cs : List AVal} {e : TypeId} {v : AVal} {vs l : List AVal} (ha : a.ev fr = .ptr r off) (hx : x.ev fr = v) (hvs : v.cells = vs) (hn : Nat.beq vs.length n = true) [hg : HasRow H r cs true e] (hl : Nat.ble (off + vs.length) cs.length = true)
    (hs : setAt cs off vs = l) (ho : vs.all AVal.one = true := by repeat (first | rfl | refine allOne_cons ?_)) : (ROp.store n a x).exec call fr H = some (aundef, H.set r (.row l true e)) := exec_st ha hx hvs hn hl ho hs
theorem rz {A : Prop} {fr : AFrame} {res : List RRes} {H : AHeap} {vs : List AVal} {Q : List AVal → Prop} (hA : A) (h : Q vs) (hg : getAll fr res H = some (vs, H) := by first | rfl | exact getAllC rfl rfl rfl rfl | exact getAllT rfl (getAllC rfl rfl rfl rfl) | exact getAllC rfl rfl rfl (getAllC rfl rfl rfl rfl) | exact getAllC1 rfl rfl rfl) : A ∧ ∃ vs, getAll fr res H = some (vs, H) ∧ Q vs := ⟨hA, vs, hg, h⟩
section
variable {call : ACall} {n ref : Nat} {its : List DItem} {H0 H H1 : AHeap} {E : List (Nat × AHeap)} {Rd : List (Nat × (AHeap → Bool))} {fr : AFrame} {K : AFrame → AHeap → Prop} {b : Nat} {pre : Bool} {g : Option (Nat × Bool)} {d : Nat}
theorem Er {op : ROp} {v v' : AVal} (hw : ROper.wanted fr ⟨some d, op, g⟩ = true) (hx : op.exec noCall fr H = some (v, H)) (hv : v = v') (h : WpE call (n + 1) ref its H0 E ((n, readOk op fr v) :: Rd) (upd fr d v') H K) (hE : AllE b (fun H2 => op.exec noCall fr H2 = some (v, H2)) E := by repeat (first | exact trivial | refine ⟨(by first | exact Or.inl (by dsimp only; decide) | exact Or.inr (exec_ld rfl rfl) | exact Or.inr (exec_ld rfl (by assumption)) | exact Or.inr (exec_ldN rfl rfl rfl) | exact Or.inr (exec_ldB rfl (by omega)) | exact Or.inr (exec_ldI rfl (by omega)) | exact Or.inr ghost_of), ?_⟩)) : WpE call n ref (⟨⟨some d, op, g⟩, b, 1, pre⟩ :: its) H0 E Rd fr H K := Fe.read hw hx hv hE h
theorem Em {op : ROp} {cs : List AVal} {e : TypeId} {k : Nat → AVal} {v : AVal} (hw : ROper.wanted fr ⟨some d, op, g⟩ = true) (hm : op.made fr = some (cs, e, k)) (hg : ghostIs H ref cs e = true) (hv : k ref = v) (h : WpE call (n + 1) (ref + 1) its H0 E ((n, madeOk op fr ref) :: Rd) (upd fr d v) H K) (hE : AllE b (fun H2 => ghostIs H2 ref cs e = true) E := by repeat (first | exact trivial | refine ⟨(by first | exact Or.inl (by dsimp only; decide) | exact Or.inr (exec_ld rfl rfl) | exact Or.inr (exec_ld rfl (by assumption)) | exact Or.inr (exec_ldN rfl rfl rfl) | exact Or.inr (exec_ldB rfl (by omega)) | exact Or.inr (exec_ldI rfl (by omega)) | exact Or.inr ghost_of), ?_⟩)) : WpE call n ref (⟨⟨some d, op, g⟩, b, 3, pre⟩ :: its) H0 E Rd fr H K := Fe.made hw hm hg hE hv h
theorem Ee {op : ROp} {v : AVal} (hw : ROper.wanted fr ⟨none, op, g⟩ = true) (hx : op.exec call fr H = some (v, H1)) (h : WpE call (n + 1) ref its H0 ((n, H) :: E) Rd fr H1 K) (hR : AllR b H1 Rd := by repeat (first | exact trivial | refine ⟨(by first | exact Or.inl (by dsimp only; decide) | exact Or.inr (readOk_of (exec_ld rfl rfl)) | exact Or.inr (readOk_of (exec_ld rfl (by assumption))) | exact Or.inr (readOk_of (exec_ldN rfl rfl rfl)) | exact Or.inr (readOk_of (exec_ldB rfl (by omega))) | exact Or.inr (readOk_of (exec_ldI rfl (by omega))) | exact Or.inr (made_of rfl)), ?_⟩)) : WpE call n ref (⟨⟨none, op, g⟩, b, 2, pre⟩ :: its) H0 E Rd fr H K := Fe.effect0 hw hx hR h
theorem ar {B : Prop} (h : B) (hR : AllR b H1 Rd := by repeat (first | exact trivial | refine ⟨(by first | exact Or.inl (by dsimp only; decide) | exact Or.inr (readOk_of (exec_ld rfl rfl)) | exact Or.inr (readOk_of (exec_ld rfl (by assumption))) | exact Or.inr (readOk_of (exec_ldN rfl rfl rfl)) | exact Or.inr (readOk_of (exec_ldB rfl (by omega))) | exact Or.inr (readOk_of (exec_ldI rfl (by omega))) | exact Or.inr (made_of rfl)), ?_⟩)) : AllR b H1 Rd ∧ B := ⟨hR, h⟩
end
theorem nrmZ : type_of% nrm ∧ type_of% nrmS := ⟨nrm, nrmS⟩
end Go.Am


namespace Go.Am
open Go
open Nat renaming reduceEqDiff → qe, reduceAdd → qz
open Int renaming reduceBEq → qn, reduceBNe → qq
attribute [local irreducible] Wp WpO WpX WpE
def sideB (a : Int) : Bool := decide (a ≥ 0) && decide (a ≤ 640)
instance K_side (a : Int) (H : AHeap) : PureCon ext prog 103 [.int .i64 a] H 1 (.bool (sideB a)) := ⟨by
 refine con_of (show prog 103 = some c103 from rfl) rfl rfl fun n hn => ?_
 unfold sideB
 cases h1 : decide (a ≥ 0) <;> cases h2 : decide (a ≤ 640)
 ·skip
  repeat first | refine ox ?_ | refine mI ?_ | refine mB ?_ | refine bn rfl rfl rfl (by simp only [h1, h2]; rfl) ?_ | refine fB ?_ | refine nl hKF ?_ | refine sq ?_ | refine rg fun KF hKF => ?_ | refine rt ?_ | dsimp only
  exact ⟨trivial, _, rfl, rfl, Ext0.ext⟩
 ·skip
  repeat first | refine ox ?_ | refine mI ?_ | refine mB ?_ | refine bn rfl rfl rfl (by simp only [h1, h2]; rfl) ?_ | refine fB ?_ | refine nl hKF ?_ | refine sq ?_ | refine rg fun KF hKF => ?_ | refine rt ?_ | dsimp only
  exact ⟨trivial, _, rfl, rfl, Ext0.ext⟩
 ·skip
  repeat first | refine oy ?_ | refine mI ?_ | refine mB ?_ | refine bn rfl rfl rfl (by simp only [h1, h2]; rfl) ?_ | refine tB ?_ | refine nl hKF ?_ | refine sq ?_ | refine rg fun KF hKF => ?_ | refine rt ?_ | dsimp only
  exact ⟨trivial, _, rfl, rfl, Ext0.ext⟩
 ·skip
  repeat first | refine oy ?_ | refine mI ?_ | refine mB ?_ | refine bn rfl rfl rfl (by simp only [h1, h2]; rfl) ?_ | refine tB ?_ | refine nl hKF ?_ | refine sq ?_ | refine rg fun KF hKF => ?_ | refine rt ?_ | dsimp only
  exact ⟨trivial, _, rfl, rfl, Ext0.ext⟩⟩
instance K_sized (a b k : Int) (H : AHeap) : PureCon ext prog 90 [.int .i64 a, .int .i64 b, .int .i64 k] H 2 (.bool (sideB a && sideB b && (k == IntKind.i64.wrap (a * b)))) := ⟨by
 refine con_of (show prog 90 = some c90 from rfl) rfl rfl fun n hn => ?_
 cases h1 : sideB a
 ·skip
  repeat first | refine ox ?_ | refine mI ?_ | refine mB ?_ | refine fB ?_ | (refine Fo.pcall (v' := ?_) hn rfl (by simp only [↓nrmL, nrmZ, qe, ↓reduceIte, qz, qn, qq, h1, List.map]; rfl) rfl ?hv fun _ _ => ?_; case hv => (simp only [h1]; rfl)) | refine nl hKF ?_ | refine sq ?_ | refine rg fun KF hKF => ?_ | refine rt ?_ | dsimp only
  exact ⟨trivial, _, rfl, rfl, Ext0.ext⟩
 cases h2 : sideB b
 ·skip
  repeat first | refine oy ?_ | refine ox ?_ | refine mI ?_ | refine mB ?_ | refine tB ?_ | refine fB ?_ | (refine Fo.pcall (v' := ?_) hn rfl (by simp only [↓nrmL, nrmZ, qe, ↓reduceIte, qz, qn, qq, h1, h2, List.map]; rfl) rfl ?hv fun _ _ => ?_; case hv => (simp only [h1, h2]; rfl)) | refine nl hKF ?_ | refine sq ?_ | refine rg fun KF hKF => ?_ | refine rt ?_ | dsimp only
  exact ⟨trivial, _, rfl, rfl, Ext0.ext⟩
 ·skip
  repeat first | refine oy ?_ | refine mI ?_ | refine mB ?_ | refine b0 ?_ | refine tB ?_ | (refine Fo.pcall (v' := ?_) hn rfl (by simp only [↓nrmL, nrmZ, qe, ↓reduceIte, qz, qn, qq, h1, h2, List.map]; rfl) rfl ?hv fun _ _ => ?_; case hv => (simp only [h1, h2]; rfl)) | refine nl hKF ?_ | refine sq ?_ | refine rg fun KF hKF => ?_ | refine rt ?_ | dsimp only
  exact ⟨trivial, _, rfl, rfl, Ext0.ext⟩⟩
end Go.Am


namespace Go.Am
open Go
open Nat renaming reduceEqDiff → qe, reduceAdd → qz
open Int renaming reduceBEq → qn, reduceBNe → qq
attribute [local irreducible] Wp WpO WpX WpE
structure Img where
 w : Int
 h : Int
 px : List UInt8
 deriving DecidableEq
def Img.zero : Img := ⟨0, 0, []⟩
def sizedB (a b k : Int) : Bool := sideB a && sideB b && (k == IntKind.i64.wrap (a * b))
def Img.sized (g : Img) : Bool := sizedB g.w g.h g.px.length
def NewInk (H H' : AHeap) (v : AVal) (g : Img) : Prop := ∃ p, v = .agg [.int .i64 g.w, .int .i64 g.h, p] ∧ BytesI H' p g.px ∧ FreshS H p ∧ WrS H' p ∧ Ext H H'
theorem K_blank {w h : Nat} {H : AHeap} (hw : w ≤ 640) (hh : h ≤ 640) : Con ext prog 1 104 [.int .i64 w, .int .i64 h] H fun v H' => NewInk H H' v ⟨w, h, List.replicate (w * h) 0⟩ := by
 refine con_of (show prog 104 = some c104 from rfl) rfl rfl fun n hn => ?_
 have hm : w * h ≤ 640 * 640 := Nat.mul_le_mul hw hh
 have hc : IntKind.i64.wrap ((w : Int) * (h : Int)) = ((w * h : Nat) : Int) := by rw [← Int.natCast_mul]; exact w64 (by omega)
 repeat first | refine mI ?_ | refine bn rfl rfl rfl (by simp only [hc]; rfl) ?_ | refine nw ?_ | refine nl hKF ?_ | refine sq ?_ | refine rg fun KF hKF => ?_
 refine WpO.do (WpX.mkB rfl rfl rfl (by omega) fun p H1 e1 hb hf hw' hx => ?_); try simp only [↓nrmL, nrmZ, qe, ↓reduceIte, qz, qn, qq, hc]
 haveI := hb.one
 refine ob (cs' := ?_) ?hc ?_; case hc => (simp only [↓nrmL, nrmZ, qe, ↓reduceIte, qz, qn, qq]; rfl)
 refine so rfl (rfl : _ = AVal.agg _) rfl rfl rfl (by simp only [↓nrmL, nrmZ, qe, ↓reduceIte, qz, qn, qq]; rfl) ?_
 refine nl hKF ?_
 refine rt ?_
 dsimp only
 refine rz trivial ?_
 exact ⟨p, rfl, inferInstance, hf.weak, inferInstance, Ext0.ext⟩
end Go.Am


namespace Go.Am
open Go
attribute [local irreducible] Wp WpO WpX WpE
theorem sized_nat {w h : Int} {n : Nat} (hs : sizedB w h n = true) : ∃ a b : Nat, w = a ∧ h = b ∧ a ≤ 640 ∧ b ≤ 640 ∧ n = a * b := by
 simp only [sizedB, sideB, Bool.and_eq_true, decide_eq_true_eq, beq_iff_eq] at hs
 obtain ⟨⟨⟨h1, h2⟩, h3, h4⟩, h5⟩ := hs
 refine ⟨w.toNat, h.toNat, by omega, by omega, by omega, by omega, ?_⟩
 obtain ⟨a, rfl⟩ : ∃ a : Nat, w = a := ⟨w.toNat, by omega⟩
 obtain ⟨b, rfl⟩ : ∃ b : Nat, h = b := ⟨h.toNat, by omega⟩
 have hm : a * b ≤ 640 * 640 := Nat.mul_le_mul (by omega) (by omega)
 rw [← Int.natCast_mul, w64 (by omega)] at h5
 simp only [Int.toNat_natCast]
 omega
def InkRes (H H' : AHeap) (v : AVal) (r : Img × Int) : Prop := ∃ q, v = .tuple [q, .int .i64 r.2] ∧ NewInk H H' q r.1
theorem newZero {H H' : AHeap} [x : Ext0 H H'] : NewInk H H' (.agg [.int .i64 0, .int .i64 0, .nslice]) Img.zero := ⟨.nslice, rfl, ⟨Or.inl ⟨rfl, rfl, rfl⟩⟩, ⟨fun _ _ _ _ _ e => by cases e⟩, ⟨fun _ _ _ _ _ e => by cases e⟩, x.ext⟩
end Go.Am


namespace Go.Am
open Go
attribute [local irreducible] Wp WpO WpX WpE
def NewBytes (H H' : AHeap) (v : AVal) (l : List UInt8) : Prop := BytesI H' v l ∧ FreshS H v ∧ WrS H' v ∧ Ext H H'
end Go.Am


namespace Go.Am
open Go
attribute [local irreducible] Wp WpO WpX WpE
theorem wm {a b : Nat} (h : a * b < 9223372036854775808) : IntKind.i64.wrap ((a : Int) * (b : Int)) = ((a * b : Nat) : Int) := by rw [← Int.natCast_mul]; exact w64 (by omega)
theorem wa {a b : Nat} (h : a + b < 9223372036854775808) : IntKind.i64.wrap ((a : Int) + (b : Int)) = ((a + b : Nat) : Int) := by rw [← Int.natCast_add]; exact w64 (by omega)
theorem wa1 {a : Nat} (h : a < 9223372036854775807) : IntKind.i64.wrap ((a : Int) + 1) = ((a + 1 : Nat) : Int) := by rw [w64 (by omega)]; omega
theorem wu8 (b : UInt8) : IntKind.i64.wrap ((b.toNat : Nat) : Int) = (b.toNat : Nat) := w64 (by have := b.toNat_lt; omega)
theorem idx_lt {x y w h : Nat} (hx : x < w) (hy : y < h) : y * w + x < w * h := by
 have : (y + 1) * w ≤ h * w := Nat.mul_le_mul_right _ hy
 rw [Nat.mul_comm w h]
 rw [Nat.add_mul] at this
 omega
end Go.Am


namespace Go.Am
open Go
attribute [local irreducible] Wp WpO WpX WpE
end Go.Am


namespace Go.Am
open Go
attribute [local irreducible] Wp WpO WpX WpE
def lvStep (acc : List Int) (b : UInt8) : List Int := acc.set b.toNat (acc.getD b.toNat 0 + 1)
def lv (l : List UInt8) : List Int := l.foldl lvStep (List.replicate 256 0)
def NewInts (H H' : AHeap) (v : AVal) (l : List Int) : Prop := IntsI H' v l ∧ FreshS H v ∧ WrS H' v ∧ Ext H H'
instance intsNil {H : AHeap} : IntsI H .nslice [] := ⟨Or.inl ⟨rfl, rfl, rfl⟩⟩
instance bytesNil {H : AHeap} : BytesI H .nslice [] := ⟨Or.inl ⟨rfl, rfl, rfl⟩⟩
end Go.Am


namespace Go.Am
open Go
attribute [local irreducible] Wp WpO WpX WpE
theorem eq_of_gets {α : Type} {l m : List α} (hl : l.length = m.length) (h : ∀ j, j < l.length → l[j]? = m[j]?) : l = m := by
 apply List.ext_getElem?
 intro i
 by_cases hi : i < l.length
 ·exact h i hi
 ·rw [List.getElem?_eq_none (by omega), List.getElem?_eq_none (by omega)]
class Short {α : Type} (l : List α) : Prop where
 le : l.length ≤ 999999
end Go.Am

namespace Go.Am
open Go
attribute [local irreducible] Wp WpO WpX WpE
instance K_awake {H : AHeap} : PureCon ext prog 12 [] H 0 (.bool true) := ⟨fun n hn => by
 obtain ⟨k, rfl⟩ : ∃ k, n = k + 1 := ⟨n - 1, by unfold fuel0 at hn; omega⟩
 have e1 : prog 12 = some ⟨0, .ext 3, []⟩ := rfl
 refine ⟨.bool true, H, ?_, rfl, Ext.refl H⟩
 rw [call_ext e1]
 rfl⟩
end Go.Am

namespace Go.Am
open Go
open Nat renaming reduceEqDiff → qe, reduceAdd → qz
open Int renaming reduceBEq → qn, reduceBNe → qq
attribute [local irreducible] Wp WpO WpX WpE
theorem ws1 {a : Nat} (h : 0 < a) (h2 : a < 9223372036854775807) : IntKind.i64.wrap ((a : Int) - 1) = ((a - 1 : Nat) : Int) := by rw [w64 (by omega)]; omega
def okAt (b : Nat) (l : List Int) (x : Nat) : Bool := decide (0 ≤ l.getD x 0) && decide (l.getD x 0 < (b : Int)) && (x == 0 || (decide (l.getD (x - 1) 0 - 1 ≤ l.getD x 0) && decide (l.getD x 0 ≤ l.getD (x - 1) 0 + 1)))
def okTo (b : Nat) (l : List Int) (x : Nat) : Bool := (List.range x).all (okAt b l)
def pathB (a b : Nat) (l : List Int) : Bool := l.length != 0 && l.length == a && okTo b l l.length
theorem okTo_succ {b : Nat} {l : List Int} {x : Nat} : okTo b l (x + 1) = (okTo b l x && okAt b l x) := by simp [okTo, List.range_succ, List.all_append]
theorem okTo_bad {b : Nat} {l : List Int} {x n : Nat} (h : okAt b l x = false) (hx : x < n) : okTo b l n = false := by
 cases h2 : okTo b l n with
 | false => rfl
 | true =>
  have := List.all_eq_true.1 h2 x (List.mem_range.2 hx)
  rw [h] at this; cases this
theorem okTo_at {b : Nat} {l : List Int} {x n : Nat} (h : okTo b l n = true) (hx : x < n) : okAt b l x = true := List.all_eq_true.1 h x (List.mem_range.2 hx)
theorem getD_at {l : List Int} {x : Nat} (h : x < l.length) : l.getD x 0 = l[x] := by rw [List.getD_eq_getElem?_getD, List.getElem?_eq_getElem h, Option.getD_some]
theorem okTo_range {b : Nat} {l : List Int} {x n : Nat} (h : okTo b l n = true) (hx : x < n) (hl : x < l.length) : 0 ≤ l[x] ∧ l[x] < (b : Int) := by
 have := okTo_at h hx
 simp only [okAt, Bool.and_eq_true, decide_eq_true_eq, getD_at hl] at this
 exact ⟨this.1.1, this.1.2⟩
theorem pathB_len {a b : Nat} {l : List Int} (h : pathB a b l = true) : l.length = a ∧ 0 < a := by
 simp only [pathB, Bool.and_eq_true, bne_iff_ne, beq_iff_eq] at h
 omega
theorem pathB_range {a b : Nat} {l : List Int} (h : pathB a b l = true) {x : Nat} (hx : x < l.length) : 0 ≤ l[x] ∧ l[x] < (b : Int) := by
 simp only [pathB, Bool.and_eq_true] at h
 exact okTo_range h.2 hx hx
class Side (n : Nat) : Prop where
 le : n ≤ 640
instance K_isPath {a b : Nat} {p q : AVal} {H : AHeap} {g : List UInt8} {l : List Int} [hp : BytesI H p g] [hq : IntsI H q l] [ha : Side a] [hb : Side b] : PureCon ext prog 51 [.agg [.int .i64 (a : Int), .int .i64 (b : Int), p], q] H 1 (.bool (pathB a b l)) := ⟨by
 refine con_of (show prog 51 = some c51 from rfl) rfl rfl fun n hn => ?_
 have ha := ha.le
 have hb := hb.le
 haveI := hp.one
 haveI := hq.one
 cases h0 : (((l.length : Nat) : Int) == 0)
 rotate_left
 ·have hl0 : l.length = 0 := by simpa using h0
  have e1 : pathB a b l = false := by simp [pathB, hl0]
  rw [e1]
  repeat first | refine ox ?_ | refine mB ?_ | refine mv ?_ | refine bn rfl rfl rfl (by simp only [h0]; rfl) ?_ | refine tB ?_ | refine ln (by simp only [↓nrmL, nrmK, qe, ↓reduceIte]; rfl) ?_ | refine bA ?_ | refine nl hKF ?_ | refine sq ?_ | refine rg fun KF hKF => ?_ | refine ct rfl ?_ | refine rt ?_ | dsimp only
  refine rz trivial ?_
  exact ⟨rfl, Ext0.ext⟩
 have hl0 : l.length ≠ 0 := by simpa using h0
 cases h1 : (((l.length : Nat) : Int) != (a : Int))
 rotate_left
 ·have hl1 : l.length ≠ a := by intro e; rw [e] at h1; simp at h1
  have e1 : pathB a b l = false := by simp [pathB, hl1]
  rw [e1]
  repeat first | refine oy ?_ | refine mB ?_ | refine mv ?_ | refine fd ?_ | refine Fo.ld rfl rfl ?_ | refine bn rfl rfl rfl (by simp only [h0, h1]; rfl) ?_ | refine fB ?_ | refine ln (by simp only [↓nrmL, nrmK, qe, ↓reduceIte]; rfl) ?_ | refine bA ?_ | refine nl hKF ?_ | refine sq ?_ | refine rg fun KF hKF => ?_ | refine ct rfl ?_ | refine rt ?_ | dsimp only
  refine rz trivial ?_
  exact ⟨rfl, Ext0.ext⟩
 have hl1 : l.length = a := by have h7 := h1; simp only [bne_eq_false_iff_eq] at h7; omega
 have e0 : pathB a b l = okTo b l l.length := by simp [pathB, hl1]; omega
 rw [e0]
 repeat first | refine oy ?_ | refine mI ?_ | refine mB ?_ | refine mv ?_ | refine fd ?_ | refine Fo.ld rfl rfl ?_ | refine bn rfl rfl rfl (by simp only [h0, h1]; rfl) ?_ | refine fB ?_ | refine ln (by simp only [↓nrmL, nrmK, qe, ↓reduceIte]; rfl) ?_ | refine bA ?_ | refine nl hKF ?_ | refine sq ?_ | refine rg fun KF hKF => ?_ | refine cf rfl ?_ | refine sk ?_ | refine Wp.block ?_ | dsimp only
 refine Wp.loopS [4, 5, 6, 19, 20, 21, 22, 23, 24, 25, 26, 27, 28, 29, 30, 31, 32, 33, 34, 35, 36, 37, 38, 39, 40, 41, 42, 43, 44, 45, 46, 47, 48, 49, 50, 51, 52, 53, 54] (fun x : Nat => [(19, .int .i64 x)]) (fun H3 x H2 => x ≤ l.length ∧ okTo b l x = true ∧ Ext0 H3 H2 ∧ H2 = H3) (fun x => l.length - x) 0 rfl (fun _ => rfl) ⟨rfl, trivial⟩ ⟨Nat.zero_le _, rfl, inferInstance, rfl⟩ (by unfold fuel0 at hn; omega) ?_
 rintro x g2 H2 ⟨hx, hok, _, rfl⟩
 simp only [↓nrmL, nrmZ, qe, ↓reduceIte, qz, qn, qq]
 cases hc : decide ((x : Int) < ((l.length : Nat) : Int))
 ·have hxl : x = l.length := by have := of_decide_eq_false hc; omega
  subst hxl
  rw [hok]
  repeat first | refine mB ?_ | refine bn rfl rfl rfl (by simp only [hc]; rfl) ?_ | refine nl hKF ?_ | refine sq ?_ | refine rg fun KF hKF => ?_ | refine cf rfl ?_ | refine rt ?_ | refine xi ?_ | dsimp only
  refine rz trivial ?_
  exact ⟨rfl, Ext0.ext⟩
 have hxl : x < l.length := by have := of_decide_eq_true hc; omega
 have hw1 := wa1 (a := x) (by omega)
 cases h2 : decide (l[x] < 0)
 rotate_left
 ·rw [okTo_bad (x := x) (n := l.length) (by simp only [okAt, getD_at hxl]; have := of_decide_eq_true h2; rw [decide_eq_false (by omega)]; rfl) hxl]
  repeat first | refine ox ?_ | refine mI ?_ | refine mB ?_ | refine bn rfl rfl rfl (by simp only [hc, h2]; rfl) ?_ | refine tB ?_ | (refine Fo.idx (by simp only [↓nrmL, nrmK, qe, ↓reduceIte]; rfl) rfl ?_ (by simp only [↓nrmL, nrmZ, qe, ↓reduceIte, qz, qn, qq, hc, h2]; rfl) ?_; (focus omega)) | (refine Fo.ldI rfl ?_ rfl ?_; (focus omega)) | refine nl hKF ?_ | refine sq ?_ | refine rg fun KF hKF => ?_ | refine ct rfl ?_ | refine sk ?_ | refine rt ?_ | refine Wp.block ?_ | dsimp only
  refine rz trivial ?_
  exact ⟨rfl, Ext0.ext⟩
 cases h3 : decide (l[x] ≥ (b : Int))
 rotate_left
 ·rw [okTo_bad (x := x) (n := l.length) (by simp only [okAt, getD_at hxl]; have := of_decide_eq_true h3; rw [decide_eq_false (p := l[x] < (b : Int)) (by omega), Bool.and_false]; rfl) hxl]
  repeat first | refine oy ?_ | refine mI ?_ | refine mB ?_ | refine fd ?_ | refine Fo.ld rfl rfl ?_ | refine bn rfl rfl rfl (by simp only [hc, h2, h3]; rfl) ?_ | refine fB ?_ | (refine Fo.idx (by simp only [↓nrmL, nrmK, qe, ↓reduceIte]; rfl) rfl ?_ (by simp only [↓nrmL, nrmZ, qe, ↓reduceIte, qz, qn, qq, hc, h2, h3]; rfl) ?_; (focus omega)) | (refine Fo.ldI rfl ?_ rfl ?_; (focus omega)) | refine nl hKF ?_ | refine sq ?_ | refine rg fun KF hKF => ?_ | refine ct rfl ?_ | refine sk ?_ | refine rt ?_ | refine Wp.block ?_ | dsimp only
  refine rz trivial ?_
  exact ⟨rfl, Ext0.ext⟩
 have g1 : 0 ≤ l[x] := by have := of_decide_eq_false h2; omega
 have g3 : l[x] < (b : Int) := by have := of_decide_eq_false h3; omega
 cases h4 : decide ((x : Int) > 0)
 ·have hx0 : x = 0 := by have := of_decide_eq_false h4; omega
  subst hx0
  have e2 : okTo b l (0 + 1) = true := by rw [okTo_succ, hok, okAt, getD_at hxl, decide_eq_true g1, decide_eq_true g3]; rfl
  repeat first | refine oy ?_ | refine ox ?_ | refine Fo.noU rfl ?_ | refine mI ?_ | refine mB ?_ | refine fd ?_ | refine Fo.ld rfl rfl ?_ | refine bn rfl rfl rfl (by simp only [hc, h2, h3, h4]; rfl) ?_ | refine b0 ?_ | refine fB ?_ | (refine Fo.idx (by simp only [↓nrmL, nrmK, qe, ↓reduceIte]; rfl) rfl ?_ (by simp only [↓nrmL, nrmZ, qe, ↓reduceIte, qz, qn, qq, hc, h2, h3, h4]; rfl) ?_; (focus omega)) | (refine Fo.ldI rfl ?_ rfl ?_; (focus omega)) | refine nl hKF ?_ | refine sq ?_ | refine rg fun KF hKF => ?_ | refine ct rfl ?_ | refine cf rfl ?_ | refine sk ?_ | refine Wp.block ?_ | dsimp only
  refine ⟨0 + 1, by omega, ⟨by simp only [↓nrmL, nrmZ, qe, ↓reduceIte, qz, qn, qq]; rw [hw1], trivial⟩, hxl, e2, inferInstance, rfl⟩
 have hx0 : 0 < x := by have := of_decide_eq_true h4; omega
 have hw2 := ws1 (a := x) hx0 (by omega)
 have hxm : x - 1 < l.length := by omega
 obtain ⟨m1, m2⟩ := okTo_range hok (x := x - 1) (by omega) hxm
 have hw3 : IntKind.i64.wrap (l[x - 1] - 1) = l[x - 1] - 1 := w64 (by omega)
 have hw4 : IntKind.i64.wrap (l[x - 1] + 1) = l[x - 1] + 1 := w64 (by omega)
 cases h5 : decide (l[x] < l[x - 1] - 1)
 rotate_left
 ·rw [okTo_bad (x := x) (n := l.length) (by
   have h5 := of_decide_eq_true h5
   simp only [okAt, getD_at hxl, getD_at hxm]
   rw [decide_eq_false (p := l[x - 1] - 1 ≤ l[x]) (by omega), Bool.false_and, Bool.or_false, beq_eq_false_iff_ne.2 (by omega), Bool.and_false]) hxl]
  repeat first | refine oy ?_ | refine ox ?_ | refine mI ?_ | refine mB ?_ | refine mv ?_ | refine fd ?_ | refine Fo.ld rfl rfl ?_ | refine bn rfl rfl rfl (by simp only [hc, h2, h3, h4, hw2, hw3, hw4, h5]; rfl) ?_ | refine tB ?_ | refine fB ?_ | (refine Fo.idx (by simp only [↓nrmL, nrmK, qe, ↓reduceIte]; rfl) rfl ?_ (by simp only [↓nrmL, nrmZ, qe, ↓reduceIte, qz, qn, qq, hc, h2, h3, h4, hw2, hw3, hw4, h5]; rfl) ?_; (focus omega)) | (refine Fo.ldI rfl ?_ rfl ?_; (focus omega)) | refine nl hKF ?_ | refine sq ?_ | refine rg fun KF hKF => ?_ | refine ct rfl ?_ | refine cf rfl ?_ | refine sk ?_ | refine rt ?_ | refine Wp.block ?_ | dsimp only
  refine rz trivial ?_
  exact ⟨rfl, Ext0.ext⟩
 cases h6 : decide (l[x] > l[x - 1] + 1)
 rotate_left
 ·rw [okTo_bad (x := x) (n := l.length) (by
   have h6 := of_decide_eq_true h6
   simp only [okAt, getD_at hxl, getD_at hxm]
   rw [decide_eq_false (p := l[x] ≤ l[x - 1] + 1) (by omega), Bool.and_false, Bool.or_false, beq_eq_false_iff_ne.2 (by omega), Bool.and_false]) hxl]
  repeat first | refine oy ?_ | refine mI ?_ | refine mB ?_ | refine mv ?_ | refine fd ?_ | refine Fo.ld rfl rfl ?_ | refine bn rfl rfl rfl (by simp only [hc, h2, h3, h4, hw2, hw3, hw4, h5, h6]; rfl) ?_ | refine tB ?_ | refine fB ?_ | (refine Fo.idx (by simp only [↓nrmL, nrmK, qe, ↓reduceIte]; rfl) rfl ?_ (by simp only [↓nrmL, nrmZ, qe, ↓reduceIte, qz, qn, qq, hc, h2, h3, h4, hw2, hw3, hw4, h5, h6]; rfl) ?_; (focus omega)) | (refine Fo.ldI rfl ?_ rfl ?_; (focus omega)) | refine nl hKF ?_ | refine sq ?_ | refine rg fun KF hKF => ?_ | refine ct rfl ?_ | refine cf rfl ?_ | refine sk ?_ | refine rt ?_ | refine Wp.block ?_ | dsimp only
  refine rz trivial ?_
  exact ⟨rfl, Ext0.ext⟩
 have e2 : okTo b l (x + 1) = true := by
  have h5 := of_decide_eq_false h5
  have h6 := of_decide_eq_false h6
  rw [okTo_succ, hok, okAt, getD_at hxl, getD_at hxm, decide_eq_true g1, decide_eq_true g3, decide_eq_true (p := l[x - 1] - 1 ≤ l[x]) (by omega), decide_eq_true (p := l[x] ≤ l[x - 1] + 1) (by omega)]
  simp
 repeat first | refine oy ?_ | refine mI ?_ | refine mB ?_ | refine mv ?_ | refine fd ?_ | refine Fo.ld rfl rfl ?_ | refine bn rfl rfl rfl (by simp only [hc, h2, h3, h4, hw2, hw3, hw4, h5, h6]; rfl) ?_ | refine b0 ?_ | refine tB ?_ | refine fB ?_ | (refine Fo.idx (by simp only [↓nrmL, nrmK, qe, ↓reduceIte]; rfl) rfl ?_ (by simp only [↓nrmL, nrmZ, qe, ↓reduceIte, qz, qn, qq, hc, h2, h3, h4, hw2, hw3, hw4, h5, h6]; rfl) ?_; (focus omega)) | (refine Fo.ldI rfl ?_ rfl ?_; (focus omega)) | refine nl hKF ?_ | refine sq ?_ | refine rg fun KF hKF => ?_ | refine ct rfl ?_ | refine cf rfl ?_ | refine sk ?_ | refine Wp.block ?_ | dsimp only
 refine ⟨x + 1, by omega, ⟨by simp only [↓nrmL, nrmZ, qe, ↓reduceIte, qz, qn, qq]; rw [hw1], trivial⟩, hxl, e2, inferInstance, rfl⟩⟩
def belowTo (l m : List Int) (x : Nat) : Bool := (List.range x).all fun i => decide (l.getD i 0 < m.getD i 0)
def aboveB (l m : List Int) : Bool := belowTo l m l.length
class LenLe (l m : List Int) : Prop where
 le : l.length ≤ m.length
 sm : l.length ≤ 999999
instance K_above {p q : AVal} {H : AHeap} {l m : List Int} [hp : IntsI H p l] [hq : IntsI H q m] [hl : LenLe l m] : PureCon ext prog 101 [p, q] H 1 (.bool (aboveB l m)) := ⟨by
 refine con_of (show prog 101 = some c101 from rfl) rfl rfl fun n hn => ?_
 have hlm := hl.le
 have hsm := hl.sm
 repeat first | refine mI ?_ | refine mB ?_ | refine mv ?_ | refine ln (by simp only [↓nrmL, nrmK, qe, ↓reduceIte]; rfl) ?_ | refine nl hKF ?_ | refine sq ?_ | refine rg fun KF hKF => ?_ | refine Wp.block ?_ | dsimp only
 refine Wp.loopS [4, 5, 8, 9, 10, 11, 12, 13, 14, 15, 16, 17, 18, 19, 20] (fun x : Nat => [(8, .int .i64 x)]) (fun H3 x H2 => x ≤ l.length ∧ belowTo l m x = true ∧ H2 = H3) (fun x => l.length - x) 0 rfl (fun _ => rfl) ⟨rfl, trivial⟩ ⟨Nat.zero_le _, rfl, rfl⟩ (by unfold fuel0 at hn; omega) ?_
 rintro x g2 H2 ⟨hx, hok, rfl⟩
 simp only [↓nrmL, nrmZ, qe, ↓reduceIte, qz, qn, qq]
 cases hc : decide ((x : Int) < ((l.length : Nat) : Int))
 ·have hxl : x = l.length := by have := of_decide_eq_false hc; omega
  have e1 : aboveB l m = true := by rw [aboveB, ← hxl, hok]
  rw [e1]
  repeat first | refine mB ?_ | refine bn rfl rfl rfl (by simp only [hc]; rfl) ?_ | refine nl hKF ?_ | refine sq ?_ | refine rg fun KF hKF => ?_ | refine cf rfl ?_ | refine rt ?_ | refine xi ?_ | dsimp only
  refine rz trivial ?_
  exact ⟨rfl, Ext0.ext⟩
 have hxl : x < l.length := by have := of_decide_eq_true hc; omega
 have hxm : x < m.length := by omega
 have hw1 := wa1 (a := x) (by omega)
 cases h2 : decide (l[x] ≥ m[x])
 ·have e2 : belowTo l m (x + 1) = true := by
   have := of_decide_eq_false h2
   have e3 : belowTo l m (x + 1) = (belowTo l m x && decide (l.getD x 0 < m.getD x 0)) := by simp [belowTo, List.range_succ, List.all_append]
   rw [e3, hok, getD_at hxl, getD_at hxm, decide_eq_true (by omega)]; rfl
  repeat first | refine mI ?_ | refine mv ?_ | refine bn rfl rfl rfl (by simp only [hc, h2]; rfl) ?_ | refine b0 ?_ | (refine Fo.idx (by simp only [↓nrmL, nrmK, qe, ↓reduceIte]; rfl) rfl ?_ (by simp only [↓nrmL, nrmZ, qe, ↓reduceIte, qz, qn, qq, hc, h2]; rfl) ?_; (focus omega)) | (refine Fo.ldI rfl ?_ rfl ?_; (focus omega)) | refine nl hKF ?_ | refine sq ?_ | refine rg fun KF hKF => ?_ | refine Fr.quiet rfl rfl fun KF hKF => ?_ | refine ct rfl ?_ | refine cf rfl ?_ | refine sk ?_ | refine Wp.block ?_ | dsimp only
  refine ⟨x + 1, by omega, ⟨by simp only [↓nrmL, nrmZ, qe, ↓reduceIte, qz, qn, qq]; rw [hw1], trivial⟩, hxl, e2, rfl⟩
 ·have e2 : aboveB l m = false := by
   have h2 := of_decide_eq_true h2
   cases h3 : aboveB l m with
   | false => rfl
   | true =>
    have := List.all_eq_true.1 h3 x (List.mem_range.2 hxl)
    rw [getD_at hxl, getD_at hxm, decide_eq_true_eq] at this
    omega
  rw [e2]
  repeat first | refine mI ?_ | refine mB ?_ | refine mv ?_ | refine bn rfl rfl rfl (by simp only [hc, h2]; rfl) ?_ | (refine Fo.idx (by simp only [↓nrmL, nrmK, qe, ↓reduceIte]; rfl) rfl ?_ (by simp only [↓nrmL, nrmZ, qe, ↓reduceIte, qz, qn, qq, hc, h2]; rfl) ?_; (focus omega)) | (refine Fo.ldI rfl ?_ rfl ?_; (focus omega)) | refine nl hKF ?_ | refine sq ?_ | refine rg fun KF hKF => ?_ | refine Fr.quiet rfl rfl fun KF hKF => ?_ | refine ct rfl ?_ | refine sk ?_ | refine rt ?_ | refine Wp.block ?_ | dsimp only
  refine rz trivial ?_
  exact ⟨rfl, Ext0.ext⟩⟩
end Go.Am


namespace Go.Am
open Go
open Nat renaming reduceEqDiff → qe, reduceAdd → qz
open Int renaming reduceBEq → qn, reduceBNe → qq
attribute [local irreducible] Wp WpO WpX WpE
instance K_bCount {p : AVal} {H : AHeap} {l : List UInt8} {k : Int} {b : UInt8} [hp : BytesI H p l] [hb : IsU8 k b] : PureCon ext prog 111 [p, .int .u8 k] H 0 (.int .i64 (l.count b : Nat)) := ⟨fun n hn => by
 obtain ⟨m, rfl⟩ : ∃ m, n = m + 1 := ⟨n - 1, by unfold fuel0 at hn; omega⟩
 have e1 : prog 111 = some ⟨0, .ext 0, []⟩ := rfl
 refine ⟨_, H, ?_, rfl, Ext.refl H⟩
 rw [call_ext e1]
 have hb' := hb.eq
 subst hb'
 show aBytesFn (fun l => .int .i64 (Lib.countByte l (UInt8.ofNat ((b.toNat : Int)).toNat))) p H = _
 rw [aBytesFn_at]
 simp [Lib.countByte]⟩
instance K_bytesCount {p q : AVal} {H : AHeap} {l : List UInt8} {b : UInt8} [hp : BytesI H p l] [hq : BytesI H q [b]] : PureCon ext prog 91 [p, q] H 1 (.int .i64 (l.count b : Nat)) := ⟨by
 refine con_of (show prog 91 = some c91 from rfl) rfl rfl fun n hn => ?_
 have e0 : [b].length = 1 := rfl
 repeat first | refine mI ?_ | refine mv ?_ | refine b0 ?_ | (refine Fo.pcall (v' := ?_) hn rfl (by simp only [↓nrmL, nrmZ, qe, ↓reduceIte, qz, qn, qq, e0, List.map]; rfl) rfl ?hv fun _ _ => ?_; case hv => rfl) | (refine Fo.len (v := ?_) (by simp only [↓nrmL, nrmK, qe, ↓reduceIte]; rfl) ?hv ?_; case hv => (simp only [e0]; rfl)) | (refine Fo.idx (by simp only [↓nrmL, nrmK, qe, ↓reduceIte]; rfl) rfl ?_ (by simp only [↓nrmL, nrmZ, qe, ↓reduceIte, qz, qn, qq, e0]; rfl) ?_; (focus omega)) | (refine Fo.ldB rfl ?_ rfl ?_; (focus omega)) | refine nl hKF ?_ | refine sq ?_ | refine rg fun KF hKF => ?_ | refine ct rfl ?_ | refine cf rfl ?_ | refine sk ?_ | refine rt ?_ | dsimp only
 refine rz trivial ?_
 exact ⟨rfl, Ext0.ext⟩⟩
end Go.Am


namespace Go.Am
open Go
open Nat renaming reduceEqDiff → qe, reduceAdd → qz
open Int renaming reduceBEq → qn, reduceBNe → qq
attribute [local irreducible] Wp WpO WpX WpE
instance K_count {p : AVal} {H : AHeap} {w h : Int} {l : List UInt8} [hp : BytesI H p l] : PureCon ext prog 86 [.agg [.int .i64 w, .int .i64 h, p]] H 2 (.int .i64 (l.count 1 : Nat)) := ⟨by
 refine con_of (show prog 86 = some c86 from rfl) rfl rfl fun n hn => ?_
 haveI := hp.one
 repeat first | refine mI ?_ | refine fd ?_ | refine Fo.ld rfl rfl ?_ | (refine Fo.pcall (v' := ?_) hn rfl (by simp only [↓nrmL, nrmZ, qe, ↓reduceIte, qz, qn, qq, List.map]; rfl) rfl ?hv fun _ _ => ?_; case hv => rfl) | refine bA ?_ | refine Fo.bslice rfl (by simp only [↓nrmL, nrmZ, qe, ↓reduceIte, qz, qn, qq]; rfl) ?_ | refine nl hKF ?_ | refine sq ?_ | refine rg fun KF hKF => ?_ | refine rt ?_ | dsimp only
 refine rz trivial ?_
 exact ⟨rfl, Ext0.ext⟩⟩
def Img.err (g : Img) : Int := bif g.sized then bif pxOk g.px then 0 else 3 else 2
instance K_Check {p : AVal} {H : AHeap} {w h : Int} {l : List UInt8} [hp : BytesI H p l] : PureCon ext prog 50 [.agg [.int .i64 w, .int .i64 h, p]] H 3 (.int .i64 (Img.err ⟨w, h, l⟩)) := ⟨by
 refine con_of (show prog 50 = some c50 from rfl) rfl rfl fun n hn => ?_
 haveI := hp.one
 unfold Img.err Img.sized sizedB
 cases h1 : (sideB w && sideB h && ((l.length : Nat) == IntKind.i64.wrap (w * h)))
 ·skip
  simp only [h1]
  repeat first | refine mI ?_ | refine fd ?_ | refine Fo.ld rfl rfl ?_ | (refine Fo.pcall (v' := ?_) hn rfl (by simp only [↓nrmL, nrmZ, qe, ↓reduceIte, qz, qn, qq, h1, List.map]; rfl) rfl ?hv fun _ _ => ?_; case hv => (simp only [↓nrmL, nrmZ, qe, ↓reduceIte, qz, qn, qq, h1]; rfl)) | refine ln (by simp only [↓nrmL, nrmK, qe, ↓reduceIte]; rfl) ?_ | refine bA ?_ | refine Fo.now rfl rfl (by simp only [↓nrmL, nrmZ, qe, ↓reduceIte, qz, qn, qq, h1]; rfl) ?_ | refine nl hKF ?_ | refine sq ?_ | refine rg fun KF hKF => ?_ | refine ct rfl ?_ | refine rt ?_ | dsimp only
  refine rz trivial ?_
  exact ⟨rfl, Ext0.ext⟩
 ·obtain ⟨a, b, rfl, rfl, ha, hb, hl⟩ := sized_nat (n := l.length) h1
  have hm : a * b ≤ 640 * 640 := Nat.mul_le_mul ha hb
  have hc0 := count_le l 0
  have hc1 := count_le l 1
  have hw := wa (a := l.count 0) (b := l.count 1) (by omega)
  have h2 : (((l.count 0 + l.count 1 : Nat) : Int) != ((l.length : Nat) : Int)) = !(pxOk l) := by
   have := count01 l
   cases hp : pxOk l
   ·have : l.count 0 + l.count 1 ≠ l.length := fun e => by rw [this] at e; rw [hp] at e; cases e
    simp; omega
   ·have := this.2 hp
    simp [this]
  simp only [h1]
  repeat first | refine mI ?_ | refine fd ?_ | refine Fo.ld rfl rfl ?_ | (refine Fo.pcall (v' := ?_) hn rfl (by simp only [↓nrmL, nrmZ, qe, ↓reduceIte, qz, qn, qq, h1, List.map]; rfl) rfl ?hv fun _ _ => ?_; case hv => (simp only [↓nrmL, nrmZ, qe, ↓reduceIte, qz, qn, qq, h1]; rfl)) | refine ln (by simp only [↓nrmL, nrmK, qe, ↓reduceIte]; rfl) ?_ | refine bA ?_ | refine Fo.now rfl rfl (by simp only [↓nrmL, nrmZ, qe, ↓reduceIte, qz, qn, qq, h1]; rfl) ?_ | refine nl hKF ?_ | refine sq ?_ | refine rg fun KF hKF => ?_ | refine cf rfl ?_ | refine sk ?_ | dsimp only
  refine Fr.dregionE [.row [.int .u8 0] true (2 * 5)] ?_ fun KF hKF => ?_
  ·skip
   refine oracle_pre rfl rfl rfl rfl ?_; (try simp only [↓nrmL, nrmZ, qe, ↓reduceIte, qz, qn, qq])
   refine oracle_pre rfl rfl rfl (exec_ld rfl rfl) ?_; (try simp only [↓nrmL, nrmZ, qe, ↓reduceIte, qz, qn, qq])
   refine oracle_made rfl rfl rfl ?_; (try simp only [↓nrmL, nrmZ, qe, ↓reduceIte, qz, qn, qq])
   exact oracle_none _ _ _ _ rfl
  simp only [pushAll]
  simp only [↓nrmL, nrmZ, qe, ↓reduceIte, qz, qn, qq, hw]
  repeat first | refine Er rfl (exec_ld rfl rfl) rfl ?_ | refine Er rfl (exec_ldN rfl rfl (by simp only [↓nrmL, nrmZ, qe, ↓reduceIte, qz, qn, qq, hw]; rfl)) rfl ?_ | refine Fe.pure rfl (exec_lenP (by (try simp only [↓nrmL, nrmZ, qe, ↓reduceIte, qz, qn, qq, hw]); rfl)) rfl ?_ | refine Fe.pure rfl rfl (by simp only [↓nrmL, nrmZ, qe, ↓reduceIte, qz, qn, qq, hw]; rfl) ?_ | refine Fe.pure rfl rfl rfl ?_ | refine Em rfl rfl ghost_of rfl ?_ | (refine Fe.pcall (v' := ?_) rfl hn rfl (by simp only [↓nrmL, nrmZ, qe, ↓reduceIte, qz, qn, qq, hw, List.map]; rfl) rfl ?hv fun _ _ => ar ?_; case hv => rfl) | refine WpE.nil (hKF _ _ ?_)
  cases hp2 : pxOk l
  ·rw [hp2] at h2
   simp only [hw, h2]
   refine ct rfl ?_
   refine sq ?_
   refine rg fun KF hKF => ?_
   refine mI ?_
   refine nl hKF ?_
   refine rt ?_
   dsimp only
   refine rz trivial ?_
   exact ⟨rfl, Ext0.ext⟩
  ·rw [hp2] at h2
   simp only [hw, h2]
   refine cf rfl ?_
   refine sk ?_
   refine sq ?_
   refine rg fun KF hKF => ?_
   refine mI ?_
   refine nl hKF ?_
   refine rt ?_
   dsimp only
   refine rz trivial ?_
   exact ⟨rfl, Ext0.ext⟩⟩
end Go.Am


namespace Go.Am
open Go
open Nat renaming reduceEqDiff → qe, reduceAdd → qz
open Int renaming reduceBEq → qn, reduceBNe → qq
attribute [local irreducible] Wp WpO WpX WpE
theorem K_Clone {H : AHeap} {p : AVal} {l : List UInt8} [hp : BytesI H p l] (hl : l.length < 2 ^ 40) : Con ext prog 1 109 [p] H fun v H' => NewBytes H H' v l := by
 refine con_of (show prog 109 = some c109 from rfl) rfl rfl fun n hn => ?_
 rcases hp.it with ⟨rfl, h0, _⟩ | ⟨r, off, cap, row, rw, e, rfl, hr, hg, hle, hc, _⟩
 ·have : l = [] := List.eq_nil_of_length_eq_zero h0
  subst this
  repeat first | refine mN ?_ | refine Fo.now rfl rfl (by simp only [↓nrmL, nrmZ, qe, ↓reduceIte, qz, qn, qq]; rfl) ?_ | refine nl hKF ?_ | refine sq ?_ | refine rg fun KF hKF => ?_ | refine ct rfl ?_ | refine rt ?_ | dsimp only
  refine rz trivial ?_
  exact (show NewBytes H H .nslice [] from ⟨inferInstance, ⟨fun _ _ _ _ _ e => by cases e⟩, ⟨fun _ _ _ _ _ e => by cases e⟩, Ext0.ext⟩)
 ·skip
  repeat first | refine mN ?_ | refine mv ?_ | refine Fo.bslice rfl rfl ?_ | refine Fo.now rfl rfl (by simp only [↓nrmL, nrmZ, qe, ↓reduceIte, qz, qn, qq]; rfl) ?_ | refine nl hKF ?_ | refine sq ?_ | refine rg fun KF hKF => ?_ | refine cf rfl ?_ | refine sk ?_
  refine WpO.do (WpX.appendE rfl (by simp only [↓nrmL, nrmZ, qe, ↓reduceIte, qz, qn, qq, List.map] <;> rfl) hl fun v H1 h1 h2 h3 h4 => ?_)
  refine mv ?_
  refine nl hKF ?_
  refine rt ?_
  dsimp only
  refine rz trivial ?_
  refine (show NewBytes H H1 v l from ⟨h1, ⟨fun r' _ _ _ _ e => ?_⟩, h3, Ext0.ext⟩)
  rcases h2 _ _ _ _ _ e with rfl | h5
  ·exact Nat.le_refl _
  ·exact Nat.le_trans (Nat.le_succ _) h5
instance K_Count {p : AVal} {H : AHeap} {w h : Int} {l : List UInt8} [hp : BytesI H p l] : PureCon ext prog 39 [.agg [.int .i64 w, .int .i64 h, p]] H 4 (.tuple [.int .i64 (bif (Img.err ⟨w, h, l⟩ == 0) then (l.count 1 : Nat) else 0), .int .i64 (Img.err ⟨w, h, l⟩)]) := ⟨by
 refine con_of (show prog 39 = some c39 from rfl) rfl rfl fun n hn => ?_
 haveI := hp.one
 generalize he : Img.err ⟨w, h, l⟩ = e
 cases h0 : (e == 0)
 ·skip
  repeat first | refine mI ?_ | refine Fo.ldN rfl rfl (by simp only [↓nrmL, nrmZ, qe, ↓reduceIte, qz, qn, qq, h0, he, bne]; rfl) ?_ | refine bn rfl rfl rfl (by simp only [h0, he, bne]; rfl) ?_ | (refine Fo.pcall (v' := ?_) hn rfl (by simp only [↓nrmL, nrmZ, qe, ↓reduceIte, qz, qn, qq, h0, he, bne, List.map]; rfl) rfl ?hv fun _ _ => ?_; case hv => (simp only [h0, he, bne]; rfl)) | refine bA ?_ | refine nl hKF ?_ | refine sq ?_ | refine rg fun KF hKF => ?_ | refine ct rfl ?_ | refine rt ?_ | dsimp only
  refine rz trivial ?_
  exact ⟨rfl, Ext0.ext⟩
 ·have : e = 0 := by simpa using h0
  subst this
  repeat first | refine mI ?_ | refine Fo.ldN rfl rfl (by simp only [↓nrmL, nrmZ, qe, ↓reduceIte, qz, qn, qq, h0, he, bne]; rfl) ?_ | refine bn rfl rfl rfl (by simp only [h0, he, bne]; rfl) ?_ | (refine Fo.pcall (v' := ?_) hn rfl (by simp only [↓nrmL, nrmZ, qe, ↓reduceIte, qz, qn, qq, h0, he, bne, List.map]; rfl) rfl ?hv fun _ _ => ?_; case hv => (simp only [h0, he, bne]; rfl)) | (refine Fo.pcall (v' := ?_) hn rfl (by simp only [↓nrmL, nrmZ, qe, ↓reduceIte, qz, qn, qq, h0, he, bne, List.map]; rfl) rfl ?hv fun _ _ => ?_; case hv => rfl) | refine bA ?_ | refine nl hKF ?_ | refine sq ?_ | refine rg fun KF hKF => ?_ | refine cf rfl ?_ | refine sk ?_ | refine rt ?_ | dsimp only
  refine rz trivial ?_
  exact ⟨rfl, Ext0.ext⟩⟩
theorem K_New {w h : Int} {H : AHeap} : Con ext prog 3 81 [.int .i64 w, .int .i64 h] H fun v H' => InkRes H H' v (bif sideB w && sideB h then (⟨w, h, List.replicate (w.toNat * h.toNat) 0⟩, 0) else (.zero, 2)) := by
 refine con_of (show prog 81 = some c81 from rfl) rfl rfl fun n hn => ?_
 cases h1 : sideB w
 ·skip
  simp only [h1, Bool.false_and, cond_false]
  repeat first | refine ox ?_ | refine mI ?_ | refine mB ?_ | refine tB ?_ | (refine Fo.pcall (v' := ?_) hn rfl (by simp only [↓nrmL, nrmZ, qe, ↓reduceIte, qz, qn, qq, h1, Bool.false_and, cond_false, List.map]; rfl) rfl ?hv fun _ _ => ?_; case hv => (simp only [h1, Bool.false_and, cond_false]; rfl)) | refine nw ?_ | (refine ob (cs' := ?_) ?hc ?_; case hc => rfl) | refine Fo.now rfl rfl (by simp only [↓nrmL, nrmZ, qe, ↓reduceIte, qz, qn, qq, h1, Bool.false_and, cond_false]; rfl) ?_ | refine so rfl (rfl : _ = AVal.agg _) rfl rfl rfl (by simp only [↓nrmL, nrmZ, qe, ↓reduceIte, qz, qn, qq, h1, Bool.false_and, cond_false]; rfl) ?_ | refine nl hKF ?_ | refine sq ?_ | refine rg fun KF hKF => ?_ | refine ct rfl ?_ | refine rt ?_ | dsimp only
  refine rz trivial ?_
  exact ⟨_, rfl, newZero⟩
 cases h2 : sideB h
 ·skip
  simp only [h1, h2, Bool.false_and, Bool.and_false, cond_false]
  repeat first | refine oy ?_ | refine mI ?_ | refine mB ?_ | refine fB ?_ | (refine Fo.pcall (v' := ?_) hn rfl (by simp only [↓nrmL, nrmZ, qe, ↓reduceIte, qz, qn, qq, h1, h2, Bool.false_and, Bool.and_false, cond_false, List.map]; rfl) rfl ?hv fun _ _ => ?_; case hv => (simp only [h1, h2, Bool.false_and, Bool.and_false, cond_false]; rfl)) | refine nw ?_ | (refine ob (cs' := ?_) ?hc ?_; case hc => rfl) | refine Fo.now rfl rfl (by simp only [↓nrmL, nrmZ, qe, ↓reduceIte, qz, qn, qq, h1, h2, Bool.false_and, Bool.and_false, cond_false]; rfl) ?_ | refine so rfl (rfl : _ = AVal.agg _) rfl rfl rfl (by simp only [↓nrmL, nrmZ, qe, ↓reduceIte, qz, qn, qq, h1, h2, Bool.false_and, Bool.and_false, cond_false]; rfl) ?_ | refine nl hKF ?_ | refine sq ?_ | refine rg fun KF hKF => ?_ | refine ct rfl ?_ | refine rt ?_ | dsimp only
  refine rz trivial ?_
  exact ⟨_, rfl, newZero⟩
 ·have hw : 0 ≤ w ∧ w ≤ 640 := by simpa [sideB] using h1
  have hh : 0 ≤ h ∧ h ≤ 640 := by simpa [sideB] using h2
  obtain ⟨a, rfl⟩ : ∃ a : Nat, w = a := ⟨w.toNat, by omega⟩
  obtain ⟨b, rfl⟩ : ∃ b : Nat, h = b := ⟨h.toNat, by omega⟩
  simp only [↓nrmL, nrmZ, qe, ↓reduceIte, qz, qn, qq, h1, h2]
  repeat first | refine oy ?_ | refine mI ?_ | refine mB ?_ | refine fB ?_ | (refine Fo.pcall (v' := ?_) hn rfl (by simp only [↓nrmL, nrmZ, qe, ↓reduceIte, qz, qn, qq, h1, h2, List.map]; rfl) rfl ?hv fun _ _ => ?_; case hv => (simp only [h1, h2]; rfl)) | refine nw ?_ | refine Fo.now rfl rfl (by simp only [↓nrmL, nrmZ, qe, ↓reduceIte, qz, qn, qq, h1, h2]; rfl) ?_ | refine nl hKF ?_ | refine sq ?_ | refine rg fun KF hKF => ?_ | refine cf rfl ?_ | refine sk ?_
  refine WpO.do (WpX.conD hn rfl rfl (by simp only [↓nrmL, nrmZ, qe, ↓reduceIte, qz, qn, qq, List.map] <;> rfl) (K_blank (w := a) (h := b) (by omega) (by omega)) fun v H1 h5 => ?_)
  obtain ⟨q, e2, hq, hf, hw3, hx⟩ := h5
  subst e2
  haveI : ExtI _ H1 := ⟨hx⟩
  haveI := hq.one
  refine so rfl (rfl : _ = AVal.agg _) rfl rfl rfl (by simp only [↓nrmL, nrmZ, qe, ↓reduceIte, qz, qn, qq]; rfl) ?_
  refine mI ?_
  refine nl hKF ?_
  refine rt ?_
  dsimp only
  refine rz trivial ?_
  exact ⟨_, rfl, q, rfl, inferInstance, hf.weak, inferInstance, Ext0.ext⟩
end Go.Am


namespace Go.Am
open Go
attribute [local irreducible] Wp WpO WpX WpE
theorem Img.ok {g : Img} (h : (g.err == 0) = true) : g.sized = true ∧ pxOk g.px = true := by
 unfold Img.err at h
 cases h1 : g.sized
 ·rw [h1] at h; cases h
 ·cases h2 : pxOk g.px
  ·rw [h1, h2] at h; cases h
  ·exact ⟨rfl, rfl⟩
end Go.Am


namespace Go.Am
open Go
attribute [local irreducible] Wp WpO WpX WpE
class PixFn (F : FuncId) (op : outParam (UInt8 → UInt8 → UInt8)) : Prop where
 con : ∀ (a b : UInt8) (H : AHeap), PureCon ext prog F [.int .u8 (a.toNat : Int), .int .u8 (b.toNat : Int)] H 1 (.int .u8 ((op a b).toNat : Int))
instance {F : FuncId} {op : UInt8 → UInt8 → UInt8} {a b : UInt8} {H : AHeap} [h : PixFn F op] : PureCon ext prog F [.int .u8 (a.toNat : Int), .int .u8 (b.toNat : Int)] H 1 (.int .u8 ((op a b).toNat : Int)) := h.con a b H
end Go.Am


namespace Go.Am
open Go
open Nat renaming reduceEqDiff → qe, reduceAdd → qz
open Int renaming reduceBEq → qn, reduceBNe → qq
attribute [local irreducible] Wp WpO WpX WpE
def inkB (w h : Int) (l : List UInt8) (x y : Int) : Bool := decide (x ≥ 0) && (decide (x < w) && (decide (y ≥ 0) && (decide (y < h) && (l.getD (y * w + x).toNat 0 == 1))))
theorem inkB_nat {a b x y : Nat} {l : List UInt8} (hx : x < a) (hy : y < b) : inkB a b l x y = (l.getD (y * a + x) 0 == 1) := by
 have e : ((y : Int) * (a : Int) + (x : Int)).toNat = y * a + x := by rw [← Int.natCast_mul, ← Int.natCast_add]; rfl
 have h1 : decide ((x : Int) ≥ 0) = true := decide_eq_true (by omega)
 have h2 : decide ((x : Int) < (a : Int)) = true := decide_eq_true (by omega)
 have h3 : decide ((y : Int) ≥ 0) = true := decide_eq_true (by omega)
 have h4 : decide ((y : Int) < (b : Int)) = true := decide_eq_true (by omega)
 simp only [inkB, h1, h2, h3, h4, e, Bool.true_and]
class Fits (w h : Int) (l : List UInt8) : Prop where
 it : sizedB w h l.length = true
theorem u8_one (c : UInt8) : (((c.toNat : Nat) : Int) == 1) = (c == 1) := by
 by_cases h : c = 1
 ·subst h; rfl
 ·have h2 : c.toNat ≠ 1 := fun e => h (UInt8.toNat_inj.1 e)
  have h1 : (c == 1) = false := by simpa using h
  rw [h1]
  simp only [beq_eq_false_iff_ne, ne_eq]
  omega
instance K_ink {p : AVal} {H : AHeap} {w h x y : Int} {l : List UInt8} [hp : BytesI H p l] [hs : Fits w h l] : PureCon ext prog 126 [.agg [.int .i64 w, .int .i64 h, p], .int .i64 x, .int .i64 y] H 1 (.bool (inkB w h l x y)) := ⟨by
 refine con_of (show prog 126 = some c126 from rfl) rfl rfl fun n hn => ?_
 haveI := hp.one
 obtain ⟨a, b, rfl, rfl, ha, hb, hl⟩ := sized_nat hs.it
 have hm : a * b ≤ 640 * 640 := Nat.mul_le_mul ha hb
 cases h1 : decide (x ≥ 0)
 ·have e : inkB a b l x y = false := by simp only [inkB, h1, Bool.false_and]
  rw [e]
  repeat first | refine ox ?_ | refine mI ?_ | refine mB ?_ | refine bn rfl rfl rfl (by simp only [h1]; rfl) ?_ | refine fB ?_ | refine bA ?_ | refine nl hKF ?_ | refine sq ?_ | refine rg fun KF hKF => ?_ | refine rt ?_ | dsimp only
  refine rz trivial ?_
  exact ⟨rfl, Ext0.ext⟩
 cases h2 : decide (x < (a : Int))
 ·have e : inkB a b l x y = false := by simp only [inkB, h1, h2, Bool.false_and, Bool.and_false]
  rw [e]
  repeat first | refine oy ?_ | refine ox ?_ | refine mI ?_ | refine mB ?_ | refine fd ?_ | refine Fo.ld rfl rfl ?_ | refine bn rfl rfl rfl (by simp only [h1, h2]; rfl) ?_ | refine tB ?_ | refine fB ?_ | refine bA ?_ | refine nl hKF ?_ | refine sq ?_ | refine rg fun KF hKF => ?_ | refine rt ?_ | dsimp only
  refine rz trivial ?_
  exact ⟨rfl, Ext0.ext⟩
 cases h3 : decide (y ≥ 0)
 ·have e : inkB a b l x y = false := by simp only [inkB, h1, h2, h3, Bool.false_and, Bool.and_false]
  rw [e]
  repeat first | refine oy ?_ | refine ox ?_ | refine mI ?_ | refine mB ?_ | refine fd ?_ | refine Fo.ld rfl rfl ?_ | refine bn rfl rfl rfl (by simp only [h1, h2, h3]; rfl) ?_ | refine tB ?_ | refine fB ?_ | refine bA ?_ | refine nl hKF ?_ | refine sq ?_ | refine rg fun KF hKF => ?_ | refine rt ?_ | dsimp only
  refine rz trivial ?_
  exact ⟨rfl, Ext0.ext⟩
 cases h4 : decide (y < (b : Int))
 ·have e : inkB a b l x y = false := by simp only [inkB, h1, h2, h3, h4, Bool.false_and, Bool.and_false]
  rw [e]
  repeat first | refine oy ?_ | refine ox ?_ | refine mI ?_ | refine mB ?_ | refine fd ?_ | refine Fo.ld rfl rfl ?_ | refine bn rfl rfl rfl (by simp only [h1, h2, h3, h4]; rfl) ?_ | refine tB ?_ | refine fB ?_ | refine bA ?_ | refine nl hKF ?_ | refine sq ?_ | refine rg fun KF hKF => ?_ | refine rt ?_ | dsimp only
  refine rz trivial ?_
  exact ⟨rfl, Ext0.ext⟩
 obtain ⟨x, rfl⟩ : ∃ k : Nat, x = k := ⟨x.toNat, by have := of_decide_eq_true h1; omega⟩
 obtain ⟨y, rfl⟩ : ∃ k : Nat, y = k := ⟨y.toNat, by have := of_decide_eq_true h3; omega⟩
 have hx : x < a := by have := of_decide_eq_true h2; omega
 have hy : y < b := by have := of_decide_eq_true h4; omega
 have hlt := idx_lt hx hy
 have hil : y * a + x < l.length := by omega
 have h5 : IntKind.i64.wrap ((y : Int) * (a : Int)) = ((y * a : Nat) : Int) := wm (by omega)
 have h6 : IntKind.i64.wrap (((y * a : Nat) : Int) + (x : Int)) = ((y * a + x : Nat) : Int) := wa (by omega)
 have e : inkB a b l x y = (l[y * a + x] == 1) := by rw [inkB_nat hx hy]; simp [hil]
 rw [e]
 repeat first | refine oy ?_ | refine mI ?_ | refine mB ?_ | refine fd ?_ | refine Fo.ld rfl rfl ?_ | refine bn rfl rfl rfl (by simp only [h1, h2, h3, h4, h5, h6, u8_one]; rfl) ?_ | refine tB ?_ | refine bA ?_ | (refine Fo.idx (by simp only [↓nrmL, nrmK, qe, ↓reduceIte]; rfl) rfl ?_ (by simp only [↓nrmL, nrmZ, qe, ↓reduceIte, qz, qn, qq, h1, h2, h3, h4, h5, h6, u8_one]; rfl) ?_; (focus omega)) | (refine Fo.ldB rfl ?_ rfl ?_; (focus omega)) | refine nl hKF ?_ | refine sq ?_ | refine rg fun KF hKF => ?_ | refine rt ?_ | dsimp only
 refine rz trivial ?_
 exact ⟨rfl, Ext0.ext⟩⟩
end Go.Am

namespace Go.Am
open Go
open Nat renaming reduceEqDiff → qe, reduceAdd → qz
open Int renaming reduceBEq → qn, reduceBNe → qq
attribute [local irreducible] Wp WpO WpX WpE
class Rows (H : AHeap) (ps : List AVal) (ls : List (List Int)) : Prop where
 it : ∀ (i : Nat) (h : i < ls.length), ∃ q, ps[i]? = some q ∧ IntsI H q ls[i]
class LinesI (H : AHeap) (p : AVal) (ls : outParam (List (List Int))) : Prop where
 it : ∃ ps : List AVal, SliceAt H p 1 ls.length ps ∧ Rows H ps ls
theorem Rows.ext {H H' : AHeap} {ps : List AVal} {ls : List (List Int)} (h : Rows H ps ls) (x : Ext H H') : Rows H' ps ls := ⟨fun i hi => by
 obtain ⟨q, h1, h2⟩ := h.it i hi
 haveI : ExtI H H' := ⟨x⟩
 exact ⟨q, h1, inferInstance⟩⟩
theorem LinesI.ext {H H' : AHeap} {p : AVal} {ls : List (List Int)} (h : LinesI H p ls) (x : Ext H H') : LinesI H' p ls := by
 obtain ⟨ps, h1, h2⟩ := h.it
 haveI : ExtI H H' := ⟨x⟩
 exact ⟨ps, inferInstance, h2.ext x⟩
instance {H : AHeap} {o : AObj} {p : AVal} {ls : List (List Int)} [h : LinesI H p ls] : LinesI (H.push o) p ls := h.ext ((Ext.refl H).push o)
instance {H H' : AHeap} {p : AVal} {ls : List (List Int)} [x : ExtI H H'] [h : LinesI H p ls] : LinesI H' p ls := h.ext x.ext
def fitAt (a b : Nat) (ls : List (List Int)) (i : Nat) : Bool := pathB a b (ls.getD i []) && (i == 0 || aboveB (ls.getD (i - 1) []) (ls.getD i []))
def fitTo (a b : Nat) (ls : List (List Int)) (x : Nat) : Bool := (List.range x).all (fitAt a b ls)
def fitsB (a b : Nat) (ls : List (List Int)) : Bool := ls.length == 5 && fitTo a b ls 5
theorem fitTo_succ {a b : Nat} {ls : List (List Int)} {x : Nat} : fitTo a b ls (x + 1) = (fitTo a b ls x && fitAt a b ls x) := by simp [fitTo, List.range_succ, List.all_append]
theorem fitTo_bad {a b : Nat} {ls : List (List Int)} {x n : Nat} (h : fitAt a b ls x = false) (hx : x < n) : fitTo a b ls n = false := by
 cases h2 : fitTo a b ls n with
 | false => rfl
 | true =>
  have := List.all_eq_true.1 h2 x (List.mem_range.2 hx)
  rw [h] at this; cases this
theorem getDL_at {ls : List (List Int)} {x : Nat} (h : x < ls.length) : ls.getD x [] = ls[x] := by rw [List.getD_eq_getElem?_getD, List.getElem?_eq_getElem h, Option.getD_some]
theorem fitTo_path {a b : Nat} {ls : List (List Int)} {x n : Nat} (h : fitTo a b ls n = true) (hx : x < n) (hl : x < ls.length) : pathB a b ls[x] = true := by
 have := List.all_eq_true.1 h x (List.mem_range.2 hx)
 simp only [fitAt, Bool.and_eq_true, getDL_at hl] at this
 exact this.1
theorem fitsB_iff {a b : Nat} {ls : List (List Int)} (h : fitsB a b ls = true) : ls.length = 5 ∧ (∀ i (hi : i < ls.length), pathB a b ls[i] = true) := by
 simp only [fitsB, Bool.and_eq_true, beq_iff_eq] at h
 exact ⟨h.1, fun i hi => fitTo_path h.2 (by omega) hi⟩
instance K_fits {a b : Nat} {p q : AVal} {H : AHeap} {g : List UInt8} {ls : List (List Int)} [hp : BytesI H p g] [hq : LinesI H q ls] [ha : Side a] [hb : Side b] : PureCon ext prog 75 [.agg [.int .i64 (a : Int), .int .i64 (b : Int), p], .agg [q]] H 3 (.bool (fitsB a b ls)) := ⟨by
 refine con_of (show prog 75 = some c75 from rfl) rfl rfl fun n hn => ?_
 obtain ⟨ps, hps, hrw⟩ := hq.it
 haveI := hp.one
 haveI := hps.one
 have hal := ha.le
 cases h0 : (((ls.length : Nat) : Int) != 5)
 rotate_left
 ·have e1 : fitsB a b ls = false := by
   have : ls.length ≠ 5 := by intro e; rw [e] at h0; simp at h0
   simp [fitsB, this]
  rw [e1]
  repeat first | refine mB ?_ | refine fd ?_ | refine Fo.ld rfl rfl ?_ | refine bn rfl rfl rfl (by simp only [h0]; rfl) ?_ | refine ln (by simp only [↓nrmL, nrmK, qe, ↓reduceIte]; rfl) ?_ | refine bA ?_ | refine nl hKF ?_ | refine sq ?_ | refine rg fun KF hKF => ?_ | refine ct rfl ?_ | refine rt ?_ | dsimp only
  refine rz trivial ?_
  exact ⟨rfl, Ext0.ext⟩
 have hl5 : ls.length = 5 := by have h7 := h0; simp only [bne_eq_false_iff_eq] at h7; omega
 have e0 : fitsB a b ls = fitTo a b ls ls.length := by simp [fitsB, hl5]
 rw [e0]
 repeat first | refine mI ?_ | refine mB ?_ | refine fd ?_ | refine Fo.ld rfl rfl ?_ | refine bn rfl rfl rfl (by simp only [h0]; rfl) ?_ | refine ln (by simp only [↓nrmL, nrmK, qe, ↓reduceIte]; rfl) ?_ | refine bA ?_ | refine nl hKF ?_ | refine sq ?_ | refine rg fun KF hKF => ?_ | refine cf rfl ?_ | refine sk ?_ | refine Wp.block ?_ | dsimp only
 refine Wp.loopS [4, 5, 6, 14, 15, 16, 17, 18, 19, 20, 21, 22, 23, 24, 25, 26, 27, 28, 29, 30, 31, 32, 33, 34, 35, 36, 37, 38] (fun x : Nat => [(14, .int .i64 x)]) (fun H3 x H2 => x ≤ ls.length ∧ fitTo a b ls x = true ∧ Ext0 H3 H2) (fun x => ls.length - x) 0 rfl (fun _ => rfl) ⟨rfl, trivial⟩ ⟨Nat.zero_le _, rfl, inferInstance⟩ (by unfold fuel0 at hn; omega) ?_
 rintro x g2 H2 ⟨hx, hok, ⟨hx2⟩⟩
 haveI : ExtI _ H2 := ⟨hx2⟩
 simp only [↓nrmL, nrmZ, qe, ↓reduceIte, qz, qn, qq]
 cases hc : decide ((x : Int) < ((ls.length : Nat) : Int))
 ·have hxl : x = ls.length := by have := of_decide_eq_false hc; omega
  subst hxl
  rw [hok]
  repeat first | refine mB ?_ | refine bn rfl rfl rfl (by simp only [hc]; rfl) ?_ | refine nl hKF ?_ | refine sq ?_ | refine rg fun KF hKF => ?_ | refine cf rfl ?_ | refine rt ?_ | refine xi ?_ | dsimp only
  refine rz trivial ?_
  exact ⟨rfl, Ext0.ext⟩
 have hxl : x < ls.length := by have := of_decide_eq_true hc; omega
 have hw1 := wa1 (a := x) (by omega)
 obtain ⟨qi, hqi, hIi⟩ := hrw.it x hxl
 haveI := hIi
 haveI := hIi.one
 cases hpa : pathB a b ls[x]
 ·rw [fitTo_bad (x := x) (n := ls.length) (by rw [fitAt, getDL_at hxl, hpa]; rfl) hxl]
  repeat first | refine mI ?_ | refine bn rfl rfl rfl (by simp only [hc]; rfl) ?_ | (refine Fo.idx (by simp only [↓nrmL, nrmK, qe, ↓reduceIte]; rfl) rfl ?_ (by simp only [↓nrmL, nrmZ, qe, ↓reduceIte, qz, qn, qq, hc]; rfl) ?_; (focus omega)) | refine nl hKF ?_ | refine sq ?_ | refine rg fun KF hKF => ?_ | refine ct rfl ?_ | refine sk ?_ | refine Wp.block ?_
  refine Fo.now rfl (exec_ldP (p := q) (j := x) rfl hqi) rfl ?_
  repeat first | refine ox ?_ | refine Fo.noU rfl ?_ | refine mI ?_ | refine mB ?_ | refine mv ?_ | refine Fo.ldN rfl rfl (by simp only [↓nrmL, nrmZ, qe, ↓reduceIte, qz, qn, qq, hpa]; rfl) ?_ | refine tB ?_ | (refine Fo.pcall (v' := ?_) hn rfl (by simp only [↓nrmL, nrmZ, qe, ↓reduceIte, qz, qn, qq, hpa, List.map]; rfl) rfl ?hv fun _ _ => ?_; case hv => (simp only [hpa]; rfl)) | refine Fo.now rfl rfl (by simp only [↓nrmL, nrmZ, qe, ↓reduceIte, qz, qn, qq, hpa]; rfl) ?_ | refine nl hKF ?_ | refine sq ?_ | refine rg fun KF hKF => ?_ | refine ct rfl ?_ | refine rt ?_ | dsimp only
  refine rz trivial ?_
  exact ⟨rfl, Ext0.ext⟩
 obtain ⟨hpl, _⟩ := pathB_len hpa
 cases h4 : decide ((x : Int) > 0)
 ·have hx0 : x = 0 := by have := of_decide_eq_false h4; omega
  have e2 : fitTo a b ls (x + 1) = true := by rw [fitTo_succ, hok, fitAt, getDL_at hxl, hpa]; simp [hx0]
  repeat first | refine mI ?_ | refine bn rfl rfl rfl (by simp only [hc]; rfl) ?_ | (refine Fo.idx (by simp only [↓nrmL, nrmK, qe, ↓reduceIte]; rfl) rfl ?_ (by simp only [↓nrmL, nrmZ, qe, ↓reduceIte, qz, qn, qq, hc]; rfl) ?_; (focus omega)) | refine nl hKF ?_ | refine sq ?_ | refine rg fun KF hKF => ?_ | refine ct rfl ?_ | refine sk ?_ | refine Wp.block ?_
  refine Fo.now rfl (exec_ldP (p := q) (j := x) rfl hqi) rfl ?_
  repeat first | refine oy ?_ | refine ox ?_ | refine mI ?_ | refine mB ?_ | refine mv ?_ | refine Fo.ldN rfl rfl (by simp only [↓nrmL, nrmZ, qe, ↓reduceIte, qz, qn, qq, hpa, h4]; rfl) ?_ | refine bn rfl rfl rfl (by simp only [hpa, h4]; rfl) ?_ | refine b0 ?_ | refine fB ?_ | (refine Fo.pcall (v' := ?_) hn rfl (by simp only [↓nrmL, nrmZ, qe, ↓reduceIte, qz, qn, qq, hpa, h4, List.map]; rfl) rfl ?hv fun _ _ => ?_; case hv => (simp only [hpa, h4]; rfl)) | refine Fo.now rfl rfl (by simp only [↓nrmL, nrmZ, qe, ↓reduceIte, qz, qn, qq, hpa, h4]; rfl) ?_ | refine nl hKF ?_ | refine sq ?_ | refine rg fun KF hKF => ?_ | refine cf rfl ?_ | refine sk ?_ | dsimp only
  refine ⟨x + 1, by omega, ⟨by simp only [↓nrmL, nrmZ, qe, ↓reduceIte, qz, qn, qq]; rw [hw1], trivial⟩, hxl, e2, inferInstance⟩
 have hx0 : 0 < x := by have := of_decide_eq_true h4; omega
 have hw2 := ws1 (a := x) hx0 (by omega)
 have hxm : x - 1 < ls.length := by omega
 obtain ⟨qm, hqm, hIm⟩ := hrw.it (x - 1) hxm
 haveI := hIm
 haveI := hIm.one
 have hpm : pathB a b ls[x - 1] = true := fitTo_path hok (by omega) hxm
 obtain ⟨hml, _⟩ := pathB_len hpm
 haveI : LenLe ls[x - 1] ls[x] := ⟨by omega, by omega⟩
 have e2 : fitTo a b ls (x + 1) = aboveB ls[x - 1] ls[x] := by
  rw [fitTo_succ, hok, fitAt, getDL_at hxl, getDL_at hxm, hpa, beq_eq_false_iff_ne.2 (by omega)]; rfl
 cases hab : aboveB ls[x - 1] ls[x]
 ·rw [fitTo_bad (x := x) (n := ls.length) (by rw [fitAt, getDL_at hxl, getDL_at hxm, hab, beq_eq_false_iff_ne.2 (by omega), Bool.or_false, Bool.and_false]) hxl]
  repeat first | refine mI ?_ | refine bn rfl rfl rfl (by simp only [hc]; rfl) ?_ | (refine Fo.idx (by simp only [↓nrmL, nrmK, qe, ↓reduceIte]; rfl) rfl ?_ (by simp only [↓nrmL, nrmZ, qe, ↓reduceIte, qz, qn, qq, hc]; rfl) ?_; (focus omega)) | refine nl hKF ?_ | refine sq ?_ | refine rg fun KF hKF => ?_ | refine ct rfl ?_ | refine sk ?_ | refine Wp.block ?_
  refine Fo.now rfl (exec_ldP (p := q) (j := x) rfl hqi) rfl ?_
  repeat first | refine oy ?_ | refine mI ?_ | refine mB ?_ | refine mv ?_ | refine fd ?_ | refine Fo.ld rfl rfl ?_ | refine Fo.ldN rfl rfl (by simp only [↓nrmL, nrmZ, qe, ↓reduceIte, qz, qn, qq, hpa, h4, hw2]; rfl) ?_ | refine bn rfl rfl rfl (by simp only [hpa, h4, hw2]; rfl) ?_ | (refine Fo.pcall (v' := ?_) hn rfl (by simp only [↓nrmL, nrmZ, qe, ↓reduceIte, qz, qn, qq, hpa, h4, hw2, List.map]; rfl) rfl ?hv fun _ _ => ?_; case hv => (simp only [hpa, h4, hw2]; rfl)) | (refine Fo.idx (by simp only [↓nrmL, nrmK, qe, ↓reduceIte]; rfl) rfl ?_ (by simp only [↓nrmL, nrmZ, qe, ↓reduceIte, qz, qn, qq, hpa, h4, hw2]; rfl) ?_; (focus omega)) | refine Fo.now rfl rfl (by simp only [↓nrmL, nrmZ, qe, ↓reduceIte, qz, qn, qq, hpa, h4, hw2]; rfl) ?_ | refine nl hKF ?_ | refine sq ?_ | refine rg fun KF hKF => ?_
  refine Fo.now rfl (exec_ldP (p := q) (j := x - 1) rfl hqm) rfl ?_
  simp only [↓nrmL, nrmZ, qe, ↓reduceIte, qz, qn, qq, hab]
  repeat first | refine oy ?_ | refine mB ?_ | refine mv ?_ | refine tB ?_ | refine fB ?_ | (refine Fo.pcall (v' := ?_) hn rfl (by simp only [↓nrmL, nrmZ, qe, ↓reduceIte, qz, qn, qq, hab, List.map]; rfl) rfl ?hv fun _ _ => ?_; case hv => (simp only [hab]; rfl)) | refine Fo.now rfl rfl (by simp only [↓nrmL, nrmZ, qe, ↓reduceIte, qz, qn, qq, hab]; rfl) ?_ | refine nl hKF ?_ | refine sq ?_ | refine rg fun KF hKF => ?_ | refine ct rfl ?_ | refine rt ?_ | dsimp only
  refine rz trivial ?_
  exact ⟨rfl, Ext0.ext⟩
 rw [hab] at e2
 repeat first | refine mI ?_ | refine bn rfl rfl rfl (by simp only [hc]; rfl) ?_ | (refine Fo.idx (by simp only [↓nrmL, nrmK, qe, ↓reduceIte]; rfl) rfl ?_ (by simp only [↓nrmL, nrmZ, qe, ↓reduceIte, qz, qn, qq, hc]; rfl) ?_; (focus omega)) | refine nl hKF ?_ | refine sq ?_ | refine rg fun KF hKF => ?_ | refine ct rfl ?_ | refine sk ?_ | refine Wp.block ?_
 refine Fo.now rfl (exec_ldP (p := q) (j := x) rfl hqi) rfl ?_
 repeat first | refine oy ?_ | refine mI ?_ | refine mB ?_ | refine mv ?_ | refine fd ?_ | refine Fo.ld rfl rfl ?_ | refine Fo.ldN rfl rfl (by simp only [↓nrmL, nrmZ, qe, ↓reduceIte, qz, qn, qq, hpa, h4, hw2]; rfl) ?_ | refine bn rfl rfl rfl (by simp only [hpa, h4, hw2]; rfl) ?_ | (refine Fo.pcall (v' := ?_) hn rfl (by simp only [↓nrmL, nrmZ, qe, ↓reduceIte, qz, qn, qq, hpa, h4, hw2, List.map]; rfl) rfl ?hv fun _ _ => ?_; case hv => (simp only [hpa, h4, hw2]; rfl)) | (refine Fo.idx (by simp only [↓nrmL, nrmK, qe, ↓reduceIte]; rfl) rfl ?_ (by simp only [↓nrmL, nrmZ, qe, ↓reduceIte, qz, qn, qq, hpa, h4, hw2]; rfl) ?_; (focus omega)) | refine Fo.now rfl rfl (by simp only [↓nrmL, nrmZ, qe, ↓reduceIte, qz, qn, qq, hpa, h4, hw2]; rfl) ?_ | refine nl hKF ?_ | refine sq ?_ | refine rg fun KF hKF => ?_
 refine Fo.now rfl (exec_ldP (p := q) (j := x - 1) rfl hqm) rfl ?_
 simp only [↓nrmL, nrmZ, qe, ↓reduceIte, qz, qn, qq, hab]
 repeat first | refine oy ?_ | refine mI ?_ | refine mv ?_ | refine b0 ?_ | refine tB ?_ | refine fB ?_ | (refine Fo.pcall (v' := ?_) hn rfl (by simp only [↓nrmL, nrmZ, qe, ↓reduceIte, qz, qn, qq, hab, List.map]; rfl) rfl ?hv fun _ _ => ?_; case hv => (simp only [hab]; rfl)) | refine Fo.now rfl rfl (by simp only [↓nrmL, nrmZ, qe, ↓reduceIte, qz, qn, qq, hab]; rfl) ?_ | refine nl hKF ?_ | refine rg fun KF hKF => ?_ | refine cf rfl ?_ | refine sk ?_ | dsimp only
 refine ⟨x + 1, by omega, ⟨by simp only [↓nrmL, nrmZ, qe, ↓reduceIte, qz, qn, qq]; rw [hw1], trivial⟩, hxl, e2, inferInstance⟩⟩
end Go.Am

namespace Go.Am
open Go
def chg (a b : Nat) : Int := if a = b then 0 else 1
def nxTo (c : Nat → Int) (y lo : Nat) : Nat → Nat × Int
  | 0 => (0, 1920)
  | k + 1 => if c (lo + k) + chg y (lo + k) < (nxTo c y lo k).2 then (lo + k, c (lo + k) + chg y (lo + k)) else nxTo c y lo k
def loB (y : Nat) : Nat := y - 1
def hiB (h y : Nat) : Nat := min (y + 1) (h - 1)
def nxF (c : Nat → Int) (h y : Nat) : Nat × Int := nxTo c y (loB y) (hiB h y + 1 - loB y)
theorem nxTo_le {c : Nat → Int} {y lo : Nat} : ∀ {k j : Nat}, j < k → (nxTo c y lo k).2 ≤ c (lo + j) + chg y (lo + j)
  | k + 1, j, h => by
    simp only [nxTo]
    by_cases e : j = k
    · subst e; split
      · exact Int.le_refl _
      · omega
    · have := nxTo_le (c := c) (y := y) (lo := lo) (k := k) (j := j) (by omega)
      split
      · dsimp only; omega
      · exact this
theorem nxTo_cap {c : Nat → Int} {y lo : Nat} : ∀ k, (nxTo c y lo k).2 ≤ 1920
  | 0 => Int.le_refl _
  | k + 1 => by
    have := nxTo_cap (c := c) (y := y) (lo := lo) k
    simp only [nxTo]
    split
    · dsimp only; omega
    · exact this
theorem nxTo_at {c : Nat → Int} {y lo : Nat} : ∀ {k : Nat}, (nxTo c y lo k).2 < 1920 → ∃ j, j < k ∧ (nxTo c y lo k).1 = lo + j ∧ (nxTo c y lo k).2 = c (lo + j) + chg y (lo + j) ∧ ∀ i, i < j → (nxTo c y lo k).2 < c (lo + i) + chg y (lo + i)
  | 0, h => by simp [nxTo] at h
  | k + 1, h => by
    simp only [nxTo] at h ⊢
    by_cases hc : c (lo + k) + chg y (lo + k) < (nxTo c y lo k).2
    · rw [if_pos hc]
      exact ⟨k, by omega, rfl, rfl, fun i hi => by have := nxTo_le (c := c) (y := y) (lo := lo) hi; dsimp only; omega⟩
    · rw [if_neg hc] at h ⊢
      obtain ⟨j, h1, h2, h3, h4⟩ := nxTo_at h
      exact ⟨j, by omega, h2, h3, h4⟩
theorem nx_le {c : Nat → Int} {h y z : Nat} (h1 : y ≤ z + 1) (h2 : z ≤ y + 1) (h3 : z < h) : (nxF c h y).2 ≤ c z + chg y z := by
  unfold nxF
  have := nxTo_le (c := c) (y := y) (lo := loB y) (k := hiB h y + 1 - loB y) (j := z - loB y) (by unfold loB hiB; omega)
  rw [show loB y + (z - loB y) = z by unfold loB; omega] at this
  exact this
theorem nx_cap (c : Nat → Int) (h y : Nat) : (nxF c h y).2 ≤ 1920 := nxTo_cap _
theorem nx_at {c : Nat → Int} {h y : Nat} (hh : 0 < h) (hl : (nxF c h y).2 < 1920) : y ≤ (nxF c h y).1 + 1 ∧ (nxF c h y).1 ≤ y + 1 ∧ (nxF c h y).1 < h ∧ (nxF c h y).2 = c (nxF c h y).1 + chg y (nxF c h y).1 ∧ ∀ z, y ≤ z + 1 → z < (nxF c h y).1 → (nxF c h y).2 < c z + chg y z := by
  obtain ⟨j, h1, h2, h3, h4⟩ := nxTo_at hl
  unfold nxF
  rw [h2]
  unfold loB hiB at *
  refine ⟨by omega, by omega, by omega, h3, fun z a b => ?_⟩
  have := h4 (z - (y - 1)) (by omega)
  rw [show y - 1 + (z - (y - 1)) = z by omega] at this
  exact this
def restF (P : Nat → Nat → Int) (w h : Nat) : Nat → Nat → Int
  | 0, y => P (w - 1) y
  | d + 1, y => P (w - 1 - (d + 1)) y + (nxF (restF P w h d) h y).2
def costF (P : Nat → Nat → Int) (w : Nat) (q : Nat → Nat) : Nat → Int
  | 0 => P (w - 1) (q (w - 1))
  | d + 1 => P (w - 1 - (d + 1)) (q (w - 1 - (d + 1))) + chg (q (w - 1 - (d + 1))) (q (w - 1 - d)) + costF P w q d
structure PathF (w h : Nat) (q : Nat → Nat) : Prop where
  row : ∀ x, x < w → q x < h
  near : ∀ x, x + 1 < w → q x ≤ q (x + 1) + 1 ∧ q (x + 1) ≤ q x + 1
theorem rest_le {P : Nat → Nat → Int} {w h : Nat} {q : Nat → Nat} (hq : PathF w h q) : ∀ d, d < w → restF P w h d (q (w - 1 - d)) ≤ costF P w q d
  | 0, _ => Int.le_refl _
  | d + 1, hd => by
    have ih := rest_le (P := P) hq d (by omega)
    have hn := hq.near (w - 1 - (d + 1)) (by omega)
    rw [show w - 1 - (d + 1) + 1 = w - 1 - d by omega] at hn
    have h1 := nx_le (c := restF P w h d) (h := h) (y := q (w - 1 - (d + 1))) (z := q (w - 1 - d)) hn.1 hn.2 (hq.row _ (by omega))
    simp only [restF, costF]
    omega
def folF (P : Nat → Nat → Int) (w h y0 : Nat) : Nat → Nat
  | 0 => y0
  | x + 1 => (nxF (restF P w h (w - 1 - (x + 1))) h (folF P w h y0 x)).1
structure PosP (P : Nat → Nat → Int) : Prop where
  it : ∀ x y, 0 ≤ P x y ∧ P x y ≤ 1920
theorem nxTo_pos {c : Nat → Int} {y lo : Nat} (hc : ∀ z, 0 ≤ c z) : ∀ k, 0 ≤ (nxTo c y lo k).2
  | 0 => by simp [nxTo]
  | k + 1 => by
    have := nxTo_pos (y := y) (lo := lo) hc k
    have h2 := hc (lo + k)
    have h3 : 0 ≤ chg y (lo + k) := by unfold chg; split <;> omega
    simp only [nxTo]
    split
    · dsimp only; omega
    · exact this
theorem rest_pos {P : Nat → Nat → Int} (hP : PosP P) {w h : Nat} : ∀ d y, 0 ≤ restF P w h d y
  | 0, y => (hP.it _ _).1
  | d + 1, y => by
    have h1 := (hP.it (w - 1 - (d + 1)) y).1
    have h2 : 0 ≤ (nxF (restF P w h d) h y).2 := nxTo_pos (rest_pos hP d) _
    simp only [restF]
    omega
theorem rest_max {P : Nat → Nat → Int} (hP : PosP P) {w h : Nat} : ∀ d y, restF P w h d y ≤ 3840
  | 0, y => by have := (hP.it (w - 1) y).2; simp only [restF]; omega
  | d + 1, y => by
    have h1 := (hP.it (w - 1 - (d + 1)) y).2
    have h2 := nx_cap (restF P w h d) h y
    simp only [restF]
    omega
theorem fol_rest {P : Nat → Nat → Int} (hP : PosP P) {w h y0 : Nat} (hh : 0 < h) (hy : y0 < h) (hm : restF P w h (w - 1) y0 < 1920) : ∀ x, x < w → folF P w h y0 x < h ∧ restF P w h (w - 1 - x) (folF P w h y0 x) < 1920 ∧ (0 < x → folF P w h y0 (x - 1) ≤ folF P w h y0 x + 1 ∧ folF P w h y0 x ≤ folF P w h y0 (x - 1) + 1 ∧ restF P w h (w - x) (folF P w h y0 (x - 1)) = P (x - 1) (folF P w h y0 (x - 1)) + chg (folF P w h y0 (x - 1)) (folF P w h y0 x) + restF P w h (w - 1 - x) (folF P w h y0 x))
  | 0, hx => ⟨hy, hm, fun h => by omega⟩
  | x + 1, hx => by
    obtain ⟨a1, a2, a3⟩ := fol_rest hP hh hy hm x (by omega)
    have e : w - 1 - x = (w - 1 - (x + 1)) + 1 := by omega
    have hr : restF P w h (w - 1 - x) (folF P w h y0 x) = P x (folF P w h y0 x) + (nxF (restF P w h (w - 1 - (x + 1))) h (folF P w h y0 x)).2 := by
      rw [e]
      simp only [restF]
      rw [show w - 1 - (w - 1 - (x + 1) + 1) = x by omega]
    have hp := (hP.it x (folF P w h y0 x)).1
    have hlt : (nxF (restF P w h (w - 1 - (x + 1))) h (folF P w h y0 x)).2 < 1920 := by omega
    obtain ⟨b1, b2, b3, b4, b5⟩ := nx_at hh hlt
    have hf : folF P w h y0 (x + 1) = (nxF (restF P w h (w - 1 - (x + 1))) h (folF P w h y0 x)).1 := rfl
    refine ⟨by rw [hf]; exact b3, ?_, fun _ => ?_⟩
    · rw [hf]
      have : 0 ≤ chg (folF P w h y0 x) (nxF (restF P w h (w - 1 - (x + 1))) h (folF P w h y0 x)).1 := by unfold chg; split <;> omega
      omega
    · rw [Nat.add_sub_cancel, hf]
      refine ⟨b1, b2, ?_⟩
      rw [show w - (x + 1) = w - 1 - x by omega, hr]
      omega
theorem fol_path {P : Nat → Nat → Int} (hP : PosP P) {w h y0 : Nat} (hh : 0 < h) (hy : y0 < h) (hm : restF P w h (w - 1) y0 < 1920) : PathF w h (folF P w h y0) := by
  have key := fol_rest hP hh hy hm
  refine ⟨fun x hx => (key x hx).1, fun x hx => ?_⟩
  have := (key (x + 1) hx).2.2 (by omega)
  rw [Nat.add_sub_cancel] at this
  exact ⟨this.1, this.2.1⟩
theorem fol_cost {P : Nat → Nat → Int} (hP : PosP P) {w h y0 : Nat} (hh : 0 < h) (hy : y0 < h) (hm : restF P w h (w - 1) y0 < 1920) : ∀ d, d < w → costF P w (folF P w h y0) d = restF P w h d (folF P w h y0 (w - 1 - d))
  | 0, _ => rfl
  | d + 1, hd => by
    have ih := fol_cost hP hh hy hm d (by omega)
    have key := (fol_rest hP hh hy hm (w - 1 - d) (by omega)).2.2 (by omega)
    rw [show w - 1 - d - 1 = w - 1 - (d + 1) by omega, show w - (w - 1 - d) = d + 1 by omega, show w - 1 - (w - 1 - d) = d by omega] at key
    simp only [costF]
    rw [ih, key.2.2]
end Go.Am

namespace Go.Am
open Go
class Part (p : outParam AVal) (v : AVal) (a n : outParam Nat) : Prop where
  it : (n = 0 ∧ aLenS v = some (.int .i64 0) ∧ v.cells = [v] ∧ v.one = true) ∨ ∃ r off len cap cap', p = .slice r off len cap 1 ∧ v = .slice r (off + a) n cap' 1 ∧ a + n ≤ len
theorem Part.one {p v : AVal} {a n : Nat} (h : Part p v a n) : OneV v := by
  rcases h.it with ⟨_, _, h1, h2⟩ | ⟨r, off, len, cap, cap', _, rfl, _⟩
  · exact ⟨h1, h2⟩
  · infer_instance
theorem Part.lenS {p v : AVal} {a n : Nat} (h : Part p v a n) : aLenS v = some (.int .i64 n) := by
  rcases h.it with ⟨rfl, h1, _⟩ | ⟨r, off, len, cap, cap', _, rfl, _⟩
  · exact h1
  · rfl
section
variable {call : ACall} {fr : AFrame} {H : AHeap} {KF : AFrame → AHeap → Prop} {os : List ROper} {d : Nat}
theorem exec_idxV {x i : ROpd} {p v : AVal} {a n : Nat} {k : IntKind} {j : Int} (hx : x.ev fr = v) (hi : i.ev fr = .int k j) [s : Part p v a n] (h0 : 0 ≤ j ∧ j < n) : (ROp.idxS 1 x i).exec call fr H = some (.ptr (rowOf p) (offOf p + (a + j.toNat)), H) := by
  rcases s.it with ⟨rfl, _⟩ | ⟨r, off, len, cap, cap', rfl, rfl, _⟩
  · have := h0.1; have := h0.2; omega
  · simp only [ROp.exec, hx, hi, aIdxS, true_and, if_pos h0, M.ofOption, M.pure, rowOf, offOf, Nat.mul_one, Nat.add_assoc]
theorem exec_lenV {x : ROpd} {p v : AVal} {a n : Nat} (hx : x.ev fr = v) [s : Part p v a n] : (ROp.lenS x).exec call fr H = some (.int .i64 n, H) := by
  simp only [ROp.exec, hx, s.lenS, M.ofOption, M.pure]
theorem Fo.idxV {x i : ROpd} {p v : AVal} {a n o : Nat} {k : IntKind} {j : Int} (hx : x.ev fr = v) (hi : i.ev fr = .int k j) [s : Part p v a n] (h0 : 0 ≤ j ∧ j < n) (ho : offOf p + (a + j.toNat) = o) (h : WpO call os (upd fr d (.ptr (rowOf p) o)) H KF) : WpO call (⟨some d, .idxS 1 x i, none⟩ :: os) fr H KF := by
  subst ho; exact WpO.step rfl ⟨_, _, exec_idxV hx hi h0, h⟩
theorem Fo.lenV {x : ROpd} {p v u : AVal} {a n : Nat} (hx : x.ev fr = v) [s : Part p v a n] (hv : AVal.int .i64 n = u) (h : WpO call os (upd fr d u) H KF) : WpO call (⟨some d, .lenS x, none⟩ :: os) fr H KF := by
  subst hv; exact WpO.step rfl ⟨_, _, exec_lenV hx, h⟩
theorem cells_sub {row : List AVal} {l : List UInt8} {off a b : Nat} (hc : (row.drop off).take l.length = cellsB l) (hb : b ≤ l.length) : (row.drop (off + a)).take (b - a) = cellsB ((l.drop a).take (b - a)) := by
  have h1 : (cellsB l).drop a = cellsB (l.drop a) := by simp [cellsB, List.map_drop]
  have h2 : ∀ (k : Nat) (m : List UInt8), (cellsB m).take k = cellsB (m.take k) := fun k m => by simp [cellsB, List.map_take]
  rw [← h2, ← h1, ← hc, List.drop_take, List.drop_drop, List.take_take]
  congr 1
  omega
def bnd (o : Option AVal) (dflt n : Nat) : Prop := (o = none ∧ n = dflt) ∨ ∃ k, o = some (.int k n)
theorem exec_slc {x : ROpd} {lo hi : Option ROpd} {p : AVal} {l : List UInt8} {a b : Nat} (hx : x.ev fr = p) (hlo : bnd (lo.map (·.ev fr)) 0 a) (hhi : bnd (hi.map (·.ev fr)) l.length b) (hab : a ≤ b) (hbl : b ≤ l.length) [s : BytesI H p l] :
    ∃ v H', (ROp.sliceS 1 x lo hi none).exec call fr H = some (v, H') ∧ Part p v a (b - a) ∧ BytesI H' v ((l.drop a).take (b - a)) ∧ Ext H H' := by
  have hlen : ((l.drop a).take (b - a)).length = b - a := by rw [List.length_take, List.length_drop]; omega
  have hl1 : ∀ h, a ≤ h → aLow h (lo.map (·.ev fr)) = some a := by
    intro h hh
    rcases hlo with ⟨h1, rfl⟩ | ⟨k, h1⟩
    · rw [h1]; rfl
    · rw [h1]
      have : (0 : Int) ≤ (a : Int) ∧ (a : Int) ≤ (h : Int) := by omega
      simp only [aLow, aBound, if_pos this, Int.toNat_natCast]
  have hh1 : ∀ y, b ≤ y → aHigh l.length y (hi.map (·.ev fr)) = some b := by
    intro y hy
    rcases hhi with ⟨h1, rfl⟩ | ⟨k, h1⟩
    · rw [h1]; rfl
    · rw [h1]
      have : (0 : Int) ≤ (b : Int) ∧ (b : Int) ≤ (y : Int) := by omega
      simp only [aHigh, aBound, if_pos this, Int.toNat_natCast]
  rcases s.it with ⟨rfl, h0, _⟩ | ⟨r, off, cap, row, rw, e, rfl, hr, hg, hl, hc, hcap⟩
  · have e1 : b = 0 := by omega
    have e2 : a = 0 := by omega
    subst e1 e2
    have hb0 : aBounds 0 (some 0) (lo.map (·.ev fr)) (hi.map (·.ev fr)) none = some (0, 0, some 0) := by
      have h1 := hh1 (capD 0 (some 0)) (Nat.zero_le _)
      rw [h0] at h1
      simp only [aBounds, h1, hl1 0 (Nat.zero_le _)]
    refine ⟨.nslice, H, by simp only [ROp.exec, hx, Option.map_none, aSliceS, hb0, M.pure], ⟨Or.inl ⟨rfl, rfl, rfl, rfl⟩⟩, ?_, Ext.refl H⟩
    have e3 : (l.drop 0).take (0 - 0) = [] := by simp
    rw [e3]
    exact ⟨Or.inl ⟨rfl, rfl, rfl⟩⟩
  · rw [Nat.mul_one] at hl hc
    have hb0 : aBounds l.length cap (lo.map (·.ev fr)) (hi.map (·.ev fr)) none = some (a, b, cap) := by
      simp only [aBounds, hh1 _ (Nat.le_trans hbl hcap), hl1 b hab]
    have hsub := cells_sub (a := a) hc hbl
    have full : ∀ cap', (b - a ≤ capD (b - a) cap') → BytesI H (.slice r (off + a) (b - a) cap' 1) ((l.drop a).take (b - a)) := by
      intro cap' hc'
      unfold BytesI
      rw [hlen]
      exact ⟨Or.inr ⟨r, off + a, cap', row, rw, e, rfl, hr, hg, by omega, by rw [Nat.mul_one]; exact hsub, hc'⟩⟩
    have none0 : a = b → ∀ cap', BytesI H (.slice r off (b - a) cap' 1) ((l.drop a).take (b - a)) := by
      intro hE cap'
      subst hE
      have e3 : (l.drop a).take (a - a) = [] := by simp
      rw [e3, Nat.sub_self]
      exact ⟨Or.inr ⟨r, off, cap', row, rw, e, rfl, hr, hg, by simp; omega, by simp [cellsB], Nat.zero_le _⟩⟩
    cases cap with
    | some c =>
      simp only [capD] at hcap
      by_cases hca : c = a
      · have hE : a = b := by omega
        refine ⟨.slice r off (b - a) (some 0) 1, H, by simp only [ROp.exec, hx, Option.map_none, aSliceS, ne_eq, not_true, if_false, hb0, M.pure, if_pos hca], ⟨Or.inl ⟨by omega, by rw [hE, Nat.sub_self]; rfl, rfl, rfl⟩⟩, none0 hE _, Ext.refl H⟩
      · refine ⟨.slice r (off + a) (b - a) (some (c - a)) 1, H, by simp only [ROp.exec, hx, Option.map_none, aSliceS, ne_eq, not_true, if_false, hb0, M.pure, if_neg hca, Nat.mul_one], ⟨Or.inr ⟨r, off, l.length, some c, some (c - a), rfl, rfl, by omega⟩⟩, full _ (by simp only [capD]; omega), Ext.refl H⟩
    | none =>
      have h2 : ¬ row.length < off + l.length := by omega
      have hrow : aRow r H = some ((row, rw), H) := by simp only [aRow, if_pos hr, hg]
      by_cases hcd : a < b ∨ a = 0
      · refine ⟨.slice r (off + a) (b - a) none 1, H, ?_, ⟨Or.inr ⟨r, off, l.length, none, none, rfl, rfl, by omega⟩⟩, full _ (Nat.le_refl _), Ext.refl H⟩
        simp only [ROp.exec, hx, Option.map_none, aSliceS, ne_eq, not_true, if_false, hb0, Nat.mul_one, Nat.one_ne_zero, M.bind, hrow, if_neg h2, if_pos hcd, M.pure]
      · have hE : a = b := by omega
        refine ⟨.slice H.n 0 0 none 1, H.push (.row [] false 0), ?_, ⟨Or.inl ⟨by omega, rfl, rfl, rfl⟩⟩, ?_, (Ext.refl H).push _⟩
        · simp only [ROp.exec, hx, Option.map_none, aSliceS, ne_eq, not_true, if_false, hb0, Nat.mul_one, Nat.one_ne_zero, M.bind, hrow, if_neg h2, if_neg hcd, M.pure, aNew]
        · have e3 : (l.drop a).take (b - a) = [] := by rw [hE, Nat.sub_self]; simp
          rw [e3]
          exact ⟨Or.inr ⟨H.n, 0, none, [], false, 0, rfl, Nat.lt_succ_self _, push_get_eq, by simp, by simp [cellsB], Nat.zero_le _⟩⟩
theorem Fo.slc {x : ROpd} {lo hi : Option ROpd} {p : AVal} {l : List UInt8} {a b : Nat} (hx : x.ev fr = p) (hlo : bnd (lo.map (·.ev fr)) 0 a) (hhi : bnd (hi.map (·.ev fr)) l.length b) (hab : a ≤ b) (hbl : b ≤ l.length) [s : BytesI H p l]
    (h : ∀ v H1, Part p v a (b - a) → BytesI H1 v ((l.drop a).take (b - a)) → ExtI H H1 → WpO call os (upd fr d v) H1 KF) : WpO call (⟨some d, .sliceS 1 x lo hi none, none⟩ :: os) fr H KF := by
  obtain ⟨v, H1, h1, h2, h3, h4⟩ := exec_slc (call := call) hx hlo hhi hab hbl (s := s)
  exact WpO.step rfl ⟨v, H1, h1, h v H1 h2 h3 ⟨h4⟩⟩
end
def rowL (l : List UInt8) (a y : Nat) : List UInt8 := (l.drop (y * a)).take a
theorem row_le {a b y : Nat} (hy : y < b) : y * a + a ≤ a * b := by
  have : (y + 1) * a ≤ b * a := Nat.mul_le_mul_right _ hy
  rw [Nat.add_mul, Nat.one_mul] at this
  rw [Nat.mul_comm a b]; exact this
end Go.Am

namespace Go.Am
open Go
class OwnS (H : AHeap) (p : AVal) (sz : outParam Nat) (n : outParam Nat) (cs : outParam (List AVal)) (e : outParam TypeId) : Prop where
  it : (p = .nslice ∧ n = 0 ∧ cs = []) ∨ ∃ r e', p = .slice r 0 n none sz ∧ r < H.n ∧ H.get r = .row cs true e' ∧ e' / 2 = e ∧ cs.length = n * sz ∧ 0 < n
theorem OwnS.sl {H : AHeap} {p : AVal} {sz n : Nat} {cs : List AVal} {e : TypeId} (h : OwnS H p sz n cs e) : SliceAt H p sz n cs := by
  rcases h.it with ⟨h1, h2, h3⟩ | ⟨r, e', h1, h2, h3, h4, h5, h6⟩
  · exact ⟨Or.inl ⟨h1, h2, h3⟩⟩
  · exact ⟨Or.inr ⟨r, 0, none, cs, true, e', h1, h2, h3, by omega, by rw [List.drop_zero, List.take_of_length_le (by omega)], Nat.le_refl _⟩⟩
theorem OwnS.wr {H : AHeap} {p : AVal} {sz n : Nat} {cs : List AVal} {e : TypeId} (h : OwnS H p sz n cs e) : WrS H p := ⟨fun r off len cap s q => by
  rcases h.it with ⟨h1, _⟩ | ⟨r', e', h1, h2, h3, _⟩
  · rw [h1] at q; cases q
  · rw [h1] at q; cases q; exact ⟨cs, e', h3⟩⟩
theorem OwnS.keep {H H' : AHeap} {p : AVal} {sz n : Nat} {cs : List AVal} {e : TypeId} (h : OwnS H p sz n cs e) (hn : H.n ≤ H'.n) (hg : ∀ r off len cap sz, p = .slice r off len cap sz → r < H.n → H'.get r = H.get r) : OwnS H' p sz n cs e := by
  rcases h.it with ⟨h1, h2, h3⟩ | ⟨r, e', h1, h2, h3, h4⟩
  · exact ⟨Or.inl ⟨h1, h2, h3⟩⟩
  · exact ⟨Or.inr ⟨r, e', h1, by omega, by rw [hg _ _ _ _ _ h1 h2]; exact h3, h4⟩⟩
instance {H H' : AHeap} {p : AVal} {sz n : Nat} {cs : List AVal} {e : TypeId} [x : ExtI H H'] [h : OwnS H p sz n cs e] : OwnS H' p sz n cs e := h.keep x.ext.n fun _ _ _ _ _ _ hr => x.ext.get _ hr
instance {H : AHeap} {o : AObj} {p : AVal} {sz n : Nat} {cs : List AVal} {e : TypeId} [h : OwnS H p sz n cs e] : OwnS (H.push o) p sz n cs e := h.keep (Nat.le_succ _) fun _ _ _ _ _ _ hr => push_get_lt hr
instance {H : AHeap} {s : Nat} {o : AObj} {p : AVal} {sz n : Nat} {cs : List AVal} {e : TypeId} [h : OwnS H p sz n cs e] [k : RowNe p s] : OwnS (H.set s o) p sz n cs e := h.keep (Nat.le_refl _) fun _ _ _ _ _ e _ => set_get_ne (k.ne _ _ _ _ _ e)
instance {H H' : AHeap} {p q : AVal} {sz n : Nat} {cs : List AVal} {e : TypeId} [x : ExtP H H' q] [h : OwnS H p sz n cs e] [k : SepS p q] : OwnS H' p sz n cs e := h.keep x.n fun r _ _ _ _ e hr => x.get r hr ⟨fun r' _ _ _ _ e' => fun hh => k.ne _ _ _ _ _ _ _ _ _ _ e e' hh.symm⟩
theorem exec_grow {H : AHeap} {p q : AVal} {sz n k bytes : Nat} {cs new : List AVal} {e : TypeId} (h : OwnS H p sz n cs e) (hf : aLenOf q = some k ∧ aFirst sz k q H = some (new, H)) (hnl : new.length = k * sz) (hsz : 0 < sz) (hb : 0 < bytes) (hk : 0 < k) (hroom : 2 * (n + k) * bytes ≤ 2 ^ 48) (hone : new.all AVal.one = true) :
    ∃ p' H', aAppend e sz bytes p q H = some (p', H') ∧ OwnS H' p' sz (n + k) (cs ++ new) e ∧ FreshS H p' ∧ ExtP H H' p := by
  have hk0 : ¬ k = 0 := by omega
  have hs0 : ¬ sz = 0 := by omega
  have hb0 : ¬ bytes = 0 := by omega
  rcases h.it with ⟨rfl, rfl, rfl⟩ | ⟨r, e', rfl, h2, h3, h4, h5, h6⟩
  · refine ⟨.slice H.n 0 k none sz, H.push (.row new true (2 * e)), ?_, ⟨Or.inr ⟨H.n, 2 * e, by rw [Nat.zero_add], Nat.lt_succ_self _, by rw [List.nil_append]; exact push_get_eq, half_even _, by rw [List.nil_append, Nat.zero_add]; exact hnl, by omega⟩⟩, ⟨fun _ _ _ _ _ q => by cases q; exact Nat.le_refl _⟩, ⟨Nat.le_succ _, fun r hr _ => push_get_lt hr⟩⟩
    rw [Nat.zero_add] at hroom
    simp only [aAppend, hf.1]
    rw [bind_of hf.2]
    simp only [hone, hnl, Bool.not_true, ne_eq, not_true, decide_false, hs0, hb0, Bool.or_false, Bool.false_eq_true, if_false, hk0, if_pos hroom, M.bind, aNew, M.pure]
  · have hcl : 0 + n * sz ≤ cs.length := by omega
    have hno : ¬ (0 + (n + k) * sz ≤ cs.length) := by
      have : 0 < k * sz := Nat.mul_pos hk hsz
      rw [Nat.add_mul]; omega
    refine ⟨.slice H.n 0 (n + k) none sz, (H.set r .dead).push (.row (cs ++ new) true (2 * e + 1)), ?_, ⟨Or.inr ⟨H.n, 2 * e + 1, rfl, Nat.lt_succ_self _, push_get_eq (H := H.set r .dead), half_odd _, by rw [List.length_append, hnl, h5, Nat.add_mul], by omega⟩⟩, ⟨fun _ _ _ _ _ q => by cases q; exact Nat.le_refl _⟩, ⟨Nat.le_succ _, fun s hs hne => by
      have hsr : s ≠ r := fun q => hne.ne _ _ _ _ _ rfl q.symm
      rw [push_get_lt (H := H.set r .dead) hs, set_get_ne hsr]⟩⟩
    have ha : aRow r H = some ((cs, true), H) := by simp only [aRow, if_pos h2, h3]
    have hmv : aMove r e (.row (((cs.drop 0).take (n * sz)) ++ new) true (2 * e + 1)) H = some (H.n, (H.set r .dead).push (.row (cs ++ new) true (2 * e + 1))) := by
      simp only [aMove, h3, h4, nbeq_self]
      rw [List.drop_zero, List.take_of_length_le (by omega)]
    simp only [aAppend, hf.1]
    rw [bind_of hf.2]
    simp only [hone, hnl, Bool.not_true, ne_eq, not_true, decide_false, hs0, hb0, Bool.or_false, Bool.false_eq_true, if_false]
    rw [bind_of ha]
    simp only [hk0, if_false, hno, Bool.true_and, decide_eq_true hcl, decide_eq_true hroom, Bool.and_true, if_true]
    rw [bind_of hmv]
    rfl
theorem aFirst_at {H : AHeap} {q : AVal} {sz k : Nat} {new : List AVal} (h : SliceAt H q sz k new) : aLenOf q = some k ∧ aFirst sz k q H = some (new, H) := by
  rcases h.it with ⟨rfl, rfl, rfl⟩ | ⟨r, off, cap, row, rw, e0, rfl, hr, hg, hle, hc, _⟩
  · exact ⟨rfl, rfl⟩
  · exact ⟨rfl, by simp only [aFirst, ne_eq, not_true, if_false, M.bind, aRow, if_pos hr, hg, if_pos hle, hc, M.pure]⟩
section
variable {call : ACall} {fr : AFrame} {H : AHeap} {K : AVal → AHeap → Prop}
theorem WpX.grow {e : TypeId} {x y : ROpd} {p q : AVal} {sz n k bytes : Nat} {cs new : List AVal} (hx : x.ev fr = p) (hy : y.ev fr = q) [h : OwnS H p sz n cs e] [hq : SliceAt H q sz k new] (hsz : 0 < sz) (hb : 0 < bytes) (hk : 0 < k) (hroom : 2 * (n + k) * bytes ≤ 2 ^ 48) (hone : new.all AVal.one = true)
    (hK : ∀ p' H', OwnS H' p' sz (n + k) (cs ++ new) e → FreshS H p' → ExtP H H' p → K p' H') : WpX (.append e sz bytes x y) call fr H K := by
  obtain ⟨p', H', h1, h2, h3, h4⟩ := exec_grow h (aFirst_at hq) hq.len hsz hb hk hroom hone
  exact ⟨p', H', by simp only [ROp.exec, hx, hy]; exact h1, hK p' H' h2 h3 h4⟩
end
class HasLoop (H : AHeap) (r : Nat) (R : outParam RLoop) : Prop where
  lt : r < H.n
  get : H.get r = .loop R
instance {H : AHeap} {r : Nat} {R : RLoop} [h : HasLoop H r R] : LtN r H := ⟨h.lt⟩
theorem HasLoop.ext {H H' : AHeap} {r : Nat} {R : RLoop} (h : HasLoop H r R) (x : Ext H H') : HasLoop H' r R := ⟨Nat.lt_of_lt_of_le h.lt x.n, by rw [x.get r h.lt]; exact h.get⟩
instance {H H' : AHeap} {r : Nat} {R : RLoop} [x : ExtI H H'] [h : HasLoop H r R] : HasLoop H' r R := h.ext x.ext
instance {H : AHeap} {o : AObj} {r : Nat} {R : RLoop} [h : HasLoop H r R] : HasLoop (H.push o) r R := ⟨Nat.lt_succ_of_lt h.lt, by rw [push_get_lt h.lt]; exact h.get⟩
instance {H : AHeap} {R : RLoop} : HasLoop (H.push (.loop R)) H.n R := ⟨Nat.lt_succ_self _, push_get_eq⟩
instance {H : AHeap} {s : Nat} {o : AObj} {r : Nat} {R : RLoop} [h : HasLoop H r R] [k : NeR r s] : HasLoop (H.set s o) r R := ⟨h.lt, by rw [set_get_ne k.ne]; exact h.get⟩
instance {H : AHeap} {r : Nat} {R R' : RLoop} [h : HasLoop H r R'] : HasLoop (H.set r (.loop R)) r R := ⟨h.lt, set_get_eq⟩
instance {H H' : AHeap} {r : Nat} {R : RLoop} {q : AVal} [x : ExtP H H' q] [h : HasLoop H r R] [k : RowNe q r] : HasLoop H' r R := ⟨Nat.lt_of_lt_of_le h.lt x.n, by rw [x.get r h.lt k]; exact h.get⟩
theorem con_ofR {ext : Exts} {prog : FuncId → Option RFunc} {d : Nat} {f : FuncId} {rf : RFunc} {c : RCode} {args : List AVal} {H : AHeap} {Q : AVal → AHeap → Prop} (hp : prog f = some rf) (hc : rf.body = .ranges c) (hn : Nat.ble args.length rf.nt = true)
    (h : ∀ n, fuel0 + d ≤ n → Wp (callN ext prog n) n c (argFrame args) H fun x fr' H' => (match x with | .exit _ => False | _ => True) ∧ ∃ H2, takeMarks (marksOf (fr' rf.nt)) H' = some ((), H2) ∧ ∃ vs, getAll fr' rf.results H2 = some (vs, H2) ∧ Q (aResult vs) H2) : Con ext prog (d + 1) f args H Q := by
  intro n hle
  obtain ⟨k, rfl⟩ : ∃ k, n = k + 1 := ⟨n - 1, by unfold fuel0 at hle; omega⟩
  obtain ⟨nt, body, res⟩ := rf
  simp only [] at hc
  subst hc
  obtain ⟨x, fr', H', h1, h2, H2, h5, vs, h3, h4⟩ := h k (by omega)
  refine ⟨aResult vs, H2, ?_, h4⟩
  have hlt : ¬ nt < args.length := by have := Nat.le_of_ble_eq_true hn; simp only at this; omega
  simp only at h5 h3
  simp only [callN, hp, RFunc.run, if_neg hlt, M.bind, h1]
  cases x with
  | exit i => exact h2.elim
  | normal => simp only [M.bind, h5, h3, M.pure]
  | ret => simp only [M.bind, h5, h3, M.pure]
theorem takeMarks1 {H : AHeap} {d l : Nat} {R : RLoop} (h : HasLoop H l R) (hs : R.st = 3) (hd : R.d = d) : takeMarks [.ptr d l] H = some ((), H.set l (.loop { R with st := 4 })) := by
  have h1 : Nat.blt l H.n = true := by simpa using h.lt
  have h2 : (Nat.beq R.st 3 && Nat.beq R.d d) = true := by rw [hs, hd]; simp
  have h3 : takeMark (.ptr d l) H = some ((), H.set l (.loop { R with st := 4 })) := by
    show (match Nat.blt l H.n, H.get l with
      | true, .loop R => (match Nat.beq R.st 3 && Nat.beq R.d d with
        | true => some ((), H.set l (.loop { R with st := 4 }))
        | false => none)
      | _, _ => none) = _
    rw [h1, h.get]
    simp only [h2]
  show M.bind (takeMark (.ptr d l)) (fun _ => takeMarks []) H = _
  simp only [M.bind, h3, takeMarks, M.pure]
section
variable {call : ACall} {lf : Nat} {fr : AFrame} {H : AHeap} {Q : RExit → AFrame → AHeap → Prop}
theorem Wp.range {fns : List FuncId} {nt : Nat} {g : ROpd} {ps : List Nat} {a b : RCode} {gf : FuncId} {fi ca vs : List AVal} (hg : g.ev fr = .func (.func gf) fi ca) (hv : fr nt = .tuple vs) (hf : fns.contains gf = true)
    (h : ∃ v H2 R, call gf (fi ++ [.yield (H.n + 1)] ++ ca) ((H.push .dead).push (.loop ⟨H.n, nt, fr, ps, a, b, 0, .normal⟩)) = some (v, H2) ∧ H2.get (H.n + 1) = .loop R ∧ (Nat.beq R.st 1 || Nat.beq R.st 4) = false ∧
      Q R.pend (upd fr nt (.tuple (.ptr H.n (H.n + 1) :: vs))) (H2.set (H.n + 1) (.loop { R with st := 3 }))) : Wp call lf (.rangeFunc fns nt g ps a b) fr H Q := by
  obtain ⟨v, H2, R, h1, h2, h3, h4⟩ := h
  refine ⟨_, _, _, ?_, h4⟩
  simp only [RCode.exec, hg, hv, hf, h1, h2, h3]
end
theorem round_next {ext : Exts} {prog : FuncId → Option RFunc} {k r : Nat} {avs : List AVal} {H : AHeap} {K : AHeap → Prop} (hp : prog yieldId = none) {R : RLoop} (hl : HasLoop H r R) (hst : R.st = 0) (hpd : R.pend = .normal) (hlen : (Nat.beq avs.length R.ps.length && R.ps.all (fun t => Nat.blt t R.nt)) = true)
    (h : Wp (callN ext prog k) k R.assign (setAll R.fr (R.ps.zip avs)) H fun x fr1 H1 => x = .normal ∧ HasLoop H1 r R ∧ Wp (callN ext prog k) k R.body fr1 (H1.set r (.loop { R with st := 1 })) fun x _ H2 => x = .normal ∧ HasLoop H2 r { R with st := 1 } ∧ K (H2.set r (.loop R))) :
    ∃ H', callN ext prog (k + 1) yieldId (.yield r :: avs) H = some (.bool true, H') ∧ K H' := by
  obtain ⟨x, fr1, H1, h1, rfl, h2, x2, fr2, H2, h3, rfl, h4, h5⟩ := h
  refine ⟨_, ?_, h5⟩
  have e1 : Nat.blt r H.n = true := by simpa using hl.lt
  have e2 : Nat.beq R.st 0 = true := by rw [hst]; rfl
  have e3 : ({ R with st := 0, pend := .normal } : RLoop) = R := by rw [← hst, ← hpd]
  have e4 : Nat.beq yieldId yieldId = true := by simp
  simp only [callN, hp, e4]
  unfold roundRun
  simp only [e1, hl.get, hlen, h1, h2.get, e2, h3, h4.get, Nat.beq_refl, e3]
end Go.Am

namespace Go.Am
open Go
abbrev Bs := List UInt8
abbrev strV (l : Bs) : AVal := .str ⟨l.toArray⟩
theorem str_size (l : Bs) : (⟨l.toArray⟩ : ByteArray).size = l.length := by
  show l.toArray.size = l.length
  simp
section
variable {call : ACall} {fr : AFrame} {H : AHeap} {KF : AFrame → AHeap → Prop} {os : List ROper} {d : Nat}
theorem exec_lenStr {x : ROpd} {l : Bs} (hx : x.ev fr = strV l) : (ROp.lenStr x).exec call fr H = some (.int .i64 l.length, H) := by
  simp only [ROp.exec, hx, aLenStr, str_size, M.ofOption, M.pure]
theorem Fo.lenStr {x : ROpd} {l : Bs} {v : AVal} (hx : x.ev fr = strV l) (hv : AVal.int .i64 l.length = v) (h : WpO call os (upd fr d v) H KF) : WpO call (⟨some d, .lenStr x, none⟩ :: os) fr H KF := by
  subst hv; exact WpO.step rfl ⟨_, _, exec_lenStr hx, h⟩
end
theorem Fo.uptr {call : ACall} {fr : AFrame} {H : AHeap} {KF : AFrame → AHeap → Prop} {os : List ROper} {d : Nat} {t s r : Nat} {x : ROpd} {cs : List AVal} (hx : x.ev fr = .ptr r 0) [h : HasRow H r cs true (2 * t)] (hs : Nat.ble s cs.length = true) (h0 : Nat.blt 0 s = true) (hK : WpO call os (upd fr d (.ptr r 0)) H KF) :
    WpO call (⟨some d, .uptr t s x, none⟩ :: os) fr H KF := by
  refine WpO.step rfl ⟨.ptr r 0, H, ?_, hK⟩
  have h1 : Nat.blt r H.n = true := by simpa using h.lt
  have h2 : (Nat.blt r H.n && Nat.beq 0 0 && Nat.blt 0 s) = true := by rw [h1, h0]; rfl
  have h3 : (Nat.beq (2 * t) (2 * t) && Nat.ble s cs.length) = true := by rw [hs]; simp
  have h4 : aUptr t s (.ptr r 0) H = some (.ptr r 0, H) := by
    show (match Nat.blt r H.n && Nat.beq 0 0 && Nat.blt 0 s with
      | true => (match H.get r with
        | .row cs true e => (match Nat.beq e (2 * t) && Nat.ble s cs.length with
          | true => some (AVal.ptr r 0, H)
          | false => none)
        | _ => none)
      | false => none) = _
    rw [h2, h.get]
    simp only [h3]
  show aUptr t s (x.ev fr) H = _
  rw [hx, h4]
theorem WpX.growX {call : ACall} {fr : AFrame} {H : AHeap} {K : AVal → AHeap → Prop} {e : TypeId} {x y : ROpd} {p q : AVal} {sz n k bytes : Nat} {cs new : List AVal} (hx : x.ev fr = p) (hy : y.ev fr = q) (h : OwnS H p sz n cs e) (hq : SliceAt H q sz k new) (hsz : 0 < sz) (hb : 0 < bytes) (hk : 0 < k) (hroom : 2 * (n + k) * bytes ≤ 2 ^ 48) (hone : new.all AVal.one = true)
    (hK : ∀ p' H', OwnS H' p' sz (n + k) (cs ++ new) e → FreshS H p' → ExtP H H' p → K p' H') : WpX (.append e sz bytes x y) call fr H K := WpX.grow hx hy hsz hb hk hroom hone hK
theorem WpX.pcallC {ext : Exts} {prog : FuncId → Option RFunc} {fr : AFrame} {H : AHeap} {K : AVal → AHeap → Prop} {n d D : Nat} {f : FuncId} {o : ROpd} {l : List ROpd} {args caps : List AVal} {v : AVal} (hn : fuel0 + D ≤ n) (hf : o.ev fr = .func (.func f) [] caps) (hl : l.map (·.ev fr) ++ caps = args) [hc : PureCon ext prog f args H d v] (hd : Nat.ble d D = true) (h : ∀ H1, ExtI H H1 → K v H1) : WpX (.call o l) (callN ext prog n) fr H K := by
  obtain ⟨u, H', h1, rfl, h2⟩ := hc.con n (by have := Nat.le_of_ble_eq_true hd; omega)
  refine ⟨u, H', ?_, h H' ⟨h2⟩⟩
  simp only [ROp.exec, hf, aCallV, List.nil_append, hl]
  exact h1
theorem WpX.yield {call : ACall} {fr : AFrame} {H : AHeap} {K : AVal → AHeap → Prop} {r : Nat} {o : ROpd} {l : List ROpd} {args : List AVal} (hf : o.ev fr = .yield r) (hl : l.map (·.ev fr) = args) (h : ∃ v H', call yieldId (.yield r :: args) H = some (v, H') ∧ K v H') : WpX (.call o l) call fr H K := by
  obtain ⟨v, H', h1, h2⟩ := h
  refine ⟨v, H', ?_, h2⟩
  simp only [ROp.exec, hf, hl, aCallV]
  exact h1
theorem exec_ldNP {call : ACall} {fr : AFrame} {H : AHeap} {a : ROpd} {p : AVal} {sz n j m : Nat} {cs l : List AVal} (ha : a.ev fr = .ptr (rowOf p) (offOf p + j)) [s : SliceAt H p sz n cs] (hm : 0 < m) (hv : j + m ≤ cs.length) (hl : (cs.drop j).take m = l) : (ROp.load (some m) a).exec call fr H = some (.agg l, H) := by
  obtain ⟨v, H', h1, h2, h3⟩ := WpX.ldNP (call := call) (K := fun v H' => v = .agg l ∧ H' = H) ha hm hv hl ⟨rfl, rfl⟩
  rw [h1, h2, h3]
theorem Fo.stO {call : ACall} {fr : AFrame} {H : AHeap} {KF : AFrame → AHeap → Prop} {os : List ROper} {a x : ROpd} {r off : Nat} {cs l : List AVal} {e : TypeId} {v : AVal} (ha : a.ev fr = .ptr r off) (hx : x.ev fr = v) [o : OneV v] [hg : HasRow H r cs true e] (hl : Nat.ble (off + 1) cs.length = true) (hs : cs.set off v = l) (h : WpO call os fr (H.set r (.row l true e)) KF) :
    WpO call (⟨none, .store 1 a x, none⟩ :: os) fr H KF :=
  WpO.do' (WpX.st ha hx o.cells rfl hl (by simp only [List.all_cons, o.one, List.all_nil, Bool.and_self]) (by rw [← hs]; rfl) h)
end Go.Am


namespace Go.Am
open Go
attribute [local irreducible] Wp WpO WpX WpE
theorem px_get {l : List UInt8} (h : pxOk l = true) {i : Nat} (hi : i < l.length) : l.getD i 0 = 0 ∨ l.getD i 0 = 1 := by
 have := List.all_eq_true.1 h l[i] (List.getElem_mem hi)
 simp only [Bool.or_eq_true, beq_iff_eq] at this
 simpa [hi] using this
end Go.Am


namespace Go.Am
open Go
attribute [local irreducible] Wp WpO WpX WpE
end Go.Am


namespace Go.Am
open Go
open Nat renaming reduceEqDiff → qe, reduceAdd → qz
open Int renaming reduceBEq → qn, reduceBNe → qq
attribute [local irreducible] Wp WpO WpX WpE
abbrev RunT := Int × Int × Int
def cellsR (l : List RunT) : List AVal := l.flatMap fun r => [.int .i64 r.1, .int .i64 r.2.1, .int .i64 r.2.2]
theorem cellsR_snoc (l : List RunT) (r : RunT) : cellsR (l ++ [r]) = cellsR l ++ [.int .i64 r.1, .int .i64 r.2.1, .int .i64 r.2.2] := by simp [cellsR]
def startB (p : Nat → Bool) (x : Nat) : Bool := p x && !(decide (0 < x) && p (x - 1))
def endF (p : Nat → Bool) (len : Nat) : Nat → Nat → Nat
 | 0, i => i
 | f + 1, i => if i + 1 < len ∧ p (i + 1) = true then endF p len f (i + 1) else i
def endB (p : Nat → Bool) (len i : Nat) : Nat := endF p len len i
theorem endF_eq {p : Nat → Bool} {len e : Nat} (he : e < len) (hno : e + 1 < len → p (e + 1) = false) : ∀ {f i : Nat}, i ≤ e → e - i ≤ f → (∀ t, i ≤ t → t ≤ e → p t = true) → endF p len f i = e
 | 0, i, h1, h2, _ => by simp only [endF]; omega
 | f + 1, i, h1, h2, h3 => by
  simp only [endF]
  by_cases h : i = e
  ·subst h
   rw [if_neg (fun q => by rw [hno q.1] at q; cases q.2)]
  ·rw [if_pos ⟨by omega, h3 (i + 1) (by omega) (by omega)⟩]
   exact endF_eq he hno (by omega) (by omega) fun t a b => h3 t (by omega) b
theorem endB_eq {p : Nat → Bool} {len i e : Nat} (he : e < len) (hno : e + 1 < len → p (e + 1) = false) (hi : i ≤ e) (hall : ∀ t, i ≤ t → t ≤ e → p t = true) : endB p len i = e := endF_eq he hno hi (by omega) hall
def runV (o : Nat → Nat → Bool) (len a x : Nat) : RunT := ((a : Nat), (x : Nat), (endB (o a) len x : Nat))
def preR (o : Nat → Nat → Bool) (len a x : Nat) : List RunT := ((List.range x).filter (startB (o a))).map (runV o len a)
def allR (o : Nat → Nat → Bool) (len y : Nat) : List RunT := (List.range y).flatMap fun a => preR o len a len
theorem preR_zero (o : Nat → Nat → Bool) (len a : Nat) : preR o len a 0 = [] := rfl
theorem preR_on {o : Nat → Nat → Bool} {len a x : Nat} (h : startB (o a) x = true) : preR o len a (x + 1) = preR o len a x ++ [runV o len a x] := by
 simp [preR, List.range_succ, List.filter_append, h]
theorem preR_off {o : Nat → Nat → Bool} {len a x : Nat} (h : startB (o a) x = false) : preR o len a (x + 1) = preR o len a x := by
 simp [preR, List.range_succ, List.filter_append, h]
theorem preR_skip {o : Nat → Nat → Bool} {len a i : Nat} : ∀ {j : Nat}, i ≤ j → (∀ t, i ≤ t → t < j → startB (o a) t = false) → preR o len a j = preR o len a i
 | 0, h, _ => by rw [show i = 0 by omega]
 | j + 1, h, hn => by
  by_cases hij : i = j + 1
  ·rw [hij]
  ·rw [preR_off (hn j (by omega) (by omega))]
   exact preR_skip (by omega) fun t a b => hn t a (by omega)
theorem preR_len (o : Nat → Nat → Bool) (len a x : Nat) : (preR o len a x).length ≤ x := by
 rw [preR, List.length_map]
 have := List.length_filter_le (startB (o a)) (List.range x)
 simpa using this
theorem allR_succ (o : Nat → Nat → Bool) (len y : Nat) : allR o len (y + 1) = allR o len y ++ preR o len y len := by
 simp [allR, List.range_succ]
theorem allR_len (o : Nat → Nat → Bool) (len : Nat) : ∀ y, (allR o len y).length ≤ y * len
 | 0 => by simp [allR]
 | y + 1 => by
  rw [allR_succ, List.length_append, Nat.add_mul, Nat.one_mul]
  have := allR_len o len y
  have := preR_len o len y len
  omega
theorem K_iter {lines len r r1 r2 r3 : Nat} {F : FuncId} {cap : AVal} {o : Nat → Nat → Bool} {J : List RunT → AHeap → Prop} {H : AHeap} {D : Nat} (hl : lines ≤ 640) (hlen : len ≤ 640)
  (hrow : ∀ acc H, J acc H → HasRow H r1 [.int .i64 lines] true (2 * 3) ∧ HasRow H r2 [.int .i64 len] true (2 * 3) ∧ HasRow H r3 [.func (.func F) [] [cap]] true (2 * 90))
  (hext : ∀ acc H H', J acc H → Ext H H' → J acc H')
  (hink : ∀ acc H, J acc H → ∀ a i : Nat, a < lines → i < len → PureCon ext prog F [.int .i64 a, .int .i64 i, cap] H 2 (.bool (o a i)))
  (hy : ∀ acc H, J acc H → acc.length ≤ 409600 → ∀ (a b c : Int) (n : Nat), fuel0 + D ≤ n → ∃ H', callN ext prog n yieldId [.yield r, .agg [.int .i64 a, .int .i64 b, .int .i64 c]] H = some (.bool true, H') ∧ J (acc ++ [(a, b, c)]) H')
  (hJ : J [] H) : Con ext prog (D + 3) 139 [.yield r, .ptr r1 0, .ptr r2 0, .ptr r3 0] H fun _ H' => J (allR o len lines) H' := by
 refine con_of (show prog 139 = some c139 from rfl) rfl rfl fun n hn => ?_
 obtain ⟨k1, k2, k3⟩ := hrow _ _ hJ
 refine sq ?_
 refine rg fun KF hKF => ?_
 refine Fo.ld rfl rfl ?_
 refine mI ?_
 refine nl hKF ?_
 refine Wp.block ?_
 dsimp only
 refine Wp.loopS [5, 6, 7, 9, 10, 11, 12, 13, 14, 15, 16, 17, 18, 19, 20, 21, 22, 23, 24, 25, 26, 27, 28, 29, 30, 31, 32, 33, 34, 35, 36, 37, 38, 39, 40, 41, 42, 43] (fun y : Nat => [(9, .int .i64 y)]) (fun _ y H2 => y ≤ lines ∧ J (allR o len y) H2) (fun y => lines - y) 0 rfl (fun _ => rfl) ⟨rfl, trivial⟩ ⟨Nat.zero_le _, hJ⟩ (by unfold fuel0 at hn; omega) ?_
 rintro y g H2 ⟨hyl, hJ2⟩
 have hal := allR_len o len y
 have hmul : y * len ≤ 640 * 640 := Nat.mul_le_mul (by omega) hlen
 obtain ⟨j1, j2, j3⟩ := hrow _ _ hJ2
 simp only [↓nrmL, nrmZ, qe, ↓reduceIte, qz, qn, qq]
 cases hc : decide ((y : Int) < (lines : Int))
 ·have hyb : y = lines := by have := of_decide_eq_false hc; omega
  refine sq ?_
  refine rg fun KF hKF => ?_
  refine bn rfl rfl rfl (by simp only [hc]; rfl) ?_
  refine nl hKF ?_
  refine sq ?_
  refine cf rfl ?_
  refine xi ?_
  dsimp only
  refine rz trivial ?_
  rw [← hyb]
  exact hJ2
 have hyb : y < lines := by have := of_decide_eq_true hc; omega
 have hw1 := wa1 (a := y) (by omega)
 have hmul2 : (y + 1) * len ≤ 640 * 640 := Nat.mul_le_mul (by omega) hlen
 rw [Nat.add_mul, Nat.one_mul] at hmul2
 repeat first | refine mI ?_ | refine bn rfl rfl rfl (by simp only [hc]; rfl) ?_ | refine nl hKF ?_ | refine sq ?_ | refine rg fun KF hKF => ?_ | refine ct rfl ?_ | refine sk ?_ | refine Wp.block ?_ | dsimp only
 refine Wp.loopS [6, 7, 12, 13, 14, 15, 16, 17, 18, 19, 20, 21, 22, 23, 24, 25, 26, 27, 28, 29, 30, 31, 32, 33, 34, 35, 36, 37, 38, 39, 40, 41, 42] (fun i : Nat => [(6, .int .i64 i)]) (fun _ i H3 => i ≤ len ∧ (i = 0 ∨ o y (i - 1) = false ∨ (i < len → o y i = false)) ∧ J (allR o len y ++ preR o len y i) H3) (fun i => len - i) 0 rfl (fun _ => rfl) ⟨rfl, trivial⟩ ⟨Nat.zero_le _, Or.inl rfl, by rw [preR_zero, List.append_nil]; exact hJ2⟩ (by unfold fuel0 at hn; omega) ?_
 rintro i g2 H3 ⟨hil, hinv, hJ3⟩
 have hpl := preR_len o len y i
 obtain ⟨m1, m2, m3⟩ := hrow _ _ hJ3
 simp only [↓nrmL, nrmZ, qe, ↓reduceIte, qz, qn, qq]
 cases hc2 : decide ((i : Int) < (len : Int))
 ·have hie : i = len := by have := of_decide_eq_false hc2; omega
  repeat first | refine mI ?_ | refine Fo.ld rfl rfl ?_ | refine bn rfl rfl rfl (by simp only [hc2]; rfl) ?_ | refine b0 ?_ | refine nl hKF ?_ | refine sq ?_ | refine rg fun KF hKF => ?_ | refine cf rfl ?_ | refine xi ?_ | dsimp only
  refine ⟨y + 1, by omega, ⟨by simp only [↓nrmL, nrmZ, qe, ↓reduceIte, qz, qn, qq]; rw [hw1], trivial⟩, hyb, ?_⟩
  rw [allR_succ, ← hie]
  exact hie ▸ hJ3
 have hie : i < len := by have := of_decide_eq_true hc2; omega
 have hw2 := wa1 (a := i) (by omega)
 haveI := hink _ _ hJ3 y i hyb hie
 cases ho : o y i
 ·have hst : startB (o y) i = false := by simp [startB, ho]
  rw [ho] at this
  repeat first | refine mI ?_ | refine Fo.ld rfl rfl ?_ | refine bn rfl rfl rfl (by simp only [hc2]; rfl) ?_ | refine nl hKF ?_ | refine sq ?_ | refine rg fun KF hKF => ?_ | refine ct rfl ?_ | refine sk ?_ | refine Wp.block ?_
  refine WpO.do (WpX.pcallC (D := D + 2) (d := 2) (args := [.int .i64 (y : Int), .int .i64 (i : Int), cap]) hn rfl (by simp only [↓nrmL, nrmZ, qe, ↓reduceIte, qz, qn, qq, List.map] <;> rfl) (by rw [Nat.ble_eq]; omega) fun H4 hx4 => ?_)
  repeat first | refine mI ?_ | refine b0 ?_ | refine Fo.now rfl rfl (by simp only [↓nrmL, nrmZ, qe, ↓reduceIte, qz, qn, qq]; rfl) ?_ | refine nl hKF ?_ | refine rg fun KF hKF => ?_ | refine ct rfl ?_ | refine xi ?_ | dsimp only
  refine ⟨i + 1, by omega, ⟨by simp only [↓nrmL, nrmZ, qe, ↓reduceIte, qz, qn, qq]; rw [hw2], trivial⟩, hie, Or.inr (Or.inl (by rw [Nat.add_sub_cancel]; exact ho)), ?_⟩
  rw [preR_off hst]
  exact hext _ _ _ hJ3 Ext0.ext
 have hst : startB (o y) i = true := by
  rcases hinv with h | h | h
  ·subst h; simp [startB, ho]
  ·simp [startB, ho, h]
  ·rw [h hie] at ho; cases ho
 rw [ho] at this
 repeat first | refine mI ?_ | refine Fo.ld rfl rfl ?_ | refine bn rfl rfl rfl (by simp only [hc2]; rfl) ?_ | refine nl hKF ?_ | refine sq ?_ | refine rg fun KF hKF => ?_ | refine ct rfl ?_ | refine sk ?_ | refine Wp.block ?_
 refine WpO.do (WpX.pcallC (D := D + 2) (d := 2) (args := [.int .i64 (y : Int), .int .i64 (i : Int), cap]) hn rfl (by simp only [↓nrmL, nrmZ, qe, ↓reduceIte, qz, qn, qq, List.map] <;> rfl) (by rw [Nat.ble_eq]; omega) fun H4 hx4 => ?_)
 have hJ4 : J _ H4 := hext _ _ _ hJ3 hx4.ext
 repeat first | refine mI ?_ | refine Fo.now rfl rfl (by simp only [↓nrmL, nrmZ, qe, ↓reduceIte, qz, qn, qq]; rfl) ?_ | refine nl hKF ?_ | refine sq ?_ | refine rg fun KF hKF => ?_ | refine cf rfl ?_ | refine sk ?_ | refine Wp.block ?_ | dsimp only
 refine Wp.loopS [6, 23, 24, 25, 26, 27, 28, 29, 30, 31, 32, 33, 34, 35] (fun e : Nat => [(6, .int .i64 e)]) (fun _ e H5 => i ≤ e ∧ e < len ∧ (∀ t, i ≤ t → t ≤ e → o y t = true) ∧ J (allR o len y ++ preR o len y i) H5) (fun e => len - e) i rfl (fun _ => rfl) ⟨rfl, trivial⟩ ⟨Nat.le_refl _, hie, fun t a b => by rw [show t = i by omega]; exact ho, hJ4⟩ (by unfold fuel0 at hn; omega) ?_
 rintro e g3 H5 ⟨hie2, hel, hall, hJ5⟩
 obtain ⟨q1, q2, q3⟩ := hrow _ _ hJ5
 have hw3 := wa1 (a := e) (by omega)
 have fin : ∀ H6, J (allR o len y ++ preR o len y i) H6 → (e + 1 < len → o y (e + 1) = false) → ∃ H', callN ext prog n yieldId [.yield r, .agg [.int .i64 (y : Int), .int .i64 (i : Int), .int .i64 (e : Int)]] H6 = some (.bool true, H') ∧ J (allR o len y ++ preR o len y (e + 1)) H' := by
  intro H6 hJ6 hno
  obtain ⟨H', h1, h2⟩ := hy _ _ hJ6 (by rw [List.length_append]; omega) y i e n (by omega)
  refine ⟨H', h1, ?_⟩
  have e1 : preR o len y (e + 1) = preR o len y i ++ [((y : Int), (i : Int), (e : Int))] := by
   rw [preR_skip (i := i + 1) (by omega) (fun t a b => by
    have : o y (t - 1) = true := hall (t - 1) (by omega) (by omega)
    have h0 : 0 < t := by omega
    simp [startB, this, h0]), preR_on hst, runV, endB_eq hel hno hie2 hall]
  rw [e1, ← List.append_assoc]
  exact h2
 simp only [↓nrmL, nrmZ, qe, ↓reduceIte, qz, qn, qq]
 cases hc3 : decide (((e + 1 : Nat) : Int) < (len : Int))
 ·have hee : ¬ e + 1 < len := by have := of_decide_eq_false hc3; omega
  obtain ⟨H7, y1, y2⟩ := fin H5 hJ5 (fun q => absurd q hee)
  repeat first | refine ox ?_ | refine mI ?_ | refine mB ?_ | refine mv ?_ | refine Fo.ld rfl rfl ?_ | refine bn rfl rfl rfl (by simp only [hw3, hc3]; rfl) ?_ | refine fB ?_ | (refine ob (cs' := ?_) ?hc ?_; case hc => (simp only [↓nrmL, nrmZ, qe, ↓reduceIte, qz, qn, qq, hw3, hc3]; rfl)) | refine nl hKF ?_ | refine sq ?_ | refine rg fun KF hKF => ?_ | refine cf rfl ?_ | refine xi ?_
  refine WpO.do (WpX.yield rfl (by simp only [↓nrmL, nrmZ, qe, ↓reduceIte, qz, qn, qq, List.map] <;> rfl) ⟨_, _, y1, ?_⟩)
  repeat first | refine mI ?_ | refine b0 ?_ | refine Fo.now rfl rfl (by simp only [↓nrmL, nrmZ, qe, ↓reduceIte, qz, qn, qq]; rfl) ?_ | refine nl hKF ?_ | refine rg fun KF hKF => ?_ | refine cf rfl ?_ | refine sk ?_ | dsimp only
  refine ⟨e + 1, by omega, ⟨by simp only [↓nrmL, nrmZ, qe, ↓reduceIte, qz, qn, qq]; rw [hw3], trivial⟩, by omega, Or.inr (Or.inr fun q => absurd q hee), y2⟩
 have hee : e + 1 < len := by have := of_decide_eq_true hc3; omega
 haveI := hink _ _ hJ5 y (e + 1) hyb hee
 cases ho2 : o y (e + 1)
 ·rw [ho2] at this
  repeat first | refine oy ?_ | refine mI ?_ | refine mB ?_ | refine Fo.ld rfl rfl ?_ | refine bn rfl rfl rfl (by simp only [hw3, hc3]; rfl) ?_ | refine sq ?_ | refine rg fun KF hKF => ?_
  refine WpO.do (WpX.pcallC (D := D + 2) (d := 2) (args := [.int .i64 (y : Int), .int .i64 ((e + 1 : Nat) : Int), cap]) hn rfl (by simp only [↓nrmL, nrmZ, qe, ↓reduceIte, qz, qn, qq, List.map] <;> rfl) (by rw [Nat.ble_eq]; omega) fun H6 hx6 => ?_)
  obtain ⟨H7, y1, y2⟩ := fin H6 (hext _ _ _ hJ5 hx6.ext) (fun _ => ho2)
  refine tB ?_
  refine nl hKF ?_
  refine cf rfl ?_
  refine xi ?_
  refine sq ?_
  refine rg fun KF hKF => ?_
  refine mv ?_
  refine mI ?_
  refine mI ?_
  refine mI ?_
  refine ob (cs' := ?_) ?hc ?_; case hc => (simp only [↓nrmL, nrmZ, qe, ↓reduceIte, qz, qn, qq]; rfl)
  refine WpO.do (WpX.yield rfl (by simp only [↓nrmL, nrmZ, qe, ↓reduceIte, qz, qn, qq, List.map] <;> rfl) ⟨_, _, y1, ?_⟩)
  repeat first | refine mI ?_ | refine b0 ?_ | refine Fo.now rfl rfl (by simp only [↓nrmL, nrmZ, qe, ↓reduceIte, qz, qn, qq]; rfl) ?_ | refine nl hKF ?_ | refine rg fun KF hKF => ?_ | refine cf rfl ?_ | refine sk ?_ | dsimp only
  refine ⟨e + 1, by omega, ⟨by simp only [↓nrmL, nrmZ, qe, ↓reduceIte, qz, qn, qq]; rw [hw3], trivial⟩, by omega, Or.inr (Or.inr fun _ => ho2), y2⟩
 ·rw [ho2] at this
  repeat first | refine oy ?_ | refine mI ?_ | refine mB ?_ | refine Fo.ld rfl rfl ?_ | refine bn rfl rfl rfl (by simp only [hw3, hc3]; rfl) ?_ | refine sq ?_ | refine rg fun KF hKF => ?_
  refine WpO.do (WpX.pcallC (D := D + 2) (d := 2) (args := [.int .i64 (y : Int), .int .i64 ((e + 1 : Nat) : Int), cap]) hn rfl (by simp only [↓nrmL, nrmZ, qe, ↓reduceIte, qz, qn, qq, List.map] <;> rfl) (by rw [Nat.ble_eq]; omega) fun H6 hx6 => ?_)
  repeat first | refine mI ?_ | refine b0 ?_ | refine tB ?_ | refine nl hKF ?_ | refine rg fun KF hKF => ?_ | refine ct rfl ?_ | refine sk ?_ | refine Wp.block ?_ | dsimp only
  refine ⟨e + 1, by omega, ⟨by simp only [↓nrmL, nrmZ, qe, ↓reduceIte, qz, qn, qq]; rw [hw3], trivial⟩, by omega, hee, fun t a b => ?_, hext _ _ _ hJ5 Ext0.ext⟩
  by_cases ht : t ≤ e
  ·exact hall t a ht
  ·rw [show t = e + 1 by omega]; exact ho2
end Go.Am


namespace Go.Am
open Go
attribute [local irreducible] Wp WpO WpX WpE
theorem pxOk_rep (n : Nat) : pxOk (List.replicate n 0) = true := by
 simp [pxOk, List.all_replicate]
theorem pxOk_set {l : List UInt8} {i : Nat} {c : UInt8} (h : pxOk l = true) (hc : c = 0 ∨ c = 1) : pxOk (l.set i c) = true := by
 unfold pxOk at h ⊢
 rw [List.all_eq_true] at h ⊢
 intro x hx
 rcases List.mem_or_eq_of_mem_set hx with h1 | rfl
 ·exact h x h1
 ·rcases hc with rfl | rfl <;> rfl
structure Ok (a b : Nat) (l : List UInt8) : Prop where
 wa : a ≤ 640
 hb : b ≤ 640
 len : l.length = a * b
 px : pxOk l = true
theorem Ok.sized {a b : Nat} {l : List UInt8} (h : Ok a b l) : sizedB a b l.length = true := by
 have hm : a * b ≤ 640 * 640 := Nat.mul_le_mul h.wa h.hb
 have h1 : sideB a = true := by simp only [sideB, Bool.and_eq_true, decide_eq_true_eq]; have := h.wa; omega
 have h2 : sideB b = true := by simp only [sideB, Bool.and_eq_true, decide_eq_true_eq]; have := h.hb; omega
 unfold sizedB
 rw [h1, h2, wm (by omega), h.len]
 simp
theorem Ok.err {a b : Nat} {l : List UInt8} (h : Ok a b l) : Img.err ⟨a, b, l⟩ = 0 := by
 have h1 : (⟨a, b, l⟩ : Img).sized = true := h.sized
 have h2 := h.px
 unfold Img.err
 rw [h1]
 simp only [h2, cond_true]
end Go.Am


namespace Go.Am
open Go
attribute [local irreducible] Wp WpO WpX WpE
theorem K_line {a b y : Nat} {p : AVal} {H : AHeap} {l : List UInt8} [hp : BytesI H p l] (hl : l.length = a * b) (hy : y < b) (hm : a * b ≤ 640 * 640) (hb : b ≤ 640) : Con ext prog 1 83 [.agg [.int .i64 a, .int .i64 b, p], .int .i64 y] H fun v H' => Part p v (y * a) a ∧ BytesI H' v (rowL l a y) ∧ Ext H H' := by
 refine con_of (show prog 83 = some c83 from rfl) rfl rfl fun n hn => ?_
 haveI := hp.one
 have hr := row_le (a := a) hy
 have e1 : (y + 1) * a = y * a + a := by rw [Nat.add_mul, Nat.one_mul]
 have h3 : IntKind.i64.wrap ((y : Int) * (a : Int)) = ((y * a : Nat) : Int) := wm (by omega)
 have h4 := wa1 (a := y) (by omega)
 have h5 : IntKind.i64.wrap (((y + 1 : Nat) : Int) * (a : Int)) = ((y * a + a : Nat) : Int) := by rw [← e1]; exact wm (by omega)
 repeat first | refine mI ?_ | refine mN ?_ | refine fd ?_ | refine Fo.ld rfl rfl ?_ | refine bn rfl rfl rfl (by simp only [h3, h4, h5]; rfl) ?_ | refine bA ?_ | refine nl hKF ?_ | refine sq ?_ | refine rg fun KF hKF => ?_
 refine Fo.slc (p := p) (l := l) (a := y * a) (b := y * a + a) rfl (Or.inr ⟨_, rfl⟩) (Or.inr ⟨_, rfl⟩) (by omega) (by omega) fun v H1 h6 h7 hx => ?_
 rw [Nat.add_sub_cancel_left] at h6 h7
 haveI := h6.one
 refine mv ?_
 refine nl hKF ?_
 refine rt ?_
 dsimp only
 refine rz trivial ?_
 exact ⟨h6, h7, Ext0.ext⟩
end Go.Am


namespace Go.Am
open Go
attribute [local irreducible] Wp WpO WpX WpE
theorem ok_of {w h : Int} {l : List UInt8} (h0 : (Img.err ⟨w, h, l⟩ == 0) = true) : ∃ a b : Nat, w = a ∧ h = b ∧ Ok a b l := by
 obtain ⟨h1, h2⟩ := Img.ok h0
 obtain ⟨a, b, e1, e2, e3, e4, e5⟩ := sized_nat h1
 exact ⟨a, b, e1, e2, e3, e4, e5, h2⟩
end Go.Am


namespace Go.Am
open Go
open Nat renaming reduceEqDiff → qe, reduceAdd → qz
open Int renaming reduceBEq → qn, reduceBNe → qq
attribute [local irreducible] Wp WpO WpX WpE
instance {H : AHeap} {r : Nat} {a b c : AVal} {rw : Bool} {ty : TypeId} [h : HasRow H r [a, b, c] rw ty] : SliceAt H (.slice r 0 1 (some 1) 3) 3 1 [a, b, c] := ⟨Or.inr ⟨r, 0, some 1, _, rw, ty, rfl, h.lt, h.get, by simp, rfl, Nat.le_refl _⟩⟩
abbrev rndA : RCode := .region [⟨(some 6), .new 110 [(.int .i64 0), (.int .i64 0), (.int .i64 0)], none⟩, ⟨none, .store 3 (.tmp 6) (.tmp 18), none⟩]
abbrev rndB : RCode := .block 1 (.region [⟨(some 19), .load none (.tmp 5), none⟩,
   ⟨(some 20), .load (some 3) (.tmp 6), none⟩,
   ⟨(some 21), .buildSlice 110 3 1 [(.int .i64 0), (.int .i64 0), (.int .i64 0)] [(0, 3, (.tmp 20))], none⟩,
   ⟨(some 22), .append 110 3 24 (.tmp 19) (.tmp 21), none⟩,
   ⟨none, .store 1 (.tmp 5) (.tmp 22), none⟩])
abbrev rndL (d : Nat) (fr : AFrame) : RLoop := ⟨d, 24, fr, [18], rndA, rndB, 0, .normal⟩
structure JR (Hb : AHeap) (rl r : Nat) (R0 : RLoop) (acc : List RunT) (H : AHeap) : Prop where
 n : Hb.n ≤ H.n
 get : ∀ s, s < Hb.n → s ≠ rl → H.get s = Hb.get s
 cell : ∃ p e, HasRow H rl [p] true e ∧ OwnS H p 3 acc.length (cellsR acc) 110 ∧ RowNe p rl ∧ FreshS Hb p
 loop : HasLoop H r R0
theorem JR.more {Hb H H' : AHeap} {rl r : Nat} {R0 : RLoop} {acc : List RunT} (h : JR Hb rl r R0 acc H) (x : Ext H H') : JR Hb rl r R0 acc H' := by
 obtain ⟨p, e, h1, h2, h3, h4⟩ := h.cell
 haveI : ExtI H H' := ⟨x⟩
 have h5 := h.loop
 have hn := h.n
 exact ⟨Nat.le_trans h.n x.n, fun s hs hne => by rw [x.get s (by omega)]; exact h.get s hs hne, ⟨p, e, inferInstance, inferInstance, h3, h4⟩, inferInstance⟩
theorem round_rows {Hb H : AHeap} {rl r d n : Nat} {fr : AFrame} {acc : List RunT} {a b c : Int} (h5 : fr 5 = .ptr rl 0) (hrl : rl < Hb.n) (hr : Hb.n ≤ r) (hJ : JR Hb rl r (rndL d fr) acc H) (hlen : acc.length ≤ 409600) (hn : fuel0 + 1 ≤ n) :
  ∃ H', callN ext prog n yieldId [.yield r, .agg [.int .i64 a, .int .i64 b, .int .i64 c]] H = some (.bool true, H') ∧ JR Hb rl r (rndL d fr) (acc ++ [(a, b, c)]) H' := by
 obtain ⟨k, rfl⟩ : ∃ k, n = k + 1 := ⟨n - 1, by omega⟩
 obtain ⟨p, e, h1, ho, hpr, hpf⟩ := hJ.cell
 haveI := hJ.loop
 haveI hne1 : NeR rl r := ⟨by omega⟩
 haveI hne2 : NeR r rl := ⟨by omega⟩
 haveI := ho.sl
 haveI := ho.sl.one
 haveI hpne : RowNe p r := ⟨fun r' off len cap sz q => by
  rcases ho.it with ⟨rfl, _⟩ | ⟨r2, e', rfl, h2, h3, _⟩
  ·cases q
  ·cases q
   intro q; subst q
   have := hJ.loop.get
   rw [h3] at this; cases this⟩
 refine round_next (R := rndL d fr) rfl hJ.loop rfl rfl rfl ?_
 show Wp (callN ext prog k) k rndA (upd fr 18 (.agg [.int .i64 a, .int .i64 b, .int .i64 c])) H _
 simp only [h5]
 refine rg fun KF hKF => ?_
 refine nw ?_
 refine so rfl (rfl : _ = AVal.agg _) rfl rfl rfl (by simp only [↓nrmL, nrmZ, qe, ↓reduceIte, qz, qn, qq, h5]; rfl) ?_
 refine nl hKF ?_
 refine ⟨rfl, inferInstance, ?_⟩
 show Wp (callN ext prog k) k rndB _ _ _
 refine Wp.block ?_
 refine rg fun KF hKF => ?_
 refine Fo.ld (r := rl) (off := 0) h5 rfl ?_
 refine Fo.ldN rfl rfl (by simp only [↓nrmL, nrmZ, qe, ↓reduceIte, qz, qn, qq]; rfl) ?_
 refine Fo.bslice rfl (by simp only [↓nrmL, nrmZ, qe, ↓reduceIte, qz, qn, qq]; rfl) ?_
 refine WpO.do (WpX.growX (p := p) (q := .slice (AHeap.n (AHeap.set (AHeap.set (AHeap.push H _) H.n _) r _)) 0 1 (some 1) 3) (k := 1) (new := [.int .i64 a, .int .i64 b, .int .i64 c]) rfl rfl (by infer_instance) (by infer_instance) (by decide) (by decide) (by decide) (by omega) (by rfl) fun p' H2 ho2 hf2 hx2 => ?_)
 haveI := ho2.sl.one
 skip
 refine Fo.stO (v := p') (r := rl) (off := 0) h5 rfl rfl rfl ?_
 refine nl hKF ?_
 dsimp only
 have hHn := hJ.n
 have hrn := hJ.loop.lt
 have hp'r : RowNe p' r := ⟨fun r' _ _ _ _ q => by have := hf2.ge _ _ _ _ _ q; simp only [AHeap.push, AHeap.set] at this; omega⟩
 have hp'l : RowNe p' rl := ⟨fun r' _ _ _ _ q => by have := hf2.ge _ _ _ _ _ q; simp only [AHeap.push, AHeap.set] at this; omega⟩
 refine ⟨rfl, inferInstance, ?_, ?_, ⟨p', e, ?_, ?_, hp'l, ?_⟩, ?_⟩
 ·have := hx2.n
  simp only [AHeap.push, AHeap.set] at this ⊢
  omega
 ·intro s hs hne
  have hsr : s ≠ r := by omega
  rw [set_get_ne hsr, set_get_ne hne, hx2.get s (by simp only [AHeap.push, AHeap.set]; omega) ⟨fun r' _ _ _ _ q => by have := hpf.ge _ _ _ _ _ q; omega⟩]
  rw [push_get_lt (by simp only [AHeap.push, AHeap.set]; omega), set_get_ne hsr, set_get_ne (by omega), push_get_lt (by omega)]
  exact hJ.get s hs hne
 ·infer_instance
 ·rw [List.length_append, cellsR_snoc]
  infer_instance
 ·refine ⟨fun r' _ _ _ _ q => ?_⟩
  have := hf2.ge _ _ _ _ _ q
  simp only [AHeap.push, AHeap.set] at this
  omega
 ·infer_instance
end Go.Am


namespace Go.Am
open Go
open Nat renaming reduceEqDiff → qe, reduceAdd → qz
open Int renaming reduceBEq → qn, reduceBNe → qq
attribute [local irreducible] Wp WpO WpX WpE
theorem K_runs {x y : Int} {F : FuncId} {cap : AVal} {H : AHeap} : Con ext prog 1 124 [.int .i64 x, .int .i64 y, .func (.func F) [] [cap]] H fun v H' => ∃ r1 r2 r3, v = .func (.func 139) [] [.ptr r1 0, .ptr r2 0, .ptr r3 0] ∧ HasRow H' r1 [.int .i64 x] true (2 * 3) ∧ HasRow H' r2 [.int .i64 y] true (2 * 3) ∧ HasRow H' r3 [.func (.func F) [] [cap]] true (2 * 90) ∧ Ext H H' ∧ H.n ≤ r1 ∧ H.n ≤ r2 ∧ H.n ≤ r3 := by
 refine con_of (show prog 124 = some c124 from rfl) rfl rfl fun n hn => ?_
 repeat first | refine mF ?_ | refine mv ?_ | refine Fo.box1 (rfl : _ = AVal.int _ _) ?_ | refine Fo.box1 (rfl : _ = AVal.func _ _ _) ?_ | refine Fo.now rfl rfl rfl ?_ | refine nl hKF ?_ | refine sq ?_ | refine rg fun KF hKF => ?_ | refine rt ?_ | dsimp only
 refine rz trivial ?_
 exact ⟨_, _, _, rfl, inferInstance, inferInstance, inferInstance, Ext0.ext, Nat.le_refl _, by simp only [AHeap.push]; omega, by simp only [AHeap.push]; omega⟩
instance K_colInk {r : Nat} {p : AVal} {H : AHeap} {w h a i : Int} {l : List UInt8} {rw : Bool} {e : TypeId} [hr : HasRow H r [.int .i64 w, .int .i64 h, p] rw e] [hp : BytesI H p l] [hs : Fits w h l] : PureCon ext prog 125 [.int .i64 a, .int .i64 i, .ptr r 0] H 2 (.bool (inkB w h l a i)) := ⟨by
 refine con_of (show prog 125 = some c125 from rfl) rfl rfl fun n hn => ?_
 haveI := hp.one
 repeat first | refine mI ?_ | refine mB ?_ | refine Fo.ldN rfl rfl (by simp only [↓nrmL, nrmZ, qe, ↓reduceIte, qz, qn, qq]; rfl) ?_ | (refine Fo.pcall (v' := ?_) hn rfl (by simp only [↓nrmL, nrmZ, qe, ↓reduceIte, qz, qn, qq, List.map]; rfl) rfl ?hv fun _ _ => ?_; case hv => rfl) | refine nl hKF ?_ | refine sq ?_ | refine rg fun KF hKF => ?_ | refine rt ?_ | dsimp only
 refine rz trivial ?_
 exact ⟨rfl, Ext0.ext⟩⟩
theorem JR.row {Hb H : AHeap} {rl r s : Nat} {R0 : RLoop} {acc : List RunT} {cs : List AVal} {rw : Bool} {e : TypeId} (h : JR Hb rl r R0 acc H) (k : HasRow Hb s cs rw e) (hne : s ≠ rl) : HasRow H s cs rw e := ⟨Nat.lt_of_lt_of_le k.lt h.n, by rw [h.get s k.lt hne]; exact k.get⟩
theorem JR.bytes {Hb H : AHeap} {rl r : Nat} {R0 : RLoop} {acc : List RunT} {p : AVal} {l : List UInt8} (h : JR Hb rl r R0 acc H) (k : BytesI Hb p l) (hne : RowNe p rl) : BytesI H p l := k.keep h.n fun s _ _ _ _ e hs => h.get s hs (hne.ne _ _ _ _ _ e)
theorem JR.ext {Hh Hb H : AHeap} {rl r : Nat} {R0 : RLoop} {acc : List RunT} (h : JR Hb rl r R0 acc H) (x : Ext Hh Hb) (hrl : Hh.n ≤ rl) : Ext Hh H := ⟨Nat.le_trans x.n h.n, fun s hs => by have := x.n; rw [h.get s (by omega) (by omega), x.get s hs]⟩
theorem JR.start {Hb : AHeap} {rl : Nat} {R0 : RLoop} {e : TypeId} (k : HasRow Hb rl [.nslice] true e) : JR Hb rl (Hb.n + 1) R0 [] ((Hb.push .dead).push (.loop R0)) := by
 have hlt := k.lt
 refine ⟨by simp only [AHeap.push]; omega, fun s hs _ => ?_, ⟨.nslice, e, inferInstance, ⟨Or.inl ⟨rfl, rfl, rfl⟩⟩, inferInstance, ⟨fun _ _ _ _ _ q => by cases q⟩⟩, (inferInstance : HasLoop ((Hb.push .dead).push (.loop R0)) (Hb.push .dead).n R0)⟩
 rw [push_get_lt (by simp only [AHeap.push]; omega), push_get_lt hs]
theorem own_ne {H : AHeap} {p : AVal} {sz n r : Nat} {cs : List AVal} {e : TypeId} {R0 : RLoop} (ho : OwnS H p sz n cs e) (hl : HasLoop H r R0) : RowNe p r := ⟨fun r' off len cap sz q => by
 rcases ho.it with ⟨rfl, _⟩ | ⟨r2, e', rfl, h2, h3, _⟩
 ·cases q
 ·cases q
  intro q; subst q
  have := hl.get
  rw [h3] at this; cases this⟩
def NewRuns (H H' : AHeap) (v : AVal) (l : List RunT) : Prop := OwnS H' v 3 l.length (cellsR l) 110 ∧ FreshS H v ∧ Ext H H'
def RunsRes (H H' : AHeap) (v : AVal) (r : List RunT × Int) : Prop := ∃ q, v = .tuple [q, .int .i64 r.2] ∧ NewRuns H H' q r.1
theorem newRuns0 {H H' : AHeap} [x : Ext0 H H'] : NewRuns H H' .nslice [] := ⟨⟨Or.inl ⟨rfl, rfl, rfl⟩⟩, ⟨fun _ _ _ _ _ e => by cases e⟩, x.ext⟩
def colO (g : Img) (x y : Nat) : Bool := inkB g.w g.h g.px x y
def colsSpec (g : Img) : List RunT × Int := bif g.err == 0 then (allR (colO g) g.h.toNat g.w.toNat, 0) else ([], g.err)
theorem K_Columns {p : AVal} {H : AHeap} {w h : Int} {l : List UInt8} [hp : BytesI H p l] : Con ext prog 7 106 [.agg [.int .i64 w, .int .i64 h, p]] H fun v H' => RunsRes H H' v (colsSpec ⟨w, h, l⟩) := by
 refine con_ofR (show prog 106 = some c106 from rfl) rfl rfl fun n hn => ?_
 haveI := hp.one
 cases h0 : (Img.err ⟨w, h, l⟩ == 0)
 ·have e1 : colsSpec ⟨w, h, l⟩ = ([], Img.err ⟨w, h, l⟩) := by simp [colsSpec, h0]
  rw [e1]
  simp only [h0, bne]
  repeat first | refine mI ?_ | refine mN ?_ | refine Fo.ldN rfl rfl (by simp only [↓nrmL, nrmZ, qe, ↓reduceIte, qz, qn, qq, h0, bne]; rfl) ?_ | refine bn rfl rfl rfl (by simp only [h0, bne]; rfl) ?_ | (refine Fo.pcall (v' := ?_) hn rfl (by simp only [↓nrmL, nrmZ, qe, ↓reduceIte, qz, qn, qq, h0, bne, List.map]; rfl) rfl ?hv fun _ _ => ?_; case hv => rfl) | refine bA ?_ | refine nl hKF ?_ | refine sq ?_ | refine rg fun KF hKF => ?_ | refine ct rfl ?_ | refine rt ?_ | dsimp only
  exact ⟨trivial, _, rfl, _, rfl, _, rfl, newRuns0⟩
 obtain ⟨a, b, rfl, rfl, ok⟩ := ok_of h0
 have e1 : colsSpec ⟨a, b, l⟩ = (allR (colO ⟨a, b, l⟩) b a, 0) := by simp [colsSpec, h0]
 rw [e1]
 have ha := ok.wa
 have hb := ok.hb
 haveI : Fits a b l := ⟨ok.sized⟩
 simp only [h0, bne]
 repeat first | refine mI ?_ | refine mN ?_ | refine fd ?_ | refine Fo.ld rfl rfl ?_ | refine Fo.ldN rfl rfl (by simp only [↓nrmL, nrmZ, qe, ↓reduceIte, qz, qn, qq, h0, bne]; rfl) ?_ | refine bn rfl rfl rfl (by simp only [h0, bne]; rfl) ?_ | (refine Fo.pcall (v' := ?_) hn rfl (by simp only [↓nrmL, nrmZ, qe, ↓reduceIte, qz, qn, qq, h0, bne, List.map]; rfl) rfl ?hv fun _ _ => ?_; case hv => rfl) | refine bA ?_ | refine nw ?_ | refine Fo.now rfl rfl (by simp only [↓nrmL, nrmZ, qe, ↓reduceIte, qz, qn, qq, h0, bne]; rfl) ?_ | refine nl hKF ?_ | refine sq ?_ | refine rg fun KF hKF => ?_ | refine cf rfl ?_ | refine sk ?_
 rename AHeap => H1
 refine WpO.do (WpX.conD hn rfl rfl (by simp only [↓nrmL, nrmZ, qe, ↓reduceIte, qz, qn, qq, List.map] <;> rfl) (K_runs (x := a) (y := b) (F := 125) (cap := .ptr H.n 0)) fun v H2 h5 => ?_)
 obtain ⟨r1, r2, r3, e2, k1, k2, k3, hx2, g1, g2, g3⟩ := h5
 subst e2
 haveI : ExtI _ H2 := ⟨hx2⟩
 have hH1 : H.n < H1.n := (inferInstance : LtN H.n H1).lt
 have kl : HasRow H2 H1.n [.nslice] true (2 * 106) := inferInstance
 have kg : HasRow H2 H.n [.int .i64 a, .int .i64 b, p] true (2 * 24) := inferInstance
 have kb : BytesI H2 p l := inferInstance
 have kne : RowNe p H1.n := inferInstance
 have hx02 : Ext H H2 := Ext0.ext
 simp only [AHeap.push] at g1 g2 g3
 have key : ∀ fr : AFrame, fr 5 = .ptr H1.n 0 → ∃ v H3, callN ext prog n 139 [.yield (H2.n + 1), .ptr r1 0, .ptr r2 0, .ptr r3 0] ((H2.push .dead).push (.loop (rndL H2.n fr))) = some (v, H3) ∧ JR H2 H1.n (H2.n + 1) (rndL H2.n fr) (allR (colO ⟨a, b, l⟩) b a) H3 := fun fr h5 =>
  K_iter (lines := a) (len := b) (r := H2.n + 1) (F := 125) (cap := .ptr H.n 0) (o := colO ⟨a, b, l⟩) (J := JR H2 H1.n (H2.n + 1) (rndL H2.n fr)) (D := 1) (by omega) (by omega)
   (fun acc H4 hJ => ⟨hJ.row k1 (by omega), hJ.row k2 (by omega), hJ.row k3 (by omega)⟩)
   (fun acc H4 H5 hJ x => hJ.more x)
   (fun acc H4 hJ c i _ _ => by
    haveI := hJ.row kg (by omega)
    haveI := hJ.bytes kb kne
    exact (inferInstance : PureCon ext prog 125 [.int .i64 c, .int .i64 i, .ptr H.n 0] H4 2 (.bool (inkB a b l c i))))
   (fun acc H4 hJ hlen c d e m hm => round_rows h5 kl.lt (Nat.le_succ _) hJ hlen hm)
   (JR.start kl) n (by omega)
 have key2 : ∀ (fr : AFrame) (P : AVal → AHeap → RLoop → Prop), fr 5 = .ptr H1.n 0 → (∀ v H3, JR H2 H1.n (H2.n + 1) (rndL H2.n fr) (allR (colO ⟨a, b, l⟩) b a) H3 → P v H3 (rndL H2.n fr)) →
   ∃ v H3 R, callN ext prog n 139 ([] ++ [.yield (H2.n + 1)] ++ [.ptr r1 0, .ptr r2 0, .ptr r3 0]) ((H2.push .dead).push (.loop ⟨H2.n, 24, fr, [18], rndA, rndB, 0, .normal⟩)) = some (v, H3) ∧ H3.get (H2.n + 1) = .loop R ∧ (Nat.beq R.st 1 || Nat.beq R.st 4) = false ∧ P v H3 R := fun fr P h5 hP => by
  obtain ⟨v, H3, e3, hJ⟩ := key fr h5
  exact ⟨v, H3, rndL H2.n fr, e3, hJ.loop.get, rfl, hP v H3 hJ⟩
 refine nl hKF ?_
 refine Wp.block ?_
 dsimp only
 refine Wp.range (gf := 139) (fi := []) (ca := [.ptr r1 0, .ptr r2 0, .ptr r3 0]) (vs := []) rfl rfl rfl ?_
 refine key2 _ _ rfl fun v H3 hJ => ?_
 obtain ⟨q, e, c1, c2, c3, c4⟩ := hJ.cell
 haveI := hJ.loop
 haveI hnq := own_ne c2 hJ.loop
 haveI := c2.sl.one
 haveI : NeR H1.n (H2.n + 1) := ⟨by have := kl.lt; omega⟩
 have hx03 := hJ.ext hx02 (by omega)
 have hHn := hx02.n
 refine sq ?_
 refine rg fun KF hKF => ?_
 refine Fo.ld rfl rfl ?_
 refine mv ?_
 refine mI ?_
 refine nl hKF ?_
 refine rt ?_
 dsimp only
 refine ⟨trivial, _, takeMarks1 (d := H2.n) (l := H2.n + 1) inferInstance rfl rfl, _, rfl, q, rfl, inferInstance, c4.weak, ?_⟩
 refine ⟨hx03.n, fun s hs => ?_⟩
 rw [set_get_ne (by omega), set_get_ne (by omega)]
 exact hx03.get s hs
end Go.Am

namespace Go.Am
open Go Go.RowKit
section
variable {call : ACall} {fr : AFrame} {H : AHeap}
theorem exec_pre {x y : ROpd} {p : AVal} {k : IntKind} {n b : Nat} {cs : List AVal} (hx : x.ev fr = p) (hy : y.ev fr = .int k (b : Int)) (hb : b ≤ n) [s : SliceAt H p 1 n cs] :
    ∃ v, (ROp.sliceS 1 x none (some y) none).exec call fr H = some (v, H) ∧ SliceAt H v 1 b (cs.take b) ∧ OneV v ∧ (∀ r off len cap sz, v = .slice r off len cap sz → ∃ off' len' cap' sz', p = .slice r off' len' cap' sz') := by
  have hbd : ∀ y0, b ≤ y0 → aBound y0 (.int k (b : Int)) = some b := by
    intro y0 hy0
    simp only [aBound]
    rw [if_pos (by omega), Int.toNat_natCast]
  rcases s.it with ⟨rfl, rfl, rfl⟩ | ⟨r, off, cap, row, rw, e, rfl, hr, hg, hl, hc, hcap⟩
  · have : b = 0 := by omega
    subst this
    refine ⟨.nslice, ?_, ⟨Or.inl ⟨rfl, rfl, rfl⟩⟩, inferInstance, fun _ _ _ _ _ e => by cases e⟩
    simp only [ROp.exec, hx, Option.map_none, Option.map_some, hy, aSliceS, aBounds, aHigh, capD, hbd 0 (Nat.le_refl _), aLow, M.pure]
  · rw [Nat.mul_one] at hl hc
    have hb0 : aBounds n cap none (some (.int k (b : Int))) none = some (0, b, cap) := by
      simp only [aBounds, aHigh, hbd _ (Nat.le_trans hb hcap), aLow]
    have hs : ∀ cap', b ≤ capD b cap' → SliceAt H (.slice r off b cap' 1) 1 b (cs.take b) := fun cap' h' =>
      ⟨Or.inr ⟨r, off, cap', row, rw, e, rfl, hr, hg, by omega, by rw [Nat.mul_one, ← hc, List.take_take, Nat.min_eq_left hb], h'⟩⟩
    cases cap with
    | some c =>
      simp only [capD] at hcap
      by_cases hc0 : c = 0
      · have : b = 0 := by omega
        subst this
        refine ⟨.slice r off 0 (some 0) 1, ?_, hs _ (Nat.zero_le _), inferInstance, fun _ _ _ _ _ e => by cases e; exact ⟨_, _, _, _, rfl⟩⟩
        simp only [ROp.exec, hx, Option.map_none, Option.map_some, hy, aSliceS, ne_eq, not_true, if_false, hb0, M.pure, if_pos hc0]
      · refine ⟨.slice r off b (some c) 1, ?_, hs _ (by simp only [capD]; omega), inferInstance, fun _ _ _ _ _ e => by cases e; exact ⟨_, _, _, _, rfl⟩⟩
        simp only [ROp.exec, hx, Option.map_none, Option.map_some, hy, aSliceS, ne_eq, not_true, if_false, hb0, M.pure, if_neg hc0, Nat.zero_mul, Nat.add_zero, Nat.sub_zero]
    | none =>
      refine ⟨.slice r off b none 1, ?_, hs _ (Nat.le_refl _), inferInstance, fun _ _ _ _ _ e => by cases e; exact ⟨_, _, _, _, rfl⟩⟩
      have h2 : ¬ row.length < off + n := by omega
      have hrow : aRow r H = some ((row, rw), H) := by simp only [aRow, if_pos hr, hg]
      simp only [ROp.exec, hx, Option.map_none, Option.map_some, hy, aSliceS, ne_eq, not_true, if_false, hb0, Nat.mul_one, Nat.one_ne_zero, M.bind, hrow, if_neg h2, or_true, if_true, M.pure, Nat.add_zero, Nat.sub_zero]
theorem Fo.pre {KF : AFrame → AHeap → Prop} {os : List ROper} {d : Nat} {x y : ROpd} {p : AVal} {k : IntKind} {n b : Nat} {cs : List AVal} (hx : x.ev fr = p) (hy : y.ev fr = .int k (b : Int)) (hb : b ≤ n) [s : SliceAt H p 1 n cs]
    (h : ∀ v, SliceAt H v 1 b (cs.take b) → OneV v → (∀ r off len cap sz, v = .slice r off len cap sz → ∃ off' len' cap' sz', p = .slice r off' len' cap' sz') → WpO call os (upd fr d v) H KF) : WpO call (⟨some d, .sliceS 1 x none (some y) none, none⟩ :: os) fr H KF := by
  obtain ⟨v, h1, h2, h3, h4⟩ := exec_pre (call := call) hx hy hb (s := s)
  exact WpO.step rfl ⟨v, H, h1, h v h2 h3 h4⟩
end
section
variable {P : Program} {H : AHeap} {n : Nat} {t e : TypeId} {cs : List AVal}
end
section
variable {call : ACall} {lf : Nat} {fr : AFrame} {H : AHeap} {Q : RExit → AFrame → AHeap → Prop} {a b : RCode}
theorem Wp.seqE {σ : Type} (L : σ → List (Nat × AVal)) (PH : σ → AHeap → Prop) (h1 : ∀ s g H', PH s H' → Wp call lf b (updL (L s) g) H' Q) (h2 : Wp call lf a fr H fun x fr' H' => match x with | .normal => ∃ s, agrees (L s) fr' ∧ PH s H' | e => Q e fr' H') : Wp call lf (.seq a b) fr H Q :=
  Wp.seq (Wp.mono h2 fun x fr' H' h => by
    cases x with
    | normal =>
      obtain ⟨s, h3, h4⟩ := h
      have := h1 s fr' H' h4
      rwa [updL_agrees h3] at this
    | exit id => exact h
    | ret => exact h)
end
end Go.Am

namespace Go.Am
open Go
open Nat renaming reduceEqDiff → qe, reduceAdd → qz
open Int renaming reduceBEq → qn, reduceBNe → qq
attribute [local irreducible] Wp WpO WpX WpE
theorem cellsI_ones (l : List Int) : (cellsI l).all AVal.one = true := by simp [cellsI, AVal.one]
class SlimI (l : List Int) : Prop where
 le : l.length ≤ 17592186044416
class SlimL (ls : List (List Int)) : Prop where
 le : ls.length ≤ 5864062014805
 it : ∀ (i : Nat) (h : i < ls.length), SlimI ls[i]
theorem row_one1 {H : AHeap} {r : Nat} {a : AVal} {rw : Bool} {ty : TypeId} (h : HasRow H r [a] rw ty) : SliceAt H (.slice r 0 1 (some 1) 1) 1 1 [a] := ⟨Or.inr ⟨r, 0, some 1, _, rw, ty, rfl, h.lt, h.get, by simp, rfl, Nat.le_refl _⟩⟩
structure Copied (B : Nat) (H : AHeap) (cells : List AVal) (ls : List (List Int)) (i : Nat) : Prop where
 it : ∀ j (h : j < ls.length), j < i → ∃ q, cells[j]? = some q ∧ OwnS H q 1 ls[j].length (cellsI ls[j]) 3 ∧ ∀ r off len cap sz, q = .slice r off len cap sz → B ≤ r
theorem Copied.keep {B : Nat} {H H' : AHeap} {cells : List AVal} {ls : List (List Int)} {i : Nat} (h : Copied B H cells ls i) (hn : H.n ≤ H'.n) (hg : ∀ s cs e, s < H.n → B ≤ s → H.get s = .row cs true e → e / 2 = 3 → H'.get s = H.get s) : Copied B H' cells ls i := ⟨fun j h1 h2 => by
 obtain ⟨q, h3, h4, h5⟩ := h.it j h1 h2
 refine ⟨q, h3, ?_, h5⟩
 rcases h4.it with ⟨a1, a2, a3⟩ | ⟨r, e', a1, a2, a3, a4, a5, a6⟩
 ·exact ⟨Or.inl ⟨a1, a2, a3⟩⟩
 ·exact ⟨Or.inr ⟨r, e', a1, by omega, by rw [hg r _ _ a2 (h5 _ _ _ _ _ a1) a3 a4]; exact a3, a4, a5, a6⟩⟩⟩
def LinesF (B : Nat) (H' : AHeap) (v : AVal) (ls : List (List Int)) : Prop := ∀ H'', H'.n ≤ H''.n → (∀ r, B ≤ r → r < H'.n → H''.get r = H'.get r) → LinesI H'' v ls
theorem LinesF.mk {B : Nat} {H' : AHeap} {v : AVal} {cells : List AVal} {ls : List (List Int)} {e : TypeId} (h : Copied B H' cells ls ls.length) (ho : OwnS H' v 1 ls.length cells e) (hB : ∀ r off len cap sz, v = .slice r off len cap sz → B ≤ r) : LinesF B H' v ls := fun H'' hn hg => by
 have h2 := h.keep hn fun s cs e h1 h2 _ _ => hg s h2 h1
 have ho2 : OwnS H'' v 1 ls.length cells e := ho.keep hn fun r _ _ _ _ e h1 => hg r (hB _ _ _ _ _ e) h1
 exact ⟨cells, ho2.sl, ⟨fun j hj => by obtain ⟨q, a1, a2, _⟩ := h2.it j hj hj; exact ⟨q, a1, a2.sl⟩⟩⟩
theorem LinesF.now {B : Nat} {H' : AHeap} {v : AVal} {ls : List (List Int)} (h : LinesF B H' v ls) : LinesI H' v ls := h H' (Nat.le_refl _) fun _ _ _ => rfl
theorem LinesF.weak {B B' : Nat} {H' : AHeap} {v : AVal} {ls : List (List Int)} (h : LinesF B H' v ls) (hB : B' ≤ B) : LinesF B' H' v ls := fun H'' hn hg => h H'' hn fun r h1 h2 => hg r (by omega) h2
theorem LinesF.step {B : Nat} {H' H2 : AHeap} {v : AVal} {ls : List (List Int)} (h : LinesF B H' v ls) (hn : H'.n ≤ H2.n) (hg : ∀ r, B ≤ r → r < H'.n → H2.get r = H'.get r) : LinesF B H2 v ls := fun H'' hn' hg' => h H'' (by omega) fun r h1 h2 => by rw [hg' r h1 (by omega), hg r h1 h2]
theorem OwnS.tn {H : AHeap} {p : AVal} {sz n s : Nat} {cs cs' : List AVal} {e e' : TypeId} {rw : Bool} (h : OwnS H p sz n cs e) (hg : H.get s = .row cs' rw e') (hne : e' / 2 ≠ e) : RowNe p s := ⟨fun r off len cap sz' q => by
 rcases h.it with ⟨rfl, _⟩ | ⟨r2, e2, rfl, h2, h3, h4, _⟩
 ·cases q
 ·cases q
  intro q; subst q
  rw [hg] at h3; cases h3
  exact hne h4⟩
instance K_SameInts {p q : AVal} {H : AHeap} {l m : List Int} [hp : IntsI H p l] [hq : IntsI H q m] [hs : SlimI l] : PureCon ext prog 65 [p, q] H 1 (.bool (decide (l = m))) := ⟨by
 refine con_of (show prog 65 = some c65 from rfl) rfl rfl fun n hn => ?_
 have hsl := hs.le
 by_cases hlm : l.length = m.length
 ·have h1 : (((l.length : Nat) : Int) != ((m.length : Nat) : Int)) = false := by simp [hlm]
  repeat first | refine mI ?_ | refine mB ?_ | refine mv ?_ | refine bn rfl rfl rfl (by simp only [h1]; rfl) ?_ | refine ln (by simp only [↓nrmL, nrmK, qe, ↓reduceIte]; rfl) ?_ | refine nl hKF ?_ | refine sq ?_ | refine rg fun KF hKF => ?_ | refine cf rfl ?_ | refine sk ?_ | refine Wp.block ?_ | dsimp only
  refine Wp.loopS [4, 5, 11, 12, 13, 14, 15, 16, 17, 18, 19, 20, 21, 22, 23, 24, 25] (fun i : Nat => [(5, .int .i64 i)]) (fun H3 i H2 => i ≤ l.length ∧ (∀ j, j < i → l[j]? = m[j]?) ∧ H2 = H3) (fun i => l.length - i) 0 rfl (fun _ => rfl) ⟨rfl, trivial⟩ ⟨Nat.zero_le _, fun j hj => by omega, rfl⟩ (by unfold fuel0 at hn; omega) ?_
  rintro i g H2 ⟨hi, heq, rfl⟩
  simp only [↓nrmL, nrmZ, qe, ↓reduceIte, qz, qn, qq]
  cases hc : decide ((i : Int) < (l.length : Int))
  ·have hil : i = l.length := by have := of_decide_eq_false hc; omega
   subst hil
   have hd : decide (l = m) = true := decide_eq_true (eq_of_gets hlm heq)
   rw [hd]
   repeat first | refine mI ?_ | refine mB ?_ | refine mv ?_ | refine bn rfl rfl rfl (by simp only [hc]; rfl) ?_ | refine ln (by simp only [↓nrmL, nrmK, qe, ↓reduceIte]; rfl) ?_ | refine nl hKF ?_ | refine sq ?_ | refine rg fun KF hKF => ?_ | refine cf rfl ?_ | refine rt ?_ | refine xi ?_ | dsimp only
   refine rz trivial ?_
   exact ⟨rfl, Ext0.ext⟩
  ·have hil : i < l.length := by have := of_decide_eq_true hc; omega
   have him : i < m.length := by omega
   have hw1 := wa1 (a := i) (by omega)
   cases hne : (l[i] != m[i])
   ·skip
    repeat first | refine mI ?_ | refine mv ?_ | refine bn rfl rfl rfl (by simp only [hc, hne]; rfl) ?_ | refine b0 ?_ | refine ln (by simp only [↓nrmL, nrmK, qe, ↓reduceIte]; rfl) ?_ | (refine Fo.idx (by simp only [↓nrmL, nrmK, qe, ↓reduceIte]; rfl) rfl ?_ (by simp only [↓nrmL, nrmZ, qe, ↓reduceIte, qz, qn, qq, hc, hne]; rfl) ?_; (focus omega)) | (refine Fo.ldI rfl ?_ rfl ?_; (focus omega)) | refine nl hKF ?_ | refine sq ?_ | refine rg fun KF hKF => ?_ | refine Fr.quiet rfl rfl fun KF hKF => ?_ | refine ct rfl ?_ | refine cf rfl ?_ | refine sk ?_ | refine Wp.block ?_ | dsimp only
    refine ⟨i + 1, by omega, ⟨by simp only [↓nrmL, nrmZ, qe, ↓reduceIte, qz, qn, qq]; rw [hw1], trivial⟩, hil, fun j hj => ?_, rfl⟩
    by_cases hj2 : j < i
    ·exact heq j hj2
    ·have : j = i := by omega
     subst this
     have h2 : l[j] = m[j] := by simpa [bne] using hne
     simp [hil, him, h2]
   ·have hd : decide (l = m) = false := decide_eq_false (fun e => by subst e; simp at hne)
    rw [hd]
    repeat first | refine mI ?_ | refine mB ?_ | refine mv ?_ | refine bn rfl rfl rfl (by simp only [hc, hne]; rfl) ?_ | refine ln (by simp only [↓nrmL, nrmK, qe, ↓reduceIte]; rfl) ?_ | (refine Fo.idx (by simp only [↓nrmL, nrmK, qe, ↓reduceIte]; rfl) rfl ?_ (by simp only [↓nrmL, nrmZ, qe, ↓reduceIte, qz, qn, qq, hc, hne]; rfl) ?_; (focus omega)) | (refine Fo.ldI rfl ?_ rfl ?_; (focus omega)) | refine nl hKF ?_ | refine sq ?_ | refine rg fun KF hKF => ?_ | refine Fr.quiet rfl rfl fun KF hKF => ?_ | refine ct rfl ?_ | refine sk ?_ | refine rt ?_ | refine Wp.block ?_ | dsimp only
    refine rz trivial ?_
    exact ⟨rfl, Ext0.ext⟩
 ·have h1 : (((l.length : Nat) : Int) != ((m.length : Nat) : Int)) = true := by simp; omega
  have hd : decide (l = m) = false := decide_eq_false (fun e => by subst e; exact hlm rfl)
  rw [hd]
  repeat first | refine mB ?_ | refine mv ?_ | refine bn rfl rfl rfl (by simp only [h1]; rfl) ?_ | refine ln (by simp only [↓nrmL, nrmK, qe, ↓reduceIte]; rfl) ?_ | refine nl hKF ?_ | refine sq ?_ | refine rg fun KF hKF => ?_ | refine ct rfl ?_ | refine rt ?_ | dsimp only
  refine rz trivial ?_
  exact ⟨rfl, Ext0.ext⟩⟩
theorem lists_eq {l m : List (List Int)} (hlm : l.length = m.length) (h : ∀ j (h1 : j < l.length) (h2 : j < m.length), l[j] = m[j]) : l = m := List.ext_getElem hlm h
instance K_SameLists {p q : AVal} {H : AHeap} {l m : List (List Int)} [hp : LinesI H p l] [hq : LinesI H q m] [hs : SlimL l] : PureCon ext prog 21 [p, q] H 2 (.bool (decide (l = m))) := ⟨by
 refine con_of (show prog 21 = some c21 from rfl) rfl rfl fun n hn => ?_
 have hsl := hs.le
 obtain ⟨ps, hps, hrp⟩ := hp.it
 obtain ⟨qs, hqs, hrq⟩ := hq.it
 haveI := hps
 haveI := hqs
 haveI := hps.one
 haveI := hqs.one
 by_cases hlm : l.length = m.length
 ·have h1 : (((l.length : Nat) : Int) != ((m.length : Nat) : Int)) = false := by simp [hlm]
  repeat first | refine mI ?_ | refine mB ?_ | refine mv ?_ | refine bn rfl rfl rfl (by simp only [h1]; rfl) ?_ | refine ln (by simp only [↓nrmL, nrmK, qe, ↓reduceIte]; rfl) ?_ | refine nl hKF ?_ | refine sq ?_ | refine rg fun KF hKF => ?_ | refine cf rfl ?_ | refine sk ?_ | refine Wp.block ?_ | dsimp only
  refine Wp.loopS [4, 5, 11, 12, 13, 14, 15, 16, 17, 18, 19, 20, 21, 22, 23, 24, 25, 26] (fun i : Nat => [(5, .int .i64 i)]) (fun H3 i H2 => i ≤ l.length ∧ (∀ j (h1 : j < l.length) (h2 : j < m.length), j < i → l[j] = m[j]) ∧ Ext0 H3 H2) (fun i => l.length - i) 0 rfl (fun _ => rfl) ⟨rfl, trivial⟩ ⟨Nat.zero_le _, fun j _ _ hj => by omega, inferInstance⟩ (by unfold fuel0 at hn; omega) ?_
  rintro i g H2 ⟨hi, heq, ⟨hx⟩⟩
  haveI : ExtI _ H2 := ⟨hx⟩
  simp only [↓nrmL, nrmZ, qe, ↓reduceIte, qz, qn, qq]
  cases hc : decide ((i : Int) < (l.length : Int))
  ·have hil : i = l.length := by have := of_decide_eq_false hc; omega
   subst hil
   have hd : decide (l = m) = true := decide_eq_true (lists_eq hlm fun j a b => heq j a b a)
   rw [hd]
   repeat first | refine mI ?_ | refine mB ?_ | refine mv ?_ | refine bn rfl rfl rfl (by simp only [hc]; rfl) ?_ | refine ln (by simp only [↓nrmL, nrmK, qe, ↓reduceIte]; rfl) ?_ | refine nl hKF ?_ | refine sq ?_ | refine rg fun KF hKF => ?_ | refine cf rfl ?_ | refine rt ?_ | refine xi ?_ | dsimp only
   refine rz trivial ?_
   exact ⟨rfl, Ext0.ext⟩
  have hil : i < l.length := by have := of_decide_eq_true hc; omega
  have him : i < m.length := by omega
  have hw1 := wa1 (a := i) (by omega)
  obtain ⟨a, ha, hIa⟩ := hrp.it i hil
  obtain ⟨b, hb, hIb⟩ := hrq.it i him
  haveI := hIa
  haveI := hIb
  haveI := hIa.one
  haveI := hIb.one
  haveI := hs.it i hil
  cases hne : decide (l[i] = m[i])
  ·have hd : decide (l = m) = false := decide_eq_false (fun e => by subst e; simp at hne)
   rw [hd]
   repeat first | refine mI ?_ | refine mv ?_ | refine bn rfl rfl rfl (by simp only [hc]; rfl) ?_ | refine ln (by simp only [↓nrmL, nrmK, qe, ↓reduceIte]; rfl) ?_ | refine nl hKF ?_ | refine sq ?_ | refine rg fun KF hKF => ?_ | refine ct rfl ?_ | refine sk ?_ | refine Wp.block ?_ | dsimp only
   refine Fr.dregion0 rfl fun KF hKF => ?_
   refine Fe.pure rfl rfl (by simp only [↓nrmL, nrmZ, qe, ↓reduceIte, qz, qn, qq]; rfl) ?_
   refine Fe.pure rfl rfl (by simp only [↓nrmL, nrmZ, qe, ↓reduceIte, qz, qn, qq]; rfl) ?_
   refine Fe.pure rfl (exec_idxP (by (try simp only [↓nrmL, nrmZ, qe, ↓reduceIte, qz, qn, qq]); rfl) rfl ?_) (by simp only [↓nrmL, nrmZ, qe, ↓reduceIte, qz, qn, qq]; rfl) ?_; (focus omega)
   refine Fe.read rfl (exec_ldP (p := p) (j := i) rfl ha) rfl trivial ?_
   refine Fe.pure rfl rfl (by simp only [↓nrmL, nrmZ, qe, ↓reduceIte, qz, qn, qq]; rfl) ?_
   refine Fe.pure rfl rfl (by simp only [↓nrmL, nrmZ, qe, ↓reduceIte, qz, qn, qq]; rfl) ?_
   refine Fe.pure rfl (exec_idxP (by (try simp only [↓nrmL, nrmZ, qe, ↓reduceIte, qz, qn, qq]); rfl) rfl ?_) (by simp only [↓nrmL, nrmZ, qe, ↓reduceIte, qz, qn, qq]; rfl) ?_; (focus omega)
   refine Fe.read rfl (exec_ldP (p := q) (j := i) rfl hb) rfl trivial ?_
   simp only [↓nrmL, nrmZ, qe, ↓reduceIte, qz, qn, qq, hne]
   refine Fe.pcall (v' := ?_) rfl hn rfl (by simp only [↓nrmL, nrmZ, qe, ↓reduceIte, qz, qn, qq, hne, List.map]; rfl) rfl ?hv fun _ _ => ar ?_; case hv => (simp only [hne]; rfl)
   refine Fe.pure rfl rfl (by simp only [↓nrmL, nrmZ, qe, ↓reduceIte, qz, qn, qq, hne]; rfl) ?_
   refine WpE.nil (hKF _ _ ?_)
   refine ct rfl ?_
   refine sq ?_
   refine rg fun KF hKF => ?_
   refine mB ?_
   refine nl hKF ?_
   refine rt ?_
   dsimp only
   refine rz trivial ?_
   exact ⟨rfl, Ext0.ext⟩
  ·skip
   repeat first | refine mI ?_ | refine mv ?_ | refine bn rfl rfl rfl (by simp only [hc]; rfl) ?_ | refine ln (by simp only [↓nrmL, nrmK, qe, ↓reduceIte]; rfl) ?_ | refine nl hKF ?_ | refine sq ?_ | refine rg fun KF hKF => ?_ | refine ct rfl ?_ | refine sk ?_ | refine Wp.block ?_ | dsimp only
   refine Fr.dregion0 rfl fun KF hKF => ?_
   refine Fe.pure rfl rfl (by simp only [↓nrmL, nrmZ, qe, ↓reduceIte, qz, qn, qq]; rfl) ?_
   refine Fe.pure rfl rfl (by simp only [↓nrmL, nrmZ, qe, ↓reduceIte, qz, qn, qq]; rfl) ?_
   refine Fe.pure rfl (exec_idxP (by (try simp only [↓nrmL, nrmZ, qe, ↓reduceIte, qz, qn, qq]); rfl) rfl ?_) (by simp only [↓nrmL, nrmZ, qe, ↓reduceIte, qz, qn, qq]; rfl) ?_; (focus omega)
   refine Fe.read rfl (exec_ldP (p := p) (j := i) rfl ha) rfl trivial ?_
   refine Fe.pure rfl rfl (by simp only [↓nrmL, nrmZ, qe, ↓reduceIte, qz, qn, qq]; rfl) ?_
   refine Fe.pure rfl rfl (by simp only [↓nrmL, nrmZ, qe, ↓reduceIte, qz, qn, qq]; rfl) ?_
   refine Fe.pure rfl (exec_idxP (by (try simp only [↓nrmL, nrmZ, qe, ↓reduceIte, qz, qn, qq]); rfl) rfl ?_) (by simp only [↓nrmL, nrmZ, qe, ↓reduceIte, qz, qn, qq]; rfl) ?_; (focus omega)
   refine Fe.read rfl (exec_ldP (p := q) (j := i) rfl hb) rfl trivial ?_
   simp only [↓nrmL, nrmZ, qe, ↓reduceIte, qz, qn, qq, hne]
   refine Fe.pcall (v' := ?_) rfl hn rfl (by simp only [↓nrmL, nrmZ, qe, ↓reduceIte, qz, qn, qq, hne, List.map]; rfl) rfl ?hv fun _ _ => ar ?_; case hv => (simp only [hne]; rfl)
   refine Fe.pure rfl rfl (by simp only [↓nrmL, nrmZ, qe, ↓reduceIte, qz, qn, qq, hne]; rfl) ?_
   refine WpE.nil (hKF _ _ ?_)
   refine cf rfl ?_
   refine sk ?_
   refine rg fun KF hKF => ?_
   refine mI ?_
   refine b0 ?_
   refine mI ?_
   refine nl hKF ?_
   dsimp only
   refine ⟨i + 1, by omega, ⟨by simp only [↓nrmL, nrmZ, qe, ↓reduceIte, qz, qn, qq]; rw [hw1], trivial⟩, hil, fun j h1 h2 hj => ?_, inferInstance⟩
   by_cases hj2 : j < i
   ·exact heq j h1 h2 hj2
   ·have : j = i := by omega
    subst this
    exact of_decide_eq_true hne
 ·have h1 : (((l.length : Nat) : Int) != ((m.length : Nat) : Int)) = true := by simp; omega
  have hd : decide (l = m) = false := decide_eq_false (fun e => by subst e; exact hlm rfl)
  rw [hd]
  repeat first | refine mB ?_ | refine mv ?_ | refine bn rfl rfl rfl (by simp only [h1]; rfl) ?_ | refine ln (by simp only [↓nrmL, nrmK, qe, ↓reduceIte]; rfl) ?_ | refine nl hKF ?_ | refine sq ?_ | refine rg fun KF hKF => ?_ | refine ct rfl ?_ | refine rt ?_ | dsimp only
  refine rz trivial ?_
  exact ⟨rfl, Ext0.ext⟩⟩
instance K_SameStave {p q : AVal} {H : AHeap} {l m : List (List Int)} [hp : LinesI H p l] [hq : LinesI H q m] [hs : SlimL l] : PureCon ext prog 33 [.agg [p], .agg [q]] H 3 (.bool (decide (l = m))) := ⟨by
 refine con_of (show prog 33 = some c33 from rfl) rfl rfl fun n hn => ?_
 obtain ⟨ps, hps, hrp⟩ := hp.it
 obtain ⟨qs, hqs, hrq⟩ := hq.it
 haveI := hps.one
 haveI := hqs.one
 repeat first | refine mB ?_ | refine fd ?_ | refine Fo.ld rfl rfl ?_ | (refine Fo.pcall (v' := ?_) hn rfl (by simp only [↓nrmL, nrmZ, qe, ↓reduceIte, qz, qn, qq, List.map]; rfl) rfl ?hv fun _ _ => ?_; case hv => rfl) | refine bA ?_ | refine nl hKF ?_ | refine sq ?_ | refine rg fun KF hKF => ?_ | refine rt ?_ | dsimp only
 refine rz trivial ?_
 exact ⟨rfl, Ext0.ext⟩⟩
end Go.Am

namespace Go.Am
open Go
open Nat renaming reduceEqDiff → qe, reduceAdd → qz
open Int renaming reduceBEq → qn, reduceBNe → qq
attribute [local irreducible] Wp WpO WpX WpE
instance K_change {a b : Nat} {H : AHeap} : PureCon ext prog 53 [.int .i64 (a : Int), .int .i64 (b : Int)] H 1 (.int .i64 (chg a b)) := ⟨by
 refine con_of (show prog 53 = some c53 from rfl) rfl rfl fun n hn => ?_
 cases h0 : ((a : Int) == (b : Int))
 ·have e : chg a b = 1 := by
   unfold chg
   rw [if_neg]
   intro e; subst e; simp at h0
  rw [e]
  repeat first | refine mI ?_ | refine bn rfl rfl rfl (by simp only [h0]; rfl) ?_ | refine nl hKF ?_ | refine sq ?_ | refine rg fun KF hKF => ?_ | refine cf rfl ?_ | refine sk ?_ | refine rt ?_ | dsimp only
  refine rz trivial ?_
  exact ⟨rfl, Ext0.ext⟩
 ·have e : chg a b = 0 := by
   unfold chg
   rw [if_pos]
   have : (a : Int) = (b : Int) := by simpa using h0
   omega
  rw [e]
  repeat first | refine mI ?_ | refine bn rfl rfl rfl (by simp only [h0]; rfl) ?_ | refine nl hKF ?_ | refine sq ?_ | refine rg fun KF hKF => ?_ | refine ct rfl ?_ | refine rt ?_ | dsimp only
  refine rz trivial ?_
  exact ⟨rfl, Ext0.ext⟩⟩
theorem K_beside {y h : Int} {H : AHeap} : Con ext prog 1 113 [.int .i64 y, .int .i64 h] H fun v H' => ∃ r1 r2, v = .func (.func 133) [] [.ptr r1 0, .ptr r2 0] ∧ HasRow H' r1 [.int .i64 y] true (2 * 3) ∧ HasRow H' r2 [.int .i64 h] true (2 * 3) ∧ Ext H H' ∧ H.n ≤ r1 ∧ H.n ≤ r2 := by
 refine con_of (show prog 113 = some c113 from rfl) rfl rfl fun n hn => ?_
 repeat first | refine mF ?_ | refine mv ?_ | refine Fo.box1 (rfl : _ = AVal.int _ _) ?_ | refine Fo.now rfl rfl rfl ?_ | refine nl hKF ?_ | refine sq ?_ | refine rg fun KF hKF => ?_ | refine rt ?_ | dsimp only
 refine rz trivial ?_
 exact ⟨_, _, rfl, inferInstance, inferInstance, Ext0.ext, Nat.le_refl _, by simp only [AHeap.push]; omega⟩
theorem K_besideI {y h : Nat} {r r1 r2 : Nat} {e1 e2 : TypeId} {w1 w2 : Bool} {J : Nat → AHeap → Prop} {H : AHeap} {D : Nat} (hh : 0 < h) (hh2 : h ≤ 640) (hy : y < h)
  (hrow : ∀ z H, J z H → HasRow H r1 [.int .i64 (y : Int)] w1 e1 ∧ HasRow H r2 [.int .i64 (h : Int)] w2 e2)
  (hstep : ∀ z H, loB y ≤ z → z ≤ hiB h y → J z H → ∀ n, fuel0 + D ≤ n → ∃ H', callN ext prog n yieldId [.yield r, .int .i64 (z : Int)] H = some (.bool true, H') ∧ J (z + 1) H')
  (hJ : J (loB y) H) : Con ext prog (D + 2) 133 [.yield r, .ptr r1 0, .ptr r2 0] H fun _ H' => J (hiB h y + 1) H' := by
 refine con_of (show prog 133 = some c133 from rfl) rfl rfl fun n hn => ?_
 obtain ⟨k1, k2⟩ := hrow _ _ hJ
 have hmax : (if (0 : Int) > (y : Int) - 1 then (0 : Int) else (y : Int) - 1) = ((loB y : Nat) : Int) := by unfold loB; split <;> omega
 have hsub : IntKind.i64.wrap ((y : Int) - 1) = (y : Int) - 1 := w64 (by omega)
 have hadd := wa1 (a := y) (by omega)
 have hsub2 : IntKind.i64.wrap ((h : Int) - 1) = (h : Int) - 1 := w64 (by omega)
 have hmin : (if (h : Int) - 1 < ((y + 1 : Nat) : Int) then (h : Int) - 1 else ((y + 1 : Nat) : Int)) = ((hiB h y : Nat) : Int) := by unfold hiB; split <;> omega
 have hlo : loB y ≤ hiB h y := by unfold loB hiB; omega
 refine sq ?_
 refine rg fun KF hKF => ?_
 refine Fo.ld rfl rfl ?_
 refine bn rfl rfl rfl (by simp only [hsub, hmax]; rfl) ?_
 refine Fo.now rfl rfl (by simp only [hsub, hmax]; rfl) ?_
 refine mI ?_
 refine nl hKF ?_
 refine Wp.block ?_
 dsimp only
 refine Wp.loopS [4, 8, 9, 10, 11, 12, 13, 14, 15, 16, 17, 18, 19, 20] (fun z : Nat => [(4, .int .i64 z)]) (fun _ z H2 => loB y ≤ z ∧ z ≤ hiB h y + 1 ∧ J z H2) (fun z => hiB h y + 1 - z) (loB y) rfl (fun _ => rfl) ⟨rfl, trivial⟩ ⟨Nat.le_refl _, by omega, hJ⟩ (by unfold fuel0 at hn; unfold hiB; omega) ?_
 rintro z g H2 ⟨hz1, hz2, hJ2⟩
 obtain ⟨k1, k2⟩ := hrow _ _ hJ2
 simp only [↓nrmL, nrmZ, qe, ↓reduceIte, qz, qn, qq]
 cases hc : decide ((z : Int) ≤ ((hiB h y : Nat) : Int))
 ·have hze : z = hiB h y + 1 := by have := of_decide_eq_false hc; omega
  subst hze
  repeat first | refine mI ?_ | refine Fo.ld rfl rfl ?_ | refine bn rfl rfl rfl (by simp only [hadd, hsub2, Bool.false_eq_true, if_false, hmin, hc]; rfl) ?_ | refine Fo.now rfl rfl (by simp only [hadd, hsub2, Bool.false_eq_true, if_false, hmin, hc]; rfl) ?_ | refine nl hKF ?_ | refine sq ?_ | refine rg fun KF hKF => ?_ | refine cf rfl ?_ | refine xi ?_ | dsimp only
  refine rz trivial ?_
  exact hJ2
 have hzl : z ≤ hiB h y := by have := of_decide_eq_true hc; omega
 have hwz := wa1 (a := z) (by unfold hiB at hzl; omega)
 obtain ⟨H3, y1, hJ3⟩ := hstep z H2 hz1 hzl hJ2 n (by omega)
 repeat first | refine mI ?_ | refine mv ?_ | refine Fo.ld rfl rfl ?_ | refine bn rfl rfl rfl (by simp only [hadd, hsub2, Bool.false_eq_true, if_false, hmin, hc]; rfl) ?_ | refine Fo.now rfl rfl (by simp only [hadd, hsub2, Bool.false_eq_true, if_false, hmin, hc]; rfl) ?_ | refine nl hKF ?_ | refine sq ?_ | refine rg fun KF hKF => ?_ | refine ct rfl ?_ | refine sk ?_ | refine Wp.block ?_
 refine WpO.do (WpX.yield rfl rfl ⟨_, H3, y1, ?_⟩)
 refine Fo.now rfl rfl (by simp only [↓nrmL, nrmZ, qe, ↓reduceIte, qz, qn, qq]; rfl) ?_
 refine nl hKF ?_
 refine cf rfl ?_
 refine sk ?_
 refine rg fun KF hKF => ?_
 refine mI ?_
 refine b0 ?_
 refine mI ?_
 refine nl hKF ?_
 dsimp only
 refine ⟨z + 1, by omega, ⟨by simp only [↓nrmL, nrmZ, qe, ↓reduceIte, qz, qn, qq]; rw [hwz], trivial⟩, by omega, by omega, hJ3⟩
end Go.Am

namespace Go.Am
open Go
attribute [local irreducible] Wp WpO WpX WpE
theorem aboveB_iff {l m : List Int} : aboveB l m = true ↔ ∀ x, x < l.length → l.getD x 0 < m.getD x 0 := by
 simp [aboveB, belowTo]
theorem fitsB_of {a b : Nat} {ls : List (List Int)} (h5 : ls.length = 5) (hp : ∀ i, i < 5 → pathB a b (ls.getD i []) = true) (hb : ∀ x, x < a → ∀ i, 1 ≤ i → i < 5 → (ls.getD (i - 1) []).getD x 0 < (ls.getD i []).getD x 0) : fitsB a b ls = true := by
 have : fitTo a b ls 5 = true := by
  rw [fitTo, List.all_eq_true]
  intro i hi
  have hi := List.mem_range.1 hi
  rw [fitAt, hp i hi]
  by_cases h0 : i = 0
  ·simp [h0]
  ·have : aboveB (ls.getD (i - 1) []) (ls.getD i []) = true := aboveB_iff.2 fun x hx => hb x (by have := (pathB_len (hp (i - 1) (by omega))).1; omega) i (by omega) hi
   rw [this]; simp
 rw [fitsB, this, h5]; rfl
end Go.Am
