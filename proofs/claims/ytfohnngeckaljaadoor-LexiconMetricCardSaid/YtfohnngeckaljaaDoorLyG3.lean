/-
  The distance of texts is a metric: for any three texts, a place and a byte the law returns true, and its arguments read as before.
-/
import Derived.Test.YtfohnngeckaljaaDoorAmBD
import Derived.Lib.Strings
set_option linter.unusedSimpArgs false
set_option linter.unusedVariables false
set_option maxHeartbeats 8000000
set_option maxRecDepth 100000
set_option synthInstance.maxHeartbeats 2000000
set_option synthInstance.maxSize 1000000
namespace Go.Am
open Go
abbrev Bs := List UInt8
abbrev strV (l : Bs) : AVal := .str ⟨l.toArray⟩
theorem str_size (l : Bs) : (⟨l.toArray⟩ : ByteArray).size = l.length := by
  show l.toArray.size = l.length
  simp
theorem str_extract (l : Bs) (a b : Nat) : (⟨l.toArray⟩ : ByteArray).extract a b = ⟨((l.drop a).take (b - a)).toArray⟩ := Lib.extract_eq _ _ _
theorem str_append (a b : Bs) : (⟨a.toArray⟩ : ByteArray) ++ ⟨b.toArray⟩ = ⟨(a ++ b).toArray⟩ := by
  apply ByteArray.ext
  rw [ByteArray.data_append]
  simp
theorem str_toList (a : Bs) : (⟨a.toArray⟩ : ByteArray).toList = a := by rw [Lib.toList_data]
theorem str_get {l : Bs} {i : Nat} (h : i < l.length) : (⟨l.toArray⟩ : ByteArray)[i]? = some l[i] := by
  have h2 : i < (⟨l.toArray⟩ : ByteArray).size := by rw [str_size]; exact h
  rw [getElem?_pos _ i h2]
  rfl
theorem aSliceStr_of {l : Bs} {lo hi : Option AVal} {a b : Nat} (hlo : bnd lo 0 a) (hhi : bnd hi l.length b) (hab : a ≤ b) (hbl : b ≤ l.length) : aSliceStr (strV l) lo hi = some (strV ((l.drop a).take (b - a))) := by
  have h1 : aHigh l.length l.length hi = some b := by
    rcases hhi with ⟨h1, rfl⟩ | ⟨k, h1⟩
    · rw [h1]; rfl
    · rw [h1]
      have : (0 : Int) ≤ (b : Int) ∧ (b : Int) ≤ (l.length : Int) := by omega
      simp only [aHigh, aBound, if_pos this, Int.toNat_natCast]
  have h2 : aLow b lo = some a := by
    rcases hlo with ⟨h1, rfl⟩ | ⟨k, h1⟩
    · rw [h1]; rfl
    · rw [h1]
      have : (0 : Int) ≤ (a : Int) ∧ (a : Int) ≤ (b : Int) := by omega
      simp only [aLow, aBound, if_pos this, Int.toNat_natCast]
  simp only [aSliceStr, aBounds, str_size, capD, h1, h2, str_extract]
section
variable {call : ACall} {fr : AFrame} {H : AHeap} {KF : AFrame → AHeap → Prop} {os : List ROper} {d : Nat}
theorem exec_lenStr {x : ROpd} {l : Bs} (hx : x.ev fr = strV l) : (ROp.lenStr x).exec call fr H = some (.int .i64 l.length, H) := by
  simp only [ROp.exec, hx, aLenStr, str_size, M.ofOption, M.pure]
theorem exec_slcStr {x : ROpd} {lo hi : Option ROpd} {l : Bs} {a b : Nat} (hx : x.ev fr = strV l) (hlo : bnd (lo.map (·.ev fr)) 0 a) (hhi : bnd (hi.map (·.ev fr)) l.length b) (hab : a ≤ b) (hbl : b ≤ l.length) : (ROp.sliceStr x lo hi).exec call fr H = some (strV ((l.drop a).take (b - a)), H) := by
  simp only [ROp.exec, hx, aSliceStr_of hlo hhi hab hbl, M.ofOption, M.pure]
theorem exec_idxStr {x i : ROpd} {l : Bs} {k : IntKind} {j : Nat} (hx : x.ev fr = strV l) (hi : i.ev fr = .int k j) (hj : j < l.length) : (ROp.indexStr x i).exec call fr H = some (.int .u8 (l[j].toNat : Int), H) := by
  have h0 : (0 : Int) ≤ (j : Int) := by omega
  simp only [ROp.exec, hx, hi, aIndexStr, if_pos h0, Int.toNat_natCast, str_get hj, M.ofOption, M.pure]
theorem exec_eqStr {x y : ROpd} {a b : Bs} (hx : x.ev fr = strV a) (hy : y.ev fr = strV b) : (ROp.bin .eql x y).exec call fr H = some (.bool (a == b), H) := by
  simp only [ROp.exec, hx, hy, aBin, strBin, str_toList, M.ofOption, M.pure]
theorem exec_addStr {x y : ROpd} {a b : Bs} (hx : x.ev fr = strV a) (hy : y.ev fr = strV b) (hl : a.length + b.length ≤ 1000000) : (ROp.bin .add x y).exec call fr H = some (strV (a ++ b), H) := by
  have h : ¬ (((a.length + b.length : Nat) : Int) > IntKind.i64.max) := by
    have : IntKind.i64.max = 9223372036854775807 := by decide
    omega
  simp only [ROp.exec, hx, hy, aBin, strBin, str_size, if_neg h, str_append, M.ofOption, M.pure]
theorem Fo.lenStr {x : ROpd} {l : Bs} {v : AVal} (hx : x.ev fr = strV l) (hv : AVal.int .i64 l.length = v) (h : WpO call os (upd fr d v) H KF) : WpO call (⟨some d, .lenStr x, none⟩ :: os) fr H KF := by
  subst hv; exact WpO.step rfl ⟨_, _, exec_lenStr hx, h⟩
theorem Fo.idxStr {x i : ROpd} {l : Bs} {k : IntKind} {j : Nat} {v : AVal} (hx : x.ev fr = strV l) (hi : i.ev fr = .int k j) (hj : j < l.length) (hv : AVal.int .u8 (l[j].toNat : Int) = v) (h : WpO call os (upd fr d v) H KF) : WpO call (⟨some d, .indexStr x i, none⟩ :: os) fr H KF := by
  subst hv; exact WpO.step rfl ⟨_, _, exec_idxStr hx hi hj, h⟩
theorem Fo.eqStr {x y : ROpd} {a b : Bs} {v : AVal} (hx : x.ev fr = strV a) (hy : y.ev fr = strV b) (hv : AVal.bool (a == b) = v) (h : WpO call os (upd fr d v) H KF) : WpO call (⟨some d, .bin .eql x y, none⟩ :: os) fr H KF := by
  subst hv; exact WpO.step rfl ⟨_, _, exec_eqStr hx hy, h⟩
end
theorem Fo.uptr {call : ACall} {fr : AFrame} {H : AHeap} {KF : AFrame → AHeap → Prop} {os : List ROper} {d : Nat} {t s r : Nat} {x : ROpd} {cs : List AVal} (hx : x.ev fr = .ptr r 0) [h : HasRow H r cs true (2 * t)] (hs : Nat.ble s cs.length = true) (h0 : Nat.blt 0 s = true) (hK : WpO call os (upd fr d (.ptr r 0)) H KF) :
    WpO call (⟨some d, .uptr t s x, none⟩ :: os) fr H KF := by
  refine WpO.step rfl ⟨.ptr r 0, H, ?_, hK⟩
  have h1 : Nat.blt r H.n = true := by simpa using h.lt
  have h2 : (Nat.blt r H.n && Nat.beq 0 0 && Nat.blt 0 s) = true := by rw [h1, h0]; rfl
  have h3 : (Nat.beq (2 * t) (2 * t) && Nat.ble s cs.length) = true := by rw [hs]; simp
  have h4 : aUptr t s (.ptr r 0) H = some (.ptr r 0, H) := by
    show (match Nat.blt r H.n && Nat.beq 0 0 && Nat.blt 0 s with
      | true => (match H.get r with
        | .row cs true e => (match Nat.beq e (2 * t) && Nat.ble s cs.length with
          | true => some (AVal.ptr r 0, H)
          | false => none)
        | _ => none)
      | false => none) = _
    rw [h2, h.get]
    simp only [h3]
  show aUptr t s (x.ev fr) H = _
  rw [hx, h4]
theorem exec_bts {call : ACall} {fr : AFrame} {H : AHeap} {x : ROpd} {p : AVal} {l : Bs} (hx : x.ev fr = p) [h : BytesI H p l] : (ROp.bytesToStr x).exec call fr H = some (strV l, H) := by
  rcases h.it with ⟨rfl, h0, _⟩ | ⟨r, off, cap, row, rw, e, rfl, hr, hg, hle, hc, _⟩
  · have : l = [] := List.eq_nil_of_length_eq_zero h0
    subst this
    simp only [ROp.exec, hx, aBytesToStr, M.pure]
    rfl
  · rw [Nat.mul_one] at hle hc
    simp only [ROp.exec, hx, aBytesToStr, ne_eq, not_true, if_false, M.bind, aRow, if_pos hr, hg, if_pos hle, hc, bytesOf_cellsB, M.pure]
theorem WpX.yield {call : ACall} {fr : AFrame} {H : AHeap} {K : AVal → AHeap → Prop} {r : Nat} {o : ROpd} {l : List ROpd} {args : List AVal} (hf : o.ev fr = .yield r) (hl : l.map (·.ev fr) = args) (h : ∃ v H', call yieldId (.yield r :: args) H = some (v, H') ∧ K v H') : WpX (.call o l) call fr H K := by
  obtain ⟨v, H', h1, h2⟩ := h
  refine ⟨v, H', ?_, h2⟩
  simp only [ROp.exec, hf, hl, aCallV]
  exact h1
end Go.Am

namespace Go.Am
open Go
theorem wa {a b : Nat} (h : a + b < 9223372036854775808) : IntKind.i64.wrap ((a : Int) + (b : Int)) = ((a + b : Nat) : Int) := by rw [← Int.natCast_add]; exact w64 (by omega)
theorem wa1 {a : Nat} (h : a < 9223372036854775807) : IntKind.i64.wrap ((a : Int) + 1) = ((a + 1 : Nat) : Int) := by rw [w64 (by omega)]; omega
class LeT (n m : Nat) : Prop where
  le : n ≤ m
def lv : Bs → Bs → Nat
  | [], m => m.length
  | x :: l, [] => l.length + 1
  | x :: l, y :: m => if x = y then lv l m else 1 + min (lv l m) (min (lv l (y :: m)) (lv (x :: l) m))
  termination_by l m => l.length + m.length
theorem lv_nil {m : Bs} : lv [] m = m.length := by rw [lv]
theorem lv_end {l : Bs} : lv l [] = l.length := by cases l <;> rw [lv] <;> rfl
theorem lv_eq {x : UInt8} {l m : Bs} : lv (x :: l) (x :: m) = lv l m := by rw [lv, if_pos rfl]
theorem lv_ne {x y : UInt8} {l m : Bs} (h : x ≠ y) : lv (x :: l) (y :: m) = 1 + min (lv l m) (min (lv l (y :: m)) (lv (x :: l) m)) := by rw [lv, if_neg h]
inductive Ed : Bs → Bs → Nat → Prop
  | nil : Ed [] [] 0
  | keep {x l m n} : Ed l m n → Ed (x :: l) (x :: m) n
  | turn {x y l m n} : Ed l m n → Ed (x :: l) (y :: m) (n + 1)
  | ins {y l m n} : Ed l m n → Ed l (y :: m) (n + 1)
  | del {x l m n} : Ed l m n → Ed (x :: l) m (n + 1)
theorem Ed.all : ∀ m : Bs, Ed [] m m.length
  | [] => .nil
  | _ :: m => .ins (Ed.all m)
theorem Ed.none : ∀ l : Bs, Ed l [] l.length
  | [] => .nil
  | _ :: l => .del (Ed.none l)
theorem Ed.symm {l m : Bs} {n : Nat} (h : Ed l m n) : Ed m l n := by
  induction h with
  | nil => exact .nil
  | keep _ ih => exact .keep ih
  | turn _ ih => exact .turn ih
  | ins _ ih => exact .del ih
  | del _ ih => exact .ins ih
theorem lv_ed (l m : Bs) : Ed l m (lv l m) := by
  induction l, m using lv.induct with
  | case1 m => rw [lv_nil]; exact Ed.all m
  | case2 x l => rw [lv_end]; exact Ed.none _
  | case3 x l m ih => rw [lv_eq]; exact .keep ih
  | case4 x l y m hne i1 i2 i3 =>
    rw [lv_ne hne, Nat.add_comm]
    rcases Nat.le_total (lv l m) (min (lv l (y :: m)) (lv (x :: l) m)) with h | h
    · rw [Nat.min_eq_left h]; exact .turn i1
    · rw [Nat.min_eq_right h]
      rcases Nat.le_total (lv l (y :: m)) (lv (x :: l) m) with h | h
      · rw [Nat.min_eq_left h]; exact .del i2
      · rw [Nat.min_eq_right h]; exact .ins i3
theorem Ed.len {l m : Bs} {n : Nat} (h : Ed l m n) : l.length ≤ m.length + n ∧ m.length ≤ l.length + n := by
  induction h with
  | nil => simp
  | keep _ ih => simp only [List.length_cons]; omega
  | turn _ ih => simp only [List.length_cons]; omega
  | ins _ ih => simp only [List.length_cons]; omega
  | del _ ih => simp only [List.length_cons]; omega
theorem Ed.drop {l m : Bs} {n : Nat} (h : Ed l m n) : ∀ {x l'}, l = x :: l' → ∃ k, k ≤ n + 1 ∧ Ed l' m k := by
  induction h with
  | nil => intro x l' e; cases e
  | keep h _ => intro x l' e; cases e; exact ⟨_, Nat.le_refl _, .ins h⟩
  | turn h _ => intro x l' e; cases e; exact ⟨_, by omega, .ins h⟩
  | ins _ ih =>
    intro x l' e
    obtain ⟨k, h1, h2⟩ := ih e
    exact ⟨k + 1, by omega, .ins h2⟩
  | del h _ => intro x l' e; cases e; exact ⟨_, by omega, h⟩
theorem lv_le {l m : Bs} {n : Nat} (h : Ed l m n) : lv l m ≤ n := by
  have key : ∀ (s n : Nat) (l m : Bs), l.length + m.length = s → Ed l m n → lv l m ≤ n := by
    intro s
    induction s using Nat.strongRecOn with
    | ind s ih =>
    intro n l m hs h
    cases h with
    | nil => rw [lv_nil]; simp
    | keep h1 => rw [lv_eq]; exact ih _ (by rw [← hs]; simp only [List.length_cons]; omega) _ _ _ rfl h1
    | @turn x y l m n h1 =>
      have h2 := ih _ (by rw [← hs]; simp only [List.length_cons]; omega) _ _ _ rfl h1
      by_cases e : x = y
      · subst e; rw [lv_eq]; omega
      · rw [lv_ne e]; omega
    | @ins y l m n h1 =>
      have h2 := ih _ (by rw [← hs]; simp only [List.length_cons]; omega) _ _ _ rfl h1
      cases l with
      | nil => rw [lv_nil]; rw [lv_nil] at h2; simp only [List.length_cons]; omega
      | cons x l =>
        by_cases e : x = y
        · subst e
          rw [lv_eq]
          obtain ⟨k, h3, h4⟩ := h1.drop rfl
          have := ih _ (by rw [← hs]; simp only [List.length_cons]; omega) _ _ _ rfl h4
          omega
        · rw [lv_ne e]; omega
    | @del x l m n h1 =>
      have h2 := ih _ (by rw [← hs]; simp only [List.length_cons]; omega) _ _ _ rfl h1
      cases m with
      | nil => rw [lv_end]; rw [lv_end] at h2; simp only [List.length_cons]; omega
      | cons y m =>
        by_cases e : x = y
        · subst e
          rw [lv_eq]
          obtain ⟨k, h3, h4⟩ := h1.symm.drop rfl
          have := ih _ (by rw [← hs]; simp only [List.length_cons]; omega) _ _ _ rfl h4.symm
          omega
        · rw [lv_ne e]; omega
  exact key _ n l m rfl h
theorem Ed.trans {a b c : Bs} {p q : Nat} (h : Ed a b p) (k : Ed b c q) : ∃ r, r ≤ p + q ∧ Ed a c r := by
  have key : ∀ (s p q : Nat) (a b c : Bs), a.length + b.length + c.length = s → Ed a b p → Ed b c q → ∃ r, r ≤ p + q ∧ Ed a c r := by
    intro s
    induction s using Nat.strongRecOn with
    | ind s ih =>
    intro p q a b c hs h k
    cases h with
    | nil => exact ⟨q, by omega, k⟩
    | @del x l m n h1 =>
      obtain ⟨r, h2, h3⟩ := ih _ (by rw [← hs]; simp only [List.length_cons]; omega) _ _ _ _ _ rfl h1 k
      exact ⟨r + 1, by omega, .del h3⟩
    | @ins y l m n h1 =>
      cases k with
      | keep k1 =>
        obtain ⟨r, h2, h3⟩ := ih _ (by rw [← hs]; simp only [List.length_cons]; omega) _ _ _ _ _ rfl h1 k1
        exact ⟨r + 1, by omega, .ins h3⟩
      | turn k1 =>
        obtain ⟨r, h2, h3⟩ := ih _ (by rw [← hs]; simp only [List.length_cons]; omega) _ _ _ _ _ rfl h1 k1
        exact ⟨r + 1, by omega, .ins h3⟩
      | ins k1 =>
        obtain ⟨r, h2, h3⟩ := ih _ (by rw [← hs]; simp only [List.length_cons]; omega) _ _ _ _ _ rfl (Ed.ins (y := y) h1) k1
        exact ⟨r + 1, by omega, .ins h3⟩
      | del k1 =>
        obtain ⟨r, h2, h3⟩ := ih _ (by rw [← hs]; simp only [List.length_cons]; omega) _ _ _ _ _ rfl h1 k1
        exact ⟨r, by omega, h3⟩
    | @keep x l m n h1 =>
      cases k with
      | keep k1 =>
        obtain ⟨r, h2, h3⟩ := ih _ (by rw [← hs]; simp only [List.length_cons]; omega) _ _ _ _ _ rfl h1 k1
        exact ⟨r, by omega, .keep h3⟩
      | turn k1 =>
        obtain ⟨r, h2, h3⟩ := ih _ (by rw [← hs]; simp only [List.length_cons]; omega) _ _ _ _ _ rfl h1 k1
        exact ⟨r + 1, by omega, .turn h3⟩
      | ins k1 =>
        obtain ⟨r, h2, h3⟩ := ih _ (by rw [← hs]; simp only [List.length_cons]; omega) _ _ _ _ _ rfl (Ed.keep (x := x) h1) k1
        exact ⟨r + 1, by omega, .ins h3⟩
      | del k1 =>
        obtain ⟨r, h2, h3⟩ := ih _ (by rw [← hs]; simp only [List.length_cons]; omega) _ _ _ _ _ rfl h1 k1
        exact ⟨r + 1, by omega, .del h3⟩
    | @turn x y l m n h1 =>
      cases k with
      | keep k1 =>
        obtain ⟨r, h2, h3⟩ := ih _ (by rw [← hs]; simp only [List.length_cons]; omega) _ _ _ _ _ rfl h1 k1
        exact ⟨r + 1, by omega, .turn h3⟩
      | turn k1 =>
        obtain ⟨r, h2, h3⟩ := ih _ (by rw [← hs]; simp only [List.length_cons]; omega) _ _ _ _ _ rfl h1 k1
        exact ⟨r + 1, by omega, .turn h3⟩
      | ins k1 =>
        obtain ⟨r, h2, h3⟩ := ih _ (by rw [← hs]; simp only [List.length_cons]; omega) _ _ _ _ _ rfl (Ed.turn (x := x) (y := y) h1) k1
        exact ⟨r + 1, by omega, .ins h3⟩
      | del k1 =>
        obtain ⟨r, h2, h3⟩ := ih _ (by rw [← hs]; simp only [List.length_cons]; omega) _ _ _ _ _ rfl h1 k1
        exact ⟨r + 1, by omega, .del h3⟩
  exact key _ p q a b c rfl h k
theorem Ed.append {a b c d : Bs} {p q : Nat} (h : Ed a b p) (k : Ed c d q) : Ed (a ++ c) (b ++ d) (p + q) := by
  induction h with
  | nil => rw [Nat.zero_add]; exact k
  | keep _ ih => exact .keep ih
  | turn _ ih => rw [Nat.add_right_comm]; exact .turn ih
  | ins _ ih => rw [Nat.add_right_comm]; exact .ins ih
  | del _ ih => rw [Nat.add_right_comm]; exact .del ih
theorem Ed.refl : ∀ l : Bs, Ed l l 0
  | [] => .nil
  | _ :: l => .keep (Ed.refl l)
theorem Ed.rev {a b : Bs} {n : Nat} (h : Ed a b n) : Ed a.reverse b.reverse n := by
  induction h with
  | nil => exact .nil
  | @keep x l m n _ ih => rw [List.reverse_cons, List.reverse_cons]; exact ih.append (.keep .nil)
  | @turn x y l m n _ ih => rw [List.reverse_cons, List.reverse_cons]; exact ih.append (.turn (n := 0) .nil)
  | @ins y l m n _ ih => rw [List.reverse_cons]; have := ih.append (Ed.ins (y := y) .nil); rwa [List.append_nil] at this
  | @del x l m n _ ih => rw [List.reverse_cons]; have := ih.append (Ed.del (x := x) .nil); rwa [List.append_nil] at this
theorem Ed.zero {a b : Bs} {n : Nat} (h : Ed a b n) : n = 0 → a = b := by
  induction h with
  | nil => intro _; rfl
  | keep _ ih => intro e; rw [ih e]
  | turn _ _ => intro e; omega
  | ins _ _ => intro e; omega
  | del _ _ => intro e; omega
def lev (a b : Bs) : Nat := lv a.reverse b.reverse
theorem lev_ed (a b : Bs) : Ed a b (lev a b) := by have := (lv_ed a.reverse b.reverse).rev; rwa [List.reverse_reverse, List.reverse_reverse] at this
theorem lev_le {a b : Bs} {n : Nat} (h : Ed a b n) : lev a b ≤ n := lv_le h.rev
theorem lev_self (a : Bs) : lev a a = 0 := Nat.le_zero.1 (lev_le (Ed.refl a))
theorem lev_zero {a b : Bs} : lev a b = 0 ↔ a = b := ⟨fun h => (lev_ed a b).zero h, fun h => by rw [h, lev_self]⟩
theorem lev_symm (a b : Bs) : lev a b = lev b a := Nat.le_antisymm (lev_le (lev_ed b a).symm) (lev_le (lev_ed a b).symm)
theorem lev_tri (a b c : Bs) : lev a c ≤ lev a b + lev b c := by
  obtain ⟨r, h1, h2⟩ := (lev_ed a b).trans (lev_ed b c)
  exact Nat.le_trans (lev_le h2) h1
theorem lev_max : ∀ a b : Bs, ∃ n, n ≤ max a.length b.length ∧ Ed a b n
  | [], b => ⟨b.length, by simp, Ed.all b⟩
  | a, [] => ⟨a.length, by simp, Ed.none a⟩
  | x :: a, y :: b => by
    obtain ⟨n, h1, h2⟩ := lev_max a b
    exact ⟨n + 1, by simp only [List.length_cons]; omega, .turn h2⟩
theorem lev_most (a b : Bs) : lev a b ≤ max a.length b.length := by
  obtain ⟨n, h1, h2⟩ := lev_max a b
  exact Nat.le_trans (lev_le h2) h1
theorem lev_least (a b : Bs) : a.length ≤ b.length + lev a b ∧ b.length ≤ a.length + lev a b := (lev_ed a b).len
theorem lev_more (a : Bs) (k : Nat) (x : UInt8) : lev a (a.take k ++ x :: a.drop k) = 1 := by
  have h1 : Ed a (a.take k ++ x :: a.drop k) 1 := by
    have := (Ed.refl (a.take k)).append (Ed.ins (y := x) (Ed.refl (a.drop k)))
    rwa [List.take_append_drop] at this
  have h2 := lev_le h1
  have h3 := (lev_least a (a.take k ++ x :: a.drop k)).2
  have h4 : (a.take k ++ x :: a.drop k).length = a.length + 1 := by simp only [List.length_append, List.length_cons, List.length_take, List.length_drop]; omega
  omega
def lvD (a b : Bs) (i j : Nat) : Nat := lev (a.take i) (b.take j)
theorem lvD_0 (a b : Bs) {j : Nat} (h : j ≤ b.length) : lvD a b 0 j = j := by
  simp only [lvD, lev, List.take_zero, List.reverse_nil, lv_nil, List.length_reverse, List.length_take]; omega
theorem lvD_end (a b : Bs) {i : Nat} (h : i ≤ a.length) : lvD a b i 0 = i := by
  simp only [lvD, lev, List.take_zero, List.reverse_nil, lv_end, List.length_reverse, List.length_take]; omega
theorem take_rev {a : Bs} {i : Nat} (h : i < a.length) : (a.take (i + 1)).reverse = a[i] :: (a.take i).reverse := by
  rw [List.take_succ_eq_append_getElem h, List.reverse_append]; rfl
theorem lvD_eq {a b : Bs} {i j : Nat} (hi : i < a.length) (hj : j < b.length) (h : a[i] = b[j]) : lvD a b (i + 1) (j + 1) = lvD a b i j := by
  simp only [lvD, lev, take_rev hi, take_rev hj, h, lv_eq]
theorem lvD_ne {a b : Bs} {i j : Nat} (hi : i < a.length) (hj : j < b.length) (h : a[i] ≠ b[j]) : lvD a b (i + 1) (j + 1) = 1 + min (lvD a b i j) (min (lvD a b (i + 1) j) (lvD a b i (j + 1))) := by
  have := lv_ne (l := (a.take i).reverse) (m := (b.take j).reverse) h
  rw [← take_rev hi, ← take_rev hj] at this
  simp only [lvD, lev]
  rw [this, Nat.min_comm (lv (List.take i a).reverse (List.take (j + 1) b).reverse)]
theorem lvD_all (a b : Bs) : lvD a b a.length b.length = lev a b := by simp only [lvD, List.take_length]
theorem lvD_le {a b : Bs} {i j : Nat} (hi : i ≤ a.length) (hj : j ≤ b.length) : lvD a b i j ≤ i + j := by
  have := lev_most (a.take i) (b.take j)
  simp only [lvD, List.length_take] at *
  omega
def mixR (a b : Bs) (n i j : Nat) : List Int := (List.range (n + 1)).map fun k => if k < j then (lvD a b (i + 1) k : Int) else (lvD a b i k : Int)
theorem mixR_len (a b : Bs) (n i j : Nat) : (mixR a b n i j).length = n + 1 := by simp [mixR]
theorem mixR_get {a b : Bs} {n i j k : Nat} (h : k < (mixR a b n i j).length) : (mixR a b n i j)[k] = if k < j then (lvD a b (i + 1) k : Int) else (lvD a b i k : Int) := by simp [mixR]
theorem mixR_set {a b : Bs} {n i j : Nat} : (mixR a b n i j).set j (lvD a b (i + 1) j : Int) = mixR a b n i (j + 1) := by
  apply List.ext_getElem
  · simp [mixR]
  · intro k h1 h2
    rw [List.getElem_set, mixR_get h2]
    by_cases e : j = k
    · subst e; simp
    · rw [if_neg e, mixR_get]
      have : k < j ↔ k < j + 1 := by omega
      simp only [this]
theorem mixR_done {a b : Bs} {n i : Nat} : mixR a b n i (n + 1) = mixR a b n (i + 1) 0 := by
  apply List.ext_getElem
  · simp [mixR]
  · intro k h1 h2
    rw [mixR_get h1, mixR_get h2]
    simp only [mixR_len] at h1
    simp [h1]
def upR (n k : Nat) : List Int := (List.range (n + 1)).map fun i : Nat => if i < k then (i : Int) else 0
theorem upR_len (n k : Nat) : (upR n k).length = n + 1 := by simp [upR]
theorem upR_zero (n : Nat) : upR n 0 = List.replicate (n + 1) 0 := by apply List.ext_getElem <;> simp [upR]
theorem upR_set {n k : Nat} : (upR n k).set k (k : Int) = upR n (k + 1) := by
  apply List.ext_getElem
  · simp [upR]
  · intro i h1 h2
    simp only [upR, List.getElem_set, List.getElem_map, List.getElem_range]
    by_cases e : k = i
    · subst e; simp
    · rw [if_neg e]
      have : i < k ↔ i < k + 1 := by omega
      simp only [this]
theorem upR_done (a b : Bs) : upR b.length (b.length + 1) = mixR a b b.length 0 0 := by
  apply List.ext_getElem
  · simp [upR, mixR]
  · intro i h1 h2
    rw [mixR_get h2]
    rw [upR_len] at h1
    rw [if_neg (Nat.not_lt_zero _), lvD_0 a b (by omega)]
    simp [upR, h1]
end Go.Am

namespace Go.Am
open Go
open Nat renaming reduceEqDiff → qe, reduceAdd → qz
open Int renaming reduceBEq → qa, reduceBNe → qn
attribute [local irreducible] Wp WpO WpX WpE
instance K_Distance {a b : Bs} {H : AHeap} [ha : LeT a.length 1000000] [hb : LeT b.length 1000000] : PureCon ext prog 5 [strV a, strV b] H 1 (.int .i64 (lev a b : Int)) := ⟨by
 refine con_of (show prog 5 = some c5 from rfl) rfl rfl fun n hn => ?_
 have hal := ha.le
 have hbl := hb.le
 have hw1 := wa1 (a := b.length) (by omega)
 repeat first | refine Fo.lenStr (rfl : _ = strV _) rfl ?_ | refine Fo.mov (rfl : _ = strV _) ?_ | refine mv ?_ | refine bn rfl rfl rfl (by simp only [hw1]; rfl) ?_ | refine nl hKF ?_ | refine sq ?_ | refine rg fun KF hKF => ?_
 refine WpO.do (WpX.mkI (n := b.length + 1) rfl rfl rfl (by omega) fun q H1 e1 hq hf hw hx => ?_)
 clear e1
 haveI := hq.one
 repeat first | refine mv ?_ | (refine Fo.len (v := ?_) (by simp only [↓nrmL, nrmK, qe, ↓reduceIte]; rfl) ?hv ?_; case hv => (simp only [List.length_replicate]; rfl)) | refine nl hKF ?_ | refine sq ?_ | refine rg fun KF hKF => ?_ | refine Wp.block ?_ | dsimp only
 refine Wp.loopS [6, 17, 18, 19, 20, 21, 22, 23, 24] (fun k : Nat => [(17, .int .i64 (k : Int))]) (fun H3 k H2 => k ≤ b.length + 1 ∧ IntsI H2 q (upR b.length k) ∧ WrS H2 q ∧ ExtP0 H3 H2 q) (fun k => b.length + 1 - k) 0 rfl (fun _ => rfl) ⟨rfl, trivial⟩ ⟨Nat.zero_le _, by rw [upR_zero]; exact hq, inferInstance, inferInstance⟩ (by unfold fuel0 at hn; omega) ?_
 rintro k g H2 ⟨hk, hb2, hw2, ⟨hx2⟩⟩
 simp only [↓nrmL, nrmZ, qe, ↓reduceIte, qz, qa, qn]
 cases hc : decide ((k : Int) < ((b.length + 1 : Nat) : Int))
 ·have hkb : k = b.length + 1 := by have := of_decide_eq_false hc; omega
  subst hkb
  rw [upR_done a b] at hb2
  repeat first | refine Fo.lenStr (rfl : _ = strV _) rfl ?_ | refine Fo.mov (rfl : _ = strV _) ?_ | refine mv ?_ | refine bn rfl rfl rfl (by simp only [hc]; rfl) ?_ | refine nl hKF ?_ | refine sq ?_ | refine rg fun KF hKF => ?_ | refine cf rfl ?_ | refine Wp.block ?_ | refine xi ?_ | dsimp only
  refine Wp.loopS [7, 8, 9, 10, 27, 28, 29, 30, 31, 32, 33, 34, 35, 36, 37, 38, 39, 40, 41, 42, 43, 44, 45, 46, 47, 48, 49, 50, 51, 52, 53, 54, 55, 56, 57, 58, 59, 60, 61, 62, 63, 64, 65, 66, 67, 68, 69, 70, 71, 72, 73, 74] (fun i : Nat => [(27, .int .i64 (i : Int))]) (fun H3 i H4 => i ≤ a.length ∧ IntsI H4 q (mixR a b b.length i 0) ∧ WrS H4 q ∧ ExtP0 H3 H4 q) (fun i => a.length - i) 0 rfl (fun _ => rfl) ⟨rfl, trivial⟩ ⟨Nat.zero_le _, inferInstance, inferInstance, inferInstance⟩ (by unfold fuel0 at hn; omega) ?_
  rintro i g2 H4 ⟨hi, hb4, hw4, ⟨hx4⟩⟩
  simp only [↓nrmL, nrmZ, qe, ↓reduceIte, qz, qa, qn]
  have hm0 := mixR_len a b b.length i 0
  cases hc2 : decide ((i : Int) < (a.length : Int))
  ·have hia : i = a.length := by have := of_decide_eq_false hc2; omega
   subst hia
   have hg : (mixR a b b.length a.length 0)[b.length]'(by omega) = (lev a b : Int) := by rw [mixR_get, if_neg (Nat.not_lt_zero _), lvD_all]
   repeat first | refine Fo.lenStr (rfl : _ = strV _) rfl ?_ | refine Fo.mov (rfl : _ = strV _) ?_ | refine mv ?_ | refine bn rfl rfl rfl (by simp only [hc2, hg]; rfl) ?_ | (refine Fo.idx (by simp only [↓nrmL, nrmK, qe, ↓reduceIte]; rfl) rfl ?_ (by simp only [↓nrmL, nrmZ, qe, ↓reduceIte, qz, qa, qn, hc2, hg]; rfl) ?_; (focus omega)) | (refine Fo.ldI rfl ?_ (by simp only [hc2, hg]; rfl) ?_; (focus omega)) | refine nl hKF ?_ | refine sq ?_ | refine rg fun KF hKF => ?_ | refine cf rfl ?_ | refine rt ?_ | refine xi ?_ | dsimp only
   refine rz trivial ?_
   exact ⟨rfl, Ext0.ext⟩
  have hil : i < a.length := by have := of_decide_eq_true hc2; omega
  have hwi := wa1 (a := i) (by omega)
  have hg0 : (mixR a b b.length i 0)[0]'(by omega) = (i : Int) := by rw [mixR_get, if_neg (Nat.not_lt_zero _), lvD_end _ _ hi]
  repeat first | refine mv ?_ | refine bn rfl rfl rfl (by simp only [hc2, hg0, hwi]; rfl) ?_ | (refine Fo.idx (by simp only [↓nrmL, nrmK, qe, ↓reduceIte]; rfl) rfl ?_ (by simp only [↓nrmL, nrmZ, qe, ↓reduceIte, qz, qa, qn, hc2, hg0, hwi]; rfl) ?_; (focus omega)) | (refine Fo.ldI rfl ?_ (by simp only [hc2, hg0, hwi]; rfl) ?_; (focus omega)) | refine nl hKF ?_ | refine sq ?_ | refine rg fun KF hKF => ?_ | refine ct rfl ?_ | refine sk ?_ | refine Wp.block ?_
  refine WpO.do' (WpX.stI (p := q) (j := 0) (l := mixR a b b.length i 0) rfl rfl (by omega) fun H5 hb5 hw5 hx5 => ?_)
  rw [show ((i + 1 : Nat) : Int) = (lvD a b (i + 1) 0 : Int) by rw [lvD_end _ _ (by omega)], mixR_set] at hb5
  refine nl hKF ?_
  refine sq ?_
  refine rg fun KF hKF => ?_
  refine Fo.mov (rfl : _ = strV _) ?_
  refine Fo.lenStr (rfl : _ = strV _) rfl ?_
  refine mv ?_
  refine nl hKF ?_
  refine Wp.block ?_
  dsimp only
  refine Wp.loopS [8, 9, 10, 40, 41, 42, 43, 44, 45, 46, 47, 48, 49, 50, 51, 52, 53, 54, 55, 56, 57, 58, 59, 60, 61, 62, 63, 64, 65, 66, 67, 68, 69, 70, 71, 72, 73] (fun j : Nat => [(40, .int .i64 (j : Int)), (8, .int .i64 (lvD a b i j : Int))]) (fun H3 j H6 => j ≤ b.length ∧ IntsI H6 q (mixR a b b.length i (j + 1)) ∧ WrS H6 q ∧ ExtP0 H3 H6 q) (fun j => b.length - j) 0 rfl (fun _ => rfl) ⟨rfl, by simp only [↓nrmL, nrmZ, qe, ↓reduceIte, qz, qa, qn]; rw [lvD_end _ _ hi], trivial⟩ ⟨Nat.zero_le _, inferInstance, inferInstance, inferInstance⟩ (by unfold fuel0 at hn; omega) ?_
  rintro j g3 H6 ⟨hj, hb6, hw6, ⟨hx6⟩⟩
  simp only [↓nrmL, nrmZ, qe, ↓reduceIte, qz, qa, qn]
  have hmj := mixR_len a b b.length i (j + 1)
  cases hc3 : decide ((j : Int) < (b.length : Int))
  ·have hjb : j = b.length := by have := of_decide_eq_false hc3; omega
   subst hjb
   rw [mixR_done] at hb6
   repeat first | refine mv ?_ | refine bn rfl rfl rfl (by simp only [hc3]; rfl) ?_ | refine b0 ?_ | refine nl hKF ?_ | refine sq ?_ | refine rg fun KF hKF => ?_ | refine cf rfl ?_ | refine xi ?_ | dsimp only
   refine ⟨i + 1, by omega, ⟨by simp only [↓nrmL, nrmZ, qe, ↓reduceIte, qz, qa, qn]; rw [hwi], trivial⟩, by omega, inferInstance, inferInstance, inferInstance⟩
  have hjl : j < b.length := by have := of_decide_eq_true hc3; omega
  have hwj := wa1 (a := j) (by omega)
  have hgj : (mixR a b b.length i (j + 1))[j]'(by omega) = (lvD a b (i + 1) j : Int) := by rw [mixR_get, if_pos (Nat.lt_succ_self _)]
  have hgj1 : (mixR a b b.length i (j + 1))[j + 1]'(by omega) = (lvD a b i (j + 1) : Int) := by rw [mixR_get, if_neg (Nat.lt_irrefl _)]
  cases hd : ((a[i].toNat : Int) != (b[j].toNat : Int))
  ·have he : a[i] = b[j] := by
    apply UInt8.toNat_inj.1
    have : (a[i].toNat : Int) = (b[j].toNat : Int) := by simpa using hd
    omega
   repeat first | (refine Fo.idxStr (rfl : _ = strV _) rfl ?_ rfl ?_; (focus omega)) | refine Fo.mov (rfl : _ = strV _) ?_ | refine mv ?_ | refine bn rfl rfl rfl (by simp only [hc3, hd, hwj, hgj1]; rfl) ?_ | (refine Fo.idx (by simp only [↓nrmL, nrmK, qe, ↓reduceIte]; rfl) rfl ?_ (by simp only [↓nrmL, nrmZ, qe, ↓reduceIte, qz, qa, qn, hc3, hd, hwj, hgj1]; rfl) ?_; (focus omega)) | (refine Fo.ldI rfl ?_ (by simp only [hc3, hd, hwj, hgj1]; rfl) ?_; (focus omega)) | refine nl hKF ?_ | refine sq ?_ | refine rg fun KF hKF => ?_ | refine Fr.quiet rfl rfl fun KF hKF => ?_ | refine ct rfl ?_ | refine cf rfl ?_ | refine sk ?_ | refine Wp.block ?_
   refine WpO.do' (WpX.stI (p := q) (j := j + 1) (l := mixR a b b.length i (j + 1)) rfl rfl (by omega) fun H7 hb7 hw7 hx7 => ?_)
   rw [← lvD_eq hil hjl he, mixR_set] at hb7
   refine nl hKF ?_
   refine rg fun KF hKF => ?_
   refine bn rfl rfl rfl (by simp only [hwj]; rfl) ?_
   refine mv ?_
   refine nl hKF ?_
   dsimp only
   refine ⟨j + 1, by omega, ⟨(by simp only [↓nrmL, nrmZ, qe, ↓reduceIte, qz, qa, qn, List.map] <;> rfl), rfl, trivial⟩, by omega, inferInstance, inferInstance, inferInstance⟩
  ·have he : a[i] ≠ b[j] := fun e => by rw [e] at hd; simp at hd
   have hle : lvD a b i j ≤ i + j := lvD_le hi hj
   have hmn : IntKind.i64.wrap (1 + (if (lvD a b i (j + 1) : Int) < (if (lvD a b (i + 1) j : Int) < (lvD a b i j : Int) then (lvD a b (i + 1) j : Int) else (lvD a b i j : Int)) then (lvD a b i (j + 1) : Int) else (if (lvD a b (i + 1) j : Int) < (lvD a b i j : Int) then (lvD a b (i + 1) j : Int) else (lvD a b i j : Int)))) = (lvD a b (i + 1) (j + 1) : Int) := by
    rw [lvD_ne hil hjl he]
    rw [w64 (by repeat' split; all_goals omega)]
    repeat' split
    all_goals omega
   repeat first | (refine Fo.idxStr (rfl : _ = strV _) rfl ?_ rfl ?_; (focus omega)) | refine Fo.mov (rfl : _ = strV _) ?_ | refine mv ?_ | refine bn rfl rfl rfl (by simp only [hc3, hd, hwj, hgj, hgj1, Bool.false_eq_true, if_false, hmn]; rfl) ?_ | (refine Fo.idx (by simp only [↓nrmL, nrmK, qe, ↓reduceIte]; rfl) rfl ?_ (by simp only [↓nrmL, nrmZ, qe, ↓reduceIte, qz, qa, qn, hc3, hd, hwj, hgj, hgj1, Bool.false_eq_true, if_false, hmn]; rfl) ?_; (focus omega)) | (refine Fo.ldI rfl ?_ (by simp only [hc3, hd, hwj, hgj, hgj1, Bool.false_eq_true, if_false, hmn]; rfl) ?_; (focus omega)) | refine Fo.now rfl rfl (by simp only [hc3, hd, hwj, hgj, hgj1, Bool.false_eq_true, if_false, hmn]; rfl) ?_ | refine nl hKF ?_ | refine sq ?_ | refine rg fun KF hKF => ?_ | refine Fr.quiet rfl rfl fun KF hKF => ?_ | refine ct rfl ?_ | refine sk ?_ | refine Wp.block ?_
   refine WpO.do' (WpX.stI (p := q) (j := j + 1) (l := mixR a b b.length i (j + 1)) rfl rfl (by omega) fun H7 hb7 hw7 hx7 => ?_)
   rw [mixR_set] at hb7
   refine nl hKF ?_
   refine rg fun KF hKF => ?_
   refine bn rfl rfl rfl (by simp only [hwj]; rfl) ?_
   refine mv ?_
   refine nl hKF ?_
   dsimp only
   refine ⟨j + 1, by omega, ⟨(by simp only [↓nrmL, nrmZ, qe, ↓reduceIte, qz, qa, qn, List.map] <;> rfl), rfl, trivial⟩, by omega, inferInstance, inferInstance, inferInstance⟩
 have hkl : k < b.length + 1 := by have := of_decide_eq_true hc; omega
 have hwk := wa1 (a := k) (by omega)
 have hul := upR_len b.length k
 repeat first | refine mv ?_ | refine bn rfl rfl rfl (by simp only [hc]; rfl) ?_ | (refine Fo.idx (by simp only [↓nrmL, nrmK, qe, ↓reduceIte]; rfl) rfl ?_ (by simp only [↓nrmL, nrmZ, qe, ↓reduceIte, qz, qa, qn, hc]; rfl) ?_; (focus omega)) | refine nl hKF ?_ | refine sq ?_ | refine rg fun KF hKF => ?_ | refine ct rfl ?_ | refine sk ?_ | refine Wp.block ?_
 refine WpO.do' (WpX.stI (p := q) (j := k) (l := upR b.length k) rfl rfl (by omega) fun H5 hb5 hw5 hx5 => ?_)
 rw [upR_set] at hb5
 refine nl hKF ?_
 refine rg fun KF hKF => ?_
 refine bn rfl rfl rfl (by simp only [hwk]; rfl) ?_
 refine mv ?_
 refine nl hKF ?_
 dsimp only
 refine ⟨k + 1, by omega, ⟨(by simp only [↓nrmL, nrmZ, qe, ↓reduceIte, qz, qa, qn, List.map] <;> rfl), trivial⟩, by omega, inferInstance, inferInstance, inferInstance⟩⟩
end Go.Am

namespace Go.Am
open Go
section
variable {call : ACall} {lf : Nat} {fr : AFrame} {H : AHeap} {Q : RExit → AFrame → AHeap → Prop} {b : RCode}
def WpN (call : ACall) (lf : Nat) (b : RCode) (k : Nat) (fr : AFrame) (H : AHeap) (Q : RExit → AFrame → AHeap → Prop) : Prop := ∃ x fr' H', loopN (b.exec call lf) k fr H = some ((x, fr'), H') ∧ Q x fr' H'
theorem Wp.rounds (h : WpN call lf b lf fr H Q) : Wp call lf (.loop b) fr H Q := h
theorem WpN.round {k : Nat} (hk : 0 < k) (h : Wp call lf b fr H fun x fr' H' => match x with | .normal => WpN call lf b (k - 1) fr' H' Q | e => Q e fr' H') : WpN call lf b k fr H Q := by
  obtain ⟨j, rfl⟩ : ∃ j, k = j + 1 := ⟨k - 1, by omega⟩
  obtain ⟨x, fr', H', h1, h2⟩ := h
  cases x with
  | normal =>
    obtain ⟨y, f2, H2, h3, h4⟩ := h2
    refine ⟨y, f2, H2, ?_, h4⟩
    simp only [loopN, M.bind, h1]
    exact h3
  | exit id => exact ⟨_, _, _, by simp only [loopN, M.bind, h1, M.pure], h2⟩
  | ret => exact ⟨_, _, _, by simp only [loopN, M.bind, h1, M.pure], h2⟩
end
end Go.Am

namespace Go.Am
open Go
open Nat renaming reduceEqDiff → qe, reduceAdd → qz
open Int renaming reduceBEq → qa, reduceBNe → qn
attribute [local irreducible] Wp WpO WpX WpE
instance K_awake {H : AHeap} : PureCon ext prog 4 [] H 0 (.bool true) := ⟨fun n hn => by
 obtain ⟨k, rfl⟩ : ∃ k, n = k + 1 := ⟨n - 1, by unfold fuel0 at hn; omega⟩
 have e1 : prog 4 = some ⟨0, .ext 3, []⟩ := rfl
 refine ⟨.bool true, H, ?_, rfl, Ext.refl H⟩
 rw [call_ext e1]
 rfl⟩
def pickS (x : Int) (k : Nat) : Nat := (if x.tmod k < 0 then x.tmod k + k else x.tmod k).toNat
theorem pickS_lt {x : Int} {k : Nat} (hk : 0 < k) : pickS x k < k := by
 have h1 := Int.tmod_lt_of_pos x (b := (k : Int)) (by omega)
 have h2 := Int.lt_tmod_of_pos x (b := (k : Int)) (by omega)
 unfold pickS
 split <;> omega
instance K_Pick {x : Int} {k : Nat} {H : AHeap} [hk : LeT 1 k] [hl : LeT k 1000000] : PureCon ext prog 6 [.int .i64 x, .int .i64 (k : Int)] H 1 (.int .i64 (pickS x k : Int)) := ⟨by
 refine con_of (show prog 6 = some c6 from rfl) rfl rfl fun n hn => ?_
 have h1 := hk.le
 have h2 := hl.le
 have h3 : decide ((k : Int) < 1) = false := decide_eq_false (by omega)
 have t1 := Int.tmod_lt_of_pos x (b := (k : Int)) (by omega)
 have t2 := Int.lt_tmod_of_pos x (b := (k : Int)) (by omega)
 have hr : aBin .rem (.int .i64 x) (.int .i64 (k : Int)) = some (.int .i64 (x.tmod k)) := by
  simp only [aBin, intBin, ne_eq, not_true, if_false, if_neg (show ¬ ((k : Int) = 0) by omega)]
 repeat first | refine mI ?_ | refine bn rfl rfl rfl (by simp only [h3]; rfl) ?_ | refine nl hKF ?_ | refine sq ?_ | refine rg fun KF hKF => ?_ | refine cf rfl ?_ | refine sk ?_
 refine bn rfl rfl hr rfl ?_
 cases h4 : decide (x.tmod k < 0)
 ·have e : (pickS x k : Int) = x.tmod k := by
   have := of_decide_eq_false h4
   unfold pickS; rw [if_neg this]; omega
  repeat first | refine mI ?_ | refine bn rfl rfl rfl (by simp only [h4]; rfl) ?_ | refine nl hKF ?_ | refine sq ?_ | refine rg fun KF hKF => ?_ | refine cf rfl ?_ | refine sk ?_ | refine rt ?_ | dsimp only
  refine rz trivial ?_
  exact ⟨by rw [e]; rfl, Ext0.ext⟩
 ·have h5 := of_decide_eq_true h4
  have e : (pickS x k : Int) = x.tmod k + k := by unfold pickS; rw [if_pos h5]; omega
  have hw : IntKind.i64.wrap (x.tmod k + k) = x.tmod k + k := w64 (by omega)
  repeat first | refine mI ?_ | refine bn rfl rfl rfl (by simp only [h4, hw]; rfl) ?_ | refine nl hKF ?_ | refine sq ?_ | refine rg fun KF hKF => ?_ | refine ct rfl ?_ | refine rt ?_ | dsimp only
  refine rz trivial ?_
  exact ⟨by rw [e]; rfl, Ext0.ext⟩⟩
theorem bytes_lit {H : AHeap} {r n : Nat} {c : Option Nat} {e : TypeId} {l : Bs} (h : HasRow H r (cellsB l) true e) (hn : n = l.length) (hc : l.length ≤ capD n c) : BytesI H (.slice r 0 n c 1) l := by
 subst hn
 exact ⟨Or.inr ⟨r, 0, c, cellsB l, true, e, rfl, h.lt, h.get, by rw [cellsB_length]; omega, by rw [List.drop_zero, List.take_of_length_le (by rw [cellsB_length]; omega)], hc⟩⟩
theorem K_LexiconMetric {a b c : Bs} {k : Int} {x : UInt8} {H : AHeap} : Con ext prog 5 3 [strV a, strV b, strV c, .int .i64 k, .int .u8 (x.toNat : Int)] H fun v H' => v = .bool true ∧ Ext H H' := by
 refine con_of (show prog 3 = some c3 from rfl) rfl rfl fun n hn => ?_
 cases ha : decide ((a.length : Int) > 40)
 rotate_left
 ·skip
  simp only [ha]
  repeat first | refine Fo.lenStr (rfl : _ = strV _) rfl ?_ | refine Fo.mov (rfl : _ = strV _) ?_ | refine mv ?_ | refine ox ?_ | refine bn rfl rfl rfl (by simp only [ha]; rfl) ?_ | refine tB ?_ | (refine Fo.pcall (v' := ?_) hn rfl (by simp only [ha, List.map]; rfl) rfl ?hv fun _ _ => ?_; case hv => rfl) | refine nl hKF ?_ | refine sq ?_ | refine rg fun KF hKF => ?_ | refine ct rfl ?_ | refine rt ?_ | dsimp only
  refine rz trivial ?_
  exact ⟨rfl, Ext0.ext⟩
 cases hb : decide ((b.length : Int) > 40)
 rotate_left
 ·skip
  simp only [ha, hb]
  repeat first | refine Fo.lenStr (rfl : _ = strV _) rfl ?_ | refine Fo.mov (rfl : _ = strV _) ?_ | refine mv ?_ | refine oy ?_ | refine ox ?_ | refine bn rfl rfl rfl (by simp only [ha, hb]; rfl) ?_ | refine tB ?_ | refine fB ?_ | (refine Fo.pcall (v' := ?_) hn rfl (by simp only [ha, hb, List.map]; rfl) rfl ?hv fun _ _ => ?_; case hv => rfl) | refine nl hKF ?_ | refine sq ?_ | refine rg fun KF hKF => ?_ | refine ct rfl ?_ | refine rt ?_ | dsimp only
  refine rz trivial ?_
  exact ⟨rfl, Ext0.ext⟩
 cases hc : decide ((c.length : Int) > 40)
 rotate_left
 ·skip
  simp only [ha, hb, hc]
  repeat first | refine Fo.lenStr (rfl : _ = strV _) rfl ?_ | refine Fo.mov (rfl : _ = strV _) ?_ | refine mv ?_ | refine oy ?_ | refine bn rfl rfl rfl (by simp only [ha, hb, hc]; rfl) ?_ | refine fB ?_ | (refine Fo.pcall (v' := ?_) hn rfl (by simp only [ha, hb, hc, List.map]; rfl) rfl ?hv fun _ _ => ?_; case hv => rfl) | refine nl hKF ?_ | refine sq ?_ | refine rg fun KF hKF => ?_ | refine ct rfl ?_ | refine rt ?_ | dsimp only
  refine rz trivial ?_
  exact ⟨rfl, Ext0.ext⟩
 have la : a.length ≤ 40 := by have := of_decide_eq_false ha; omega
 have lb : b.length ≤ 40 := by have := of_decide_eq_false hb; omega
 have lc : c.length ≤ 40 := by have := of_decide_eq_false hc; omega
 haveI i1 : LeT 1 (a.length + 1) := ⟨by omega⟩
 haveI i2 : LeT (a.length + 1) 1000000 := ⟨by omega⟩
 haveI i3 : LeT a.length 1000000 := ⟨by omega⟩
 haveI i4 : LeT b.length 1000000 := ⟨by omega⟩
 haveI i5 : LeT c.length 1000000 := ⟨by omega⟩
 have hw1 := wa1 (a := a.length) (by omega)
 obtain ⟨p, hp⟩ : ∃ p, p = pickS k (a.length + 1) := ⟨_, rfl⟩
 have hpl : p ≤ a.length := by have := pickS_lt (x := k) (k := a.length + 1) (by omega); omega
 simp only [ha, hb, hc, hw1, ← hp]
 repeat first | refine Fo.lenStr (rfl : _ = strV _) rfl ?_ | refine Fo.mov (rfl : _ = strV _) ?_ | refine mv ?_ | refine oy ?_ | refine bn rfl rfl rfl (by simp only [ha, hb, hc, hw1, ← hp]; rfl) ?_ | refine fB ?_ | (refine Fo.pcall (v' := ?_) hn rfl (by simp only [↓nrmL, nrmZ, qe, ↓reduceIte, qz, qa, qn, ha, hb, hc, hw1, ← hp, List.map]; rfl) rfl ?hv fun _ _ => ?_; case hv => (simp only [ha, hb, hc, hw1, ← hp]; rfl)) | refine nl hKF ?_ | refine sq ?_ | refine rg fun KF hKF => ?_ | refine cf rfl ?_ | refine sk ?_
 refine Fr.dregionE [.row (cellsB [x]) true (2 * 5)] ?_ fun KF hKF => ?_
 ·skip
  refine oracle_pre rfl rfl rfl rfl ?_; (try simp only [↓nrmL, nrmZ, qe, ↓reduceIte, qz, qa, qn])
  refine oracle_pre rfl rfl rfl rfl ?_; (try simp only [↓nrmL, nrmZ, qe, ↓reduceIte, qz, qa, qn])
  refine oracle_pre rfl rfl rfl (exec_slcStr (l := a) (a := 0) (b := p) rfl (Or.inl ⟨rfl, rfl⟩) (Or.inr ⟨_, rfl⟩) (Nat.zero_le _) hpl) ?_
  refine oracle_pre rfl rfl rfl rfl ?_; (try simp only [↓nrmL, nrmZ, qe, ↓reduceIte, qz, qa, qn])
  refine oracle_made rfl rfl rfl ?_; (try simp only [↓nrmL, nrmZ, qe, ↓reduceIte, qz, qa, qn])
  exact oracle_none _ _ _ _ rfl
 simp only [pushAll]
 refine Fe.pure rfl rfl (by simp only [↓nrmL, nrmZ, qe, ↓reduceIte, qz, qa, qn]; rfl) ?_
 refine Fe.pure rfl rfl (by simp only [↓nrmL, nrmZ, qe, ↓reduceIte, qz, qa, qn]; rfl) ?_
 refine Fe.pure rfl (exec_slcStr (l := a) (a := 0) (b := p) rfl (Or.inl ⟨rfl, rfl⟩) (Or.inr ⟨_, rfl⟩) (Nat.zero_le _) hpl) rfl ?_
 refine Fe.pure rfl rfl (by simp only [↓nrmL, nrmZ, qe, ↓reduceIte, qz, qa, qn]; rfl) ?_
 refine Em rfl rfl ghost_of rfl ?_
 refine Fe.read rfl (exec_bts (h := bytes_lit (l := [x]) inferInstance rfl (Nat.le_refl _)) rfl) rfl trivial ?_
 skip
 refine Fe.pure rfl (exec_addStr rfl rfl (by simp only [List.length_take, List.length_drop, List.length_cons, List.length_nil]; omega)) rfl ?_
 refine Fe.pure rfl rfl (by simp only [↓nrmL, nrmZ, qe, ↓reduceIte, qz, qa, qn]; rfl) ?_
 refine Fe.pure rfl rfl (by simp only [↓nrmL, nrmZ, qe, ↓reduceIte, qz, qa, qn]; rfl) ?_
 refine Fe.pure rfl (exec_slcStr (l := a) (a := p) (b := a.length) rfl (Or.inr ⟨_, rfl⟩) (Or.inl ⟨rfl, rfl⟩) hpl (Nat.le_refl _)) rfl ?_
 skip
 refine Fe.pure rfl (exec_addStr rfl rfl (by simp only [List.length_append, List.length_take, List.length_drop, List.length_cons, List.length_nil]; omega)) rfl ?_
 refine Fe.pure rfl rfl (by simp only [↓nrmL, nrmZ, qe, ↓reduceIte, qz, qa, qn]; rfl) ?_
 refine WpE.nil (hKF _ _ ?_)
 obtain ⟨M, hM⟩ : ∃ M, M = List.take (p - 0) (List.drop 0 a) ++ [x] ++ List.take (a.length - p) (List.drop p a) := ⟨_, rfl⟩
 have hM2 : M = a.take p ++ x :: a.drop p := by
  rw [hM, List.drop_zero, Nat.sub_zero, List.take_of_length_le (l := a.drop p) (by rw [List.length_drop]; exact Nat.le_refl _), List.append_assoc]; rfl
 haveI i6 : LeT M.length 1000000 := ⟨by rw [hM2]; simp only [List.length_append, List.length_take, List.length_drop, List.length_cons]; omega⟩
 have g0 := lev_self a
 have g1 := lev_zero (a := a) (b := b)
 have g2 := lev_symm a b
 have g3 := lev_tri a b c
 have g4 := lev_most a b
 have g5 := lev_least a b
 have g6 : lev a M = 1 := by rw [hM2]; exact lev_more a p x
 have g7 := lev_most b c
 have f0 : (((lev a a : Nat) : Int) == 0) = true := by rw [g0]; rfl
 have f1 : (((lev a b : Nat) : Int) == 0) = (a == b) := by
  cases h : a == b
  ·have : lev a b ≠ 0 := fun e => by rw [g1.1 e] at h; simp at h
   exact beq_eq_false_iff_ne.2 (by omega)
  ·have : lev a b = 0 := g1.2 (by simpa using h)
   rw [this]; rfl
 have f2 : (((lev a b : Nat) : Int) == ((lev b a : Nat) : Int)) = true := by rw [← g2]; exact beq_self_eq_true _
 have f3 : IntKind.i64.wrap (((lev a b : Nat) : Int) + ((lev b c : Nat) : Int)) = ((lev a b + lev b c : Nat) : Int) := wa (by omega)
 have f4 : decide (((lev a c : Nat) : Int) ≤ ((lev a b + lev b c : Nat) : Int)) = true := decide_eq_true (by omega)
 have f5 : decide (((lev a b : Nat) : Int) ≤ (if (b.length : Int) > (a.length : Int) then (b.length : Int) else (a.length : Int))) = true := decide_eq_true (by split <;> omega)
 have f6 : IntKind.i64.wrap ((a.length : Int) - (b.length : Int)) = (a.length : Int) - (b.length : Int) := w64 (by omega)
 have f7 : IntKind.i64.wrap ((b.length : Int) - (a.length : Int)) = (b.length : Int) - (a.length : Int) := w64 (by omega)
 have f8 : decide (((lev a b : Nat) : Int) ≥ (if (b.length : Int) - (a.length : Int) > (a.length : Int) - (b.length : Int) then (b.length : Int) - (a.length : Int) else (a.length : Int) - (b.length : Int))) = true := decide_eq_true (by split <;> omega)
 have f9 : (((lev a M : Nat) : Int) == 1) = true := by rw [g6]; rfl
 have f10 : ∀ q : Bool, (q == q) = true := fun q => by cases q <;> rfl
 simp only [← hM, f0, f1, f2, f3, f4, f5, f6, f7, f8, f9, f10, if_true]
 repeat first | refine Fo.lenStr (rfl : _ = strV _) rfl ?_ | refine Fo.eqStr rfl rfl rfl ?_ | refine Fo.mov (rfl : _ = strV _) ?_ | refine mv ?_ | refine oy ?_ | refine bn rfl rfl rfl (by simp only [← hM, f0, f1, f2, f3, f4, f5, f6, f7, f8, f9, f10, if_true]; rfl) ?_ | refine tB ?_ | (refine Fo.pcall (v' := ?_) hn rfl (by simp only [← hM, f0, f1, f2, f3, f4, f5, f6, f7, f8, f9, f10, if_true, List.map]; rfl) rfl ?hv fun _ _ => ?_; case hv => rfl) | (refine Fo.pcall (v' := ?_) hn rfl (by simp only [↓nrmL, nrmZ, qe, ↓reduceIte, qz, qa, qn, ← hM, f0, f1, f2, f3, f4, f5, f6, f7, f8, f9, f10, if_true, List.map]; rfl) rfl ?hv fun _ _ => ?_; case hv => rfl) | refine Fo.now rfl rfl (by simp only [← hM, f0, f1, f2, f3, f4, f5, f6, f7, f8, f9, f10, if_true]; rfl) ?_ | refine nl hKF ?_ | refine sq ?_ | refine rg fun KF hKF => ?_ | refine rt ?_ | dsimp only
 refine rz trivial ?_
 exact ⟨rfl, Ext0.ext⟩
end Go.Am

namespace Go.Proofs.YtfohnngeckaljaaDoor.LexiconMetric
open Go.ChangeShapes Go.WideShapes Go.ChangeAt Go.RowKit Go.Am Go.Proofs.YtfohnngeckaljaaDoor.Laid

theorem con (H : AHeap) (avs : List AVal) (ht : tablesIn aroundT H = true) (h : ArgSW Tryd.prog H 3 [9, 9, 9, 3, 5] avs) : Con ext prog 5 3 avs H fun v H' => v = .bool true ∧ Ext H H' := by
  obtain ⟨a0, r0, rfl, h0, a1, r1, rfl, h1, a2, r2, rfl, h2, a3, r3, rfl, h3, a4, r4, rfl, h4, rfl⟩ := h
  obtain ⟨z0, rfl, lz0⟩ := shapeW_str Tryd.underlying9 h0
  obtain ⟨s0, hs0, hn0⟩ : ∃ l : Bs, AVal.str z0 = strV l ∧ l.length = z0.size := ⟨z0.data.toList, rfl, Array.length_toList⟩
  obtain ⟨z1, rfl, lz1⟩ := shapeW_str Tryd.underlying9 h1
  obtain ⟨s1, hs1, hn1⟩ : ∃ l : Bs, AVal.str z1 = strV l ∧ l.length = z1.size := ⟨z1.data.toList, rfl, Array.length_toList⟩
  obtain ⟨z2, rfl, lz2⟩ := shapeW_str Tryd.underlying9 h2
  obtain ⟨s2, hs2, hn2⟩ : ∃ l : Bs, AVal.str z2 = strV l ∧ l.length = z2.size := ⟨z2.data.toList, rfl, Array.length_toList⟩
  obtain ⟨i3, rfl, wf3⟩ := shapeW_int Tryd.underlying3 h3
  obtain ⟨i4, rfl, wf4⟩ := shapeW_int Tryd.underlying5 h4
  obtain ⟨s4, rfl⟩ := u8_of wf4
  have e0 : argV Tryd.prog 9 [.str z0] = strV s0 := by simp only [argV, show aggTy Tryd.prog 9 = false by kernel_rfl, cond_false, List.headD_cons, hs0]
  have e1 : argV Tryd.prog 9 [.str z1] = strV s1 := by simp only [argV, show aggTy Tryd.prog 9 = false by kernel_rfl, cond_false, List.headD_cons, hs1]
  have e2 : argV Tryd.prog 9 [.str z2] = strV s2 := by simp only [argV, show aggTy Tryd.prog 9 = false by kernel_rfl, cond_false, List.headD_cons, hs2]
  have e3 : argV Tryd.prog 3 [.int .i64 i3] = .int .i64 i3 := by simp only [argV, show aggTy Tryd.prog 3 = false by kernel_rfl, cond_false, List.headD_cons]
  have e4 : argV Tryd.prog 5 [.int .u8 (s4.toNat : Int)] = .int .u8 (s4.toNat : Int) := by simp only [argV, show aggTy Tryd.prog 5 = false by kernel_rfl, cond_false, List.headD_cons]
  rw [e0, e1, e2, e3, e4]
  exact K_LexiconMetric

theorem contract (H : Type) (enc : TypeId × Value → H) (W : World) (base : Nat) (args : Array Value) (ds gs : List (DataW H)) (before : List MemPlace)
    (hval : ∀ (j : Nat) t v, Tryd.f3.params[j]? = some t → args[j]? = some v → Value.okWide Tryd.prog W .any base t v)
    (hW : DataW.Whole enc Tryd.prog Tryd.f3.params.toList Rows.lexiconMetricSpec.vars false W args.toList ds gs before) (hz : (DataW.weightsEach Tryd.prog (Tryd.f3.params.toList ++ (OpenSpec.ofChange Rows.lexiconMetricSpec).bare.plain.varTypes Tryd.prog) (ds ++ gs)).all (· ≤ reachBytes) = true) (hL : laidMetH Tryd.prog Rows.lexiconMetricRow.laid W) :
    Calls Tryd.prog 3 args W fun e W' => ∃ v, e = .returned v ∧ Rows.lexiconMetricSpec.post enc Tryd.prog Tryd.f3 false true false false W args v W' := by
  have hW' := hW
  obtain ⟨p, q, hA, _⟩ := hW'
  rw [Tryd.params3] at hA
  obtain ⟨v0, vs0, d0, ds0, p0, q0, _, rfl, _, _, r0⟩ := trodAll_cons hA
  obtain ⟨v1, vs1, d1, ds1, p1, q1, _, rfl, _, _, r1⟩ := trodAll_cons r0
  obtain ⟨v2, vs2, d2, ds2, p2, q2, _, rfl, _, _, r2⟩ := trodAll_cons r1
  obtain ⟨v3, vs3, d3, ds3, p3, q3, _, rfl, _, _, r3⟩ := trodAll_cons r2
  obtain ⟨v4, vs4, d4, ds4, p4, q4, _, rfl, _, _, r4⟩ := trodAll_cons r3
  obtain ⟨_, rfl, _⟩ := trodAll_nil r4
  exact law_callsW (tb := 4) (n := 3) (d := 5) (tabs := aroundT) mixed progOk Tryd.func3 rfl (by decide +kernel) laidOut rowed full (by kernel_rfl) rfl (by kernel_rfl) Tryd.underlying4 (by kernel_rfl) (by kernel_rfl)
    (fun H avs ht h => con H avs ht (by rw [Tryd.params3] at h; exact h)) H enc W base args _ gs before rfl hval hW (slim_app hz) around_cells

theorem laid_met (os : Os) : laidMet Tryd.prog Rows.lexiconMetricRow.laid ((laidWorld os).forCall (fun _ _ => 0) ⟨#[], #[.string .empty, .string .empty, .string .empty, .int .i64 0, .int .u8 0], []⟩).memory :=
  laidMet_of_run' 8 (by kernel_rfl) (by kernel_rfl)
theorem reads (os : Os) {H : Type} (enc : TypeId × Value → H) : ∃ places, DataW.whole enc Tryd.prog ((laidWorld os).forCall (fun _ _ => 0) ⟨#[], #[.string .empty, .string .empty, .string .empty, .int .i64 0, .int .u8 0], []⟩).memory Tryd.f3.params.toList Rows.lexiconMetricSpec.vars false #[Value.string .empty, .string .empty, .string .empty, .int .i64 0, .int .u8 0].toList 8 = some ([.lit (.string []), .lit (.string []), .lit (.string []), .lit (.int .i64 0), .lit (.int .u8 0)], [], places) :=
  ⟨[], by kernel_rfl⟩

theorem lifted (os : Os) (started : os.Started) (H : Type) (enc : TypeId × Value → H) (F : Stop.Interp) :
    ReturnsInHanded {} Tryd.checked os 3 .any ((OpenSpec.ofChange Rows.lexiconMetricSpec).preRow enc Tryd.prog Tryd.f3 Rows.lexiconMetricRow.domain false Rows.lexiconMetricRow.laid) (((OpenSpec.ofChange Rows.lexiconMetricSpec).at F).post enc Tryd.prog Tryd.f3 false true false false) := by
  obtain ⟨places, hx⟩ := reads os enc
  refine returnsInHanded_of_row (C := Tryd.checked) (s := OpenSpec.ofChange Rows.lexiconMetricSpec) own started (by kernel_rfl) Tryd.func3
    (witness_row_at (enc := enc) (C := Tryd.checked) false (laidWorld os) #[.string .empty, .string .empty, .string .empty, .int .i64 0, .int .u8 0] rfl (by kernel_rfl) (by kernel_rfl) (by kernel_rfl)
      (OpenSpec.preRow_of_cond 8 hx (by kernel_rfl) (fun k hk => by cases hk) (by kernel_rfl) (laid_met os))) ?_
  intro W base args ds gs before hval hW _ _ hz hL _ _
  exact contract H enc W base args ds gs before hval hW hz hL

theorem said : Rows.LexiconMetricSaid :=
  OpenClaim.holds_of_cond 3 Tryd.f3 rfl rfl rfl rfl rfl rfl rfl ⟨rfl, rfl, rfl, rfl, rfl⟩ rfl rfl rfl rfl rfl (by kernel_rfl) Tryd.func3 (by kernel_rfl)
    (of_decide_eq_true (by kernel_rfl)) (by unfold Func.isWrapper; first | (rw [if_pos (by decide +kernel)]; kernel_rfl) | (rw [if_neg (by decide +kernel)]; exact ⟨rfl, rfl⟩))
    (fun os started H enc _ F => by rw [OpenClaim.pre_eq_preRow]; exact lifted os started H enc F)

theorem plain (f : FuncId) (fn : Func) (hf : Tryd.pinned.checked.prog.funcNamed "custos/custoslaw11.LexiconMetric" = some f) (hfn : Tryd.pinned.checked.prog.funcs[f]? = some fn) :
    false = Tryd.pinned.checked.prog.looks [] ∧ ∀ (j : Nat) t, fn.params[j]? = some t → Tryd.pinned.checked.prog.wantsStandIn t = false := by
  obtain rfl : f = 3 := Option.some.inj ((show Tryd.prog.funcNamed "custos/custoslaw11.LexiconMetric" = some 3 by kernel_rfl).symm.trans hf) |>.symm
  obtain rfl : fn = Tryd.f3 := (Option.some.inj (Tryd.func3.symm.trans hfn)).symm
  refine ⟨by kernel_rfl, fun j t ht => ?_⟩
  have h := List.all_eq_true.1 (show (Tryd.f3.params.toList.all fun t => !(Tryd.prog.wantsStandIn t)) = true by kernel_rfl) t (by simpa using Array.mem_of_getElem? ht)
  have h2 : Tryd.prog.wantsStandIn t = false := by simpa using h
  exact h2

/-- The card. -/
theorem card : Rows.LexiconMetricCardSaid :=
  Claim7.holds_tied_plain_at .later [] _ _ _ _ said (fun _ h => by cases h) (by kernel_rfl) (fun _ h => by cases h) lexiconMetric_row_tie rfl ⟨rfl, rfl⟩ (by kernel_rfl) rfl plain (by kernel_rfl)
end Go.Proofs.YtfohnngeckaljaaDoor.LexiconMetric
