/-
  PLAIN: objects, changes and entries as bytes: what is written, what is read.
-/
import Derived.Test.YtjocbokfdfdkeaaGreatYMath
import Derived.Test.YtjocbokfdfdkeaaGreatLZ0
import Derived.Test.YtjocbokfdfdkeaaGreatLZ3
import Derived.Test.YtjocbokfdfdkeaaGreatLZ4
namespace Go.Proofs.YtjocbokfdfdkeaaGreat.PX
open Go.RowKit HL
open YX (numB rdU rdB rdT rdS rdI addW intN natI rest told)
open DX (Ch)
set_option maxRecDepth 100000
set_option linter.unusedVariables false
set_option linter.unusedSimpArgs false

abbrev Bs := List UInt8
abbrev tx (b : ByteArray) : Bs := b.data.toList
/-- A field: a text, a byte, a number, a flag. -/
inductive Fv where
  | s (t : Bs)
  | n (k : Nat)
  | i (v : Int)
  | b (t : Bool)
def fvSet : Fv → Bool
  | .s t => decide (t ≠ [])
  | .n k => decide (k ≠ 0)
  | .i v => decide (v ≠ 0)
  | .b t => t
def fvB : Fv → Bs
  | .s t => numB t.length ++ t
  | .n k => [UInt8.ofNat k]
  | .i v => numB (intN v)
  | .b _ => []
def fvShort : Fv → Bool
  | .s t => decide (t.length ≤ 255)
  | _ => true
def textW (s : Option Bs) (t : Bs) : Option Bs := if 255 < t.length then none else addW s (numB t.length ++ t)
def fvW (s : Option Bs) : Fv → Option Bs
  | .s t => textW s t
  | .n k => addW s [UInt8.ofNat k]
  | .i v => addW s (numB (intN v))
  | .b _ => s
def fvL (o : Ob) : List Fv := [.s (tx o.parent), .n o.typ, .s (tx o.ref), .i o.lo, .i o.hi, .n o.digits, .b o.on, .b o.has, .i o.value, .i o.low, .i o.high, .n o.assoc]
theorem fvL_len (o : Ob) : (fvL o).length = 12 := rfl
def maskOf : List Fv → Nat
  | [] => 0
  | f :: r => (if fvSet f then 1 else 0) + 2 * maskOf r
theorem maskOf_lt : ∀ l : List Fv, maskOf l < 2 ^ l.length
  | [] => by simp [maskOf]
  | f :: r => by
    have := maskOf_lt r
    simp only [maskOf, List.length_cons, Nat.pow_succ]
    split <;> omega
theorem maskOf_app : ∀ (a : List Fv) (f : Fv), maskOf (a ++ [f]) = maskOf a + (if fvSet f then 2 ^ a.length else 0)
  | [], f => by simp [maskOf]
  | g :: a, f => by
    simp only [List.cons_append, maskOf, maskOf_app a f, List.length_cons, Nat.pow_succ]
    split <;> split <;> omega
theorem maskOf_next {l : List Fv} {k : Nat} (h : k < l.length) : maskOf (l.take (k + 1)) = maskOf (l.take k) + (if fvSet l[k] then 2 ^ k else 0) := by
  rw [List.take_succ_eq_append_getElem h, maskOf_app, List.length_take, Nat.min_eq_left (by omega)]
theorem or_pow {m k : Nat} (h : m < 2 ^ k) : m ||| 2 ^ k = m + 2 ^ k := by
  have h1 := Nat.two_pow_add_eq_or_of_lt h 1
  rw [Nat.mul_one] at h1
  rw [Nat.or_comm, ← h1, Nat.add_comm]
theorem maskOf_bit : ∀ (l : List Fv) (k : Nat) (h : k < l.length), (maskOf l).testBit k = fvSet l[k]
  | [], k, h => by simp at h
  | f :: r, 0, h => by
    simp only [maskOf, List.getElem_cons_zero, Nat.testBit_zero]
    cases fvSet f <;> simp
  | f :: r, k + 1, h => by
    simp only [maskOf, List.getElem_cons_succ, Nat.testBit_succ]
    rw [← maskOf_bit r k (by simpa using h)]
    congr 1
    split <;> omega
theorem and_pow (m k : Nat) : (m &&& 2 ^ k = 0) ↔ m.testBit k = false := by
  constructor
  · intro h
    have := congrArg (fun n => Nat.testBit n k) h
    simpa using this
  · intro h
    refine Nat.eq_of_testBit_eq (fun j => ?_)
    rw [Nat.testBit_and, Nat.testBit_two_pow, Nat.zero_testBit]
    by_cases e : k = j
    · subst e; simp [h]
    · simp [e]
/-- The fields that are not zero. -/
def restB (l : List Fv) : Bs := l.flatMap (fun f => if fvSet f then fvB f else [])
def objB (o : Ob) : Bs := [UInt8.ofNat o.kind] ++ (numB (tx o.handle).length ++ tx o.handle) ++ numB (maskOf (fvL o)) ++ restB (fvL o)
def putF (s : Option Bs) (f : Fv) : Option Bs := if fvSet f then fvW s f else s
def objW (s : Option Bs) (o : Ob) : Option Bs := (fvL o).foldl putF (addW (textW (addW s [UInt8.ofNat o.kind]) (tx o.handle)) (numB (maskOf (fvL o))))
def objShort (o : Ob) : Bool := decide ((tx o.handle).length ≤ 255) && decide ((tx o.parent).length ≤ 255) && decide ((tx o.ref).length ≤ 255)
/-! ## What is written -/
theorem addW_some {a b : Bs} : addW (some a) b = if 65536 < a.length + b.length then none else some (a ++ b) := rfl
/-- Written in one piece or in two. -/
theorem addW_app (s : Option Bs) (b c : Bs) : addW (addW s b) c = addW s (b ++ c) := by
  cases s with
  | none => rfl
  | some a =>
    have e : addW (some a) (b ++ c) = if 65536 < a.length + (b ++ c).length then none else some (a ++ (b ++ c)) := rfl
    rw [e, List.length_append]
    by_cases h : 65536 < a.length + b.length
    · have e1 : addW (some a) b = none := by unfold addW; simp only; rw [if_pos h]
      rw [e1, if_pos (by omega)]; rfl
    · have e1 : addW (some a) b = some (a ++ b) := by unfold addW; simp only; rw [if_neg h]
      have e2 : addW (some (a ++ b)) c = if 65536 < (a ++ b).length + c.length then none else some (a ++ b ++ c) := rfl
      rw [e1, e2, List.length_append, List.append_assoc, Nat.add_assoc]
theorem addW_none (b : Bs) : addW none b = none := rfl
/-- A writer of something: all of it, if its texts are short. -/
def Ws (W : Option Bs → Option Bs) (short : Bool) (B : Bs) : Prop := ∀ s, W s = if short then addW s B else none
theorem addW_nil (s : Option Bs) (h : ∀ l, s = some l → l.length ≤ 65536) : addW s [] = s := by
  cases s with
  | none => rfl
  | some l => have := h l rfl; simp [addW]; omega
theorem fold_put : ∀ (l : List Fv) (s : Option Bs) (h : ∀ l, s = some l → l.length ≤ 65536), l.foldl putF s = if l.all (fun f => !fvSet f || fvShort f) then addW s (restB l) else none
  | [], s, h => by simp [restB, addW_nil s h]
  | f :: l, s, h => by
    have hn : ∀ (l : List Fv), l.foldl putF none = none := by
      intro l
      induction l with
      | nil => rfl
      | cons f l ih =>
        rw [List.foldl_cons]
        have : putF none f = none := by unfold putF fvW; cases f <;> simp [textW, addW]
        rw [this, ih]
    rw [List.foldl_cons]
    by_cases hs : fvSet f = true
    · by_cases hq : fvShort f = true
      · have e : putF s f = addW s (fvB f) := by
          unfold putF; rw [if_pos hs]
          cases f with
          | s t => simp only [fvW, textW, fvB]; rw [if_neg]; simp [fvShort] at hq; omega
          | n k => rfl
          | i v => rfl
          | b t => simp only [fvW, fvB]; exact (addW_nil s h).symm
        have hl : ∀ l, addW s (fvB f) = some l → l.length ≤ 65536 := by
          intro l hl
          cases s with
          | none => cases hl
          | some a =>
            simp only [addW] at hl
            split at hl
            · cases hl
            · cases hl; rw [List.length_append]; omega
        rw [e, fold_put l _ hl, addW_app]
        have : restB (f :: l) = fvB f ++ restB l := by simp [restB, hs]
        rw [this]
        simp [hs, hq]
      · have e : putF s f = none := by
          unfold putF; rw [if_pos hs]
          cases f with
          | s t => simp only [fvW, textW]; rw [if_pos]; simp [fvShort] at hq; omega
          | n k => simp [fvShort] at hq
          | i v => simp [fvShort] at hq
          | b t => simp [fvShort] at hq
        rw [e, hn]
        simp [hs, hq]
    · have e : putF s f = s := by unfold putF; rw [if_neg hs]
      have : restB (f :: l) = restB l := by simp [restB, hs]
      rw [e, fold_put l s h, this]
      simp [hs]
theorem addW_lim {s : Option Bs} {b : Bs} : ∀ l, addW s b = some l → l.length ≤ 65536 := by
  intro l hl
  cases s with
  | none => cases hl
  | some a =>
    simp only [addW] at hl
    split at hl
    · cases hl
    · cases hl; rw [List.length_append]; omega
theorem objW_eq (s : Option Bs) (o : Ob) : objW s o = if objShort o then addW s (objB o) else none := by
  unfold objW
  rw [fold_put _ _ addW_lim]
  have e : (fvL o).all (fun f => !fvSet f || fvShort f) = (decide ((tx o.parent).length ≤ 255) && decide ((tx o.ref).length ≤ 255)) := by
    rw [Bool.eq_iff_iff]
    simp only [fvL, List.all_cons, List.all_nil, fvShort, Bool.or_true, Bool.true_and, Bool.and_true, fvSet, Bool.and_eq_true, Bool.or_eq_true, Bool.not_eq_true', decide_eq_false_iff_not, decide_eq_true_eq, ne_eq, Decidable.not_not]
    constructor
    · rintro ⟨h1, h2⟩
      have g : ∀ t : Bs, (t = [] ∨ t.length ≤ 255) → t.length ≤ 255 := by
        rintro t (h | h)
        · rw [h]; decide
        · exact h
      exact ⟨g _ h1, g _ h2⟩
    · rintro ⟨h1, h2⟩; exact ⟨.inr h1, .inr h2⟩
  rw [e]
  unfold textW objShort
  by_cases h1 : (tx o.handle).length ≤ 255
  · have n1 : ¬ 255 < (tx o.handle).length := by omega
    rw [if_neg n1, addW_app, addW_app, addW_app]
    have eB : objB o = [UInt8.ofNat o.kind] ++ (numB (tx o.handle).length ++ tx o.handle ++ (numB (maskOf (fvL o)) ++ restB (fvL o))) := by simp [objB, List.append_assoc]
    rw [eB]
    have d1 : decide ((tx o.handle).length ≤ 255) = true := decide_eq_true h1
    rw [d1, Bool.true_and]
  · have n1 : 255 < (tx o.handle).length := by omega
    rw [if_pos n1, addW_none, addW_none]
    have d1 : decide ((tx o.handle).length ≤ 255) = false := decide_eq_false h1
    rw [d1, Bool.false_and, Bool.false_and]
    split <;> rfl
/-! ## What is read -/
/-- Field i read. -/
def rdV (i : Nat) (s : Option Bs) : Fv × Option Bs :=
  match i with
  | 0 => (.s (told [] rdS s), rest rdS s)
  | 1 => (.n (told 0 rdB s), rest rdB s)
  | 2 => (.s (told [] rdS s), rest rdS s)
  | 3 => (.i (told 0 rdI s), rest rdI s)
  | 4 => (.i (told 0 rdI s), rest rdI s)
  | 5 => (.n (told 0 rdB s), rest rdB s)
  | 6 => (.b true, s)
  | 7 => (.b true, s)
  | 8 => (.i (told 0 rdI s), rest rdI s)
  | 9 => (.i (told 0 rdI s), rest rdI s)
  | 10 => (.i (told 0 rdI s), rest rdI s)
  | _ => (.n (told 0 rdB s), rest rdB s)
def bt (t : Bs) : ByteArray := ⟨t.toArray⟩
theorem bt_tx (b : ByteArray) : bt (tx b) = b := by unfold bt tx; simp
theorem tx_bt (t : Bs) : tx (bt t) = t := by unfold bt tx; simp
def setF (o : Ob) (i : Nat) (v : Fv) : Ob :=
  match i, v with
  | 0, .s t => { o with parent := bt t }
  | 1, .n k => { o with typ := k }
  | 2, .s t => { o with ref := bt t }
  | 3, .i v => { o with lo := v }
  | 4, .i v => { o with hi := v }
  | 5, .n k => { o with digits := k }
  | 6, .b t => { o with on := t }
  | 7, .b t => { o with has := t }
  | 8, .i v => { o with value := v }
  | 9, .i v => { o with low := v }
  | 10, .i v => { o with high := v }
  | 11, .n k => { o with assoc := k }
  | _, _ => o
def stepF (m : Nat) (p : Ob × Option Bs) (i : Nat) : Ob × Option Bs :=
  if m.testBit i then (setF p.1 i (rdV i p.2).1, (rdV i p.2).2) else p
/-- The object behind the first i fields. -/
def getTo (m : Nat) (p : Ob × Option Bs) (i : Nat) : Ob × Option Bs := (List.range i).foldl (stepF m) p
theorem getTo_0 (m : Nat) (p : Ob × Option Bs) : getTo m p 0 = p := rfl
theorem getTo_succ (m : Nat) (p : Ob × Option Bs) (i : Nat) : getTo m p (i + 1) = stepF m (getTo m p i) i := by
  unfold getTo; rw [List.range_succ, List.foldl_append]; rfl
def ob0 (k : Nat) (h : Bs) : Ob := ⟨bt h, k, ⟨#[]⟩, 0, ⟨#[]⟩, 0, 0, 0, false, false, 0, 0, 0, 0⟩
def s1 (s : Option Bs) := rest rdB s
def s2 (s : Option Bs) := rest rdS (s1 s)
def s3 (s : Option Bs) := rest rdU (s2 s)
def getO (s : Option Bs) : Ob × Option Bs := getTo (told 0 rdU (s2 s)) (ob0 (told 0 rdB s) (told [] rdS (s1 s)), s3 s) 12
/-! ## What was written is read -/
structure Fine (o : Ob) : Prop where
  kind : o.kind < 256
  typ : o.typ < 256
  digits : o.digits < 256
  assoc : o.assoc < 256
  lo : -9223372036854775808 ≤ o.lo ∧ o.lo < 9223372036854775808
  hi : -9223372036854775808 ≤ o.hi ∧ o.hi < 9223372036854775808
  value : -9223372036854775808 ≤ o.value ∧ o.value < 9223372036854775808
  low : -9223372036854775808 ≤ o.low ∧ o.low < 9223372036854775808
  high : -9223372036854775808 ≤ o.high ∧ o.high < 9223372036854775808
  th : (tx o.handle).length ≤ 1000
  tp : (tx o.parent).length ≤ 1000
  tr : (tx o.ref).length ≤ 1000
theorem rd_n {k : Nat} (h : k < 256) (r : Bs) : told 0 rdB (some ([UInt8.ofNat k] ++ r)) = k ∧ rest rdB (some ([UInt8.ofNat k] ++ r)) = some r := by
  constructor
  · simp [told, rdB, YX.u8n h]
  · simp [rest, rdB]
theorem rd_s {t : Bs} (h : t.length ≤ 255) (r : Bs) : told [] rdS (some (numB t.length ++ t ++ r)) = t ∧ rest rdS (some (numB t.length ++ t ++ r)) = some r := by
  have := YX.rdS_th h r
  constructor
  · simp only [told, Option.bind_some, this]; rfl
  · simp only [rest, Option.bind_some, this]; rfl
theorem rd_u {n : Nat} (h : n < 18446744073709551616) (r : Bs) : told 0 rdU (some (numB n ++ r)) = n ∧ rest rdU (some (numB n ++ r)) = some r := by
  have := YX.rdU_num h r
  constructor
  · simp only [told, Option.bind_some, this]; rfl
  · simp only [rest, Option.bind_some, this]; rfl
theorem rd_i {v : Int} (h : -9223372036854775808 ≤ v ∧ v < 9223372036854775808) (r : Bs) : told 0 rdI (some (numB (intN v) ++ r)) = v ∧ rest rdI (some (numB (intN v) ++ r)) = some r := by
  have := YX.rdU_num (YX.intN_lt h.1 h.2) r
  constructor
  · simp only [told, YX.rdI, Option.bind_some, this]; simp [YX.natI_intN]
  · simp only [rest, YX.rdI, Option.bind_some, this]; rfl
/-- The object with its first i fields alone. -/
def trim (o : Ob) (i : Nat) : Ob :=
  ⟨o.handle, o.kind, if 0 < i then o.parent else ⟨#[]⟩, if 1 < i then o.typ else 0, if 2 < i then o.ref else ⟨#[]⟩, if 3 < i then o.lo else 0, if 4 < i then o.hi else 0, if 5 < i then o.digits else 0,
    if 6 < i then o.on else false, if 7 < i then o.has else false, if 8 < i then o.value else 0, if 9 < i then o.low else 0, if 10 < i then o.high else 0, if 11 < i then o.assoc else 0⟩
theorem trim_12 (o : Ob) : trim o 12 = o := rfl
def fv (o : Ob) (i : Nat) : Fv := ((fvL o)[i]?).getD (.b false)
theorem restB_drop (o : Ob) {i : Nat} (h : i < 12) : restB ((fvL o).drop i) = (if fvSet (fv o i) then fvB (fv o i) else []) ++ restB ((fvL o).drop (i + 1)) := by
  have h2 : i < (fvL o).length := by rw [fvL_len]; exact h
  rw [List.drop_eq_getElem_cons h2]
  have e : fv o i = (fvL o)[i] := by unfold fv; rw [List.getElem?_eq_getElem h2]; rfl
  rw [e]
  rfl
theorem ba_nil {b : ByteArray} (h : tx b = []) : b = ⟨#[]⟩ := by
  have := bt_tx b
  rw [h] at this
  rw [← this]; rfl
theorem step_set {o : Ob} (hF : Fine o) (hs : objShort o = true) {i : Nat} (h : i < 12) (r : Bs) (q : fvSet (fv o i) = true) :
    (setF (trim o i) i (rdV i (some (fvB (fv o i) ++ r))).1, (rdV i (some (fvB (fv o i) ++ r))).2) = (trim o (i + 1), some r) := by
  simp only [objShort, Bool.and_eq_true, decide_eq_true_eq] at hs
  obtain ⟨⟨sh, sp⟩, sr⟩ := hs
  have hi : i = 0 ∨ i = 1 ∨ i = 2 ∨ i = 3 ∨ i = 4 ∨ i = 5 ∨ i = 6 ∨ i = 7 ∨ i = 8 ∨ i = 9 ∨ i = 10 ∨ i = 11 := by omega
  rcases hi with rfl | rfl | rfl | rfl | rfl | rfl | rfl | rfl | rfl | rfl | rfl | rfl
  · show (setF _ 0 (Fv.s (told [] rdS (some (numB (tx o.parent).length ++ tx o.parent ++ r)))), rest rdS (some (numB (tx o.parent).length ++ tx o.parent ++ r))) = _
    rw [(rd_s sp r).1, (rd_s sp r).2]; simp [setF, trim, bt_tx]
  · show (setF _ 1 (Fv.n (told 0 rdB (some ([UInt8.ofNat o.typ] ++ r)))), rest rdB (some ([UInt8.ofNat o.typ] ++ r))) = _
    rw [(rd_n hF.typ r).1, (rd_n hF.typ r).2]; simp [setF, trim]
  · show (setF _ 2 (Fv.s (told [] rdS (some (numB (tx o.ref).length ++ tx o.ref ++ r)))), rest rdS (some (numB (tx o.ref).length ++ tx o.ref ++ r))) = _
    rw [(rd_s sr r).1, (rd_s sr r).2]; simp [setF, trim, bt_tx]
  · show (setF _ 3 (Fv.i (told 0 rdI (some (numB (intN o.lo) ++ r)))), rest rdI (some (numB (intN o.lo) ++ r))) = _
    rw [(rd_i hF.lo r).1, (rd_i hF.lo r).2]; simp [setF, trim]
  · show (setF _ 4 (Fv.i (told 0 rdI (some (numB (intN o.hi) ++ r)))), rest rdI (some (numB (intN o.hi) ++ r))) = _
    rw [(rd_i hF.hi r).1, (rd_i hF.hi r).2]; simp [setF, trim]
  · show (setF _ 5 (Fv.n (told 0 rdB (some ([UInt8.ofNat o.digits] ++ r)))), rest rdB (some ([UInt8.ofNat o.digits] ++ r))) = _
    rw [(rd_n hF.digits r).1, (rd_n hF.digits r).2]; simp [setF, trim]
  · have q : o.on = true := q
    simp [setF, trim, rdV, fv, fvL, fvB, q]
  · have q : o.has = true := q
    simp [setF, trim, rdV, fv, fvL, fvB, q]
  · show (setF _ 8 (Fv.i (told 0 rdI (some (numB (intN o.value) ++ r)))), rest rdI (some (numB (intN o.value) ++ r))) = _
    rw [(rd_i hF.value r).1, (rd_i hF.value r).2]; simp [setF, trim]
  · show (setF _ 9 (Fv.i (told 0 rdI (some (numB (intN o.low) ++ r)))), rest rdI (some (numB (intN o.low) ++ r))) = _
    rw [(rd_i hF.low r).1, (rd_i hF.low r).2]; simp [setF, trim]
  · show (setF _ 10 (Fv.i (told 0 rdI (some (numB (intN o.high) ++ r)))), rest rdI (some (numB (intN o.high) ++ r))) = _
    rw [(rd_i hF.high r).1, (rd_i hF.high r).2]; simp [setF, trim]
  · show (setF _ 11 (Fv.n (told 0 rdB (some ([UInt8.ofNat o.assoc] ++ r)))), rest rdB (some ([UInt8.ofNat o.assoc] ++ r))) = _
    rw [(rd_n hF.assoc r).1, (rd_n hF.assoc r).2]; simp [setF, trim]
theorem step_not {o : Ob} {i : Nat} (h : i < 12) (q : fvSet (fv o i) = false) : trim o i = trim o (i + 1) := by
  have hi : i = 0 ∨ i = 1 ∨ i = 2 ∨ i = 3 ∨ i = 4 ∨ i = 5 ∨ i = 6 ∨ i = 7 ∨ i = 8 ∨ i = 9 ∨ i = 10 ∨ i = 11 := by omega
  rcases hi with rfl | rfl | rfl | rfl | rfl | rfl | rfl | rfl | rfl | rfl | rfl | rfl
  · have q : tx o.parent = [] := by simpa [fv, fvL, fvSet] using q
    simp [trim, ba_nil q]
  · have q : o.typ = 0 := by simpa [fv, fvL, fvSet] using q
    simp [trim, q]
  · have q : tx o.ref = [] := by simpa [fv, fvL, fvSet] using q
    simp [trim, ba_nil q]
  · have q : o.lo = 0 := by simpa [fv, fvL, fvSet] using q
    simp [trim, q]
  · have q : o.hi = 0 := by simpa [fv, fvL, fvSet] using q
    simp [trim, q]
  · have q : o.digits = 0 := by simpa [fv, fvL, fvSet] using q
    simp [trim, q]
  · have q : o.on = false := by simpa [fv, fvL, fvSet] using q
    simp [trim, q]
  · have q : o.has = false := by simpa [fv, fvL, fvSet] using q
    simp [trim, q]
  · have q : o.value = 0 := by simpa [fv, fvL, fvSet] using q
    simp [trim, q]
  · have q : o.low = 0 := by simpa [fv, fvL, fvSet] using q
    simp [trim, q]
  · have q : o.high = 0 := by simpa [fv, fvL, fvSet] using q
    simp [trim, q]
  · have q : o.assoc = 0 := by simpa [fv, fvL, fvSet] using q
    simp [trim, q]
theorem getTo_trim {o : Ob} (hF : Fine o) (hs : objShort o = true) (r : Bs) : ∀ i, i ≤ 12 → getTo (maskOf (fvL o)) (trim o 0, some (restB (fvL o) ++ r)) i = (trim o i, some (restB ((fvL o).drop i) ++ r))
  | 0, _ => rfl
  | i + 1, h => by
    have hi : i < 12 := by omega
    have h2 : i < (fvL o).length := by rw [fvL_len]; exact hi
    have e : fv o i = (fvL o)[i] := by unfold fv; rw [List.getElem?_eq_getElem h2]; rfl
    rw [getTo_succ, getTo_trim hF hs r i (by omega)]
    unfold stepF
    rw [maskOf_bit _ _ h2, ← e, restB_drop o hi]
    cases q : fvSet (fv o i) with
    | true =>
      simp only [if_true, List.append_assoc]
      exact step_set hF hs hi _ q
    | false =>
      simp only [Bool.false_eq_true, if_false, List.nil_append]
      rw [step_not hi q]
theorem getO_B {o : Ob} (hF : Fine o) (hs : objShort o = true) (r : Bs) : getO (some (objB o ++ r)) = (o, some r) := by
  have hsh := hs
  simp only [objShort, Bool.and_eq_true, decide_eq_true_eq] at hsh
  have e0 : objB o ++ r = [UInt8.ofNat o.kind] ++ (numB (tx o.handle).length ++ tx o.handle ++ (numB (maskOf (fvL o)) ++ (restB (fvL o) ++ r))) := by simp [objB, List.append_assoc]
  have hm : maskOf (fvL o) < 18446744073709551616 := Nat.lt_of_lt_of_le (maskOf_lt _) (by rw [fvL_len]; decide)
  have a1 := rd_n hF.kind (numB (tx o.handle).length ++ tx o.handle ++ (numB (maskOf (fvL o)) ++ (restB (fvL o) ++ r)))
  have a2 := rd_s hsh.1.1 (numB (maskOf (fvL o)) ++ (restB (fvL o) ++ r))
  have a3 := rd_u hm (restB (fvL o) ++ r)
  unfold getO s3 s2 s1
  rw [e0, a1.1, a1.2, a2.1, a2.2, a3.1, a3.2]
  have : ob0 o.kind (tx o.handle) = trim o 0 := by simp [ob0, trim, bt_tx]
  rw [this, getTo_trim hF hs r 12 (Nat.le_refl _), trim_12]
  simp [fvL, restB]
end Go.Proofs.YtjocbokfdfdkeaaGreat.PX
