/-
  PLAIN: objects, changes, entries, and lists of them, as bytes, by one description.
-/
import Derived.Test.YtjocbokfdfdkeaaGreatLZPMath
import Derived.Test.YtjocbokfdfdkeaaGreatLZ4
namespace Go.Proofs.YtjocbokfdfdkeaaGreat.PX
open Go.RowKit HL
open YX (numB rdU rdB rdT rdS rdI addW intN natI rest told)
open DX (Ch)
set_option maxRecDepth 100000
set_option linter.unusedVariables false
set_option linter.unusedSimpArgs false

/-- How things of a kind are written and read. -/
structure Cod (α : Type) where
  B : α → Bs
  short : α → Bool
  W : Option Bs → α → Option Bs
  rd : Option Bs → α × Option Bs
  fine : α → Prop
  w_eq : ∀ s x, W s x = if short x then addW s (B x) else none
  rd_B : ∀ x, fine x → short x = true → ∀ r, rd (some (B x ++ r)) = (x, some r)
  rd_fine : ∀ s, fine (rd s).1
  rd_none : (rd none).2 = none
  rd_len : ∀ m l, (rd (some m)).2 = some l → l.length ≤ m.length
  b_len : ∀ x, fine x → (B x).length ≤ 5000
/-! ## Objects -/
theorem rest_none {α : Type} (f : Bs → Option (α × Bs)) : rest f none = none := rfl
theorem rest_len {α : Type} {f : Bs → Option (α × Bs)} (h : ∀ l x r, f l = some (x, r) → r.length ≤ l.length) {m l : Bs} (e : rest f (some m) = some l) : l.length ≤ m.length := by
  simp only [rest, Option.bind_some, Option.map_eq_some_iff] at e
  obtain ⟨⟨x, r⟩, h1, rfl⟩ := e
  exact h m x r h1
theorem lenB : ∀ l x r, rdB l = some (x, r) → r.length ≤ l.length := by
  intro l x r h
  cases l with
  | nil => cases h
  | cons b l => simp [rdB] at h; rw [← h.2]; simp
theorem lenT : ∀ l x r, rdT l = some (x, r) → r.length ≤ l.length := by
  intro l x r h
  cases l with
  | nil => cases h
  | cons b l =>
    simp only [rdT] at h
    split at h
    · simp at h; rw [← h.2]; simp
    · cases h
theorem lenU : ∀ l x r, rdU l = some (x, r) → r.length ≤ l.length := fun l x r h => Nat.le_of_lt (YX.rdU_rest h)
theorem lenI : ∀ l x r, rdI l = some (x, r) → r.length ≤ l.length := by
  intro l x r h
  simp only [YX.rdI, Option.map_eq_some_iff] at h
  obtain ⟨⟨n, q⟩, h1, h2⟩ := h
  simp at h2
  rw [← h2.2]; exact lenU l n q h1
theorem lenS : ∀ l x r, rdS l = some (x, r) → r.length ≤ l.length := by
  intro l x r h
  unfold rdS at h
  cases e : rdU l with
  | none => rw [e] at h; cases h
  | some y =>
    obtain ⟨n, q⟩ := y
    rw [e] at h
    simp only at h
    split at h
    · simp at h
      have := lenU l n q e
      rw [← h.2]; simp; omega
    · cases h
theorem textS (s : Option Bs) : (told [] rdS s).length ≤ 255 := by
  cases s with
  | none => simp [told]
  | some l =>
    simp only [told, Option.bind_some]
    unfold rdS
    cases e : rdU l with
    | none => simp
    | some y =>
      obtain ⟨n, q⟩ := y
      simp only
      split
      · rename_i h; simp; omega
      · simp
theorem rdV_len (i : Nat) {m l : Bs} (h : (rdV i (some m)).2 = some l) : l.length ≤ m.length := by
  unfold rdV at h
  split at h <;> simp only at h
  all_goals first | exact rest_len lenS h | exact rest_len lenB h | exact rest_len lenI h | (cases h; exact Nat.le_refl _)
theorem rdV_none (i : Nat) : (rdV i none).2 = none := by
  unfold rdV
  split <;> rfl
theorem getTo_none (m : Nat) (o : Ob) : ∀ i, (getTo m (o, none) i).2 = none
  | 0 => rfl
  | i + 1 => by
    rw [getTo_succ]; unfold stepF
    split
    · simp only; rw [getTo_none m o i]; exact rdV_none i
    · exact getTo_none m o i
theorem getTo_len (m : Nat) (o : Ob) (b : Bs) : ∀ i l, (getTo m (o, some b) i).2 = some l → l.length ≤ b.length
  | 0, l, h => by cases h; exact Nat.le_refl _
  | i + 1, l, h => by
    rw [getTo_succ] at h; unfold stepF at h
    split at h
    · simp only at h
      cases e : (getTo m (o, some b) i).2 with
      | none => rw [e, rdV_none] at h; cases h
      | some q => rw [e] at h; exact Nat.le_trans (rdV_len i h) (getTo_len m o b i q e)
    · exact getTo_len m o b i l h
theorem setF_fine {o : Ob} (h : Fine o) (i : Nat) (s : Option Bs) : Fine (setF o i (rdV i s).1) := by
  have a := YX.told_B s
  have b : -9223372036854775808 ≤ told 0 rdI s ∧ told 0 rdI s < 9223372036854775808 := YX.told_I s
  have c : (tx (bt (told [] rdS s))).length ≤ 1000 := by rw [tx_bt]; have := textS s; omega
  unfold rdV
  split
  all_goals first
    | exact ⟨h.1, h.2, h.3, h.4, h.5, h.6, h.7, h.8, h.9, h.10, c, h.12⟩
    | exact ⟨h.1, h.2, h.3, h.4, h.5, h.6, h.7, h.8, h.9, h.10, h.11, c⟩
    | exact ⟨h.1, a, h.3, h.4, h.5, h.6, h.7, h.8, h.9, h.10, h.11, h.12⟩
    | exact ⟨h.1, h.2, a, h.4, h.5, h.6, h.7, h.8, h.9, h.10, h.11, h.12⟩
    | exact ⟨h.1, h.2, h.3, h.4, b, h.6, h.7, h.8, h.9, h.10, h.11, h.12⟩
    | exact ⟨h.1, h.2, h.3, h.4, h.5, b, h.7, h.8, h.9, h.10, h.11, h.12⟩
    | exact ⟨h.1, h.2, h.3, h.4, h.5, h.6, b, h.8, h.9, h.10, h.11, h.12⟩
    | exact ⟨h.1, h.2, h.3, h.4, h.5, h.6, h.7, b, h.9, h.10, h.11, h.12⟩
    | exact ⟨h.1, h.2, h.3, h.4, h.5, h.6, h.7, h.8, b, h.10, h.11, h.12⟩
    | exact ⟨h.1, h.2, h.3, h.4, h.5, h.6, h.7, h.8, h.9, h.10, h.11, h.12⟩
    | (rename_i n0 n1 n2 n3 n4 n5 n6 n7 n8 n9 n10
       by_cases e : i = 11
       · subst e; exact ⟨h.1, h.2, h.3, a, h.5, h.6, h.7, h.8, h.9, h.10, h.11, h.12⟩
       · have : setF o i (Fv.n (told 0 rdB s)) = o := by
           unfold setF
           split
           all_goals first | rfl | (exfalso; simp_all)
         show Fine (setF o i (Fv.n (told 0 rdB s)))
         rw [this]; exact h)
theorem getTo_fine (m : Nat) {p : Ob × Option Bs} (h : Fine p.1) : ∀ i, Fine (getTo m p i).1
  | 0 => h
  | i + 1 => by
    rw [getTo_succ]; unfold stepF
    split
    · exact setF_fine (getTo_fine m h i) i _
    · exact getTo_fine m h i
theorem ob0_fine (s : Option Bs) : Fine (ob0 (told 0 rdB s) (told [] rdS (s1 s))) := by
  refine ⟨YX.told_B s, ?_, ?_, ?_, ?_, ?_, ?_, ?_, ?_, ?_, ?_, ?_⟩
  all_goals first
    | (show (tx (bt _)).length ≤ 1000; rw [tx_bt]; have := textS (s1 s); omega)
    | simp [ob0, tx]
theorem numB_le {n : Nat} (h : n < 18446744073709551616) : (numB n).length ≤ 10 := YX.numB_len64 h
theorem restB_len {o : Ob} (h : Fine o) : (restB (fvL o)).length ≤ 2200 := by
  have e : ∀ f : Fv, (if fvSet f then fvB f else []).length ≤ (fvB f).length := fun f => by split <;> simp
  have l1 := numB_le (show (tx o.parent).length < 18446744073709551616 by have := h.tp; omega)
  have l2 := numB_le (show (tx o.ref).length < 18446744073709551616 by have := h.tr; omega)
  have a1 := e (.s (tx o.parent)); have a2 := e (.n o.typ); have a3 := e (.s (tx o.ref)); have a4 := e (.i o.lo); have a5 := e (.i o.hi); have a6 := e (.n o.digits)
  have a7 := e (.b o.on); have a8 := e (.b o.has); have a9 := e (.i o.value); have a10 := e (.i o.low); have a11 := e (.i o.high); have a12 := e (.n o.assoc)
  have b4 := numB_le (YX.intN_lt h.lo.1 h.lo.2); have b5 := numB_le (YX.intN_lt h.hi.1 h.hi.2); have b9 := numB_le (YX.intN_lt h.value.1 h.value.2); have b10 := numB_le (YX.intN_lt h.low.1 h.low.2); have b11 := numB_le (YX.intN_lt h.high.1 h.high.2)
  have t1 := h.tp; have t2 := h.tr
  have q1 : (fvB (.s (tx o.parent))).length = (numB (tx o.parent).length).length + (tx o.parent).length := List.length_append
  have q2 : (fvB (.s (tx o.ref))).length = (numB (tx o.ref).length).length + (tx o.ref).length := List.length_append
  have q3 : ∀ v, (fvB (.i v)).length = (numB (intN v)).length := fun _ => rfl
  have q4 : ∀ k, (fvB (.n k)).length = 1 := fun _ => rfl
  have q5 : ∀ t, (fvB (.b t)).length = 0 := fun _ => rfl
  rw [q1] at a1; rw [q2] at a3; rw [q3] at a4 a5 a9 a10 a11; rw [q4] at a2 a6 a12; rw [q5] at a7 a8
  simp only [restB, fvL, List.flatMap_cons, List.flatMap_nil, List.length_append, List.length_nil]
  omega
theorem objB_len {o : Ob} (h : Fine o) : (objB o).length ≤ 3300 := by
  have l1 := numB_le (show (tx o.handle).length < 18446744073709551616 by have := h.th; omega)
  have l2 := numB_le (show maskOf (fvL o) < 18446744073709551616 from Nat.lt_of_lt_of_le (maskOf_lt _) (by rw [fvL_len]; decide))
  have l3 := restB_len h
  have l4 := h.th
  simp only [objB, List.length_append, List.length_singleton]
  omega
def codO : Cod Ob where
  B := objB
  short := objShort
  W := objW
  rd := getO
  fine := Fine
  w_eq := objW_eq
  rd_B := fun x hf hs r => getO_B hf hs r
  rd_fine := fun s => getTo_fine _ (ob0_fine s) 12
  rd_none := getTo_none _ _ _
  rd_len := fun m l h => by
    unfold getO at h
    cases e : s3 (some m) with
    | none => rw [e, getTo_none] at h; cases h
    | some q =>
      rw [e] at h
      have h1 := getTo_len _ _ _ _ _ h
      unfold s3 at e
      cases e2 : s2 (some m) with
      | none => rw [e2] at e; cases e
      | some q2 =>
        rw [e2] at e
        have h2 := rest_len lenU e
        unfold s2 at e2
        cases e3 : s1 (some m) with
        | none => rw [e3] at e2; cases e2
        | some q3 =>
          rw [e3] at e2
          have h3 := rest_len lenS e2
          have h4 := rest_len lenB e3
          omega
  b_len := fun x h => by have := objB_len h; omega
/-! ## Changes -/
structure FineC (c : Ch) : Prop where
  kind : c.kind < 256
  o : Fine c.o
def getC (s : Option Bs) : Ch × Option Bs := (⟨told 0 rdB s, (getO (rest rdB s)).1⟩, (getO (rest rdB s)).2)
def codC : Cod Ch where
  B := fun c => [UInt8.ofNat c.kind] ++ objB c.o
  short := fun c => objShort c.o
  W := fun s c => objW (addW s [UInt8.ofNat c.kind]) c.o
  rd := getC
  fine := FineC
  w_eq := fun s c => by rw [objW_eq, addW_app]
  rd_B := fun x hf hs r => by
    have a := rd_n hf.kind (objB x.o ++ r)
    unfold getC
    rw [List.append_assoc, a.1, a.2, getO_B hf.o hs r]
  rd_fine := fun s => ⟨YX.told_B s, codO.rd_fine _⟩
  rd_none := codO.rd_none
  rd_len := fun m l h => by
    unfold getC at h
    simp only at h
    cases e : rest rdB (some m) with
    | none => rw [e] at h; have := codO.rd_none; rw [show (getO none).2 = none from this] at h; cases h
    | some q => rw [e] at h; have h1 := codO.rd_len q l h; have h2 := rest_len lenB e; omega
  b_len := fun x h => by have := objB_len h.o; simp; omega
/-! ## Entries -/
structure En where
  handle : ByteArray
  there : Bool
  o : Ob
  desc : Int
  state : Int
structure FineE (e : En) : Prop where
  th : (tx e.handle).length ≤ 1000
  o : Fine e.o
  desc : -9223372036854775808 ≤ e.desc ∧ e.desc < 9223372036854775808
  state : -9223372036854775808 ≤ e.state ∧ e.state < 9223372036854775808
def e1 (s : Option Bs) := rest rdS s
def e2 (s : Option Bs) := rest rdT (e1 s)
def e3 (s : Option Bs) := (getO (e2 s)).2
def e4 (s : Option Bs) := rest rdI (e3 s)
def getE (s : Option Bs) : En × Option Bs := (⟨bt (told [] rdS s), told 0 rdT (e1 s) == 1, (getO (e2 s)).1, told 0 rdI (e3 s), told 0 rdI (e4 s)⟩, rest rdI (e4 s))
def enB (e : En) : Bs := (numB (tx e.handle).length ++ tx e.handle) ++ [if e.there then 1 else 0] ++ objB e.o ++ numB (intN e.desc) ++ numB (intN e.state)
def enShort (e : En) : Bool := decide ((tx e.handle).length ≤ 255) && objShort e.o
def enW (s : Option Bs) (e : En) : Option Bs := addW (addW (objW (addW (textW s (tx e.handle)) [if e.there then 1 else 0]) e.o) (numB (intN e.desc))) (numB (intN e.state))
theorem rd_t (t : Bool) (r : Bs) : (told 0 rdT (some ([if t then 1 else 0] ++ r)) == 1) = t ∧ rest rdT (some ([if t then 1 else 0] ++ r)) = some r := by
  cases t <;> constructor <;> simp [told, rest, rdT]
theorem restI_none : rest rdI none = none := rfl
def codE : Cod En where
  B := enB
  short := enShort
  W := enW
  rd := getE
  fine := FineE
  w_eq := fun s e => by
    unfold enW enShort
    rw [objW_eq]
    unfold textW
    by_cases h1 : (tx e.handle).length ≤ 255
    · have n1 : ¬ 255 < (tx e.handle).length := by omega
      have d1 : decide ((tx e.handle).length ≤ 255) = true := decide_eq_true h1
      rw [if_neg n1, d1, Bool.true_and]
      cases objShort e.o with
      | true =>
        simp only [if_true]
        rw [addW_app, addW_app, addW_app, addW_app]
        simp only [enB, List.append_assoc]
      | false => rfl
    · have n1 : 255 < (tx e.handle).length := by omega
      have d1 : decide ((tx e.handle).length ≤ 255) = false := decide_eq_false h1
      rw [if_pos n1, d1, Bool.false_and]
      cases objShort e.o <;> rfl
  rd_B := fun x hf hs r => by
    simp only [enShort, Bool.and_eq_true, decide_eq_true_eq] at hs
    have e0 : enB x ++ r = numB (tx x.handle).length ++ tx x.handle ++ ([if x.there then 1 else 0] ++ (objB x.o ++ (numB (intN x.desc) ++ (numB (intN x.state) ++ r)))) := by simp only [enB, List.append_assoc]
    have a1 := rd_s hs.1 ([if x.there then 1 else 0] ++ (objB x.o ++ (numB (intN x.desc) ++ (numB (intN x.state) ++ r))))
    have a2 := rd_t x.there (objB x.o ++ (numB (intN x.desc) ++ (numB (intN x.state) ++ r)))
    have a3 := getO_B hf.o hs.2 (numB (intN x.desc) ++ (numB (intN x.state) ++ r))
    have a4 := rd_i hf.desc (numB (intN x.state) ++ r)
    have a5 := rd_i hf.state r
    unfold getE e4 e3 e2 e1
    rw [e0, a1.1, a1.2, a2.1, a2.2, a3]
    simp only
    rw [a4.1, a4.2, a5.1, a5.2, bt_tx]
  rd_fine := fun s => ⟨by show (tx (bt _)).length ≤ 1000; rw [tx_bt]; have := textS s; omega, codO.rd_fine _, YX.told_I _, YX.told_I _⟩
  rd_none := by
    unfold getE e4 e3 e2 e1
    simp only
    rw [rest_none, rest_none, show (getO none).2 = none from codO.rd_none]; rfl
  rd_len := fun m l h => by
    unfold getE at h
    simp only at h
    cases h4 : e4 (some m) with
    | none => rw [h4, restI_none] at h; cases h
    | some q4 =>
      rw [h4] at h
      have g4 := rest_len lenI h
      unfold e4 at h4
      cases h3 : e3 (some m) with
      | none => rw [h3, restI_none] at h4; cases h4
      | some q3 =>
        rw [h3] at h4
        have g3 := rest_len lenI h4
        unfold e3 at h3
        cases h2 : e2 (some m) with
        | none => rw [h2, show (getO none).2 = none from codO.rd_none] at h3; cases h3
        | some q2 =>
          rw [h2] at h3
          have g2 := codO.rd_len q2 q3 h3
          unfold e2 at h2
          cases h1 : e1 (some m) with
          | none => rw [h1, rest_none] at h2; cases h2
          | some q1 =>
            rw [h1] at h2
            have g1 := rest_len lenT h2
            have g0 := rest_len lenS h1
            omega
  b_len := fun x h => by
    have l0 := numB_le (show (tx x.handle).length < 18446744073709551616 by have := h.th; omega)
    have l1 := objB_len h.o
    have l2 := numB_le (YX.intN_lt h.desc.1 h.desc.2)
    have l3 := numB_le (YX.intN_lt h.state.1 h.state.2)
    have l4 := h.th
    simp only [enB, List.length_append, List.length_singleton]
    omega
/-! ## Lists -/
variable {α : Type} (C : Cod α)
def encL (l : List α) : Bs := l.flatMap C.B
def listB (l : List α) : Bs := numB l.length ++ encL C l
def writeL (l : List α) : Option Bs := if 64 < l.length then none else l.foldl C.W (addW (some []) (numB l.length))
theorem foldW (l : List α) : ∀ s, (∀ b, s = some b → b.length ≤ 65536) → l.foldl C.W s = if l.all C.short then addW s (encL C l) else none := by
  induction l with
  | nil => intro s h; simp [encL, addW_nil s h]
  | cons x l ih =>
    intro s h
    have hn : l.foldl C.W none = none := by rw [ih none (by simp)]; simp [addW]
    rw [List.foldl_cons, C.w_eq]
    cases e : C.short x with
    | true =>
      simp only [if_true]
      rw [ih _ addW_lim, addW_app]
      simp [e, encL]
    | false =>
      simp only [Bool.false_eq_true, if_false]
      rw [hn]; simp [e]
theorem writeL_eq (l : List α) : writeL C l = if l.length ≤ 64 ∧ l.all C.short = true ∧ (listB C l).length ≤ 65536 then some (listB C l) else none := by
  unfold writeL
  by_cases h : 64 < l.length
  · rw [if_pos h, if_neg (by omega)]
  · rw [if_neg h, foldW C l _ addW_lim, addW_app]
    have e : addW (some []) (numB l.length ++ encL C l) = if 65536 < (listB C l).length then none else some (listB C l) := by simp [addW, listB]
    rw [e]
    cases hs : l.all C.short with
    | false => simp
    | true =>
      simp only [if_true]
      by_cases q : 65536 < (listB C l).length
      · rw [if_pos q, if_neg (by omega)]
      · rw [if_neg q, if_pos ⟨by omega, trivial, by omega⟩]
def getN : Nat → Option Bs → List α × Option Bs
  | 0, s => ([], s)
  | k + 1, s => ((getN k s).1 ++ [(C.rd (getN k s).2).1], (C.rd (getN k s).2).2)
theorem getN_len (s : Option Bs) : ∀ k, (getN C k s).1.length = k
  | 0 => rfl
  | k + 1 => by simp [getN, getN_len s k]
theorem getN_fine (s : Option Bs) : ∀ k, ∀ x ∈ (getN C k s).1, C.fine x
  | 0 => by simp [getN]
  | k + 1 => by
    intro x hx
    simp only [getN, List.mem_append, List.mem_singleton] at hx
    rcases hx with h | rfl
    · exact getN_fine s k x h
    · exact C.rd_fine _
theorem getN_small (b : Bs) : ∀ k l, (getN C k (some b)).2 = some l → l.length ≤ b.length
  | 0, l, h => by cases h; exact Nat.le_refl _
  | k + 1, l, h => by
    simp only [getN] at h
    cases e : (getN C k (some b)).2 with
    | none => rw [e, C.rd_none] at h; cases h
    | some q => rw [e] at h; exact Nat.le_trans (C.rd_len q l h) (getN_small b k q e)
theorem getN_B {l : List α} (hf : ∀ x ∈ l, C.fine x) (hs : l.all C.short = true) (r : Bs) : ∀ k, k ≤ l.length → getN C k (some (encL C l ++ r)) = (l.take k, some (encL C (l.drop k) ++ r))
  | 0, _ => by simp [getN]
  | k + 1, h => by
    have hk : k < l.length := by omega
    have e : encL C (l.drop k) = C.B l[k] ++ encL C (l.drop (k + 1)) := by rw [List.drop_eq_getElem_cons hk]; rfl
    have hm : l[k] ∈ l := List.getElem_mem hk
    simp only [getN]
    rw [getN_B hf hs r k (by omega), e, List.append_assoc]
    simp only
    rw [C.rd_B _ (hf _ hm) (List.all_eq_true.1 hs _ hm), List.take_succ_eq_append_getElem hk]
def many (b : Bs) : Nat := told 0 rdU (some b)
def behind (b : Bs) : Option Bs := rest rdU (some b)
open Classical in
noncomputable def readL (b : Bs) : Option (List α) :=
  if 64 < many b then none
  else if writeL C (getN C (many b) (behind b)).1 = some b then some (getN C (many b) (behind b)).1 else none
theorem writeL_some {l : List α} {b : Bs} (h : writeL C l = some b) : b = listB C l ∧ l.length ≤ 64 ∧ l.all C.short = true ∧ (listB C l).length ≤ 65536 := by
  rw [writeL_eq] at h
  split at h
  · rename_i q; cases h; exact ⟨rfl, q⟩
  · cases h
theorem many_B {l : List α} (h : l.length ≤ 64) (r : Bs) : many (listB C l ++ r) = l.length ∧ behind (listB C l ++ r) = some (encL C l ++ r) := by
  unfold many behind listB
  have := rd_u (n := l.length) (by omega) (encL C l ++ r)
  rw [List.append_assoc]
  exact this
theorem getN_all {l : List α} (hf : ∀ x ∈ l, C.fine x) (hs : l.all C.short = true) (r : Bs) : getN C l.length (some (encL C l ++ r)) = (l, some r) := by
  rw [getN_B C hf hs r _ (Nat.le_refl _), List.take_length, List.drop_length]; rfl
theorem readL_B {l : List α} (hf : ∀ x ∈ l, C.fine x) {b : Bs} (h : writeL C l = some b) : readL C b = some l := by
  obtain ⟨e, h1, h2, h3⟩ := writeL_some C h
  have m := many_B C h1 []
  rw [List.append_nil, ← e] at m
  have g := getN_all C hf h2 []
  rw [List.append_nil] at g m
  unfold readL
  rw [m.1, m.2, g]
  simp only
  rw [if_neg (by omega), if_pos h]
theorem readL_inv {b : Bs} {l : List α} (h : readL C b = some l) : writeL C l = some b ∧ (∀ x ∈ l, C.fine x) := by
  unfold readL at h
  split at h
  · cases h
  · split at h
    · rename_i q; cases h; exact ⟨q, getN_fine C _ _⟩
    · cases h
theorem readL_one {b q : Bs} {l l2 : List α} (h : readL C b = some l) (h2 : readL C (b ++ q) = some l2) : q = [] := by
  obtain ⟨w1, f1⟩ := readL_inv C h
  obtain ⟨w2, f2⟩ := readL_inv C h2
  obtain ⟨e, a1, a2, a3⟩ := writeL_some C w1
  obtain ⟨e', b1, b2, b3⟩ := writeL_some C w2
  have m1 := many_B C a1 q
  have m2 := many_B C b1 []
  rw [List.append_nil, ← e'] at m2
  rw [← e] at m1
  have hl : l.length = l2.length := m1.1.symm.trans m2.1
  have g1 := getN_all C f1 a2 q
  have g2 := getN_all C f2 b2 []
  have : some (encL C l ++ q) = some (encL C l2 ++ []) := m1.2.symm.trans m2.2
  rw [this, hl, g2] at g1
  have := congrArg Prod.snd g1
  simp at this
  exact this
/-- The document's reading stops once it fails. -/
theorem readL_ref {b : Bs} {k : Nat} (hk : k ≤ many b) (h64 : k ≤ 64) (hstop : k = many b ∨ k = 64 ∨ (getN C k (behind b)).2 = none) :
    ((getN C k (behind b)).2 = some [] ∧ writeL C (getN C k (behind b)).1 = some b → readL C b = some (getN C k (behind b)).1) ∧
    (¬ ((getN C k (behind b)).2 = some [] ∧ writeL C (getN C k (behind b)).1 = some b) → readL C b = none) := by
  constructor
  · rintro ⟨h1, h2⟩
    exact readL_B C (getN_fine C _ _) h2
  · intro h
    cases e : readL C b with
    | none => rfl
    | some l =>
      exfalso
      obtain ⟨w1, f1⟩ := readL_inv C e
      obtain ⟨e1, a1, a2, a3⟩ := writeL_some C w1
      have m1 := many_B C a1 []
      rw [List.append_nil, ← e1] at m1
      have hg := fun k hk => getN_B C f1 a2 [] k hk
      rw [m1.1] at hk hstop
      have hkl : k = l.length := by
        rcases hstop with q | q | q
        · exact q
        · omega
        · rw [m1.2, hg k hk] at q; cases q
      apply h
      rw [m1.2, hg k hk, hkl, List.take_length, List.drop_length]
      exact ⟨rfl, w1⟩
end Go.Proofs.YtjocbokfdfdkeaaGreat.PX
